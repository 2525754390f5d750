package stmt_test

import (
	"fmt"
	"slices"
	"strings"
	"testing"

	"sacristy/api"
	"sacristy/stmt"
)

// is asks that Check of p answers so.
func is(t *testing.T, p api.Prog, want api.Errno) {
	t.Helper()
	if got := stmt.Check(p); got != want {
		t.Errorf("Check: %v, not %v: %.300s", got, want, fmt.Sprintf("%+v", p))
	}
}

// in is a program of these statements.
func in(l ...api.Stmt) api.Prog { return funcs(api.Func{Name: "f", Body: l}) }

// sized is how many a kind of statements has of what is counted, at least and at most.
type sized struct{ from, to int }

func (s sized) has(n int) bool { return s.from <= n && n <= s.to }

// fitting is what the chapter has of a kind: how many names, Froms, expressions, Args, and whether Sec, Mut, Body and Else may be.
func fitting(kind uint8) (name, from, ex, args sized, sec, mut, body, other, known bool) {
	one := sized{1, 1}
	known = true
	switch kind {
	case 1, 3:
		name, ex, sec = one, one, true
	case 2, 10:
		name, ex = one, one
	case 4:
		name, ex = one, sized{2, 2}
	case 5:
		ex, body, other = one, true, true
	case 6:
		ex, body = one, true
	case 7:
		name, ex, body = one, one, true
	case 8:
		name, from, ex, mut, body = one, one, sized{2, 2}, true, true
	case 9:
		name, from = one, one
	case 11:
		name, from, ex, args = sized{0, 1}, one, sized{0, 8}, sized{0, 8}
	case 12:
	default:
		known = false
	}
	return
}

// TestCheckFields (P8.1): each kind of statements, with each field as it is to be, and otherwise, at all edges.
func TestCheckFields(t *testing.T) {
	good := 0
	ifAll := func(s api.Stmt) {
		name, from, ex, args, sec, mut, body, other, known := fitting(s.Kind)
		want := api.ErrArg
		if known && name.has(len(s.Name)) && from.has(len(s.From)) && ex.has(len(s.Ex)) && args.has(len(s.Args)) &&
			(sec || !s.Sec) && (mut || !s.Mut) && (body || len(s.Body) == 0) && (other || len(s.Else) == 0) {
			want = api.OK
			good++
		}
		is(t, in(s), want)
	}
	for _, kind := range []uint8{0, 1, 2, 3, 4, 5, 6, 7, 8, 9, 10, 11, 12, 13, 14, 128, 255} {
		for bits := range 64 {
			on := func(k int) bool { return bits>>k&1 == 1 }
			s := api.Stmt{Kind: kind, Name: when(on(0), "a"), From: when(on(1), "b"), Sec: on(2), Mut: on(3)}
			if on(4) {
				s.Body = seals(1)
			}
			if on(5) {
				s.Else = seals(2)
			}
			for _, n := range []int{0, 1, 2, 3, 7, 8, 9} {
				s.Ex = slices.Repeat(exprs(num(7)), n)
				for _, m := range []int{0, 1, 8, 9} {
					s.Args = slices.Repeat([]string{"b"}, m)
					ifAll(s)
				}
			}
		}
	}
	if good != 2+1+2+1+4+2+2+4+1+1+2*6*3+1 {
		t.Errorf("%d may be", good)
	}
}

// badNames is what is no name, but nothing, which is left out in some places.
func badNames() []string {
	return append(allWords(), "A", "1", "1a", "a b", " a", "a ", "a\n", "a!", "#", "a[", "a2345678901234567", "\u00e9", "\x00", strings.Repeat("a", 20000))
}

// TestCheckNames (P8.1): names are names, wherever they stand.
func TestCheckNames(t *testing.T) {
	c := chance(7)
	for kind := uint8(1); kind <= 12; kind++ {
		s := c.stmt(kind, 1)
		is(t, in(s), api.OK)
		for _, bad := range append(badNames(), "") {
			x := s
			x.Name = bad
			if bad != "" || (kind != 11 && s.Name != "") {
				is(t, in(x), api.ErrArg)
			}
			x = s
			x.From = bad
			if bad != "" || s.From != "" {
				is(t, in(x), api.ErrArg)
			}
		}
	}
	for _, bad := range append(badNames(), "") {
		is(t, funcs(api.Func{Name: bad}), api.ErrArg)
		is(t, funcs(api.Func{Name: "f"}, api.Func{Name: bad}, api.Func{Name: "f"}), api.ErrArg)
		is(t, funcs(api.Func{Name: "f", Params: []api.Param{{Name: bad}}}), api.ErrArg)
		is(t, funcs(api.Func{Name: "f", Params: []api.Param{{Name: "a"}, {Name: bad, Buf: true}}}), api.ErrArg)
		is(t, in(api.Stmt{Kind: 11, From: "f", Args: []string{bad}}), api.ErrArg)
		is(t, in(api.Stmt{Kind: 11, From: "f", Args: []string{"a", "a", bad, "a"}}), api.ErrArg)
		is(t, in(let("a", variable(bad))), api.ErrArg)
	}
	for _, name := range []string{"a", "_", "z9", "lets", "fn_", "a234567890123456"} {
		is(t, funcs(api.Func{Name: name, Params: []api.Param{{Name: name}, {Name: name}}, Ret: exprs(variable(name)), Body: stmts(let(name, num(1)), let(name, num(1)))}), api.OK)
		is(t, in(api.Stmt{Kind: 11, Name: name, From: name, Args: []string{name, name}}), api.OK)
	}
}

// TestCheckExprs (P8.1): expressions may be, wherever they stand.
func TestCheckExprs(t *testing.T) {
	deep := num(1)
	for range 39 {
		deep = two(1, deep, num(1))
	}
	for _, e := range []api.Expr{num(0), deep, length("a"), byteOf("a", num(1))} {
		eachExpr(t, e, api.OK)
	}
	for _, e := range []api.Expr{{}, {Kind: 6}, two(1, deep, num(1)), two(15, num(1), num(1)), byteOf("a", deep), byteOf("let", num(1)), {Kind: 2}, {Kind: 1, Name: "a"}} {
		eachExpr(t, e, api.ErrArg)
	}
}

// eachExpr asks Check of programs with e in the place of each expression.
func eachExpr(t *testing.T, e api.Expr, want api.Errno) {
	t.Helper()
	c := chance(8)
	for kind := uint8(1); kind <= 12; kind++ {
		s := c.stmt(kind, 2)
		if kind == 11 {
			s.Ex = exprs(num(1), num(2), num(3))
		}
		for k := range s.Ex {
			x := s
			x.Ex = slices.Clone(s.Ex)
			x.Ex[k] = e
			is(t, in(x), want)
			is(t, in(seal(), ifs(seals(1), stmts(seal(), x)), seal()), want)
			is(t, funcs(api.Func{Name: "g", Body: stmts(ifs(stmts(x), nil))}, api.Func{Name: "f"}), want)
		}
	}
	is(t, funcs(api.Func{Name: "f", Ret: exprs(e)}), want)
	is(t, funcs(api.Func{Name: "f", Ret: exprs(e), Sec: true}, api.Func{Name: "g"}), want)
}

// TestCheckFuncs (P8.1): functions, params, and Ret, at their edges.
func TestCheckFuncs(t *testing.T) {
	for n := range 40 {
		want := api.OK
		if n > 16 {
			want = api.ErrArg
		}
		is(t, funcs(slices.Repeat([]api.Func{{Name: "f"}}, n)...), want)
		want = api.OK
		if n > 8 {
			want = api.ErrArg
		}
		for _, p := range []api.Param{{Name: "a"}, {Name: "b", Buf: true, Sec: true, Mut: true}} {
			is(t, funcs(api.Func{Name: "f", Params: slices.Repeat([]api.Param{p}, n)}), want)
			is(t, funcs(api.Func{Name: "g"}, api.Func{Name: "f", Params: slices.Repeat([]api.Param{p}, n)}, api.Func{Name: "h"}), want)
		}
	}
	for bits := range 8 {
		p := api.Param{Name: "a", Buf: bits&1 != 0, Sec: bits&2 != 0, Mut: bits&4 != 0}
		want := api.OK
		if p.Mut && !p.Buf {
			want = api.ErrArg
		}
		is(t, funcs(api.Func{Name: "f", Params: []api.Param{p}}), want)
		is(t, funcs(api.Func{Name: "f", Params: []api.Param{{Name: "a"}, p, {Name: "b", Buf: true}}}), want)
	}
	for _, sec := range []bool{false, true} {
		for n := range 4 {
			want := api.ErrArg
			if n == 1 || n == 0 && !sec {
				want = api.OK
			}
			is(t, funcs(api.Func{Name: "f", Sec: sec, Ret: slices.Repeat(exprs(num(1)), n)}), want)
			is(t, funcs(api.Func{Name: "g"}, api.Func{Name: "f", Sec: sec, Ret: slices.Repeat(exprs(num(1)), n)}, api.Func{Name: "h"}), want)
		}
	}
	is(t, funcs(slices.Repeat([]api.Func{{Name: "f"}}, 100000)...), api.ErrArg)
	is(t, funcs(api.Func{}), api.ErrArg)
}

// TestCheckNone (P8.1): lists without elements are none.
func TestCheckNone(t *testing.T) {
	is(t, api.Prog{}, api.OK)
	is(t, api.Prog{Funcs: []api.Func{}}, api.OK)
	is(t, funcs(api.Func{Name: "f", Params: []api.Param{}, Body: stmts(), Ret: exprs()}), api.OK)
	is(t, funcs(api.Func{Name: "f", Params: []api.Param{}, Body: stmts(), Ret: exprs(), Sec: true}), api.ErrArg)
	for _, s := range []api.Stmt{seal(), let("a", num(1)), ifs(nil, nil), {Kind: 9, Name: "a", From: "b"}, {Kind: 11, From: "f"}} {
		s.Body, s.Else, s.Args = stmts(), stmts(), []string{}
		if len(s.Ex) == 0 {
			s.Ex = exprs()
		}
		is(t, in(s), api.OK)
	}
}

// within is l within n others, each of them as k says.
func within(l []api.Stmt, n, k int) []api.Stmt {
	for range n {
		switch k {
		case 0:
			l = stmts(ifs(l, nil))
		case 1:
			l = stmts(ifs(nil, l))
		case 2:
			l = stmts(ifs(seals(1), l), seal())
		case 3:
			l = stmts(seal(), api.Stmt{Kind: 6, Ex: exprs(num(1)), Body: l})
		case 4:
			l = stmts(api.Stmt{Kind: 7, Name: "i", Ex: exprs(num(1)), Body: l})
		default:
			l = stmts(api.Stmt{Kind: 8, Name: "v", From: "b", Mut: k == 5, Ex: exprs(num(1), num(1)), Body: l})
		}
	}
	return l
}

// TestCheckDepth (P8.1): MaxDepth may be, one deeper may not, whichever block it is that is so deep.
func TestCheckDepth(t *testing.T) {
	for k := range 7 {
		for _, n := range []int{0, 1, 20, 38, 39} {
			is(t, in(within(seals(1), n, k)...), api.OK)
			is(t, in(append(seals(2), within(seals(2), n, k)...)...), api.OK)
		}
		for _, n := range []int{40, 41, 80, 256, 1000, 100000} {
			is(t, in(within(seals(1), n, k)...), api.ErrArg)
		}
		is(t, in(within(nil, 39, k)...), api.OK)
		is(t, in(within(nil, 41, k)...), api.ErrArg)
		is(t, in(within(within(seals(1), 20, k), 19, (k+1)%7)...), api.OK)
		is(t, in(within(within(seals(1), 20, k), 20, (k+1)%7)...), api.ErrArg)
	}
	is(t, in(within(nil, 40, 0)...), api.OK)
	is(t, funcs(api.Func{Name: "f", Body: within(seals(1), 39, 0)}, api.Func{Name: "g", Body: within(seals(1), 40, 0)}), api.ErrArg)
}

// shaped is programs with just n statements.
func shaped(n int) []api.Prog {
	parted := slices.Repeat([]api.Func{{Name: "f", Body: seals(n / 16)}}, 16)
	parted[15].Body = append(seals(n/16), seals(n%16)...)
	return []api.Prog{
		funcs(parted...),
		in(seals(n)...),
		in(ifs(seals(n-1), nil)),
		in(ifs(nil, seals(n-1))),
		in(ifs(seals(n/2), seals(n-1-n/2))),
		in(append(seals(n-10), within(seals(1), 9, 0)...)...),
		in(append(within(seals(n-39), 38, 5), seal())...),
		in(append(seals(n-1), ifs(nil, nil))...),
		funcs(api.Func{Name: "f", Body: seals(n - 1)}, api.Func{Name: "g"}, api.Func{Name: "h", Body: seals(1)}),
	}
}

// TestCheckStmts (P8.1): MaxStmts may be, one more may not, wherever they stand.
func TestCheckStmts(t *testing.T) {
	for n := 390; n < 412; n++ {
		want := api.OK
		if n > 400 {
			want = api.ErrArg
		}
		for k, p := range shaped(n) {
			total := 0
			for _, f := range p.Funcs {
				total += count(f.Body)
			}
			if total != n {
				t.Fatalf("shape %d has %d statements, not %d", k, total, n)
			}
			is(t, p, want)
		}
	}
	is(t, in(seals(100000)...), api.ErrArg)
}

// TestCheckRing (P8.1): a list that is its own block has no end, and may not be.
func TestCheckRing(t *testing.T) {
	for n := 1; n <= 3; n++ {
		for k := range 3 {
			l := make([]api.Stmt, n)
			for j := range l {
				l[j] = ifs(nil, nil)
				if k != 1 {
					l[j].Body = l
				}
				if k != 0 {
					l[j].Else = l
				}
			}
			if stmt.Check(in(l...)) != api.ErrArg {
				t.Errorf("%d, %d: may be", n, k)
			}
		}
	}
	wide := seals(1000) // no deeper than may be, and has many more statements than may be
	for range 30 {
		wide = slices.Repeat(stmts(ifs(wide, wide)), 100)
	}
	if stmt.Check(in(wide...)) != api.ErrArg {
		t.Error("the wide one may be")
	}
}

// TestCheckScattered (P8.1): scattered programs may be; with one thing turned that has to be so they may not; nothing that is handed in is turned.
func TestCheckScattered(t *testing.T) {
	c := chance(9)
	for k := range 3000 {
		p := c.prog(1+k%4, 1+k%3)
		text := told(p)
		is(t, p, api.OK)
		if told(p) != text {
			t.Fatalf("%q is %q then", text, told(p))
		}
		if len(p.Funcs) == 0 {
			continue
		}
		f := &p.Funcs[c.below(len(p.Funcs))]
		switch c.below(4) {
		case 0:
			f.Name = ""
		case 1:
			f.Body = append(f.Body, api.Stmt{})
		case 2:
			f.Body = slices.Insert(f.Body, 0, ifs(nil, stmts(seal(), api.Stmt{Kind: 12, Sec: true})))
		case 3:
			f.Params = append(f.Params, api.Param{Name: "a", Mut: true})
		}
		is(t, p, api.ErrArg)
	}
}
