package show_test

import (
	"slices"
	"strings"
	"testing"

	"sacristy/api"
	"sacristy/show"
	"sacristy/stmt"
)

// refused asks that p is not shown.
func refused(t *testing.T, p api.Prog) {
	t.Helper()
	if s, wrong := show.Show(p); wrong != api.ErrArg || s != "" {
		t.Errorf("Show: %v, %q", wrong, short(s))
	}
}

// TestNumbers: those of package api that the chapter names.
func TestNumbers(t *testing.T) {
	if api.ErrArg != 2 || api.MaxText != 16384 || api.MaxDepth != 40 || api.MaxFuncs != 16 || api.MaxParams != 8 || api.MaxStmts != 400 {
		t.Error("numbers of package api")
	}
}

// TestWrongStmts (P9.1): a statement that may not be, wherever it stands.
func TestWrongStmts(t *testing.T) {
	one := exprs(num(1))
	for _, s := range []api.Stmt{
		{},
		{Kind: 13},
		{Kind: 255},
		{Kind: api.StLet, Name: "x"},
		{Kind: api.StLet, Ex: one},
		{Kind: api.StLet, Name: "let", Ex: one},
		{Kind: api.StLet, Name: "a2345678901234567", Ex: one},
		{Kind: api.StLet, Name: "x", Ex: exprs(num(1), num(1))},
		{Kind: api.StLet, Name: "x", Ex: exprs(api.Expr{})},
		{Kind: api.StLet, Name: "x", Ex: exprs(two(15, num(1), num(1)))},
		{Kind: api.StLet, Name: "x", Mut: true, Ex: one},
		{Kind: api.StSet, Name: "x", Sec: true, Ex: one},
		{Kind: api.StSet, Name: "", Ex: one},
		{Kind: api.StBuf, Name: "x"},
		{Kind: api.StPut, Name: "x", Ex: one},
		{Kind: api.StPut, Name: "x", Sec: true, Ex: exprs(num(1), num(1))},
		{Kind: api.StIf},
		{Kind: api.StIf, Name: "x", Ex: one},
		{Kind: api.StIf, Ex: one, Else: stmts(api.Stmt{})},
		{Kind: api.StWhile, Ex: one, Else: seals(1)},
		{Kind: api.StFor, Ex: one},
		{Kind: api.StView, Name: "v", Ex: exprs(num(1), num(1))},
		{Kind: api.StView, Name: "v", From: "b", Ex: one},
		{Kind: api.StView, Name: "v", From: "b", Sec: true, Ex: exprs(num(1), num(1))},
		{Kind: api.StMove, Name: "x"},
		{Kind: api.StMove, From: "x"},
		{Kind: api.StMove, Name: "x", From: "y", Body: seals(1)},
		{Kind: api.StOpen, Name: "x"},
		{Kind: api.StOpen, Name: "x", Sec: true, Ex: one},
		{Kind: api.StCall, Name: "x"},
		{Kind: api.StCall, From: "f", Ex: slices.Repeat(one, 9)},
		{Kind: api.StCall, From: "f", Args: slices.Repeat([]string{"a"}, 9)},
		{Kind: api.StCall, From: "f", Args: []string{""}},
		{Kind: api.StCall, From: "f", Args: []string{"a b"}},
		{Kind: api.StSeal, Name: "x"},
		{Kind: api.StSeal, Ex: one},
	} {
		refused(t, in(s))
		refused(t, in(seal(), s, seal()))
		refused(t, in(ifs(stmts(s), nil)))
		refused(t, in(ifs(seals(1), stmts(seal(), s))))
		refused(t, funcs(api.Func{Name: "f", Body: stmts(s)}, api.Func{Name: "g"}))
		refused(t, funcs(api.Func{Name: "f"}, api.Func{Name: "g", Body: stmts(s)}))
	}
}

// TestWrongFuncs (P9.1): functions, their params, and Ret, that may not be.
func TestWrongFuncs(t *testing.T) {
	one := exprs(num(1))
	for _, f := range []api.Func{
		{},
		{Name: "fn"},
		{Name: "f g"},
		{Name: "f", Sec: true},
		{Name: "f", Ret: exprs(num(1), num(1))},
		{Name: "f", Ret: exprs(api.Expr{})},
		{Name: "f", Ret: exprs(byteOf("b", deepExpr()))},
		{Name: "f", Params: []api.Param{{}}},
		{Name: "f", Params: []api.Param{{Name: "a"}, {Name: "num"}}},
		{Name: "f", Params: []api.Param{{Name: "a", Mut: true}}},
		{Name: "f", Params: slices.Repeat([]api.Param{{Name: "a"}}, 9)},
	} {
		refused(t, funcs(f))
		refused(t, funcs(f, api.Func{Name: "f", Ret: one}))
		refused(t, funcs(api.Func{Name: "f", Ret: one}, f))
	}
	refused(t, funcs(slices.Repeat([]api.Func{{Name: "f"}}, 17)...))
}

// TestWrongLimits (P9.1): one beyond each limit, and lists that are their own blocks, or kids.
func TestWrongLimits(t *testing.T) {
	deep := seals(1)
	for range 40 {
		deep = stmts(ifs(deep, nil))
	}
	refused(t, in(deep...))
	shows(t, in(seals(400)...), "fn f ( ) {\n"+strings.Repeat("  seal ;\n", 400)+"} ;\n")
	refused(t, in(seals(401)...))
	refused(t, funcs(api.Func{Name: "f", Body: seals(200)}, api.Func{Name: "g", Body: stmts(ifs(seals(100), seals(100)))}))
	ring := make([]api.Stmt, 2)
	ring[0], ring[1] = ifs(ring, ring), ifs(nil, ring)
	refused(t, in(ring...))
	own := api.Expr{Kind: api.ExBin, Op: 1, Kids: make([]api.Expr, 2)}
	own.Kids[0], own.Kids[1] = own, own
	refused(t, in(let("x", own)))
}

// TestWrongScattered (P9.1): scattered programs in which something is turned are shown, or not, as stmt.Check has it.
func TestWrongScattered(t *testing.T) {
	c, good, bad := chance(3), 0, 0
	for k := range 4000 {
		p := c.prog(1+k%3, 1+k%3)
		if len(p.Funcs) == 0 {
			continue
		}
		f := &p.Funcs[c.below(len(p.Funcs))]
		s := &api.Stmt{}
		if len(f.Body) > 0 {
			s = &f.Body[c.below(len(f.Body))]
		}
		switch c.below(10) {
		case 0:
			f.Sec = !f.Sec
		case 1:
			f.Ret = append(f.Ret, num(1))
		case 2:
			f.Params = append(f.Params, api.Param{Name: "a", Mut: c.is(), Buf: c.is()})
		case 3:
			s.Kind = uint8(c.below(14))
		case 4:
			s.Sec = !s.Sec
		case 5:
			s.Mut = !s.Mut
		case 6:
			s.Name = when(s.Name == "", "a")
		case 7:
			s.From = when(s.From == "", "if")
		case 8:
			s.Else = append(s.Else, seal())
		case 9:
			s.Ex = append(s.Ex, num(1))
		}
		if stmt.Check(p) == api.OK {
			good++
			shows(t, p, inLines(told(p)))
		} else {
			bad++
			refused(t, p)
		}
	}
	if good < 500 || bad < 500 {
		t.Errorf("%d were shown, %d were not", good, bad)
	}
}
