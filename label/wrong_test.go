package label_test

import (
	"slices"
	"strconv"
	"strings"
	"testing"

	"sacristy/api"
	"sacristy/kinds"
	"sacristy/scope"
)

// first asks for kinds' error, which has to be this one.
func first(t *testing.T, p api.Prog, at int, wrong api.Errno) {
	t.Helper()
	if err := kinds.Check(p); err != error(api.Fault{At: at, Err: wrong}) {
		t.Errorf("kinds: %v, not %v at %d: %.900s", err, wrong, at, told(p))
	}
	refusedAt(t, p, at, wrong)
}

// TestKindsFirst (P12.1): kinds' error is told ahead of all that is secret where none may be, wherever that stands.
func TestKindsFirst(t *testing.T) {
	worse := []string{"let x = k;", "n = k;", "b[0] = k;", "b[k] = n;", "let secret x = b[k];", "let secret x = (1 / k);", "if k { }", "while k { }", "for i < k { }", "buf x[k];", "view x = b[k .. n] { }", "edit x = b[0 .. k] { }",
		"let x = bs[0];", "call g(k; b);", "call g(n; bs);", "call s(n; b);", "seal;"}
	for _, s := range worse {
		head := "fn g(num x, edit y) { }; fn s(num x, view secret y) { }; fn f(secret k, edit b, edit secret bs) { let n = 1; "
		refused(t, head+"~"+s+" };")
		for body, wrong := range map[string]api.Errno{
			s + " ~y = 1; };":                           api.ErrNone,
			s + " ~let z = (1 + #y); };":                api.ErrNone,
			s + " ~call h(;); };":                       api.ErrNone,
			s + " if n { ~let k = 1; } };":              api.ErrHave,
			"if n { " + s + " } ~buf b[1]; };":          api.ErrHave,
			s + " ~} = y;":                              api.ErrNone,
			s + " ~let z = b; };":                       api.ErrType,
			s + " ~k = 1; };":                           api.ErrType,
			s + " if n { } else { ~move z = b; } };":    api.ErrType,
			s + " ~call g(n;); };":                      api.ErrType,
			s + " ~call z = g(n; b); };":                api.ErrType,
			s + " ~} = b;":                              api.ErrType,
			s + " ~} = secret #k;":                      api.ErrType,
			s + " let z = k; while k { ~n[0] = k; } };": api.ErrType,
		} {
			p, at := marked(t, head+body)
			first(t, p, at, wrong)
		}
		if s != "seal;" { // which is of a wrong kind there
			p, at := marked(t, head+s+" }; fn last(num m) { ~m = 1; };")
			first(t, p, at, api.ErrType)
		}
		p := parsed(t, head+s+" }; fn f() { };")
		n, _ := scope.Items(p)
		first(t, p, n-2, api.ErrHave) // the last head
	}
	p, at := marked(t, "fn f() { ~seal; }; fn g(secret k) { let x = k; };")
	first(t, p, at, api.ErrType)
}

// TestWrongPrograms (P12.1): what may not be a program is ErrArg at 0, whatever else is wrong.
func TestWrongPrograms(t *testing.T) {
	one := api.Expr{Kind: api.ExNum, Num: 1}
	leak := api.Stmt{Kind: api.StIf, Ex: []api.Expr{{Kind: api.ExVar, Name: "k"}}}
	for _, s := range []api.Stmt{
		{}, {Kind: 13}, {Kind: 255}, {Kind: api.StLet, Name: "x"}, {Kind: api.StLet, Name: "let", Ex: []api.Expr{one}}, {Kind: api.StLet, Name: "x", Ex: []api.Expr{{}}}, {Kind: api.StSeal, Name: "k"},
		{Kind: api.StIf}, {Kind: api.StIf, Ex: []api.Expr{one}, Sec: true}, {Kind: api.StOpen, Name: "x", Sec: true, Ex: []api.Expr{one}}, {Kind: api.StMove, Name: "x"}, {Kind: api.StCall}, {Kind: api.StCall, From: "f", Sec: true}, {Kind: api.StCall, From: "f", Args: []string{""}},
		{Kind: api.StPut, Name: "k", Ex: []api.Expr{one}}, {Kind: api.StView, Name: "x", From: "k", Ex: []api.Expr{one}}, {Kind: api.StView, Name: "x", From: "k", Sec: true, Ex: []api.Expr{one, one}}, {Kind: api.StCall, From: "f", Ex: slices.Repeat([]api.Expr{one}, 9)},
		{Kind: api.StLet, Name: "x", Ex: []api.Expr{{Kind: api.ExBin, Op: api.InAdd, Kids: []api.Expr{one}}}}, {Kind: api.StLet, Name: "x", Ex: []api.Expr{{Kind: api.ExByte, Name: "k"}}},
	} {
		for _, l := range [][]api.Stmt{{s}, {leak, s}, {leak, {Kind: api.StIf, Ex: []api.Expr{one}, Else: []api.Stmt{leak, s}}}} {
			f := api.Func{Name: "f", Params: []api.Param{{Name: "k", Sec: true}}, Body: l}
			first(t, api.Prog{Funcs: []api.Func{f}}, 0, api.ErrArg)
			first(t, api.Prog{Funcs: []api.Func{{Name: "g", Params: f.Params, Body: []api.Stmt{leak}}, f}}, 0, api.ErrArg)
			first(t, api.Prog{Funcs: []api.Func{f, {Name: "g"}}}, 0, api.ErrArg)
		}
	}
	for _, f := range []api.Func{
		{}, {Name: "fn"}, {Name: "f", Sec: true}, {Name: "f", Ret: []api.Expr{one, one}}, {Name: "f", Params: []api.Param{{Name: "a", Mut: true}}}, {Name: "f", Params: slices.Repeat([]api.Param{{Name: "a", Sec: true}}, 9)},
	} {
		first(t, api.Prog{Funcs: []api.Func{f}}, 0, api.ErrArg)
		first(t, api.Prog{Funcs: []api.Func{{Name: "g", Params: []api.Param{{Name: "k", Sec: true}}, Body: []api.Stmt{leak}}, f}}, 0, api.ErrArg)
	}
	ring := make([]api.Stmt, 1)
	ring[0] = api.Stmt{Kind: api.StIf, Ex: []api.Expr{one}, Body: ring, Else: ring}
	first(t, api.Prog{Funcs: []api.Func{{Name: "f", Body: ring}}}, 0, api.ErrArg)
	first(t, api.Prog{Funcs: slices.Repeat([]api.Func{{Name: "f"}}, 17)}, 0, api.ErrArg)
	first(t, api.Prog{Funcs: []api.Func{{Name: "f", Params: []api.Param{{Name: "k", Sec: true}}, Body: slices.Repeat([]api.Stmt{leak}, 401)}}}, 0, api.ErrArg)
}

// TestNone (P12.1): a program of no functions is let be; a list that is nil and one that is empty are the same.
func TestNone(t *testing.T) {
	for _, p := range []api.Prog{
		{}, {Funcs: []api.Func{}}, {Funcs: []api.Func{{Name: "f"}}},
		{Funcs: []api.Func{{Name: "f", Params: []api.Param{}, Body: []api.Stmt{}, Ret: []api.Expr{}}}},
		{Funcs: []api.Func{{Name: "f"}, {Name: "g", Body: []api.Stmt{{Kind: api.StCall, From: "f", Ex: []api.Expr{}, Args: []string{}, Body: []api.Stmt{}, Else: []api.Stmt{}}, {Kind: api.StSeal}}}}},
	} {
		lets(t, p)
	}
	secret := api.Expr{Kind: api.ExVar, Name: "k", Kids: []api.Expr{}}
	f := api.Func{Name: "f", Params: []api.Param{{Name: "k", Sec: true}}, Body: []api.Stmt{{Kind: api.StIf, Ex: []api.Expr{secret}, Args: []string{}, Body: []api.Stmt{}, Else: []api.Stmt{}}}, Ret: []api.Expr{}}
	refusedAt(t, api.Prog{Funcs: []api.Func{f}}, 1, api.ErrSecret)
}

// long is MaxStmts statements, of so many functions with MaxParams params each: each asks the name that was given last, which is secret.
func long(n int) (p api.Prog) {
	for k := range n {
		f := api.Func{Name: "f" + strconv.Itoa(k), Sec: true}
		for j := range api.MaxParams {
			f.Params = append(f.Params, api.Param{Name: "p" + strconv.Itoa(j), Buf: j%2 == 1, Sec: j > 3})
		}
		last := "p6"
		for j := range api.MaxStmts / n {
			name := "x" + strconv.Itoa(j)
			f.Body = append(f.Body, api.Stmt{Kind: api.StLet, Name: name, Sec: true, Ex: []api.Expr{{Kind: api.ExVar, Name: last}}})
			last = name
		}
		f.Ret = []api.Expr{{Kind: api.ExVar, Name: last}}
		p.Funcs = append(p.Funcs, f)
	}
	return p
}

// TestLong (P12.1): as many functions, params and statements as may be; one that is wrong in each of their places.
func TestLong(t *testing.T) {
	for _, n := range []int{1, 2, 16} {
		lets(t, long(n))
		each := 2 + api.MaxStmts/n
		for k := range n {
			p := long(n)
			p.Funcs[k].Sec = false
			refusedAt(t, p, each*(k+1)-1, api.ErrSecret)
			for j := range each - 2 {
				p := long(n)
				p.Funcs[k].Body[j].Sec = false
				refusedAt(t, p, each*k+1+j, api.ErrSecret)
				p.Funcs[k].Body[j].Ex[0].Name = "p2"
				if j < each-3 {
					lets(t, p) // it is not secret, and may be asked by what is
				}
				p.Funcs[k].Body[j] = api.Stmt{Kind: api.StWhile, Ex: []api.Expr{{Kind: api.ExByte, Name: "p3", Kids: []api.Expr{{Kind: api.ExVar, Name: "p4"}}}}}
				p.Funcs[k].Body = p.Funcs[k].Body[:j+1]
				p.Funcs[k].Ret[0].Name = "p4"
				refusedAt(t, p, each*k+1+j, api.ErrSecret)
			}
		}
	}
}

// TestDeep (P12.1): what is secret is found as deep as statements, and expressions, may be.
func TestDeep(t *testing.T) {
	for _, around := range []string{"if n { ", "if n { } else { ", "while n { ", "for I < n { ", "view I = v[0 .. n] { ", "edit I = e[n .. #v] { "} {
		var s strings.Builder
		s.WriteString("fn f(num n, view secret v, edit secret e) { ")
		for k := range api.MaxDepth - 1 {
			s.WriteString(strings.Replace(around, "I", "i"+strconv.Itoa(k), 1))
		}
		closed := strings.Repeat(" }", api.MaxDepth) + ";"
		refused(t, s.String()+"~if v[0] { }"+closed)
		refused(t, s.String()+"let secret k = v[n]; ~seal;"+closed)
		letBe(t, s.String()+"let secret k = v[n];"+closed)
		for k := 1; k < api.MaxDepth; k++ {
			out := s.String() + "let secret k = v[n];" + strings.Repeat(" }", k)
			refused(t, out+" ~let x = e[0];"+closed[2*k:])
			letBe(t, out+" seal;"+closed[2*k:])
			letBe(t, out+" let secret x = e[0];"+closed[2*k:])
		}
	}
	leaf := func(name string) api.Expr { return api.Expr{Kind: api.ExVar, Name: name} }
	for _, x := range []struct {
		around func(e api.Expr) api.Expr
		may    bool // whether it may hang on a secret
	}{
		{func(e api.Expr) api.Expr { return api.Expr{Kind: api.ExByte, Name: "b", Kids: []api.Expr{e}} }, false},
		{func(e api.Expr) api.Expr {
			return api.Expr{Kind: api.ExBin, Op: api.InAdd, Kids: []api.Expr{e, {Kind: api.ExLen, Name: "b"}}}
		}, true},
		{func(e api.Expr) api.Expr {
			return api.Expr{Kind: api.ExBin, Op: api.InXor, Kids: []api.Expr{leaf("n"), e}}
		}, true},
		{func(e api.Expr) api.Expr {
			return api.Expr{Kind: api.ExBin, Op: api.InRemu, Kids: []api.Expr{leaf("n"), e}}
		}, false},
	} {
		open, secret := leaf("n"), leaf("k")
		for range api.MaxDepth - 1 {
			open, secret = x.around(open), x.around(secret)
		}
		for _, sec := range []bool{false, true} {
			f := api.Func{Name: "f", Params: []api.Param{{Name: "n"}, {Name: "k", Sec: true}, {Name: "b", Buf: true}}, Sec: sec, Ret: []api.Expr{open}}
			lets(t, api.Prog{Funcs: []api.Func{f}})
			f.Ret = []api.Expr{secret}
			if x.may && sec {
				lets(t, api.Prog{Funcs: []api.Func{f}})
			} else {
				refusedAt(t, api.Prog{Funcs: []api.Func{f}}, 1, api.ErrSecret)
			}
		}
	}
}
