package kinds_test

import (
	"slices"
	"strconv"
	"strings"
	"testing"

	"sacristy/api"
	"sacristy/kinds"
	"sacristy/scope"
)

// scoped asks for scope's error, which has to be this one.
func scoped(t *testing.T, p api.Prog, at int, wrong api.Errno) {
	t.Helper()
	if err := scope.Check(p); err != error(api.Fault{At: at, Err: wrong}) {
		t.Errorf("scope: %v: %.600s", err, told(p))
	}
	refusedAt(t, p, at, wrong)
}

// TestScopes (P11.1): scope's error is told ahead of all that is of a wrong kind, wherever that stands.
func TestScopes(t *testing.T) {
	worse := []string{"let x = b;", "n = 1;", "b[0] = n;", "let x = #n;", "n[0] = 1;", "move x = b;", "edit x = b[0 .. 1] { }", "view x = n[0 .. 1] { }", "call x = h(;);", "call h(n;);", "call g(;b);", "seal;"}
	for _, s := range worse {
		head := "fn h() { }; fn g(edit x) { }; fn f(num n, view b) { "
		refused(t, head+"~"+s+" }; fn last() { };")
		for body, wrong := range map[string]api.Errno{
			s + " ~y = 1; }; fn last() { };":                    api.ErrNone,
			s + " ~let z = (1 + #y); }; fn last() { };":         api.ErrNone,
			s + " ~call i(;); }; fn last() { };":                api.ErrNone,
			s + " if n { ~let n = 1; } }; fn last() { };":       api.ErrHave,
			"if n { " + s + " } ~buf b[1]; }; fn last() { };":   api.ErrHave,
			s + " ~} = y; fn last() { };":                       api.ErrNone,
			s + " }; ~fn f() { };":                              api.ErrHave,
			s + " }; ~fn last(num n, num n) { };":               api.ErrHave,
			s + " }; fn last() { ~} = n;":                       api.ErrNone,
			s + " }; fn last() { while 1 { ~call last(;); } };": api.ErrNone,
		} {
			ahead, behind, _ := strings.Cut(head+body, "~")
			scoped(t, parsed(t, ahead+behind), begun(t, ahead), wrong)
		}
	}
}

// TestWrongPrograms (P11.1): what may not be a program is ErrArg at 0, whatever else is wrong.
func TestWrongPrograms(t *testing.T) {
	one := api.Expr{Kind: api.ExNum, Num: 1}
	noType := api.Stmt{Kind: api.StSet, Name: "a", Ex: []api.Expr{one}}
	for _, s := range []api.Stmt{
		{}, {Kind: 13}, {Kind: 255}, {Kind: api.StLet, Name: "x"}, {Kind: api.StLet, Name: "let", Ex: []api.Expr{one}}, {Kind: api.StLet, Name: "x", Ex: []api.Expr{{}}}, {Kind: api.StSeal, Name: "a"},
		{Kind: api.StIf}, {Kind: api.StMove, Name: "x"}, {Kind: api.StMove, From: "a"}, {Kind: api.StCall}, {Kind: api.StCall, From: "f", Args: []string{""}}, {Kind: api.StCall, From: "f", Ex: slices.Repeat([]api.Expr{one}, 9)},
		{Kind: api.StLet, Name: "x", Ex: []api.Expr{one}, Mut: true}, {Kind: api.StPut, Name: "a", Ex: []api.Expr{one}}, {Kind: api.StView, Name: "x", From: "a", Ex: []api.Expr{one}},
		{Kind: api.StLet, Name: "x", Ex: []api.Expr{{Kind: api.ExBin, Op: api.InAdd, Kids: []api.Expr{one}}}}, {Kind: api.StLet, Name: "x", Ex: []api.Expr{{Kind: api.ExByte, Name: "a"}}},
	} {
		for _, l := range [][]api.Stmt{{s}, {noType, s}, {noType, {Kind: api.StIf, Ex: []api.Expr{one}, Else: []api.Stmt{noType, s}}}} {
			f := api.Func{Name: "f", Params: []api.Param{{Name: "a"}}, Body: l}
			scoped(t, api.Prog{Funcs: []api.Func{f}}, 0, api.ErrArg)
			scoped(t, api.Prog{Funcs: []api.Func{{Name: "g", Body: []api.Stmt{{Kind: api.StSeal}}}, f}}, 0, api.ErrArg)
			scoped(t, api.Prog{Funcs: []api.Func{f, {Name: "g"}}}, 0, api.ErrArg)
		}
	}
	for _, f := range []api.Func{
		{}, {Name: "fn"}, {Name: "f", Sec: true}, {Name: "f", Ret: []api.Expr{one, one}}, {Name: "f", Params: []api.Param{{Name: "a", Mut: true}}}, {Name: "f", Params: slices.Repeat([]api.Param{{Name: "a"}}, 9)},
	} {
		scoped(t, api.Prog{Funcs: []api.Func{f}}, 0, api.ErrArg)
		scoped(t, api.Prog{Funcs: []api.Func{{Name: "g", Params: []api.Param{{Name: "a"}}, Body: []api.Stmt{noType}}, f}}, 0, api.ErrArg)
	}
	ring := make([]api.Stmt, 1)
	ring[0] = api.Stmt{Kind: api.StIf, Ex: []api.Expr{one}, Body: ring, Else: ring}
	scoped(t, api.Prog{Funcs: []api.Func{{Name: "f", Body: ring}}}, 0, api.ErrArg)
	scoped(t, api.Prog{Funcs: slices.Repeat([]api.Func{{Name: "f"}}, 17)}, 0, api.ErrArg)
	scoped(t, api.Prog{Funcs: []api.Func{{Name: "f", Params: []api.Param{{Name: "a"}}, Body: slices.Repeat([]api.Stmt{noType}, 401)}}}, 0, api.ErrArg)
}

// TestNone (P11.1): a program of no functions is let be; a list that is nil and one that is empty are the same.
func TestNone(t *testing.T) {
	for _, p := range []api.Prog{
		{}, {Funcs: []api.Func{}}, {Funcs: []api.Func{{Name: "f"}}},
		{Funcs: []api.Func{{Name: "f", Params: []api.Param{}, Body: []api.Stmt{}, Ret: []api.Expr{}}}},
		{Funcs: []api.Func{{Name: "f"}, {Name: "g", Body: []api.Stmt{{Kind: api.StCall, From: "f", Ex: []api.Expr{}, Args: []string{}, Body: []api.Stmt{}, Else: []api.Stmt{}}}}}},
	} {
		if err := kinds.Check(p); err != nil {
			t.Errorf("%v: %s", err, told(p))
		}
	}
	p := api.Prog{Funcs: []api.Func{{Name: "f", Ret: []api.Expr{}}, {Name: "g", Body: []api.Stmt{{Kind: api.StCall, Name: "x", From: "f"}}}}}
	refusedAt(t, p, 3, api.ErrType)
}

// long is MaxStmts statements, of so many functions with MaxParams params each: each asks the name that was given last.
func long(n int) (p api.Prog) {
	for k := range n {
		f := api.Func{Name: "f" + strconv.Itoa(k)}
		for j := range api.MaxParams {
			f.Params = append(f.Params, api.Param{Name: "p" + strconv.Itoa(j), Buf: j%2 == 1, Mut: j%4 == 1})
		}
		last := "p6"
		for j := range api.MaxStmts / n {
			name := "x" + strconv.Itoa(j)
			f.Body = append(f.Body, api.Stmt{Kind: api.StLet, Name: name, Ex: []api.Expr{{Kind: api.ExVar, Name: last}}})
			last = name
		}
		f.Ret = []api.Expr{{Kind: api.ExVar, Name: last}}
		p.Funcs = append(p.Funcs, f)
	}
	return p
}

// TestLong (P11.1): as many functions, params and statements as may be; one that is wrong in each of their places.
func TestLong(t *testing.T) {
	for _, n := range []int{1, 2, 16} {
		if err := kinds.Check(long(n)); err != nil {
			t.Errorf("%d functions: %v", n, err)
		}
		each := 2 + api.MaxStmts/n
		for k := range n {
			p := long(n)
			p.Funcs[k].Ret[0].Name = "p7"
			refusedAt(t, p, each*(k+1)-1, api.ErrType)
			for j := range each - 2 {
				p := long(n)
				p.Funcs[k].Body[j].Ex[0].Name = "p1"
				refusedAt(t, p, each*k+1+j, api.ErrType)
				p.Funcs[k].Body[j] = api.Stmt{Kind: api.StSeal}
				rest := p.Funcs[k].Body[j:]
				for i := range rest[1:] {
					rest[1+i] = api.Stmt{Kind: api.StIf, Ex: []api.Expr{{Kind: api.ExNum}}}
				}
				p.Funcs[k].Ret = nil
				if k < n-1 {
					refusedAt(t, p, each*k+1+j, api.ErrType)
				} else if err := kinds.Check(p); err != nil {
					t.Error(err)
				}
			}
		}
	}
}

// TestDeep (P11.1): what is wrong is found as deep as statements, and expressions, may be.
func TestDeep(t *testing.T) {
	for _, around := range []string{"if n { ", "if n { } else { ", "while n { ", "for I < n { ", "view I = v[0 .. n] { ", "edit I = e[n .. #v] { "} {
		var s strings.Builder
		s.WriteString("fn f(num n, view v, edit e) { ")
		for k := range api.MaxDepth - 1 {
			s.WriteString(strings.Replace(around, "I", "i"+strconv.Itoa(k), 1))
		}
		closed := strings.Repeat(" }", api.MaxDepth) + ";"
		refused(t, s.String()+"~n = 1;"+closed)
		refused(t, s.String()+"~v[0] = n;"+closed)
		letBe(t, s.String()+"e[0] = n;"+closed)
		for k := range api.MaxDepth {
			refused(t, s.String()+"e[0] = n;"+strings.Repeat(" }", k)+" ~let x = v;"+closed[2*k:])
			letBe(t, s.String()+"e[0] = n;"+strings.Repeat(" }", k)+" let x = #v;"+closed[2*k:])
		}
	}
	for _, around := range []func(e api.Expr) api.Expr{
		func(e api.Expr) api.Expr { return api.Expr{Kind: api.ExByte, Name: "b", Kids: []api.Expr{e}} },
		func(e api.Expr) api.Expr {
			return api.Expr{Kind: api.ExBin, Op: api.InAdd, Kids: []api.Expr{e, {Kind: api.ExLen, Name: "b"}}}
		},
		func(e api.Expr) api.Expr {
			return api.Expr{Kind: api.ExBin, Op: api.InRemu, Kids: []api.Expr{{Kind: api.ExVar, Name: "n"}, e}}
		},
	} {
		for _, x := range []struct {
			e  api.Expr
			is bool
		}{{api.Expr{Kind: api.ExVar, Name: "n"}, true}, {api.Expr{Kind: api.ExVar, Name: "b"}, false}, {api.Expr{Kind: api.ExLen, Name: "n"}, false}, {api.Expr{Kind: api.ExLen, Name: "b"}, true}} {
			for range api.MaxDepth - 1 {
				x.e = around(x.e)
			}
			p := api.Prog{Funcs: []api.Func{{Name: "f", Params: []api.Param{{Name: "n"}, {Name: "b", Buf: true}}, Ret: []api.Expr{x.e}}}}
			if !x.is {
				refusedAt(t, p, 1, api.ErrType)
			} else if err := kinds.Check(p); err != nil {
				t.Error(err)
			}
		}
	}
}
