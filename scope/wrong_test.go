package scope_test

import (
	"slices"
	"strconv"
	"strings"
	"testing"

	"sacristy/api"
	"sacristy/scope"
	"sacristy/stmt"
)

func num(v uint64) api.Expr          { return api.Expr{Kind: 1, Num: v} }
func variable(s string) api.Expr     { return api.Expr{Kind: 2, Name: s} }
func exprs(l ...api.Expr) []api.Expr { return l }
func stmts(l ...api.Stmt) []api.Stmt { return l }
func funcs(l ...api.Func) api.Prog   { return api.Prog{Funcs: l} }
func seal() api.Stmt                 { return api.Stmt{Kind: 12} }

func let(name string, e api.Expr) api.Stmt {
	return api.Stmt{Kind: 1, Name: name, Ex: exprs(e)}
}

func ifs(body, other []api.Stmt) api.Stmt {
	return api.Stmt{Kind: 5, Ex: exprs(num(1)), Body: body, Else: other}
}

// wrongWhole asks that both calls answer that p may not be.
func wrongWhole(t *testing.T, p api.Prog) {
	t.Helper()
	if stmt.Check(p) != api.ErrArg {
		t.Error("it may be")
	}
	if err := scope.Check(p); err != error(api.Fault{At: 0, Err: api.ErrArg}) {
		t.Errorf("Check: %v", err)
	}
	if n, wrong := scope.Items(p); n != 0 || wrong != api.ErrArg {
		t.Errorf("Items: %d, %v", n, wrong)
	}
}

// TestWrongPrograms (P10.1, P10.2): a program that may not be is ErrArg at 0, whatever else is wrong, and wherever.
func TestWrongPrograms(t *testing.T) {
	noName := let("x", variable("y"))
	for _, s := range []api.Stmt{
		{}, {Kind: 13}, {Kind: 1, Name: "x"}, let("let", num(1)), let("", num(1)), let("x", api.Expr{}), let("x", variable("fn")),
		{Kind: 12, Name: "x"}, {Kind: 5}, {Kind: 7, Ex: exprs(num(1))}, {Kind: 9, Name: "x"}, {Kind: 11}, {Kind: 11, From: "f", Args: []string{""}},
		{Kind: 2, Name: "x", Ex: exprs(num(1)), Body: stmts(seal())}, {Kind: 6, Ex: exprs(num(1)), Else: stmts(seal())},
	} {
		for _, l := range [][]api.Stmt{stmts(s), stmts(seal(), s), stmts(noName, s), stmts(noName, noName, ifs(stmts(noName), stmts(s, noName)))} {
			wrongWhole(t, funcs(api.Func{Name: "f", Body: l}))
			wrongWhole(t, funcs(api.Func{Name: "f"}, api.Func{Name: "f", Body: l}))
			wrongWhole(t, funcs(api.Func{Name: "f", Body: l}, api.Func{Name: "f"}))
		}
	}
	for _, f := range []api.Func{
		{}, {Name: "fn"}, {Name: "f", Sec: true}, {Name: "f", Ret: exprs(num(1), num(1))}, {Name: "f", Ret: exprs(api.Expr{})},
		{Name: "f", Params: []api.Param{{Name: "a"}, {Name: "a"}, {}}}, {Name: "f", Params: []api.Param{{Name: "a", Mut: true}}}, {Name: "f", Params: slices.Repeat([]api.Param{{Name: "a"}}, 9)},
	} {
		wrongWhole(t, funcs(f))
		wrongWhole(t, funcs(api.Func{Name: "g", Body: stmts(noName)}, f))
		wrongWhole(t, funcs(f, api.Func{Name: "f", Body: stmts(noName)}))
	}
	ring := make([]api.Stmt, 2)
	ring[0], ring[1] = ifs(ring, ring), ifs(nil, ring)
	wrongWhole(t, funcs(api.Func{Name: "f", Body: ring}))
	wrongWhole(t, funcs(slices.Repeat([]api.Func{{Name: "f"}}, 17)...))
	wrongWhole(t, funcs(api.Func{Name: "f", Body: slices.Repeat(stmts(noName), 401)}))
}

// numbered is a name of 16 bytes.
func numbered(k int) string {
	s := strconv.Itoa(k)
	return "a" + strings.Repeat("_", api.MaxName-1-len(s)) + s
}

// long is MaxStmts statements, of so many functions with MaxParams params each; each statement asks the name that was given last.
func long(n int) (p api.Prog) {
	for k := range n {
		f := api.Func{Name: numbered(k)}
		for j := range api.MaxParams {
			f.Params = append(f.Params, api.Param{Name: numbered(j)})
		}
		for j := range api.MaxStmts / n {
			f.Body = append(f.Body, let(numbered(j+api.MaxParams), variable(numbered(j+api.MaxParams-1))))
		}
		f.Ret = exprs(variable(numbered(len(f.Body) + api.MaxParams - 1)))
		p.Funcs = append(p.Funcs, f)
	}
	return p
}

// TestLimits (P10.1, P10.2): as many functions, params and statements as may be; one wrong name in each of their places.
func TestLimits(t *testing.T) {
	for _, n := range []int{1, 2, 16} {
		total := 2*n + api.MaxStmts
		has(t, long(n), total)
		if err := scope.Check(long(n)); err != nil {
			t.Errorf("%d functions: %v", n, err)
		}
		each := 2 + api.MaxStmts/n
		for k := range n {
			p := long(n)
			p.Funcs[k].Ret[0].Name = "b"
			refusedAt(t, p, each*(k+1)-1, api.ErrNone)
			for j := range each - 2 {
				p := long(n)
				p.Funcs[k].Body[j].Ex[0].Name = numbered(j + api.MaxParams)
				refusedAt(t, p, each*k+1+j, api.ErrNone)
				p.Funcs[k].Body[j] = let(numbered(j+api.MaxParams-1), variable(numbered(j)))
				refusedAt(t, p, each*k+1+j, api.ErrHave)
			}
			for j := range api.MaxParams - 1 {
				p := long(n)
				p.Funcs[k].Params[api.MaxParams-1].Name = numbered(j)
				refusedAt(t, p, each*k, api.ErrHave)
			}
			for j := range k {
				p := long(n)
				p.Funcs[k].Name = numbered(j)
				refusedAt(t, p, each*k, api.ErrHave)
			}
		}
	}
}

// nested is MaxDepth statements, one within the other, each of which gives a name that the next one asks; behind each stands that statement.
func nested(behind func(k int) api.Stmt) (l []api.Stmt) {
	for k := api.MaxDepth - 1; k >= 0; k-- {
		e := num(7)
		if k > 0 {
			e = variable(numbered(k - 1))
		}
		l = stmts(api.Stmt{Kind: 7, Name: numbered(k), Ex: exprs(e), Body: l}, behind(k))
	}
	return l
}

// TestDeep (P10.1, P10.2): statements as deep as may be: a name is known in all that is within it, and no more behind.
func TestDeep(t *testing.T) {
	p := funcs(api.Func{Name: "f", Body: nested(func(k int) api.Stmt {
		if k == 0 {
			return seal()
		}
		return let("b"+strconv.Itoa(k), variable(numbered(k-1)))
	})})
	has(t, p, 2+2*api.MaxDepth)
	if err := scope.Check(p); err != nil {
		t.Error(err)
	}
	for wrong := range api.MaxDepth {
		p := funcs(api.Func{Name: "f", Body: nested(func(k int) api.Stmt {
			if k == wrong {
				return let("b", variable(numbered(k)))
			}
			return seal()
		})})
		refusedAt(t, p, 2*api.MaxDepth-wrong, api.ErrNone)
	}
}

// TestDeepExpr (P10.1): the name that an expression asks is found as deep as it may be.
func TestDeepExpr(t *testing.T) {
	for _, around := range []func(e api.Expr) api.Expr{
		func(e api.Expr) api.Expr { return api.Expr{Kind: 5, Name: "b", Kids: exprs(e)} },
		func(e api.Expr) api.Expr { return api.Expr{Kind: 3, Op: 1, Kids: exprs(e, num(1))} },
		func(e api.Expr) api.Expr {
			return api.Expr{Kind: 3, Op: 14, Kids: exprs(api.Expr{Kind: 4, Name: "b"}, e)}
		},
	} {
		for _, e := range exprs(variable("x"), api.Expr{Kind: 4, Name: "x"}) {
			for range api.MaxDepth - 1 {
				e = around(e)
			}
			f := api.Func{Name: "f", Params: []api.Param{{Name: "b"}}, Body: stmts(seal()), Ret: exprs(e)}
			refusedAt(t, funcs(f), 2, api.ErrNone)
			f.Params = append(f.Params, api.Param{Name: "x"})
			if err := scope.Check(funcs(f)); err != nil {
				t.Error(err)
			}
		}
	}
}
