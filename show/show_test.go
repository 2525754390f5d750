package show_test

import (
	"reflect"
	"slices"
	"strings"
	"testing"

	"sacristy/api"
	"sacristy/expr"
	"sacristy/lex"
	"sacristy/show"
)

// shows asks that p is shown so.
func shows(t *testing.T, p api.Prog, want string) {
	t.Helper()
	if s, wrong := show.Show(p); wrong != api.OK || s != want {
		t.Errorf("Show: %v\n%s\nnot\n%s", wrong, short(s), short(want))
	}
}

// TestShowExample (P9.1): the chapter's, and the one of the chapter that programs have.
func TestShowExample(t *testing.T) {
	shows(t, funcs(api.Func{Name: "f", Params: []api.Param{{Name: "n"}}, Body: stmts(let("x", variable("n"))), Ret: exprs(variable("x"))}),
		"fn f ( num n ) {\n  let x = n ;\n} = x ;\n")
	shows(t, funcs(api.Func{
		Name:   "main",
		Params: []api.Param{{Name: "n"}, {Name: "k", Buf: true, Sec: true}},
		Body: stmts(
			let("x", length("k")),
			api.Stmt{Kind: api.StWhile, Ex: exprs(two(api.InSltu, variable("x"), variable("n"))), Body: stmts(
				api.Stmt{Kind: api.StSet, Name: "x", Ex: exprs(two(api.InAdd, variable("x"), num(1)))},
			)},
		),
		Ret: exprs(variable("x")),
	}), "fn main ( num n , view secret k ) {\n  let x = # k ;\n  while ( x < n ) {\n    x = ( x + 1 ) ;\n  }\n} = x ;\n")
}

// TestShowFuncs (P9.1): functions, their params, and Ret.
func TestShowFuncs(t *testing.T) {
	shows(t, api.Prog{}, "")
	shows(t, api.Prog{Funcs: []api.Func{}}, "")
	shows(t, in(), "fn f ( ) {\n} ;\n")
	shows(t, in(seal()), "fn f ( ) {\n  seal ;\n} ;\n")
	shows(t, funcs(api.Func{Name: "f", Ret: exprs(num(0))}), "fn f ( ) {\n} = 0 ;\n")
	shows(t, funcs(api.Func{Name: "f", Ret: exprs(two(api.InAdd, variable("a"), num(1))), Sec: true}), "fn f ( ) {\n} = secret ( a + 1 ) ;\n")
	shows(t, funcs(api.Func{Name: "f"}, api.Func{Name: "g", Body: seals(2), Ret: exprs(num(7))}, api.Func{Name: "f", Body: seals(1)}),
		"fn f ( ) {\n} ;\nfn g ( ) {\n  seal ;\n  seal ;\n} = 7 ;\nfn f ( ) {\n  seal ;\n} ;\n")
	var all []api.Param
	var texts []string
	for s, p := range map[string]api.Param{
		"num a":         {Name: "a"},
		"secret a":      {Name: "a", Sec: true},
		"view a":        {Name: "a", Buf: true},
		"view secret a": {Name: "a", Buf: true, Sec: true},
		"edit a":        {Name: "a", Buf: true, Mut: true},
		"edit secret a": {Name: "a", Buf: true, Sec: true, Mut: true},
	} {
		shows(t, funcs(api.Func{Name: "f", Params: []api.Param{p}}), "fn f ( "+s+" ) {\n} ;\n")
		all, texts = append(all, p), append(texts, s)
		shows(t, funcs(api.Func{Name: "f", Params: all}), "fn f ( "+strings.Join(texts, " , ")+" ) {\n} ;\n")
	}
}

// plains is statements without blocks, each with its line, written out by hand.
func plains() map[string]api.Stmt {
	a, b := variable("a"), variable("b")
	return map[string]api.Stmt{
		"let x = a ;":                           {Kind: api.StLet, Name: "x", Ex: exprs(a)},
		"let secret x = ( a + b ) ;":            {Kind: api.StLet, Name: "x", Sec: true, Ex: exprs(two(api.InAdd, a, b))},
		"x = a [ b ] ;":                         {Kind: api.StSet, Name: "x", Ex: exprs(byteOf("a", b))},
		"buf x [ 8 ] ;":                         {Kind: api.StBuf, Name: "x", Ex: exprs(num(8))},
		"buf secret x [ # a ] ;":                {Kind: api.StBuf, Name: "x", Sec: true, Ex: exprs(length("a"))},
		"x [ a ] = b ;":                         {Kind: api.StPut, Name: "x", Ex: exprs(a, b)},
		"x [ x [ 0 ] ] = x [ 1 ] ;":             {Kind: api.StPut, Name: "x", Ex: exprs(byteOf("x", num(0)), byteOf("x", num(1)))},
		"move x = y ;":                          {Kind: api.StMove, Name: "x", From: "y"},
		"open x = a ;":                          {Kind: api.StOpen, Name: "x", Ex: exprs(a)},
		"call f ( ; ) ;":                        {Kind: api.StCall, From: "f"},
		"call x = f ( ; ) ;":                    {Kind: api.StCall, Name: "x", From: "f"},
		"call f ( a ; ) ;":                      {Kind: api.StCall, From: "f", Ex: exprs(a)},
		"call f ( ; a ) ;":                      {Kind: api.StCall, From: "f", Args: []string{"a"}},
		"call f ( a , b ; ) ;":                  {Kind: api.StCall, From: "f", Ex: exprs(a, b)},
		"call f ( ; a , b ) ;":                  {Kind: api.StCall, From: "f", Args: []string{"a", "b"}},
		"call x = f ( a , 1 , # b ; v , w ) ;":  {Kind: api.StCall, Name: "x", From: "f", Ex: exprs(a, num(1), length("b")), Args: []string{"v", "w"}},
		"seal ;":                                {Kind: api.StSeal},
		"let x = 18446744073709551615 ;":        {Kind: api.StLet, Name: "x", Ex: exprs(num(1<<64 - 1))},
		"a234567890123456 = a234567890123456 ;": {Kind: api.StSet, Name: "a234567890123456", Ex: exprs(variable("a234567890123456"))},
	}
}

// TestShowPlain (P9.1): each statement without blocks is one line, as deep as it stands.
func TestShowPlain(t *testing.T) {
	for s, x := range plains() {
		shows(t, in(x), "fn f ( ) {\n  "+s+"\n} ;\n")
		shows(t, in(x, x), "fn f ( ) {\n  "+s+"\n  "+s+"\n} ;\n")
		shows(t, in(ifs(stmts(x), nil)), "fn f ( ) {\n  if 1 {\n    "+s+"\n  }\n} ;\n")
		shows(t, in(ifs(nil, stmts(x, seal()))), "fn f ( ) {\n  if 1 {\n  } else {\n    "+s+"\n    seal ;\n  }\n} ;\n")
	}
}

// blocked is statements with blocks, each with its first line.
func blocked(l []api.Stmt) map[string]api.Stmt {
	a, b := variable("a"), variable("b")
	return map[string]api.Stmt{
		"if a {":                              {Kind: api.StIf, Ex: exprs(a), Body: l},
		"while ( a < b ) {":                   {Kind: api.StWhile, Ex: exprs(two(api.InSltu, a, b)), Body: l},
		"for i < ( a < b ) {":                 {Kind: api.StFor, Name: "i", Ex: exprs(two(api.InSltu, a, b)), Body: l},
		"view v = w [ a .. b ] {":             {Kind: api.StView, Name: "v", From: "w", Ex: exprs(a, b), Body: l},
		"edit v = w [ 0 .. # w ] {":           {Kind: api.StView, Name: "v", From: "w", Mut: true, Ex: exprs(num(0), length("w")), Body: l},
		"view v = v [ v [ 0 ] .. v [ 1 ] ] {": {Kind: api.StView, Name: "v", From: "v", Ex: exprs(byteOf("v", num(0)), byteOf("v", num(1))), Body: l},
	}
}

// TestShowBlocks (P9.1): statements with blocks: with nothing in them, with more, one within the other.
func TestShowBlocks(t *testing.T) {
	for _, none := range [][]api.Stmt{nil, {}} {
		for s, x := range blocked(none) {
			shows(t, in(x), "fn f ( ) {\n  "+s+"\n  }\n} ;\n")
		}
	}
	for s, x := range blocked(seals(2)) {
		shows(t, in(x, seal()), "fn f ( ) {\n  "+s+"\n    seal ;\n    seal ;\n  }\n  seal ;\n} ;\n")
		for r, y := range blocked(stmts(x, seal())) {
			shows(t, in(seal(), y), "fn f ( ) {\n  seal ;\n  "+r+"\n    "+s+"\n      seal ;\n      seal ;\n    }\n    seal ;\n  }\n} ;\n")
		}
	}
}

// TestShowElse (P9.1): an Else without statements has no line, whatever Body has; each other one has, at its if's depth.
func TestShowElse(t *testing.T) {
	one := seals(1)
	for _, none := range [][]api.Stmt{nil, {}} {
		shows(t, in(ifs(none, none)), "fn f ( ) {\n  if 1 {\n  }\n} ;\n")
		shows(t, in(ifs(one, none)), "fn f ( ) {\n  if 1 {\n    seal ;\n  }\n} ;\n")
		shows(t, in(ifs(none, one)), "fn f ( ) {\n  if 1 {\n  } else {\n    seal ;\n  }\n} ;\n")
	}
	shows(t, in(ifs(one, seals(2)), seal()), "fn f ( ) {\n  if 1 {\n    seal ;\n  } else {\n    seal ;\n    seal ;\n  }\n  seal ;\n} ;\n")
	shows(t, in(ifs(stmts(ifs(nil, one)), nil)), "fn f ( ) {\n  if 1 {\n    if 1 {\n    } else {\n      seal ;\n    }\n  }\n} ;\n")
	shows(t, in(ifs(stmts(ifs(nil, nil)), one)), "fn f ( ) {\n  if 1 {\n    if 1 {\n    }\n  } else {\n    seal ;\n  }\n} ;\n")
	shows(t, in(ifs(nil, stmts(ifs(nil, one)))), "fn f ( ) {\n  if 1 {\n  } else {\n    if 1 {\n    } else {\n      seal ;\n    }\n  }\n} ;\n")
	shows(t, in(ifs(nil, stmts(ifs(one, nil), seal()))), "fn f ( ) {\n  if 1 {\n  } else {\n    if 1 {\n      seal ;\n    }\n    seal ;\n  }\n} ;\n")
}

// TestShowScattered (P9.1): scattered programs have the lines that their pieces, told in another way, are cut into.
func TestShowScattered(t *testing.T) {
	c, statements := chance(1), 0
	for k := range 6000 {
		p := c.prog(1+k%5, 1+k%6)
		shows(t, p, inLines(told(p)))
		for _, f := range p.Funcs {
			statements += len(f.Body)
		}
	}
	if statements < 10000 {
		t.Errorf("%d statements", statements)
	}
	for kind := uint8(1); kind <= 12; kind++ {
		for range 200 {
			p := in(c.stmt(kind, 3), c.stmt(kind, 2))
			shows(t, p, inLines(told(p)))
		}
	}
}

// TestShowExprs (P9.1): each Op, wherever an expression stands.
func TestShowExprs(t *testing.T) {
	for op := uint8(1); op <= 14; op++ {
		s := "( a " + ops()[op] + " 2 )"
		e := two(op, variable("a"), num(2))
		shows(t, funcs(api.Func{Name: "f", Body: stmts(let("x", e), api.Stmt{Kind: api.StView, Name: "v", From: "b", Ex: exprs(e, e)}, api.Stmt{Kind: api.StCall, From: "g", Ex: exprs(e, e)}), Ret: exprs(e)}),
			"fn f ( ) {\n  let x = "+s+" ;\n  view v = b [ "+s+" .. "+s+" ] {\n  }\n  call g ( "+s+" , "+s+" ; ) ;\n} = "+s+" ;\n")
	}
}

// deepExpr is an expression that is as deep as one may be.
func deepExpr() api.Expr {
	e := num(3)
	for k := range 13 {
		e = byteOf("b", two(uint8(1+k), two(api.InAdd, num(1), e), variable("a")))
	}
	return e
}

// bushy is an expression that is so deep, and as wide as one may be.
func bushy(deep int) api.Expr {
	if deep == 1 {
		return variable("a")
	}
	return two(uint8(1+deep%14), bushy(deep-1), bushy(deep-1))
}

// TestShowLimits (P9.1): at each limit all is as below it.
func TestShowLimits(t *testing.T) {
	deep := seals(1)
	for range 39 {
		deep = stmts(ifs(nil, deep))
	}
	shows(t, in(deep...), inLines(told(in(deep...))))
	if s, _ := show.Show(in(deep...)); !strings.Contains(s, " else {\n"+strings.Repeat(" ", 80)+"seal ;\n"+strings.Repeat(" ", 78)+"}\n"+strings.Repeat(" ", 76)+"}\n") {
		t.Errorf("40 deep: %q", short(s))
	}
	e := deepExpr()
	if expr.Check(e) != api.OK || expr.Check(byteOf("b", e)) == api.OK {
		t.Error("not as deep as may be")
	}
	call := api.Stmt{Kind: api.StCall, Name: "x", From: "g", Ex: slices.Repeat(exprs(e), 8), Args: slices.Repeat([]string{"a234567890123456"}, 8)}
	param := api.Param{Name: "a", Buf: true, Sec: true, Mut: true}
	f := api.Func{Name: "f", Params: slices.Repeat([]api.Param{param}, 8), Body: slices.Repeat(stmts(call), 25), Ret: exprs(e), Sec: true}
	p := funcs(slices.Repeat([]api.Func{f}, 16)...)
	shows(t, p, inLines(told(p)))
	if s, _ := show.Show(p); strings.Count(s, "\n") != 16*27 {
		t.Errorf("%d lines", strings.Count(s, "\n"))
	}
	shows(t, in(let("x", bushy(16))), "fn f ( ) {\n  let x = "+toldExpr(bushy(16))+" ;\n} ;\n")
}

// TestShowLines (P9.1): each line ends with the byte 10, has no other blanks than those ahead and one between two tokens, and as many ahead as it is deep.
func TestShowLines(t *testing.T) {
	c := chance(2)
	for range 500 {
		p := c.prog(3, 4)
		s, wrong := show.Show(p)
		if wrong != api.OK || len(p.Funcs) > 0 && !strings.HasSuffix(s, ";\n") {
			t.Fatalf("%v, %q", wrong, short(s))
		}
		for line := range strings.Lines(s) {
			bare := strings.TrimLeft(line, " ")
			l, err := lex.Cut(bare)
			if err != nil || lex.Join(l)+"\n" != bare || (len(line)-len(bare))%2 != 0 {
				t.Fatalf("line %q: %v", line, err)
			}
		}
	}
}

// TestShowKept (R5, R6): what is handed in is not turned, and the same is shown as the same.
func TestShowKept(t *testing.T) {
	for k := range 300 {
		c, d := chance(k), chance(k)
		p, kept := c.prog(3, 4), d.prog(3, 4)
		s, _ := show.Show(p)
		again, wrong := show.Show(p)
		if s != again || wrong != api.OK || !reflect.DeepEqual(p, kept) {
			t.Fatalf("%q, then %q", short(s), short(again))
		}
	}
}
