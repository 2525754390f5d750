package scope_test

import (
	"errors"
	"strings"
	"testing"

	"sacristy/api"
	"sacristy/lex"
	"sacristy/scope"
	"sacristy/show"
	"sacristy/stmt"
)

// told is p in a message.
func told(p api.Prog) string {
	s, wrong := show.Show(p)
	if wrong != api.OK {
		return wrong.Error()
	}
	return s
}

// parsed is the program of s.
func parsed(t *testing.T, s string) api.Prog {
	t.Helper()
	p, err := stmt.Parse(s)
	if err != nil {
		t.Fatalf("%q: %v", s, err)
	}
	return p
}

// begun is how many items begin in a text, told by its signs alone: one where a function or a statement may begin, and one at the } that ends a function's block.
func begun(t *testing.T, s string) int {
	t.Helper()
	l, err := lex.Cut(s)
	if err != nil {
		t.Fatalf("%q: %v", s, err)
	}
	n, deep, round, begins := 0, 0, 0, true
	for _, x := range l {
		if begins && x.Kind != api.TkEnd && x.Text != "}" && x.Text != "else" {
			n++
		}
		begins = false
		switch x.Text {
		case "{":
			deep++
			begins = true
		case "}":
			deep--
			begins = deep > 0
			if deep == 0 {
				n++
			}
		case "(":
			round++
		case ")":
			round--
		case ";":
			begins = round == 0
		}
	}
	return n
}

// letBe asks that the program of s is let be, and has as many items as its text tells.
func letBe(t *testing.T, s string) {
	t.Helper()
	p := parsed(t, s)
	if err := scope.Check(p); err != nil {
		t.Errorf("%q: %v", s, err)
	}
	has(t, p, begun(t, s))
}

// refused asks for an error at the item ahead of which ~ stands in s.
func refused(t *testing.T, s string, wrong api.Errno) {
	t.Helper()
	ahead, behind, marked := strings.Cut(s, "~")
	if !marked {
		t.Fatalf("%q has no mark", s)
	}
	p := parsed(t, ahead+behind)
	refusedAt(t, p, begun(t, ahead), wrong)
	has(t, p, begun(t, ahead+behind))
}

// refusedAt asks for an error at an item.
func refusedAt(t *testing.T, p api.Prog, at int, wrong api.Errno) {
	t.Helper()
	err := scope.Check(p)
	var f api.Fault
	if err != error(api.Fault{At: at, Err: wrong}) || !errors.As(err, &f) || !errors.Is(err, wrong) {
		t.Errorf("%v, not %v at %d: %.300s", err, wrong, at, told(p))
	}
}

// has asks that p has so many items.
func has(t *testing.T, p api.Prog, want int) {
	t.Helper()
	if n, wrong := scope.Items(p); n != want || wrong != api.OK {
		t.Errorf("%d items, %v, not %d: %.300s", n, wrong, want, told(p))
	}
}

// TestNumbers: those of package api that the chapter names.
func TestNumbers(t *testing.T) {
	if api.ErrArg != 2 || api.ErrNone != 3 || api.ErrHave != 9 || api.MaxDepth != 40 || api.MaxFuncs != 16 || api.MaxParams != 8 || api.MaxStmts != 400 {
		t.Error("numbers of package api")
	}
}

// TestExamples (P10.1): the chapter's, the items' numbers written out by hand.
func TestExamples(t *testing.T) {
	for s, want := range map[string]api.Fault{
		"let x = y;":                       {At: 1, Err: api.ErrNone},
		"if 1 { let x = 1; } let x = 2;":   {At: 3, Err: api.ErrHave},
		"if 1 { let x = 1; } x = 2;":       {At: 3, Err: api.ErrNone},
		"if 1 { } else { seal; } x = 2;":   {At: 3, Err: api.ErrNone},
		"if 1 { seal; } else { x = 2; }":   {At: 3, Err: api.ErrNone},
		"while 1 { for i < 2 { } } x = 2;": {At: 3, Err: api.ErrNone},
	} {
		refusedAt(t, parsed(t, "fn f() { "+s+" };"), want.At, want.Err)
		refusedAt(t, parsed(t, "fn f(num a) { "+s+" } = a;"), want.At, want.Err)
		refusedAt(t, parsed(t, "fn g() { seal; }; fn f() { "+s+" };"), 3+want.At, want.Err)
		refusedAt(t, parsed(t, "fn g() { if 1 { seal; } else { seal; } }; fn h() { }; fn f() { "+s+" };"), 7+want.At, want.Err)
	}
	refusedAt(t, parsed(t, "fn f() { } = x;"), 1, api.ErrNone)
	refusedAt(t, parsed(t, "fn f() { seal; } = x;"), 2, api.ErrNone)
	refusedAt(t, parsed(t, "fn f(num a, num a) { };"), 0, api.ErrHave)
	refusedAt(t, parsed(t, "fn f() { seal; }; fn f() { };"), 3, api.ErrHave)
}

// TestItems (P10.2): how many items programs have, written out by hand.
func TestItems(t *testing.T) {
	has(t, api.Prog{}, 0)
	has(t, api.Prog{Funcs: []api.Func{}}, 0)
	for s, n := range map[string]int{
		"":                                    0,
		"fn f(){};":                           2,
		"fn f(num a, view b){}=secret a;":     2,
		"fn f(){};fn f(){};":                  4,
		"fn f(){seal;};":                      3,
		"fn f(){seal;seal;}=1;":               4,
		"fn f(){if 1{}};":                     3,
		"fn f(){if 1{}else{}};":               3,
		"fn f(){if 1{seal;}};":                4,
		"fn f(){if 1{seal;}else{seal;}};":     5,
		"fn f(){if 1{}else{seal;seal;}};":     5,
		"fn f(){while 1{seal;}};":             4,
		"fn f(){for i<1{seal;}};":             4,
		"fn f(){view v=b[0..1]{seal;}};":      4,
		"fn f(){edit v=b[0..1]{seal;}seal;};": 5,
		"fn f(){let x=(a+(b*c));call g(x,#b,b[1];b,b);}=(x+1);":         4,
		"fn f(){if 1{if 2{if 3{seal;}else{seal;}}else{seal;}}seal;};":   9,
		"fn f(){seal;};fn g(){while 1{seal;seal;}};fn h(){seal;seal;};": 12,
	} {
		has(t, parsed(t, s), n)
		if m := begun(t, s); m != n {
			t.Errorf("%q: %d begin", s, m)
		}
	}
}

// TestHeads (P10.1): functions' names, and their params'.
func TestHeads(t *testing.T) {
	letBe(t, "")
	letBe(t, "fn f() { };")
	letBe(t, "fn f() { }; fn g() { }; fn h() { };")
	refused(t, "fn f() { }; ~fn f() { };", api.ErrHave)
	refused(t, "fn f() { }; fn g() { seal; }; ~fn f() { };", api.ErrHave)
	refused(t, "fn f() { }; fn g() { }; ~fn g() { }; fn f() { };", api.ErrHave)
	refused(t, "fn f() { }; ~fn f(num a, num a) { x = 1; } = y;", api.ErrHave)
	refused(t, "fn f() { ~x = 1; }; fn f() { };", api.ErrNone)
	refused(t, "fn f() { ~} = x; fn f() { };", api.ErrNone)
	all := []string{"num ", "secret ", "view ", "view secret ", "edit ", "edit secret "}
	for _, x := range all {
		letBe(t, "fn f("+x+"a) { } = a;")
		letBe(t, "fn f("+x+"f) { } = f;")
		for _, y := range all {
			letBe(t, "fn f("+x+"a, "+y+"b) { };")
			letBe(t, "fn f("+x+"a) { }; fn g("+y+"a) { };")
			refused(t, "~fn f("+x+"a, "+y+"a) { };", api.ErrHave)
			refused(t, "fn g() { }; ~fn f(num b, "+x+"a, num c, view d, "+y+"a) { x = 1; };", api.ErrHave)
		}
	}
}

// TestSpaces (P10.1): names of functions and those within them have nothing to do with each other, nor those of one function with those of another one.
func TestSpaces(t *testing.T) {
	letBe(t, "fn f(num f) { let g = f; f = g; } = f; fn g() { let f = 1; let g = f; call h = f(f;); call i = f(g;); } = h;")
	letBe(t, "fn f(num a) { let x = a; for i < x { } view v = a[0 .. 1] { } } = x; fn g(num a) { let x = a; for i < x { } view v = a[0 .. 1] { } } = x;")
	letBe(t, "fn f(num a) { let x = a; }; fn g(num x) { let a = x; };")
	refused(t, "fn f(num a) { }; fn g() { ~} = a;", api.ErrNone)
	refused(t, "fn f(num a) { }; fn g() { ~a = 1; };", api.ErrNone)
	refused(t, "fn f() { let x = 1; }; fn g() { ~} = x;", api.ErrNone)
	refused(t, "fn f() { ~} = f;", api.ErrNone)
	refused(t, "fn f() { }; fn g() { ~let x = f; };", api.ErrNone)
	refused(t, "fn f(num a) { ~call a(;); };", api.ErrNone)
	refused(t, "fn f() { let x = 1; ~call x(;); };", api.ErrNone)
	refused(t, "fn f() { }; fn g() { ~call f(;f); };", api.ErrNone)
}

// TestCalls (P10.1): a call asks for a function ahead: neither for its own, nor for one behind.
func TestCalls(t *testing.T) {
	letBe(t, "fn f() { }; fn g() { call f(;); call x = f(;); }; fn h(view b) { call f(;); call x = g(1, #b; b, b); if 1 { call g(x;); } };")
	for _, call := range []string{"call %(;);", "call x = %(;);", "call %(1, 2;);", "call %(;b);", "call x = %(1; b, b);"} {
		to := func(f string) string { return strings.Replace(call, "%", f, 1) }
		letBe(t, "fn f() { }; fn g(view b) { "+to("f")+" };")
		letBe(t, "fn f() { }; fn g() { }; fn h(view b) { if 1 { } else { "+to("f")+" } "+strings.Replace(to("g"), "x", "y", 1)+" };")
		refused(t, "fn f(view b) { ~"+to("f")+" };", api.ErrNone)
		refused(t, "fn f(view b) { while 1 { ~"+to("f")+" } };", api.ErrNone)
		refused(t, "fn f(view b) { ~"+to("g")+" }; fn g() { };", api.ErrNone)
		refused(t, "fn f() { }; fn g(view b) { seal; ~"+to("g")+" };", api.ErrNone)
		refused(t, "fn f() { }; fn g(view b) { ~"+to("h")+" }; fn h() { };", api.ErrNone)
		refused(t, "fn f(view b) { let x = 1; ~"+to("h")+" };", api.ErrNone)
	}
	refused(t, "fn f() { }; fn g(num x) { ~call x = f(;); };", api.ErrHave)
	refused(t, "fn f() { }; fn g(num x) { ~call x = g(;); };", api.ErrNone)
	refused(t, "fn f() { }; fn g(num x) { ~call x = f(y;); };", api.ErrNone)
	refused(t, "fn f() { }; fn g(num x) { ~call x = f(;y); };", api.ErrNone)
	refused(t, "fn f() { }; fn g() { ~call x = f(x;); };", api.ErrNone)
	refused(t, "fn f() { }; fn g() { ~call x = f(;x); };", api.ErrNone)
	refused(t, "fn f() { }; fn g(num a) { ~call x = f(a, a, b, a; a, a); };", api.ErrNone)
	refused(t, "fn f() { }; fn g(num a) { ~call x = f(a; a, a, b, a); };", api.ErrNone)
}
