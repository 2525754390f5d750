package kinds_test

import (
	"errors"
	"strings"
	"testing"

	"sacristy/api"
	"sacristy/kinds"
	"sacristy/lex"
	"sacristy/scope"
	"sacristy/show"
	"sacristy/stmt"
)

// told is p in a message.
func told(p api.Prog) string {
	s, wrong := show.Show(p)
	if wrong != api.OK {
		return wrong.Error()
	}
	return s
}

// parsed is the program of s.
func parsed(t *testing.T, s string) api.Prog {
	t.Helper()
	p, err := stmt.Parse(s)
	if err != nil {
		t.Fatalf("%q: %v", s, err)
	}
	return p
}

// begun is how many items begin in a text, told by its signs alone: one where a function or a statement may begin, and one at the } that ends a function's block.
func begun(t *testing.T, s string) int {
	t.Helper()
	l, err := lex.Cut(s)
	if err != nil {
		t.Fatalf("%q: %v", s, err)
	}
	n, deep, round, begins := 0, 0, 0, true
	for _, x := range l {
		if begins && x.Kind != api.TkEnd && x.Text != "}" && x.Text != "else" {
			n++
		}
		begins = false
		switch x.Text {
		case "{":
			deep++
			begins = true
		case "}":
			deep--
			begins = deep > 0
			if deep == 0 {
				n++
			}
		case "(":
			round++
		case ")":
			round--
		case ";":
			begins = round == 0
		}
	}
	return n
}

// known is the program of s, in which each name has to be known.
func known(t *testing.T, s string) api.Prog {
	t.Helper()
	p := parsed(t, s)
	if err := scope.Check(p); err != nil {
		t.Errorf("%q: scope: %v", s, err)
	}
	return p
}

// letBe asks that the program of s is let be; a mark ~ says nothing.
func letBe(t *testing.T, s string) {
	t.Helper()
	s = strings.ReplaceAll(s, "~", "")
	if err := kinds.Check(known(t, s)); err != nil {
		t.Errorf("%q: %v", s, err)
	}
}

// refused asks for ErrType at the item ahead of which ~ stands in s.
func refused(t *testing.T, s string) {
	t.Helper()
	ahead, behind, marked := strings.Cut(s, "~")
	if !marked {
		t.Fatalf("%q has no mark", s)
	}
	refusedAt(t, known(t, ahead+behind), begun(t, ahead), api.ErrType)
}

// asked asks that the program of s is let be, or else for ErrType at the mark.
func asked(t *testing.T, s string, is bool) {
	t.Helper()
	if is {
		letBe(t, s)
	} else {
		refused(t, s)
	}
}

// refusedAt asks for an error at an item.
func refusedAt(t *testing.T, p api.Prog, at int, wrong api.Errno) {
	t.Helper()
	err := kinds.Check(p)
	var f api.Fault
	if err != error(api.Fault{At: at, Err: wrong}) || !errors.As(err, &f) || !errors.Is(err, wrong) {
		t.Errorf("%v, not %v at %d: %.600s", err, wrong, at, told(p))
	}
}

// TestNumbers: those of package api that the chapter names.
func TestNumbers(t *testing.T) {
	if api.ErrArg != 2 || api.ErrNone != 3 || api.ErrType != 8 || api.ErrHave != 9 {
		t.Error("numbers of package api")
	}
}

// TestExamples (P11.1): the chapter's, and others, the items' numbers written out by hand.
func TestExamples(t *testing.T) {
	for s, at := range map[string]int{
		"fn f(view b) { let x = b; };":                               1,
		"fn f(view b) { b[0] = 1; };":                                1,
		"fn f(view b) { } = b;":                                      1,
		"fn f(num a) { } = #a;":                                      1,
		"fn f(num a) { a = 1; };":                                    1,
		"fn f(view b) { seal; } = b;":                                2,
		"fn f() { seal; }; fn g() { };":                              1,
		"fn f() { }; fn g() { call f(1;); };":                        3,
		"fn f() { }; fn g() { let a = 1; call x = f(;); };":          4,
		"fn f() { if 1 { } else { let a = 1; } let b = 1; } = #b;":   4,
		"fn f(num c) { if 1 { let a = 1; } else { c = 1; } };":       3,
		"fn f(num c) { if 1 { let a = 1; } c = 1; };":                3,
		"fn f(num c) { while 1 { for i < 2 { i = 1; } } };":          3,
		"fn f() { buf b[1]; if b { let x = b; } };":                  2,
		"fn f() { let x = 1; if 1 { move y = x; } } = #x;":           3,
		"fn f() { }; fn g() { }; fn h(edit b) { move c = b; } = #b;": 5,
	} {
		refusedAt(t, parsed(t, s), at, api.ErrType)
	}
	for _, s := range []string{
		"", "fn f() { };", "fn f(edit b) { b[0] = 1; } = #b;", "fn f(num n) { let x = n; x = (x + n); } = x;", "fn f() { seal; };", "fn f() { }; fn g() { call f(;); seal; };",
		"fn f(num n, view k) { let x = #k; while (x < n) { x = (x + 1); } } = x;",
		"fn f(edit b) { for i < #b { b[i] = i; } }; fn g(num n) { buf b[n]; call f(;b); move c = b; edit d = c[0 .. n] { call f(;d); } view d1 = c[0 .. n] { open x = d1[0]; } };",
	} {
		letBe(t, s)
	}
}
