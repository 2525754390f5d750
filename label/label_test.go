package label_test

import (
	"errors"
	"strings"
	"testing"

	"sacristy/api"
	"sacristy/kinds"
	"sacristy/label"
	"sacristy/scope"
	"sacristy/show"
	"sacristy/stmt"
)

// told is p in a message.
func told(p api.Prog) string {
	s, wrong := show.Show(p)
	if wrong != api.OK {
		return wrong.Error()
	}
	return s
}

// parsed is the program of s.
func parsed(t *testing.T, s string) api.Prog {
	t.Helper()
	p, err := stmt.Parse(s)
	if err != nil {
		t.Fatalf("%q: %v", s, err)
	}
	return p
}

// marked is the program of s, and the number of the item ahead of which the mark ~ stands in it: there scope refuses a statement that asks what is not known.
func marked(t *testing.T, s string) (p api.Prog, at int) {
	t.Helper()
	ahead, behind, is := strings.Cut(s, "~")
	if !is {
		t.Fatalf("%q has no mark", s)
	}
	var f api.Fault
	if err := scope.Check(parsed(t, ahead+"nowhere = 0; "+behind)); !errors.As(err, &f) || f.Err != api.ErrNone {
		t.Fatalf("%q: %v", s, err)
	}
	return parsed(t, ahead+behind), f.At
}

// kindly asks that the things of p are of the kinds that are asked.
func kindly(t *testing.T, p api.Prog) {
	t.Helper()
	if err := kinds.Check(p); err != nil {
		t.Errorf("kinds: %v: %.900s", err, told(p))
	}
}

// lets asks that p is let be.
func lets(t *testing.T, p api.Prog) {
	t.Helper()
	kindly(t, p)
	if err := label.Check(p); err != nil {
		t.Errorf("%v: %.900s", err, told(p))
	}
}

// letBe asks that the program of s is let be; a mark ~ says nothing.
func letBe(t *testing.T, s string) {
	t.Helper()
	lets(t, parsed(t, strings.ReplaceAll(s, "~", "")))
}

// refused asks for ErrSecret at the item ahead of which ~ stands in s.
func refused(t *testing.T, s string) {
	t.Helper()
	p, at := marked(t, s)
	kindly(t, p)
	refusedAt(t, p, at, api.ErrSecret)
}

// asked asks that the program of s is let be, or else for ErrSecret at the mark.
func asked(t *testing.T, s string, is bool) {
	t.Helper()
	if is {
		letBe(t, s)
	} else {
		refused(t, s)
	}
}

// refusedAt asks for an error at an item.
func refusedAt(t *testing.T, p api.Prog, at int, wrong api.Errno) {
	t.Helper()
	err := label.Check(p)
	var f api.Fault
	if err != error(api.Fault{At: at, Err: wrong}) || !errors.As(err, &f) || !errors.Is(err, wrong) {
		t.Errorf("%v, not %v at %d: %.900s", err, wrong, at, told(p))
	}
}

// TestNumbers: those of package api that the chapter names.
func TestNumbers(t *testing.T) {
	if api.ErrArg != 2 || api.ErrNone != 3 || api.ErrType != 8 || api.ErrHave != 9 || api.ErrSecret != 120 {
		t.Error("numbers of package api")
	}
}

// TestExamples (P12.1): the chapter's, and others, the items' numbers written out by hand.
func TestExamples(t *testing.T) {
	for s, at := range map[string]int{
		"fn f(secret k) { if k { } };":                                           1,
		"fn f(secret k, view b) { let x = b[k]; };":                              1,
		"fn f(secret k) { } = k;":                                                1,
		"fn f(secret k) { let x = k; } = x;":                                     1,
		"fn f(secret k) { let x = 1; x = (x + k); } = x;":                        2,
		"fn f(secret k) { let secret x = 1; } = x;":                              2,
		"fn f(view secret b) { } = b[0];":                                        1,
		"fn f(view secret b) { view v = b[0 .. 1] { } } = (1 + b[0]);":           2,
		"fn f(secret k, edit b) { b[0] = 1; b[1] = k; };":                        2,
		"fn f(secret k, edit secret b) { b[0] = k; b[k] = 1; };":                 2,
		"fn f(secret k) { if 1 { } else { while k { } } };":                      2,
		"fn f(secret k) { for i < 2 { let x = i; } for j < k { } };":             3,
		"fn f(secret k) { buf b[k]; };":                                          1,
		"fn f(secret k) { let secret x = (1 / k); };":                            1,
		"fn f(secret k) { let secret x = (k % 1); } = secret x;":                 1,
		"fn f(secret k) { } = secret (2 - (k / 2));":                             1,
		"fn f() { let secret x = 1; seal; };":                                    2,
		"fn f(secret k) { let x = 1; if x { seal; } };":                          3,
		"fn f(num n) { }; fn g(secret k) { call f(k;); };":                       3,
		"fn f(view b) { }; fn g(view secret b) { call f(;b); };":                 3,
		"fn f(view secret b) { }; fn g(view b) { let x = 1; call f(;b); };":      4,
		"fn f() { } = secret 1; fn g() { call x = f(;); } = x;":                  4,
		"fn f(secret k) { } = secret k; fn g() { call x = f(1;); while x { } };": 4,
		"fn f(secret k) { } = k; fn g(secret k) { if k { } };":                   1,
		"fn f(num k) { } = k; fn g(secret k) { if 1 { if k { } } };":             4,
		"fn f(num n) { } = secret n; fn g() { if 1 { call x = f(1;); seal; } };": 5,
	} {
		p := parsed(t, s)
		kindly(t, p)
		refusedAt(t, p, at, api.ErrSecret)
	}
	for _, s := range []string{
		"fn f() { buf secret b[1]; move c = b; move d = c; open x = d[0]; } = #d;",
		"fn f(secret k) { open x = k; if x { } };",
		"fn f(secret k) { open x = (k & 1); let y = x; while y { y = 0; } } = y;",
		"fn f(secret k, edit secret b) { b[0] = k; let secret x = b[#b]; };",
		"fn f() { if 1 { let secret x = 1; x = 2; } else { seal; } seal; };",
		"fn f(view secret b) { seal; for i < #b { seal; } };",
		"fn f(num n) { } = secret n; fn g() { call f(1;); seal; };",
		"fn f(num n) { } = secret n; fn g() { if 1 { call x = f(1;); } seal; };",
		"",
	} {
		letBe(t, s)
	}
}
