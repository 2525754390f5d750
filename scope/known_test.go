package scope_test

import (
	"strings"
	"testing"

	"sacristy/api"
)

// ahead stands ahead of all bodies here: a function to be called, and the head of one with params of its own.
const ahead = "fn g(num n) { let m = n; } = m; fn f(num n, edit b) { "

// askers is statements, each of which asks x, in each place where a name can be asked, and other names that are known; they give w, if any.
func askers() []string {
	return []string{
		"let w = x;", "let secret w = x;", "let w = #x;", "let w = x[0];", "let w = b[x];", "let w = (n + x);", "let w = (x + n);", "let w = ((n * #b) - (1 / (n % b[(n ^ x)])));",
		"n = x;", "x = n;", "n = b[#x];",
		"buf w[x];", "buf secret w[x[n]];",
		"b[x] = n;", "b[n] = x;", "x[n] = n;", "b[b[x]] = n;", "b[n] = x[n];",
		"if x { }", "if x { seal; } else { seal; }", "if (n < #x) { } else { }",
		"while x { }", "while (x < n) { seal; }",
		"for w < x { }", "for w < #x { seal; }",
		"view w = x[0 .. n] { }", "view w = b[x .. n] { }", "view w = b[n .. x] { seal; }",
		"edit w = x[0 .. n] { seal; }", "edit w = b[x[1] .. n] { }", "edit w = b[n .. #x] { }",
		"move w = x;",
		"open w = x;", "open w = (n + x[n]);",
		"call g(x;);", "call g(n, x;);", "call g(x, n;);", "call g(;x);", "call g(n; b, x);", "call g(;x, b);", "call w = g(n, #x; b);", "call w = g(n; x);",
	}
}

// givers is statements without blocks that give x, and ask nothing that isn't known.
func givers() []string {
	return []string{
		"let x = 1;", "let x = (n + b[n]);", "let secret x = n;", "buf x[n];", "buf secret x[1];", "move x = b;", "open x = n;", "call x = g(;);", "call x = g(n; b);",
	}
}

// lenders is what stands ahead of the Body of statements that give x for that alone.
func lenders() []string {
	return []string{"for x < 3", "for x < #b", "view x = b[0 .. n]", "edit x = b[n .. #b]"}
}

// TestKnown (P10.1): what a statement gives is known from the next one on, up to its block's end, and in all blocks within.
func TestKnown(t *testing.T) {
	for _, g := range givers() {
		letBe(t, ahead+g+" };")
		letBe(t, ahead+g+" } = x;")
		letBe(t, ahead+g+" } = b[(n + #x)];")
		letBe(t, ahead+"seal; if n { } "+g+" seal; if n { } } = x;")
		refused(t, ahead+"if n { "+g+" } ~} = x;", api.ErrNone)
		refused(t, ahead+"if n { seal; } else { "+g+" } ~} = (n + x);", api.ErrNone)
		for _, a := range askers() {
			letBe(t, ahead+g+" "+a+" };")
			letBe(t, ahead+"seal; "+g+" seal; while n { seal; } "+a+" seal; } = x;")
			letBe(t, ahead+g+" if n { "+a+" } };")
			letBe(t, ahead+g+" if n { } else { seal; "+a+" } };")
			letBe(t, ahead+g+" while n { for i < n { view v = b[0 .. 1] { if n { } else { "+a+" } } } } } = x;")
			letBe(t, ahead+"if n { "+g+" "+a+" } };")
			letBe(t, ahead+"if n { } else { "+g+" if n { let y = 1; } "+a+" } };")
			letBe(t, ahead+"for i < n { "+g+" while n { "+a+" } } };")
			for _, s := range []string{
				"~ASK GIVE", "seal; ~ASK GIVE seal;", "~ASK if n { GIVE }", "if n { ~ASK } GIVE", "if n { ~ASK GIVE  }", "while n { ~ASK GIVE }", "for i < 9 { ~ASK } GIVE", "if n { GIVE } ~ASK", "if n { GIVE } if n { ~ASK }",
				"if n { GIVE } else { ~ASK }", "if n { } else { GIVE } ~ASK", "if n { seal; GIVE seal; seal; } ~ASK", "while n { GIVE } ~ASK", "for i < 9 { GIVE } ~ASK", "view v = b[0 .. 1] { GIVE } ~ASK", "edit v = b[0 .. 1] { if n { GIVE } } ~ASK",
				"if n { if n { GIVE } ~ASK }", "if n { if n { } else { GIVE } } ~ASK", "if n { if n { GIVE } else { ~ASK } }", "while n { ~ASK while n { GIVE } }", "while n { while n { GIVE } ~ASK }",
			} {
				s = strings.NewReplacer("ASK", a, "GIVE", g).Replace(s)
				refused(t, ahead+s+" };", api.ErrNone)
				refused(t, ahead+"let y = n; "+s+" } = z;", api.ErrNone)
			}
		}
	}
}

// TestLent (P10.1): what for and view give is known in their Body alone.
func TestLent(t *testing.T) {
	for _, l := range lenders() {
		letBe(t, ahead+l+" { } };")
		refused(t, ahead+l+" { } ~} = x;", api.ErrNone)
		refused(t, ahead+"if n { "+l+" { } } ~} = #x;", api.ErrNone)
		for _, a := range askers() {
			letBe(t, ahead+l+" { "+a+" } };")
			letBe(t, ahead+"if n { } else { seal; "+l+" { seal; "+a+" seal; } seal; } };")
			letBe(t, ahead+l+" { if n { "+a+" } } };")
			letBe(t, ahead+l+" { while n { } if n { } else { for i < n { "+a+" } } } };")
			for _, s := range []string{
				"GIVE { } ~ASK", "GIVE { seal; } ~ASK", "~ASK GIVE { }", "seal; ~ASK GIVE { seal; }", "if n { GIVE { } ~ASK }", "if n { GIVE { } } ~ASK", "if n { GIVE { seal; } } else { ~ASK }",
				"while n { ~ASK GIVE { } }", "GIVE { let y = 1; } seal; while n { ~ASK }", "GIVE { if n { } } ~ASK",
			} {
				refused(t, ahead+strings.NewReplacer("ASK", a, "GIVE", l).Replace(s)+" };", api.ErrNone)
			}
		}
	}
	for _, s := range []string{"for x < x { }", "for x < #x { }", "view x = x[0 .. 1] { }", "view x = b[x .. 1] { }", "view x = b[0 .. x] { }", "edit x = x[0 .. 1] { x[0] = 1; }", "edit x = b[0 .. #x] { }"} {
		refused(t, ahead+"~"+s+" };", api.ErrNone)
		refused(t, ahead+"if n { let y = 1; ~"+s+" } };", api.ErrNone)
	}
}

// TestOwn (P10.1): what a statement gives is not known to itself.
func TestOwn(t *testing.T) {
	for _, s := range []string{
		"let x = x;", "let secret x = (1 + x);", "let x = #x;", "let x = b[x];", "buf x[x];", "buf x[#x];", "move x = x;", "open x = x;", "call x = g(x;);", "call x = g(;x);", "call x = g(n, n, #x; b);",
	} {
		refused(t, ahead+"~"+s+" };", api.ErrNone)
		refused(t, ahead+"if n { } else { seal; ~"+s+" } };", api.ErrNone)
		refused(t, ahead+"let x = 1; ~"+s+" };", api.ErrHave)
		refused(t, ahead+"if n { let x = 1; } ~"+s+" };", api.ErrNone)
	}
}

// TestParams (P10.1): params are known in all of their function.
func TestParams(t *testing.T) {
	for _, x := range []string{"num x", "secret x", "view x", "view secret x", "edit x", "edit secret x"} {
		head := "fn g() { } = 1; fn f(num n, " + x + ", edit b) { "
		letBe(t, head+"} = x;")
		letBe(t, head+"} = (n + (#b + x[0]));")
		for _, a := range askers() {
			letBe(t, head+a+" } = x;")
			letBe(t, head+"seal; if n { seal; } "+a+" } = n;")
			letBe(t, head+"if n { } else { while n { for i < n { view v = b[0 .. 1] { "+a+" } } } } } = b;")
		}
		for _, g := range append(givers(), "for x < 3 { }", "view x = b[0 .. n] { }", "edit x = b[n .. #b] { }") {
			refused(t, head+"~"+g+" };", api.ErrHave)
			refused(t, head+"seal; if n { } else { for i < n { ~"+g+" } } };", api.ErrHave)
		}
	}
}

// TestHave (P10.1): a name is given once in a function, wherever that was, known or not.
func TestHave(t *testing.T) {
	var all []string
	for _, l := range lenders() {
		all = append(all, l+" { }")
	}
	all = append(all, givers()...)
	for _, one := range all {
		for _, other := range all {
			for _, s := range []string{
				"ONE ~OTHER", "ONE seal; ~OTHER", "if n { ONE } ~OTHER", "if n { ONE } else { ~OTHER }", "if n { } else { ONE } ~OTHER", "ONE if n { ~OTHER }", "ONE if n { } else { while n { ~OTHER } }", "while n { if n { ONE } } for i < n { ~OTHER }",
				"for i < n { ONE } ~OTHER", "view v = b[0 .. 1] { ONE } ~OTHER", "ONE ~OTHER OTHER", "if n { ONE ~OTHER }", "while n { ONE ~OTHER ONE }",
			} {
				s = strings.NewReplacer("ONE", one, "OTHER", other).Replace(s)
				refused(t, ahead+s+" };", api.ErrHave)
				refused(t, ahead+s+" } = z;", api.ErrHave)
			}
			y := strings.Replace(other, "x", "y", 1)
			letBe(t, ahead+one+" "+y+" };")
			letBe(t, ahead+"if n { "+one+" } else { "+y+" } };")
		}
		for _, l := range lenders() {
			refused(t, ahead+l+" { ~"+one+" } };", api.ErrHave)
			refused(t, ahead+l+" { seal; if n { ~"+one+" } } };", api.ErrHave)
			refused(t, ahead+l+" { ~"+one+" "+one+" } };", api.ErrHave)
		}
	}
}
