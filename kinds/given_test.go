package kinds_test

import (
	"slices"
	"strings"
	"testing"
)

// giver is a way to give x: a param, a statement, or one in whose Body alone it is known (its text up to the block), and what may be done with x.
type giver struct {
	param, ahead, around string
	is                   string // num, set, buf, turn, own: all that is so
}

// givers is each way to give x, from each thing from which it may come.
func givers() (l []giver) {
	for _, s := range []string{"num x", "secret x"} {
		l = append(l, giver{param: ", " + s, is: "num"})
	}
	for _, s := range []string{"view x", "view secret x"} {
		l = append(l, giver{param: ", " + s, is: "buf"})
	}
	for _, s := range []string{"edit x", "edit secret x"} {
		l = append(l, giver{param: ", " + s, is: "buf turn"})
	}
	for _, s := range []string{"let x = n;", "let secret x = n;", "let x = (#v + e[k]);"} {
		l = append(l, giver{ahead: s, is: "num set"})
	}
	for _, s := range []string{"open x = n;", "open x = v[n];", "call x = g(n; v);", "call x = h(n; e);", "call x = s(;);", "call x = g(#b; b);"} {
		l = append(l, giver{ahead: s, is: "num"})
	}
	for _, s := range []string{"buf x[n];", "buf secret x[#v];", "move x = b;", "move x = bs;", "move x = c;", "buf x1[n]; move x = x1;", "move x1 = b; move x2 = x1; move x = x2;"} {
		l = append(l, giver{ahead: s, is: "buf turn own"})
	}
	for _, s := range []string{"for x < n", "for x < #v", "for x < v[n]"} {
		l = append(l, giver{around: s, is: "num"})
	}
	for _, s := range []string{"view x = v[0 .. n]", "view x = e[n .. #v]", "view x = b[0 .. 1]", "view x = c[n .. n]", "view y = e[0 .. n] { view x = y[0 .. n]", "edit y = b[0 .. n] { view x = y[0 .. n]"} {
		l = append(l, giver{around: s, is: "buf"})
	}
	for _, s := range []string{"edit x = e[0 .. n]", "edit x = es[0 .. n]", "edit x = b[n .. #v]", "edit x = c[0 .. 1]", "edit y = e[0 .. n] { edit x = y[0 .. n]", "edit y = bs[0 .. n] { edit x = y[0 .. n]"} {
		l = append(l, giver{around: s, is: "buf turn"})
	}
	return l
}

// asker is a statement that asks x, and what x has to be.
type asker struct{ text, as string }

// askers is each way to ask x; they ask other names that are known, and give w and a name behind it, if any.
func askers() (l []asker) {
	for _, x := range []struct {
		as    string
		texts []string
	}{
		{"num", []string{
			"let w = x;", "let secret w = x;", "let w = (n + x);", "let w = (x + n);", "let w = v[x];", "let w = (n * (1 / e[(#v % (n - x))]));",
			"m = x;", "m = v[x];", "buf w[x];", "buf secret w[(x + n)];", "b[x] = n;", "b[n] = x;", "e[(n + x)] = v[x];",
			"if x { }", "if (n < x) { } else { }", "if v[x] { } else { m = n; }", "while x { }", "while (x < n) { }", "for w < x { }", "for w < e[x] { }",
			"view w = v[x .. n] { }", "view w = v[n .. x] { }", "edit w = e[x .. n] { }", "edit w = b[n .. (x + 1)] { }", "open w = x;", "open w = v[(x & n)];",
			"call g(x; v);", "call w = g(x; v);", "call h((n + x); e);", "call two(x, n; v, e);", "call two(n, x; v, e);", "call w = two(v[x], n; v, e);",
		}},
		{"set", []string{"x = n;", "x = 1;", "x = x;", "x = (x + v[x]);", "x = v[n];"}},
		{"buf", []string{
			"let w = #x;", "let secret w = #x;", "let w = x[0];", "let w = (n + #x);", "let w = (x[n] + n);", "let w = v[#x];", "let w = x[v[n]];", "let w = (n * (1 / e[(#v % (n - x[#x]))]));",
			"m = #x;", "m = x[n];", "buf w[#x];", "buf secret w[x[n]];", "b[#x] = n;", "b[n] = x[n];", "e[x[n]] = #x;",
			"if #x { }", "if (n < x[n]) { } else { }", "while #x { }", "while (x[n] < n) { }", "for w < #x { }", "for w < x[0] { }",
			"view w = v[#x .. n] { }", "view w = v[n .. x[n]] { }", "edit w = e[#x .. n] { }", "edit w = b[n .. x[1]] { }", "view w = x[0 .. n] { }", "view w = x[0 .. #x] { let w1 = w[0]; }",
			"open w = #x;", "open w = x[x[n]];",
			"call g(#x; v);", "call w = g(x[n]; v);", "call g(n; x);", "call w = g(n; x);", "call two(n, #x; v, e);", "call two(n, n; x, e);", "call w = two(n, n; x, b);",
		}},
		{"turn", []string{"x[0] = n;", "x[n] = #x;", "edit w = x[0 .. n] { }", "edit w = x[n .. #x] { w[0] = n; }", "call h(n; x);", "call w = h(n; x);", "call two(n, n; v, x);", "call two(n, n; x, x);", "call ed(;v, x, v, b);", "call ed(;v, e, v, x);"}},
		{"own", []string{"move w = x;", "move w = x; w[n] = #w;", "move w = x; move w1 = w;"}},
		{"none", []string{"let w = (x + #x);", "let w = x[x];", "x[x] = n;", "x[n] = x;", "x = #x;", "x = x[n];", "call g(x; x);", "view w = x[x .. n] { }", "edit w = x[0 .. x] { }", "for w < (x < x[n]) { }"}},
	} {
		for _, s := range x.texts {
			l = append(l, asker{text: s, as: x.as})
		}
	}
	return l
}

// callees is functions to be called; their names are given to other things than those of f, which is behind them.
const callees = "fn g(num a, view w) { let x = #w; } = x; fn h(num a, edit w) { buf x[1]; } = x[0]; fn s() { } = secret 1; " +
	"fn two(num a, view w, num x, edit v) { let n = 1; n = x; } = w[n]; fn ed(view x, edit n, view m, edit k) { let v = 1; } = v; "

// head is that of f, to which a param may be added behind.
const head = callees + "fn f(num n, secret k, view v, edit e, edit secret es"

// own is what is owned and set in f.
const own = "buf b[n]; buf secret bs[#v]; buf c0[1]; move c = c0; let m = n; "

// text is f, in which x is given, and asked within body.
func (g giver) text(body string) string {
	s := head + g.param + ") { " + own + g.ahead + " "
	if g.around == "" {
		return s + body
	}
	around := g.around + " { "
	return s + around + body + strings.Repeat(" }", strings.Count(around, "{"))
}

// may tells whether x may be asked so.
func (g giver) may(as string) bool { return slices.Contains(strings.Fields(g.is), as) }

// places is where a statement may stand, within f.
func places() []string {
	return []string{
		"~ASK", "let y1 = n; if n { m = y1; } ~ASK m = n;", "~ASK let y1 = k; y1 = #v;", "if n { ~ASK }", "if n { m = n; } else { e[0] = n; ~ASK }", "while n { ~ASK e[0] = n; }", "for i < n { ~ASK }",
		"view y1 = v[0 .. n] { ~ASK }", "edit y1 = b[0 .. n] { y1[0] = #y1; ~ASK }", "while n { for i < n { view y1 = v[0 .. 1] { if n { } else { ~ASK } } } }",
	}
}

// TestAsked (P11.1): each way to give a name against each way to ask it, wherever that stands: for each two a place of their own.
func TestAsked(t *testing.T) {
	count := map[bool]int{}
	at := 0
	for _, g := range givers() {
		at++ // so that no way to ask is in one place always
		for _, a := range askers() {
			at++
			place := places()[at%len(places())]
			is := g.may(a.as)
			count[is]++
			asked(t, g.text("~"+a.text)+" };", is)
			asked(t, g.text(strings.Replace(place, "ASK", a.text, 1))+" };", is)
			if !is { // the first fault tells, whatever is wrong behind
				refused(t, g.text(strings.Replace(place, "ASK", a.text+" n = v;", 1))+" } = v;")
			}
		}
	}
	if count[true] < 1000 || count[false] < 1000 {
		t.Errorf("%v", count)
	}
}

// TestTails (P11.1): what is asked at the tail, and in the tail of a function ahead of the last one.
func TestTails(t *testing.T) {
	for _, g := range givers() {
		if g.around != "" { // it is not known there
			continue
		}
		for s, as := range map[string]string{
			"x": "num", "secret x": "num", "(n + x)": "num", "(x + n)": "num", "v[x]": "num", "e[(1 - (x / n))]": "num",
			"#x": "buf", "secret #x": "buf", "x[0]": "buf", "x[n]": "buf", "(n + #x)": "buf", "v[#x]": "buf", "x[x[0]]": "buf", "(x + #x)": "none", "x[x]": "none",
		} {
			for _, body := range []string{"", "if n { m = n; } ", "for i < n { e[i] = i; } "} {
				asked(t, g.text(body+"~")+"} = "+s+";", g.may(as))
				asked(t, g.text(body+"~")+"} = "+s+"; fn l(num x1, view x) { let y = #x; };", g.may(as))
			}
		}
	}
}

// TestOthers (P11.1): what a name is in one function says nothing of what it is in another one.
func TestOthers(t *testing.T) {
	for _, g := range givers() {
		for _, a := range askers() {
			ask := g.text("~"+a.text) + " };"
			for _, x := range []string{"num x", "view x", "edit x"} {
				other := " fn f1(" + x + ") { let v = 1; let e = 1; buf n[1]; buf m[1]; let b = 1; let c = 2; b = v; };"
				asked(t, ask+other, g.may(a.as))
				asked(t, other+" "+ask, g.may(a.as))
			}
			other := " fn f1() { buf x[1]; move v = x; let n = #v; let e = 1; e = n; let b = 2; move k = v; };"
			asked(t, other+ask, g.may(a.as))
			other = " fn f1() { let x = 1; x = x; let v = x; let e = 1; for b < 2 { } open c = x; };"
			asked(t, other+ask, g.may(a.as))
		}
	}
}
