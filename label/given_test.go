package label_test

import (
	"slices"
	"strings"
	"testing"
)

// giver is a way to give x: a param, a statement, or one in whose Body alone it is known (its text up to the block).
type giver struct {
	param, ahead, around string
	is                   string // num, set, buf, turn, own: all that is so
	sec                  bool
}

// givers is each way to give x, from each thing from which it may come.
func givers() (l []giver) {
	param := func(is string, sec bool, s string) { l = append(l, giver{param: ", " + s, is: is, sec: sec}) }
	param("num", false, "num x")
	param("num", true, "secret x")
	param("buf", false, "view x")
	param("buf", true, "view secret x")
	param("buf turn", false, "edit x")
	param("buf turn", true, "edit secret x")
	ahead := func(is string, sec bool, texts ...string) {
		for _, s := range texts {
			l = append(l, giver{ahead: s, is: is, sec: sec})
		}
	}
	ahead("num set", false, "let x = n;", "let x = #vs;", "let x = (v[n] / 7);", "let x0 = n; let x = x0; x = n;")
	ahead("num set", true, "let secret x = k;", "let secret x = n;", "let secret x = (vs[n] + k);", "let secret x0 = n; let secret x = x0; x = n;")
	ahead("num", false, "open x = k;", "open x = n;", "open x = (vs[n] ^ k);", "call x = pu(n; v);", "call x = op(k; vs);", "call x = pu(#bs; b);")
	ahead("num", true, "call x = se(k; es);", "call x = se(n; bs);", "call x = si(;);", "call x = mi(n, n; vs, e);", "if n { call pu(n; v); } call x = si(;);")
	ahead("buf turn own", false, "buf x[n];", "buf x[#vs];", "move x = b;", "move x = c;", "buf x0[1]; move x1 = x0; move x2 = x1; move x = x2;", "buf x0[1]; if n { } move x = x0;")
	ahead("buf turn own", true, "buf secret x[n];", "buf secret x[#v];", "move x = bs;", "move x = cs;", "buf secret x0[1]; move x1 = x0; move x2 = x1; move x = x2;")
	around := func(is string, sec bool, texts ...string) {
		for _, s := range texts {
			l = append(l, giver{around: s, is: is, sec: sec})
		}
	}
	around("num", false, "for x < n", "for x < #vs", "for x < v[n]", "for x0 < n { for x < x0")
	around("buf", false, "view x = v[0 .. n]", "view x = e[n .. #vs]", "view x = b[0 .. 1]", "view x = c[n .. n]", "view x0 = e[0 .. n] { view x = x0[0 .. n]", "edit x0 = b[0 .. n] { view x = x0[0 .. n]")
	around("buf", true, "view x = vs[0 .. n]", "view x = es[n .. #v]", "view x = bs[0 .. 1]", "view x = cs[n .. n]", "view x0 = es[0 .. n] { view x = x0[0 .. n]", "edit x0 = bs[0 .. n] { view x = x0[0 .. n]")
	around("buf turn", false, "edit x = e[0 .. n]", "edit x = b[n .. #vs]", "edit x = c[0 .. 1]", "edit x0 = e[0 .. n] { edit x = x0[0 .. n]", "edit x0 = b[0 .. n] { edit x1 = x0[0 .. n] { edit x = x1[0 .. 1]")
	around("buf turn", true, "edit x = es[0 .. n]", "edit x = bs[n .. #v]", "edit x = cs[0 .. 1]", "edit x0 = es[0 .. n] { edit x = x0[0 .. n]", "edit x0 = bs[0 .. n] { edit x1 = x0[0 .. n] { edit x = x1[0 .. 1]")
	return l
}

// asker is a statement that asks x, what x has to be there, and when that is let be; a mark ~ stands in it, where it is not refused at its beginning.
type asker struct{ text, as, when string }

const (
	always = "always"
	public = "if x is not secret"
	secret = "if x is secret"
	never  = "never"
)

func (a asker) may(g giver) bool {
	return a.when == always || a.when == public && !g.sec || a.when == secret && g.sec
}

// askers is each way to ask x; they ask other names that are known, and give w and a name behind it, if any.
func askers() (l []asker) {
	add := func(as, when string, texts ...string) {
		for _, s := range texts {
			l = append(l, asker{s, as, when})
		}
	}
	add("num", always, "let secret w = x;", "let secret w = (n + x);", "let secret w = (vs[n] - (x * k));", "ks = x;", "ks = (x ^ k);", "bs[n] = x;", "es[0] = (1 - x);", "bs[#v] = (x << 3);",
		"open w = x;", "open w = (k & x);", "call se(x; es);", "call w = se((x + k); bs);", "call mi(x, n; vs, e);", "call w = mi(x, n; vs, b);", "call w = op(x; vs);", "edit w = bs[0 .. n] { w[n] = x; }")
	add("num", public, "let w = x;", "let w = (n + x);", "let w = (x << 1);", "let w = v[x];", "let w = #v; ~m = x;", "m = x;", "m = (n - (n - x));", "m = v[x];", "b[n] = x;", "e[0] = (x | n);",
		"let secret w = v[x];", "let secret w = vs[x];", "let secret w = vs[(n + x)];", "let secret w = (k + v[(x & 1)]);", "ks = vs[x];", "bs[n] = v[x];", "open w = v[x];", "open w = (k + vs[x]);",
		"let secret w = (x / n);", "let secret w = (n / x);", "let secret w = (x % n);", "let secret w = (n % x);", "let secret w = (k + (1 / (n * x)));", "ks = (x % 3);", "bs[0] = (3 / x);", "open w = (x / 2);",
		"buf w[x];", "buf secret w[x];", "buf secret w[(x & 3)];", "b[x] = n;", "bs[x] = n;", "bs[x] = k;", "es[(x + 1)] = n;", "bs[v[x]] = n;",
		"if x { }", "if (n < x) { } else { }", "if (x ^ x) { ks = n; }", "while x { }", "while v[x] { }", "for w < x { }", "for w < (x & 1) { ks = w; }", "if n { } else { ~if x { } }",
		"view w = v[x .. n] { }", "view w = vs[x .. n] { }", "view w = v[n .. x] { }", "view w = vs[0 .. (x + 1)] { }", "edit w = e[x .. n] { }", "edit w = bs[0 .. x] { }",
		"call pu(x; v);", "call w = pu(x; v);", "call w = pu((x >> 60); v);", "call mi(k, x; vs, e);", "call w = mi(n, x; vs, b);", "call se(vs[x]; es);", "call op((x / 1); vs);", "call w = op(v[x]; vs);")
	add("num", never, "let w = (x + k);", "let w = (k & x);", "m = (x ^ vs[0]);", "b[n] = (x + k);", "let secret w = (x / k);", "let secret w = v[(x + k)];", "if (x & k) { }", "call pu((k + x); v);", "b[(k - x)] = x;", "call w = pu(x; vs);", "call se(x; e);")
	add("set", always, "x = n;", "x = x;", "x = (x + n);", "x = #vs;", "x = v[#x0s];")
	add("set", secret, "x = k;", "x = (x + k);", "x = vs[n];", "x = (1 - bs[0]);", "if n { ~x = k; }", "x = n; ~x = k;")
	add("set", never, "x = v[k];", "x = (n / k);", "x = vs[ks];")
	add("buf", always, "let w = #x;", "if #x { }", "let w = (#x + v[#x]);", "m = (n / #x);", "let secret w = x[n];", "let secret w = x[#x];", "ks = (k + x[0]);", "bs[n] = x[n];", "es[#x] = (1 & x[n]);", "open w = x[n];", "open w = (x[0] * vs[0]);",
		"for w < #x { }", "while #x { }", "buf w[#x];", "buf secret w[(#x + 1)];", "b[#x] = #x;", "view w = v[#x .. n] { }", "view w = x[0 .. n] { }", "view w = x[n .. #x] { let secret w1 = w[0]; }",
		"call pu(#x; v);", "call w = pu((1 / #x); v);", "call se(x[n]; es);", "call w = mi(x[0], #x; vs, e);", "call w = op(x[n]; vs);")
	add("buf", public, "let w = x[n];", "let w = (n | x[0]);", "m = x[n];", "b[n] = x[n];", "let w = v[x[n]];", "let secret w = vs[x[0]];", "let secret w = x[x[n]];", "let secret w = (k + x[(1 & x[n])]);", "ks = (n / x[n]);", "ks = (x[n] % 2);", "open w = v[x[n]];",
		"buf w[x[n]];", "buf secret w[x[n]];", "b[x[n]] = n;", "bs[x[n]] = n;", "if x[n] { }", "if (1 - x[n]) { } else { }", "while x[0] { }", "for w < x[n] { }", "view w = v[x[n] .. n] { }", "view w = vs[0 .. x[n]] { }", "view w = x[x[0] .. n] { }", "view w = x[0 .. (x[n] + 1)] { }",
		"view w = x[0 .. n] { ~let w1 = w[0]; }", "view w = x[0 .. n] { view w1 = w[0 .. 1] { ~if w1[0] { } } }", "call pu(x[n]; v);", "call w = pu(n; x);", "call pu(n; x);", "call mi(k, x[0]; vs, e);", "view w = x[0 .. n] { ~call pu(n; w); }")
	add("buf", secret, "call mi(n, n; x, e);", "call w = mi(k, n; x, b);", "call w = op(k; x);", "call op(n; x);", "view w = x[0 .. n] { ~call op(n; w); }")
	add("buf", never, "let w = (x[n] + k);", "let secret w = x[k];", "open w = x[(k & 1)];", "let w = x[vs[n]];", "ks = (x[n] / k);", "view w = x[k .. n] { }", "view w = x[0 .. k] { }", "call op(x[ks]; x);", "call pu((k + x[0]); v);")
	add("turn", always, "x[n] = n;", "x[#x] = x[0];", "x[v[n]] = #vs;", "edit w = x[0 .. n] { w[0] = n; }", "edit w = x[0 .. #x] { w[n] = x[n]; }")
	add("turn", public, "x[x[n]] = n;", "edit w = x[x[0] .. n] { }", "edit w = x[0 .. n] { ~w[w[0]] = n; }", "call mi(k, n; vs, x);", "call w = mi(n, n; vs, x);", "edit w = x[0 .. n] { ~call mi(n, n; bs, w); }")
	add("turn", secret, "x[n] = k;", "x[0] = vs[n];", "x[n] = (x[n] + k);", "edit w = x[0 .. n] { ~w[0] = k; }", "call se(n; x);", "call w = se(k; x);", "edit w = x[0 .. n] { ~call se(n; w); }")
	add("turn", never, "x[k] = n;", "x[vs[0]] = n;", "x[k] = k;", "x[n] = (1 / k);", "x[n] = v[ks];", "edit w = x[k .. n] { }", "edit w = x[n .. vs[0]] { }", "call mi(k, n; x, x);")
	add("own", always, "move w = x;", "move w = x; move w1 = w;", "move w = x; w[n] = #w;", "move w = x; let secret w1 = w[0];")
	add("own", public, "move w = x; ~let w1 = w[0];", "move w = x; move w1 = w; ~if w1[0] { }", "move w = x; ~call pu(n; w);", "if n { move w = x; ~m = w[n]; }")
	add("own", secret, "move w = x; ~w[0] = k;", "move w = x; move w1 = w; ~w1[0] = vs[n];", "move w = x; ~call se(n; w);", "move w = x; edit w1 = w[0 .. n] { ~w1[n] = k; }")
	return l
}

// callees is functions to be called; their names are given to other things, and to other secrets, than those of f, which is behind them.
const callees = "fn pu(num k, view vs) { let x = vs[k]; } = x; fn se(secret n, edit secret v) { buf x[1]; v[0] = n; } = secret v[0]; fn si() { } = secret 1; " +
	"fn mi(secret n, num x, view secret v, edit bs) { let k = 1; bs[x] = k; } = secret (n + v[0]); fn op(secret m, view secret b) { open x = (m + b[0]); } = x; "

// own is what stands ahead of x in f.
const own = "buf b[n]; buf secret bs[#v]; buf c0[1]; move c = c0; buf secret cs0[1]; move cs = cs0; let m = n; let secret ks = n; buf x0s[1]; "

// text is f, in which x is given, and asked within body.
func (g giver) text(body string) string {
	s := callees + "fn f(num n, secret k, view v, view secret vs, edit e, edit secret es" + g.param + ") { " + own + g.ahead + " "
	if g.around == "" {
		return s + body
	}
	around := g.around + " { "
	return s + around + body + strings.Repeat(" }", strings.Count(around, "{"))
}

// places is where a statement may stand, within f.
func places() []string {
	return []string{
		"ASK", "let y1 = n; if n { m = y1; } ASK m = n;", "ASK let secret y1 = k; y1 = #v;", "if n { ASK }", "if n { m = n; } else { e[0] = n; ASK }", "while n { ASK e[0] = n; }", "for i < n { ASK }",
		"view y1 = v[0 .. n] { ASK }", "edit y1 = bs[0 .. n] { y1[0] = k; ASK }", "while n { for i < n { view y1 = vs[0 .. 1] { if n { } else { ASK } } } }", "open y1 = k; if y1 { ASK }", "ks = k; es[n] = ks; ASK",
	}
}

// marks is the statement with a mark: at its beginning, if it has none.
func (a asker) marks() string {
	if strings.Contains(a.text, "~") {
		return a.text
	}
	return "~" + a.text
}

// TestAsked (P12.1): each way to give a name against each way to ask it, wherever that stands: for each two a place of their own.
func TestAsked(t *testing.T) {
	count := map[bool]int{}
	at := 0
	for _, g := range givers() {
		at++ // so that no way to ask is in one place always
		for _, a := range askers() {
			if !slices.Contains(strings.Fields(g.is), a.as) {
				continue
			}
			at++
			place := places()[at%len(places())]
			is := a.may(g)
			count[is]++
			asked(t, g.text(a.marks())+" };", is)
			asked(t, g.text(strings.Replace(place, "ASK", a.marks(), 1))+" };", is)
			if !is { // the first fault tells, whatever is wrong behind
				refused(t, g.text(strings.Replace(place, "ASK", a.marks()+" if k { }", 1))+" m = ks; } = k;")
			}
		}
	}
	if count[true] < 1000 || count[false] < 1000 {
		t.Errorf("%v", count)
	}
}

// TestTails (P12.1): what is asked at the tail, and in the tail of a function ahead of the last one.
func TestTails(t *testing.T) {
	for _, g := range givers() {
		if g.around != "" { // it is not known there
			continue
		}
		for _, a := range []asker{
			{"x", "num", public}, {"(n + x)", "num", public}, {"v[x]", "num", public}, {"(n / (x + 1))", "num", public}, {"(k + x)", "num", never}, {"secret x", "num", always}, {"secret (k - x)", "num", always},
			{"secret v[x]", "num", public}, {"secret (1 + (x % n))", "num", public}, {"secret (n / x)", "num", public}, {"secret vs[x]", "num", public}, {"secret v[(k + x)]", "num", never},
			{"#x", "buf", always}, {"secret #x", "buf", always}, {"x[0]", "buf", public}, {"(n | x[n])", "buf", public}, {"secret x[n]", "buf", always}, {"secret (k - x[#x])", "buf", always}, {"secret x[x[0]]", "buf", public},
			{"secret x[k]", "buf", never}, {"v[x[0]]", "buf", public}, {"secret (x[0] / 2)", "buf", public}, {"(#x + k)", "buf", never}, {"n", "buf", always}, {"k", "num", never}, {"secret k", "num", always},
		} {
			if !slices.Contains(strings.Fields(g.is), a.as) {
				continue
			}
			for _, body := range []string{"", "if n { m = n; } ", "for i < n { es[i] = k; } "} {
				asked(t, g.text(body+"~")+"} = "+a.text+";", a.may(g))
				asked(t, g.text(body+"~")+"} = "+a.text+"; fn l(num x1, view x) { let y = x[x1]; };", a.may(g))
			}
		}
	}
}

// TestOthers (P12.1): what a name is in one function says nothing of what it is in another one.
func TestOthers(t *testing.T) {
	params := []string{"num x", "secret x", "view x", "edit secret x", "edit x", "view secret x", "num y"}
	at := 0
	for _, g := range givers() {
		for _, a := range askers() {
			if !slices.Contains(strings.Fields(g.is), a.as) {
				continue
			}
			at++
			ask := g.text(a.marks()) + " };"
			other := " fn f1(" + params[at%len(params)] + ", secret n, num k, view vs, edit secret v) { let secret m = n; let ks = k; ks = vs[k]; buf secret b[k]; buf bs[k]; v[k] = m; } = k;"
			if at/len(params)%2 == 0 {
				asked(t, ask+other, a.may(g))
			} else {
				asked(t, other+" "+ask, a.may(g))
			}
		}
	}
}
