package kinds_test

import (
	"slices"
	"strings"
	"testing"

	"sacristy/api"
	"sacristy/kinds"
)

// lists is all rows of at most so many of l.
func lists(l []string, most int) [][]string {
	all := [][]string{nil}
	for from, n := 0, 0; n < most; n++ {
		to := len(all)
		for _, row := range all[from:to] {
			for _, x := range l {
				all = append(all, append(slices.Clone(row), x))
			}
		}
		from = to
	}
	return all
}

// params is these, each with a name of its own.
func params(l []string) string {
	var named []string
	for k, s := range l {
		named = append(named, s+" p"+string(rune('0'+k)))
	}
	return strings.Join(named, ", ")
}

// TestCounts (P11.1): a call hands over as many numbers, and buffers, as its function has params, in whatever order those stand.
func TestCounts(t *testing.T) {
	for _, l := range lists([]string{"num", "secret", "view", "edit secret"}, 4) {
		head := "fn g(" + params(l) + ") { }; fn f(num n, edit e) { "
		lent := 0
		for _, s := range l {
			if s != "num" && s != "secret" {
				lent++
			}
		}
		for n := range 6 {
			for b := range 6 {
				call := "~call g(" + strings.Join(slices.Repeat([]string{"n"}, n), ", ") + "; " + strings.Join(slices.Repeat([]string{"e"}, b), ", ") + ");"
				is := n == len(l)-lent && b == lent
				asked(t, head+call+" };", is)
				if b == lent {
					asked(t, head+"let x = n; if x { } else { "+call+" } x = n; } = n;", is)
				}
			}
		}
	}
}

// TestMost (P11.1, P11.2): as many as a call may hand over, and fewer; with more it is no program.
func TestMost(t *testing.T) {
	for _, kind := range []string{"num", "secret", "view", "view secret", "edit", "edit secret"} {
		for most := range api.MaxParams + 1 {
			head := "fn g(" + params(slices.Repeat([]string{kind}, most)) + ") { }; fn f(num n, edit e) { "
			for n := range api.MaxParams + 1 {
				numbers, buffers := strings.Join(slices.Repeat([]string{"n"}, n), ", "), ""
				if kind != "num" && kind != "secret" {
					numbers, buffers = "", strings.Join(slices.Repeat([]string{"e"}, n), ", ")
				}
				asked(t, head+"~call g("+numbers+"; "+buffers+"); };", n == most)
			}
		}
	}
	p := parsed(t, "fn g() { }; fn f() { call g(;); };")
	p.Funcs[0].Params = slices.Repeat([]api.Param{{Name: "a"}}, api.MaxParams)
	for k := range p.Funcs[0].Params {
		p.Funcs[0].Params[k].Name = "a" + string(rune('0'+k))
	}
	p.Funcs[1].Body[0].Ex = slices.Repeat([]api.Expr{{Kind: 1}}, api.MaxParams)
	if err := kinds.Check(p); err != nil {
		t.Error(err)
	}
	p.Funcs[1].Body[0].Ex = append(p.Funcs[1].Body[0].Ex, api.Expr{Kind: 1})
	refusedAt(t, p, 0, api.ErrArg)
}

// TestHanded (P11.1): to a param that is Mut nothing is handed that may not be turned: each buffer is held against its own param.
func TestHanded(t *testing.T) {
	buffers := map[string]bool{"v": false, "vs": false, "w": false, "e": true, "es": true, "b": true, "c": true, "d": true}
	names := []string{"v", "e", "w", "d", "c", "vs", "b", "es"}
	head := ") { }; fn f(num n, view v, view secret vs, edit e, edit secret es) { buf b[n]; buf b0[n]; move c = b0; view w = b[0 .. n] { edit d = e[0 .. n] { "
	for _, l := range lists([]string{"num", "view", "edit"}, 3) {
		for _, args := range lists(names, 2) {
			var numbers []string
			lent, is := 0, true
			for _, kind := range l {
				if kind == "num" {
					numbers = append(numbers, "n")
					continue
				}
				if lent < len(args) {
					is = is && (kind == "view" || buffers[args[lent]])
				}
				lent++
			}
			call := "~call g(" + strings.Join(numbers, ", ") + "; " + strings.Join(args, ", ") + ");"
			asked(t, "fn g("+params(l)+head+call+" } } };", is && lent == len(args))
		}
	}
}

// TestNamed (P11.1): a call has a name if its function has Ret alone; and none, as it likes.
func TestNamed(t *testing.T) {
	for ret, is := range map[string]bool{"": false, "= 1": true, "= secret 1": true, "= x": true, "= #v": true} {
		ahead := "fn f0(num x) { } = x; fn g(num x, view v) { let y = 1; } " + ret + "; fn h(num x, view v) { }; fn f(num x, view v) { "
		letBe(t, ahead+"call g(x; v); };")
		letBe(t, ahead+"if x { call g(x; v); } else { while x { call g(#v; v); } } };")
		asked(t, ahead+"~call y = g(x; v); };", is)
		asked(t, ahead+"~call y = g(x; v); let z = y; } = (y + z);", is)
		asked(t, ahead+"call h(x; v); if x { } else { call g(x; v); ~call y = g(#v; v); } };", is)
		asked(t, ahead+"call f1 = f0(x;); for i < x { ~call y = g(f1; v); } };", is)
		refused(t, ahead+"call g(x; v); ~call y = h(x; v); };")
		refused(t, ahead+"~call y = g(x, x; v); };")
		refused(t, ahead+"~call y = g(x; ); };")
	}
}

// TestCalled (P11.1): a call is held against the function that it calls, and against no other one.
func TestCalled(t *testing.T) {
	head := "fn a() { }; fn b(num x) { } = x; fn c(view x) { }; fn d(edit x) { } = #x; fn e(edit x, num y) { x[y] = y; }; fn f(num n, view v, edit a, edit g) { "
	for call, is := range map[string]bool{
		"call a(;);": true, "call y = a(;);": false, "call a(n;);": false, "call a(;v);": false,
		"call b(n;);": true, "call y = b(n;);": true, "call b(;);": false, "call b(n; v);": false, "call b(n, n;);": false,
		"call c(;v);": true, "call c(;a);": true, "call y = c(;v);": false, "call c(n;);": false, "call c(n; v);": false,
		"call d(;v);": false, "call d(;a);": true, "call y = d(;a);": true, "call y = d(;v);": false, "call d(;a, a);": false,
		"call e(n; a);": true, "call e(n; v);": false, "call y = e(n; a);": false, "call e(n;);": false, "call e(;a);": false, "call e(n, n; a);": false,
	} {
		asked(t, head+"~"+call+" };", is)
		asked(t, head+"call c(;g); if n { } else { call e(#v; g); ~"+call+" } };", is)
		asked(t, head+"~"+call+" }; fn g(num n, edit a) { call e(n; a); call y = b(n;); };", is)
	}
}

// TestSeals (P11.1): a seal stands in the last function alone, wherever there.
func TestSeals(t *testing.T) {
	for _, s := range []string{
		"~seal;", "let x = n; ~seal; x = n;", "if n { ~seal; }", "if n { } else { let x = 1; ~seal; }", "while n { ~seal; }", "for i < n { ~seal; seal; }", "view w = v[0 .. n] { ~seal; }",
		"edit w = v[0 .. n] { if n { while n { } } else { for i < n { let x = i; ~seal; } } } seal;", "~seal; seal; seal;",
	} {
		f := "(num n, edit v) { " + s + " } = n; "
		letBe(t, "fn a"+f)
		for _, ahead := range []string{"fn b() { }; ", "fn b(num x) { let y = x; y = x; } = x; fn c() { }; ", "fn b() { }; fn c() { }; fn d() { }; "} {
			letBe(t, ahead+"fn a"+f)
			refused(t, "fn a"+f+ahead)
			refused(t, ahead+"fn a"+f+"fn last() { seal; };")
			refused(t, "fn a"+f+ahead+"fn last"+strings.Replace(f, "~", "", 1))
		}
	}
}
