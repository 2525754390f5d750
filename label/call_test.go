package label_test

import (
	"slices"
	"strconv"
	"strings"
	"testing"
)

// lists is all rows of at most so many of l.
func lists(l []string, most int) [][]string {
	all := [][]string{nil}
	for from, n := 0, 0; n < most; n++ {
		to := len(all)
		for _, row := range all[from:to] {
			for _, x := range l {
				all = append(all, append(slices.Clone(row), x))
			}
		}
		from = to
	}
	return all
}

// params is these, each with a name of its own.
func params(l []string) string {
	var named []string
	for k, s := range l {
		named = append(named, s+" p"+strconv.Itoa(k))
	}
	return strings.Join(named, ", ")
}

// hands is a call of g, which has these params, with a secret for each whose bit is 1, by the number at.
func hands(l []string, bits, at int) (call string, is bool) {
	texts := map[string][]string{ // of numbers and of buffers, secret or not
		"num": {"n", "#vs", "v[n]", "7", "(n / 3)"}, "num secret": {"k", "vs[n]", "(n + k)", "(vs[0] - 1)", "ks"},
		"buf": {"e", "b"}, "buf secret": {"es", "bs"},
	}
	var numbers, buffers []string
	is = true
	for k, s := range l {
		sec := strings.Contains(s, "secret")
		handed := ""
		if bits>>k&1 == 1 {
			handed = " secret"
		}
		if s == "num" || s == "secret" {
			is = is && (sec || handed == "")
			texts := texts["num"+handed]
			numbers = append(numbers, texts[(at+k)%len(texts)])
		} else {
			is = is && sec == (handed != "")
			texts := texts["buf"+handed]
			buffers = append(buffers, texts[(at+k)%len(texts)])
		}
	}
	return "call g(" + strings.Join(numbers, ", ") + "; " + strings.Join(buffers, ", ") + ");", is
}

// TestHanded (P12.1): each number, and each buffer, is held against its own param, in whatever order those stand.
func TestHanded(t *testing.T) {
	kinds := []string{"num", "secret", "view", "view secret", "edit", "edit secret"}
	ahead := ") { }; fn f(num n, secret k, view v, view secret vs, edit e, edit secret es) { buf b[n]; buf secret bs[n]; let secret ks = k; "
	at := 0
	for _, l := range append(lists(kinds, 3), slices.Repeat(kinds, 2)[:8], slices.Repeat([]string{"num", "edit secret"}, 4), slices.Repeat([]string{"secret", "view"}, 4)) {
		for bits := range 1 << len(l) {
			at++
			call, is := hands(l, bits, at)
			asked(t, "fn g("+params(l)+ahead+"~"+call+" };", is)
			if at%7 == 0 {
				asked(t, "fn g("+params(l)+ahead+"for i < n { if i { } else { ~"+call+" } } } = secret k;", is)
			}
		}
	}
}

// TestAnswers (P12.1): what a call gives is secret just if its function is so: whatever it answers, and whatever is handed to it.
func TestAnswers(t *testing.T) {
	for _, head := range []string{"(num a, view w)", "(secret a, view secret w)", "(secret a, view w)", "(num a, view secret w)"} {
		for _, ret := range []string{"1", "#w", "x", "secret 1", "secret a", "secret w[0]", "secret (a + w[#w])", "secret x"} {
			sec := strings.HasPrefix(ret, "secret")
			numbers, buffer := []string{"n", "7"}, "v"
			if strings.Contains(head, "secret a") {
				numbers = append(numbers, "k", "vs[n]")
			}
			if strings.Contains(head, "secret w") {
				buffer = "vs"
			}
			ahead := "fn other() { } = secret 1; fn another() { } = 1; fn g" + head + " { open x = a; } = " + ret + "; fn f(num n, secret k, view v, view secret vs) { let m = n; let secret ks = k; "
			for _, number := range numbers {
				call := "(" + number + "; " + buffer + ");"
				letBe(t, ahead+"call y = g"+call+" let secret z = y; ks = (y * k); open o = y; };")
				letBe(t, ahead+"call g"+call+" let z = m; } = m;")
				for _, s := range []string{"~let z = y;", "~m = (y + 1);", "let secret z = k; ~z = v[y];", "~if y { }", "call another(;); ~while y { }", "~let secret z = (1 / y);"} {
					asked(t, ahead+"call y = g"+call+" "+s+" };", !sec)
					asked(t, ahead+"for i < n { if i { call o = other(;); call y = g"+call+" "+s+" } } };", !sec)
				}
				asked(t, ahead+"call y = g"+call+" ~} = y;", !sec)
				asked(t, ahead+"call y = g"+call+" ~} = (m - y); fn last() { };", !sec)
			}
		}
	}
}

// TestHeads (P12.1): a secret number that is asked in a call's expressions may not be asked wrongly there, whatever the param is.
func TestHeads(t *testing.T) {
	ahead := "fn g(secret a, num b, secret c) { } = secret a; fn f(num n, secret k, view v, view secret vs) { "
	for s, is := range map[string]bool{
		"k, n, k": true, "n, n, n": true, "(k + k), #vs, vs[n]": true, "vs[v[n]], v[n], (k * n)": true, "k, k, k": false, "n, k, n": false, "n, (n - k), n": false, "n, vs[0], n": false,
		"vs[k], n, n": false, "v[k], n, n": false, "n, n, vs[k]": false, "n, v[vs[n]], n": false, "(k / n), n, k": false, "k, n, (n % k)": false, "k, n, (n + (k % 3))": false, "n, (n / #vs), (k ^ v[(n % 2)])": true,
	} {
		asked(t, ahead+"~call g("+s+";); };", is)
		asked(t, ahead+"~call x = g("+s+";); };", is)
		asked(t, ahead+"let y = n; while y { ~call x = g("+s+";); } };", is)
	}
}
