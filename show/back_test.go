package show_test

import (
	"errors"
	"strings"
	"testing"

	"sacristy/api"
	"sacristy/show"
	"sacristy/stmt"
)

// again asks that p is shown as a text that is parsed as p, and shown as that text again.
func again(t *testing.T, p api.Prog) {
	t.Helper()
	s, wrong := show.Show(p)
	if wrong != api.OK || len(s) > api.MaxText {
		t.Errorf("Show: %v, %d bytes", wrong, len(s))
		return
	}
	back, err := stmt.Parse(s)
	if err != nil || !same(back, p) {
		t.Errorf("%q is parsed as %q, %v", short(s), short(told(back)), err)
	}
	shows(t, back, s)
}

// TestBackScattered (P9.2): what is shown is parsed as itself.
func TestBackScattered(t *testing.T) {
	c, back := chance(4), 0
	for k := range 6000 {
		p := c.prog(1+k%5, 1+k%6)
		if s, _ := show.Show(p); len(s) <= api.MaxText {
			back++
			again(t, p)
		}
	}
	if back < 5000 {
		t.Errorf("%d were parsed", back)
	}
}

// TestBackKinds (P9.2): each kind of statements by itself, and all of them, in each kind of block.
func TestBackKinds(t *testing.T) {
	var all []api.Stmt
	for _, x := range plains() {
		again(t, in(x))
		all = append(all, x)
	}
	for _, l := range [][]api.Stmt{nil, {}, seals(1), all} {
		for _, x := range blocked(l) {
			again(t, in(x))
			again(t, in(x, seal(), x))
		}
		for _, r := range [][]api.Stmt{nil, {}, seals(1), all} {
			again(t, in(ifs(l, r)))
			again(t, in(ifs(stmts(ifs(l, r)), r)))
			again(t, in(ifs(l, stmts(ifs(l, r)))))
		}
	}
}

// texts is texts of programs, as people write them.
func texts() []string {
	return []string{
		"",
		" \n\n ",
		"fn f(){};",
		"fn f(){}=secret 1;fn g(num a,secret b,view c,view secret d,edit e,edit secret h){}=a;",
		"fn main(num n, view secret k) { let x = #k; while (x < n) { x = (x + 1); } } = x;",
		"fn f(){if 1{}else{}};",
		"fn f(){if 1{seal;}else{}if 2{}else{seal;}};",
		"fn f(){if 1{if 2{}else{if 3{}else{}}}else{if 4{}else{seal;}}};",
		"fn copy(view secret s, edit secret d) { for i < #s { d[i] = s[i]; } } = #d;\nfn main(view secret k) { buf secret b[#k]; call copy(; k, b); edit e = b[0 .. (#b - 1)] { e[0] = (e[1] ^ 255); } move c = b; open x = c[0]; if (x <$ 3) { seal; } } = x;",
		"fn f(num a){let secret x=((a*^a)>>>(a>>(a<<(a|(a&(a/(a%3)))))));call x=f(x,a,1;);}=0;",
	}
}

// TestBackTexts (P9.2): what is parsed is shown as a text that is parsed as the same.
func TestBackTexts(t *testing.T) {
	for _, s := range texts() {
		p, err := stmt.Parse(s)
		if err != nil {
			t.Errorf("%q: %v", s, err)
		}
		again(t, p)
	}
}

// filled is a program that is shown with just so many bytes.
func filled(t *testing.T, size int) api.Prog {
	t.Helper()
	const most = 48 // bytes of a statement, and 14 at least
	var body []api.Stmt
	for left := size - len("fn f ( ) {\n} ;\n"); left > 0; {
		n := min(left, most)
		if left > most && left < 2*most {
			n = left / 2
		}
		left -= n
		name := min(n-13, api.MaxName)
		v := uint64(1)
		for range n - 13 - name {
			v *= 10
		}
		body = append(body, let(strings.Repeat("a", name), num(v)))
	}
	p := in(body...)
	if s, wrong := show.Show(p); wrong != api.OK || len(s) != size {
		t.Fatalf("%v, %d bytes, not %d", wrong, len(s), size)
	}
	return p
}

// TestBackLong (P9.2): a text of MaxText bytes is parsed as itself; a longer one is shown all the same, and is too long for Parse.
func TestBackLong(t *testing.T) {
	for _, size := range []int{1000, 16382, 16383, 16384} {
		again(t, filled(t, size))
	}
	for _, size := range []int{16385, 16386, 17000, 19000} {
		p := filled(t, size)
		s, _ := show.Show(p)
		shows(t, p, inLines(told(p)))
		if _, err := stmt.Parse(s); !errors.Is(err, api.ErrLong) {
			t.Errorf("%d bytes: %v", size, err)
		}
	}
	tight := "fn f(){" + strings.Repeat("if 1{", 39) + strings.Repeat("x=1;", 361) + strings.Repeat("}", 39) + "};"
	p, err := stmt.Parse(tight)
	if err != nil {
		t.Fatal(err)
	}
	bare := strings.NewReplacer(" ", "", "\n", "")
	if s, _ := show.Show(p); len(s) <= api.MaxText || bare.Replace(s) != bare.Replace(tight) {
		t.Errorf("%d bytes: %q", len(s), short(s))
	}
}
