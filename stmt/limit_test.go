package stmt_test

import (
	"slices"
	"strconv"
	"strings"
	"testing"

	"sacristy/api"
	"sacristy/stmt"
)

// TestNumbers: those of package api that the chapter names.
func TestNumbers(t *testing.T) {
	if api.ErrArg != 2 || api.ErrLong != 5 || api.ErrForm != 7 || api.ErrDepth != 70 || api.MaxDepth != 40 || api.MaxFuncs != 16 || api.MaxParams != 8 || api.MaxStmts != 400 {
		t.Error("numbers of package api")
	}
}

// goesOn asks that a text that is one of a program behind what stands ahead is read.
func goesOn(t *testing.T, s string) {
	t.Helper()
	p, err := stmt.Parse(s)
	if err != nil || stmt.Check(p) != api.OK {
		t.Errorf("Parse(%q): %v", short(s), err)
	}
}

// refusedWhatever asks for an error where the next token stands, whichever it is, the end, too, but for those that are left out.
func refusedWhatever(t *testing.T, ahead string, wrong api.Errno, but ...string) {
	t.Helper()
	refused(t, ahead, wrong, len(ahead))
	refused(t, ahead+"\n ", wrong, len(ahead)+2)
	for _, x := range anyPieces() {
		if slices.Contains(but, x) {
			continue
		}
		refused(t, ahead+" "+x, wrong, len(ahead)+1)
		refused(t, ahead+" "+x+" ; } ) , x", wrong, len(ahead)+1)
	}
}

// many is n of them, with something between two.
func many(n int, s, between string) string {
	return strings.Join(slices.Repeat([]string{s}, n), between)
}

// TestLimitFuncs (P8.2): MaxFuncs functions are read; the fn of one more is ErrLong, whatever is behind; what is no fn is ErrForm there.
func TestLimitFuncs(t *testing.T) {
	for _, one := range []string{"fn f(){};", "fn f(num a){}=secret a;", "fn f(){let x=1;seal;};"} {
		for n := range 17 {
			goesOn(t, many(n, one, ""))
		}
		full := many(16, one, "")
		at := len(full)
		for _, behind := range append(anyPieces(), "", one, one+one, "f(){", "1 2 3") {
			refused(t, full+"fn "+behind, api.ErrLong, at)
			refused(t, full+"\n fn "+behind, api.ErrLong, at+2)
			refused(t, full[:at-1]+" fn "+behind, api.ErrForm, at)
		}
		for _, x := range anyPieces() {
			if x != "fn" {
				refused(t, full+x, api.ErrForm, at)
			}
		}
		refused(t, many(15, one, "")+"fn f(){} fn", api.ErrForm, 15*len(one)+9)
		refused(t, many(100, one, ""), api.ErrLong, at)
	}
	p, err := stmt.Parse(many(16, "fn f(){};", ""))
	if err != nil || len(p.Funcs) != 16 {
		t.Errorf("%d functions, %v", len(p.Funcs), err)
	}
}

// TestLimitLists (P8.2): MaxParams of each kind are read; the token behind the comma behind them is ErrLong, whichever it is.
func TestLimitLists(t *testing.T) {
	for _, x := range []struct {
		ahead, behind string
		ones          []string
	}{
		{"fn f(", "){};", []string{"num a", "secret a", "view a", "edit secret a"}},
		{"fn g(" + many(8, "num a", ",") + "){}; fn f(", "){};", []string{"num a", "edit a"}},
		{"fn f(){ call f(", ";); };", []string{"1", "a", "#a", "a[1]", "(a+(b+1))"}},
		{"fn f(){ call x = f(", ";b); };", []string{"7"}},
		{"fn f(){ call f(;", "); };", []string{"a", "bc"}},
		{"fn f(){ call x = f(" + many(8, "1", ",") + ";", "); seal; };", []string{"a"}},
		{"fn f(){ if 1 { call f(" + many(8, "a", ",") + ";" + many(8, "a", ",") + "); call g(", ";" + many(8, "a", ",") + "); } };", []string{"a"}},
	} {
		for _, one := range x.ones {
			for n := range 9 {
				goesOn(t, x.ahead+many(n, one, ",")+x.behind)
			}
			for n := 9; n < 30; n++ {
				refused(t, x.ahead+many(n, one, ",")+x.behind, api.ErrLong, len(x.ahead)+8*len(one)+8)
			}
			refusedWhatever(t, x.ahead+many(8, one, ",")+",", api.ErrLong)
			for n := range 8 {
				s := x.ahead + strings.Repeat(one+",", n)
				refused(t, s+",", api.ErrForm, len(s))
				refused(t, s+"}", api.ErrForm, len(s))
				refused(t, s+"=", api.ErrForm, len(s))
				if n > 0 {
					refused(t, s+x.behind, api.ErrForm, len(s))
				}
			}
			full := x.ahead + many(8, one, ",")
			refused(t, full, api.ErrForm, len(full))
			for _, wrong := range []string{"}", "=", "x", "1", "{", "fn", "num", "]"} {
				refused(t, full+" "+wrong, api.ErrForm, len(full)+1)
			}
		}
	}
}

// nests is what a statement within another one is put into: what stands ahead of it, and behind.
func nests() [][2]string {
	return [][2]string{
		{"if 1{", "}"}, {"if 1{}else{", "}"}, {"if 1{", "}else{}"}, {"if 1{", "}else{seal;}"}, {"while 1{", "}"}, {"for i<1{", "}"}, {"view v=b[0..1]{", "}"}, {"edit v=b[0..1]{", "}"},
		{"seal;if 1{", "}seal;"},
	}
}

// TestLimitDepth (P8.2): a statement that is MaxDepth deep is read, and has an empty block; what would begin another one there is ErrDepth, whatever it is.
func TestLimitDepth(t *testing.T) {
	for _, in := range nests() {
		const head = "fn f(){"
		for _, n := range []int{1, 20, 38, 39} {
			p, err := stmt.Parse(head + strings.Repeat(in[0], n) + "seal;" + strings.Repeat(in[1], n) + "};")
			if err != nil || deepest(p.Funcs[0].Body) != n+1 || stmt.Check(p) != api.OK {
				t.Errorf("%s: %d deep: %v", in[0], n+1, err)
			}
		}
		for _, n := range []int{40, 41, 60} {
			refused(t, head+strings.Repeat(in[0], n)+"seal;"+strings.Repeat(in[1], n)+"};", api.ErrDepth, len(head)+40*len(in[0]))
		}
		full := head + strings.Repeat(in[0], 40)
		if !strings.Contains(in[1], "seal") && strings.Count(in[1], "{") == 0 {
			goesOn(t, full+strings.Repeat(in[1], 40)+"};")
		}
		refusedWhatever(t, full, api.ErrDepth, "}")
		refusedWhatever(t, head+strings.Repeat(in[0], 39)+"seal; if 1 {", api.ErrDepth, "}")
		refusedWhatever(t, head+strings.Repeat(in[0], 39)+"if 1 {} else {", api.ErrDepth, "}")
		refusedWhatever(t, head+strings.Repeat(in[0], 39)+"seal; seal;", api.ErrForm, append(begins(), "}")...)
	}
	goesOn(t, "fn f(){"+strings.Repeat("if 1{", 40)+strings.Repeat("}else{}", 40)+"};")
	goesOn(t, "fn f(){"+strings.Repeat("if 1{}else{", 39)+"if 1{}else{}"+strings.Repeat("}", 39)+"};")
	goesOn(t, many(9, "fn f(){"+strings.Repeat("while 1{", 40)+strings.Repeat("}", 40)+"};", ""))
}

// begins is the tokens with which a statement begins.
func begins() []string {
	return []string{"let", "buf", "if", "while", "for", "view", "edit", "move", "open", "call", "seal", "x", "a234567890123456", "lets"}
}

func deepest(l []api.Stmt) int {
	d := 0
	for _, s := range l {
		d = max(d, 1+deepest(s.Body), 1+deepest(s.Else))
	}
	return d
}

func count(l []api.Stmt) int {
	n := 0
	for _, s := range l {
		n += 1 + count(s.Body) + count(s.Else)
	}
	return n
}

// fulls is beginnings of programs, each with n statements, behind which a further one might begin; and what ends them.
func fulls(n int) [][2]string {
	return [][2]string{
		{"fn f(){" + strings.Repeat("seal;", n), "};"},
		{"fn f(){" + strings.Repeat("x=1;", n), "}=secret x;"},
		{"fn f(){" + strings.Repeat("seal;", n-1) + "if 1{", "}};"},
		{"fn f(){" + strings.Repeat("seal;", n-1) + "if 1{}else{", "}};"},
		{"fn f(){" + strings.Repeat("seal;", n-2) + "if 1{seal;}else{", "}};"},
		{"fn f(){" + strings.Repeat("seal;", n-2) + "if 1{}else{seal;}", "};"},
		{"fn f(){" + strings.Repeat("seal;", n-2) + "while 1{seal;", "}};"},
		{"fn f(){" + strings.Repeat("if 1{seal;}", n/2), "};"},
		{"fn f(){" + strings.Repeat("if 1{}else{seal;}", n/2), "};"},
		{"fn f(){" + strings.Repeat("if 1{seal;}else{seal;for i<1{}}", n/4), "};"},
		{"fn f(){" + strings.Repeat("view v=b[0..1]{", 39) + strings.Repeat("let x=1;", n-39), strings.Repeat("}", 39) + "};"},
		{strings.Repeat("fn f(){seal;};", 15) + "fn f(){" + strings.Repeat("seal;", n-15), "};"},
		{"fn f(){" + strings.Repeat("seal;", n) + "}; fn g(num a){", "};"},
		{"fn f(){" + strings.Repeat("seal;", n/2) + "}=1;fn g(){" + strings.Repeat("open x=1;", n/2-1) + "edit v=b[0..1]{", "}};fn h(){};"},
	}
}

// TestLimitStmts (P8.2): MaxStmts statements are read; what would begin another one is ErrLong, whatever it is.
func TestLimitStmts(t *testing.T) {
	for _, x := range fulls(400) {
		p, err := stmt.Parse(x[0] + x[1])
		n := 0
		for _, f := range p.Funcs {
			n += count(f.Body)
		}
		if err != nil || n != 400 || stmt.Check(p) != api.OK {
			t.Errorf("Parse(%q): %d statements, %v", short(x[0]+x[1]), n, err)
		}
		refusedWhatever(t, x[0], api.ErrLong, "}", "else")
		refused(t, x[0]+"seal;"+x[1], api.ErrLong, len(x[0]))
		refused(t, x[0]+"let"+x[1], api.ErrLong, len(x[0]))
	}
	for _, n := range []int{396, 399} {
		for _, x := range fulls(n) {
			goesOn(t, x[0]+x[1])
			refused(t, x[0]+";", api.ErrForm, len(x[0]))
		}
	}
}

// TestLimitElse (P8.2): an else that goes on with an if begins no statement; another one would.
func TestLimitElse(t *testing.T) {
	ahead := "fn f(){" + strings.Repeat("seal;", 399)
	goesOn(t, ahead+"if 1{} else {} };")
	refusedWhatever(t, ahead+"if 1{} else {", api.ErrLong, "}")
	refusedWhatever(t, ahead+"if 1{} else {}", api.ErrLong, "}")
	refusedWhatever(t, ahead+"if 1{} else", api.ErrForm, "{")
	refusedWhatever(t, ahead+"while 1{}", api.ErrLong, "}")
	refused(t, ahead+"seal; else {} };", api.ErrLong, len(ahead)+6)
	refused(t, ahead+"while 1{} else {} };", api.ErrLong, len(ahead)+10)
	refused(t, ahead[:len(ahead)-5]+"seal; else {} };", api.ErrForm, len(ahead)+1)
}

// TestLimitBoth (P8.2): what would be too deep, and one too many, is ErrDepth.
func TestLimitBoth(t *testing.T) {
	deep := strings.Repeat("if 1{", 40)
	for _, n := range []int{0, 359, 360} {
		ahead := "fn f(){" + strings.Repeat("seal;", n) + deep
		goesOn(t, ahead+strings.Repeat("}", 40)+"};")
		refusedWhatever(t, ahead, api.ErrDepth, "}")
	}
	ahead := "fn f(){" + strings.Repeat("seal;", 361)
	refused(t, ahead+deep+"seal;", api.ErrLong, len(ahead)+39*5)
	refused(t, ahead+deep[:39*5]+";", api.ErrLong, len(ahead)+39*5)
	refused(t, ahead+deep[:39*5]+strings.Repeat("}", 39)+"x", api.ErrLong, len(ahead)+39*6)
}

// TestLimitFirst (P8.2): of several errors it is the first one in the text.
func TestLimitFirst(t *testing.T) {
	seals, funcs := strings.Repeat("seal;", 400), many(16, "fn f(){};", "")
	refused(t, "fn f(){ let; "+seals+"seal;", api.ErrForm, 11)
	refused(t, "fn f(){ x = (a+); "+seals+"seal;", api.ErrForm, 15)
	refused(t, "fn f("+many(9, "num a", ",")+"){ let;", api.ErrLong, 53)
	refused(t, "fn f(num, "+many(9, "num a", ",")+"){};", api.ErrForm, 8)
	refused(t, funcs[:len(funcs)-2]+"fn f(){};", api.ErrForm, len(funcs)-2)
	refused(t, funcs+"fn f("+many(9, "num a", ","), api.ErrLong, len(funcs))
	refused(t, "fn f(){ call f("+many(9, "1", ",")+" ) let", api.ErrLong, 31)
	refused(t, "fn f(){ call f("+strings.Repeat("(", 50)+","+many(9, "1", ","), api.ErrDepth, 55)
	refused(t, "fn f(){"+seals+" x = "+strings.Repeat("(", 50), api.ErrLong, 2008)
	refused(t, "fn f(){"+seals+"} = "+strings.Repeat("(", 50), api.ErrDepth, 2011+40)
	refused(t, "fn f(){"+seals+"} = (", api.ErrForm, 2012)
	for n := range 16 {
		s := strings.Repeat("fn f"+strconv.Itoa(n)+"(){}; ", n)
		refused(t, s+"fn f(){}", api.ErrForm, len(s)+8)
	}
}
