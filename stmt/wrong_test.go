package stmt_test

import (
	"errors"
	"slices"
	"strings"
	"testing"

	"sacristy/api"
	"sacristy/lex"
	"sacristy/stmt"
)

// TestWrongFuncs (P8.2): the first token with which no program goes on so; ~ stands ahead of it, and is none of the text.
func TestWrongFuncs(t *testing.T) {
	for _, s := range []string{
		"~x", "~1", "~;", "~}", "~let", "~return", "~num",
		"fn~", "fn ~(", "fn ~1", "fn ~let", "fn ~fn f(){};", "fn f~", "fn f ~{", "fn f ~;", "fn f ~f(){};",
		"fn f(~", "fn f(~;", "fn f(~,", "fn f(~a", "fn f(~1", "fn f(~let a", "fn f(~buf a", "fn f(~(", "fn f(~{",
		"fn f(num~", "fn f(num ~)", "fn f(num ~secret a", "fn f(num ~num", "fn f(num ~,", "fn f(num ~1",
		"fn f(secret ~num a", "fn f(secret ~view a", "fn f(secret ~secret a", "fn f(secret ~)",
		"fn f(view ~edit a", "fn f(view ~num a", "fn f(view ~)", "fn f(view secret ~secret a", "fn f(view secret ~)", "fn f(view secret ~edit b",
		"fn f(edit ~view a", "fn f(edit ~num a", "fn f(edit ~,", "fn f(edit secret ~num a", "fn f(edit secret~",
		"fn f(num a~", "fn f(num a ~num b", "fn f(num a ~b", "fn f(num a~;", "fn f(num a~]", "fn f(num a~[", "fn f(num a ~= 1",
		"fn f(num a,~", "fn f(num a,~)", "fn f(num a,~,", "fn f(num a,~b", "fn f(num a, num b,~)",
		"fn f()~", "fn f()~;", "fn f()~=", "fn f() ~fn", "fn f() ~seal;", "fn f()~)", "fn f(num a)~,",
		"fn f(){~", "fn f(){~;", "fn f(){~=", "fn f(){~)", "fn f(){~{", "fn f(){~1", "fn f(){~fn", "fn f(){~else", "fn f(){~num a", "fn f(){~secret a", "fn f(){~return 1;", "fn f(){~#a", "fn f(){~(a", "fn f(){~,",
		"fn f(){}~", "fn f(){}~}", "fn f(){} ~fn", "fn f(){} ~1", "fn f(){} ~a", "fn f(){} ~secret a", "fn f(){}~{", "fn f(){} ~else",
		"fn f(){}=~", "fn f(){}=~;", "fn f(){}=~=", "fn f(){}= ~let", "fn f(){}=~)", "fn f(){}=~+", "fn f(){}=~{", "fn f(){}= ~num",
		"fn f(){}= secret ~", "fn f(){}= secret ~;", "fn f(){}= secret ~secret a", "fn f(){}= secret ~=",
		"fn f(){}=a~", "fn f(){}=a ~b", "fn f(){}=a~=", "fn f(){}=a~+1", "fn f(){}=a~}", "fn f(){}=a~,", "fn f(){}=a[~]", "fn f(){}=(a+b~]", "fn f(){}=1 ~fn",
		"fn f(){};~;", "fn f(){};~}", "fn f(){}; ~f", "fn f(){}; ~let", "fn f(){}; ~{", "fn f(){};~=1;", "fn f(){}=1;~=", "fn f(){}; ~seal;", "fn f(){}; fn~",
	} {
		formAt(t, s, "", "")
	}
}

// TestWrongStmts (P8.2): likewise of statements, in a function, and in blocks.
func TestWrongStmts(t *testing.T) {
	for _, s := range []string{
		"let~", "let ~=", "let ~1", "let ~let x", "let ~num x", "let secret ~secret x", "let secret ~=", "let x~", "let x~;", "let x ~1", "let x~[1]", "let x ~x", "let x =~", "let x =~;", "let x =~}", "let x = ~secret a", "let x = a~", "let x = a~}", "let x = a ~b", "let x = a~,", "let x = a;~;",
		"x~", "x~;", "x ~x", "x ~1", "x~(", "x~<", "x~..", "x~}", "x =~", "x =~;", "x =~=", "x = ~secret a", "x = a~", "x = a ~let", "x = a~}", "x = a~=", "x = a~]",
		"buf~", "buf ~[", "buf ~1", "buf secret ~[", "buf secret ~secret x", "buf x~", "buf x~=", "buf x~;", "buf x~(", "buf x[~", "buf x[~]", "buf x[1~", "buf x[1~;", "buf x[1~..2]", "buf x[1]~", "buf x[1]~=", "buf x[1]~}", "buf x[1];~;",
		"x[~", "x[~]", "x[~=", "x[1~", "x[1~=", "x[1~..", "x[1]~", "x[1]~;", "x[1]~[", "x[1]~}", "x[1]=~", "x[1]=~;", "x[1]=~=", "x[1]=a~", "x[1]=a~}", "x[1]=a~=",
		"if~", "if~;", "if~{", "if~}", "if ~let", "if (~", "if 1~", "if 1~;", "if 1~)", "if 1 ~seal;", "if a~=", "if a~<b {}", "if 1 {~", "if 1 {~)", "if 1 {~else", "if 1 {}~;", "if 1 {}~)", "if 1 {}~{", "if 1 {} else~", "if 1 {} else~;", "if 1 {} else ~if 1 {}", "if 1 {} else ~seal;", "if 1 {} else {~", "if 1 {} else {~;", "if 1 {} else {}~;", "if 1 {} else {} ~else", "if 1 {} ~1", "if 1 {} seal; ~else",
		"while~", "while~{", "while~;", "while ~let", "while 1~", "while 1~;", "while 1 ~seal;", "while a~<1", "while 1 {~", "while 1 {~;", "while 1 {}~;", "while 1 {} ~else {}", "while 1 {} ~1",
		"for~", "for ~1", "for ~(", "for ~let", "for i~", "for i~=", "for i~;", "for i~{", "for i~<<1", "for i~<$1", "for i ~i", "for i~..", "for i <~", "for i <~{", "for i <~;", "for i < ~<", "for i < n~", "for i < n~;", "for i < n ~seal;", "for i < n~<", "for i < n {~", "for i < n {~;", "for i < n {}~;", "for i < n {} ~else {}",
		"view~", "view ~=", "view ~secret v", "view ~1", "view v~", "view v~;", "view v~[", "view v ~w", "view v =~", "view v =~;", "view v = ~1", "view v =~(", "view v =~#b", "view v = w~", "view v = w~;", "view v = w~=", "view v = w~{", "view v = w[~", "view v = w[~]", "view v = w[~..1]", "view v = w[0~", "view v = w[0~]", "view v = w[0~,1]", "view v = w[0~;", "view v = w[0..~", "view v = w[0..~]", "view v = w[0..~..", "view v = w[0..1~", "view v = w[0..1~;", "view v = w[0..1~..", "view v = w[0..1~}", "view v = w[0..1]~", "view v = w[0..1]~;", "view v = w[0..1] ~seal;", "view v = w[0..1]~=", "view v = w[0..1]{~", "view v = w[0..1]{~;", "view v = w[0..1]{}~;", "view v = w[0..1]{} ~else {}",
		"edit~", "edit ~secret v", "edit ~=", "edit v~[", "edit v = w~;", "edit v = w[0..1]~;", "edit v = w[0~]", "edit v = w[0..1]{~else",
		"move~", "move ~=", "move ~secret x", "move ~1", "move x~", "move x~;", "move x ~y", "move x~[", "move x =~", "move x =~;", "move x = ~1", "move x =~(", "move x =~#y", "move x = y~", "move x = y~[", "move x = y~}", "move x = y~,", "move x = y;~;",
		"open~", "open ~=", "open ~secret x", "open x~", "open x~;", "open x ~a", "open x~[", "open x =~", "open x =~;", "open x = ~secret a", "open x = a~", "open x = a~}", "open x = a ~b",
		"call~", "call ~(", "call ~1", "call ~=", "call ~;", "call ~secret x", "call x~", "call x~;", "call x~[", "call x~)", "call x ~x", "call x =~", "call x =~=", "call x = ~1", "call x =~(", "call x = f~", "call x = f~;", "call x = f~=", "call x = f~[",
		"call f(~", "call f(~)", "call f(~,", "call f(~}", "call f(~let", "call f(~view b", "call f(a~", "call f(a~)", "call f(a~=", "call f(a ~b", "call f(a~]", "call f(a,~", "call f(a,~;", "call f(a,~,", "call f(a,~)", "call f(a, b~)",
		"call f(;~", "call f(;~;", "call f(;~,", "call f(;~1", "call f(;~#b", "call f(;~(", "call f(;~edit b", "call f(;b~", "call f(;b~;", "call f(;b~[", "call f(;b~=", "call f(;b ~c", "call f(;b,~", "call f(;b,~)", "call f(;b,~,", "call f(;b,~1", "call f(;b, c~;",
		"call f(;)~", "call f(;)~)", "call f(;)~}", "call f(;)~=", "call f(;);~;", "call x = f(a; b)~,",
		"seal~", "seal~}", "seal ~seal;", "seal~=", "seal~(", "seal ~x", "seal ~1", "seal;~;", "seal; ~else",
	} {
		for _, behind := range []string{"", " a", " };", " ; } = 1 ;"} {
			formAt(t, s, "fn f(){", behind)
			formAt(t, s, "fn g(){}; fn f(num a){ seal; if 1 {", behind)
			formAt(t, s, "fn f(){ if 1 { } else { x = 1; ", behind)
		}
	}
}

// formAt asks for ErrForm where ~ stands in s, behind what stands ahead; what stands behind s is put there only where s has a token there already.
func formAt(t *testing.T, s, ahead, behind string) {
	t.Helper()
	at := len(ahead) + strings.Index(s, "~")
	s = ahead + strings.Replace(s, "~", "", 1)
	if at < len(s) {
		s += behind
	}
	l, err := lex.Cut(s)
	if err != nil {
		t.Fatalf("%q: %v", s, err)
	}
	k := slices.IndexFunc(l, func(x api.Token) bool { return x.At >= at })
	refused(t, s, api.ErrForm, l[k].At)
}

// TestWrongCut (P8.2): lex.Cut's error, ahead of all others.
func TestWrongCut(t *testing.T) {
	const good = "fn f(){};"
	for s, f := range map[string]api.Fault{
		"!":                               {At: 0, Err: 7},
		good + "!":                        {At: 9, Err: 7},
		"; ; ; 01":                        {At: 6, Err: 7},
		"fn fn fn a2345678901234567":      {At: 9, Err: 5},
		"x 18446744073709551616":          {At: 2, Err: 7},
		good + " .":                       {At: 10, Err: 7},
		strings.Repeat("(", 16385):        {At: 0, Err: 5},
		strings.Repeat(" ", 16385):        {At: 0, Err: 5},
		strings.Repeat(good, 2000):        {At: 0, Err: 5},
		strings.Repeat(good, 20) + "\x00": {At: 180, Err: 7},
		"fn f(){ x = " + strings.Repeat("(", 50) + "A": {At: 62, Err: 7},
	} {
		refused(t, s, f.Err, f.At)
	}
	parses(t, good+strings.Repeat(" ", 16384-len(good)), funcs(api.Func{Name: "f"}))
	parses(t, strings.Repeat("\n", 16384-len(good))+good, funcs(api.Func{Name: "f"}))
}

// TestWrongExpr (P8.2): expr.Read's error, wherever an expression stands.
func TestWrongExpr(t *testing.T) {
	places := []string{"let x = ~;", "let secret x = ~;", "x = ~;", "buf x[~];", "x[~] = 1;", "x[1] = ~;", "if ~ {}", "while ~ {}", "for i < ~ {}", "view v = w[~..1] {}", "edit v = w[0..~] {}", "open x = ~;", "call f(~;);", "call x = f(1, ~, 2; a);"}
	for _, place := range places {
		ahead, behind, _ := strings.Cut("fn f(){ "+place, "~")
		wrongExprs(t, ahead, behind+" };")
	}
	wrongExprs(t, "fn f(){} = ", ";")
	wrongExprs(t, "fn f(){} = secret ", ";")
}

func wrongExprs(t *testing.T, ahead, behind string) {
	t.Helper()
	n := len(ahead)
	open, shut := strings.Repeat("(", 39), strings.Repeat("+1)", 39)
	if _, err := stmt.Parse(ahead + open + "7" + shut + behind); err != nil {
		t.Errorf("%q: 40 deep: %v", ahead, err)
	}
	refused(t, ahead+open+"(7+1)"+shut+behind, api.ErrDepth, n+40)
	refused(t, ahead+strings.Repeat("a[", 39)+"a[7]"+strings.Repeat("]", 39)+behind, api.ErrDepth, n+80)
	for _, x := range anyPieces() {
		refused(t, ahead+open+"("+x, api.ErrDepth, n+40)
		refused(t, ahead+open+"( "+x+" ) ;", api.ErrDepth, n+41)
	}
	refused(t, ahead+open+"(", api.ErrDepth, n+40)
	refused(t, ahead+"(a+)"+behind, api.ErrForm, n+3)
	refused(t, ahead+"(a)"+behind, api.ErrForm, n+2)
	refused(t, ahead+"a[]"+behind, api.ErrForm, n+2)
	refused(t, ahead+"#1"+behind, api.ErrForm, n+1)
	refused(t, ahead+"let"+behind, api.ErrForm, n)
	refused(t, ahead+"(a+b", api.ErrForm, n+4)
	refused(t, ahead+open+"let", api.ErrForm, n+39)
}

// whole is a program's text in which each line of the grammar stands.
const whole = `fn f ( num a , secret b , view c , view secret d , edit e , edit secret g ) {
let x = ( a + 1 ) ; let secret y = # c ; x = c [ ( 1 - a ) ] ; buf h [ 8 ] ; buf secret i [ # c ] ; h [ 0 ] = x ;
if x { } if x { seal ; } else { while ( x < 8 ) { } } for j < x { x = j ; }
view v = c [ 0 .. # c ] { edit w = h [ x .. x ] { } } move k = h ; open z = y ; call f ( ; ) ; call q = f ( 1 , x , a ; c , d ) ; seal ;
} = secret ( y *^ ( y >>> 3 ) ) ; fn m ( ) { } = 1 ; fn n ( num a ) { } ;`

// TestWrongNext (P8.2): behind each beginning of programs each token: where a program goes on so, the place of the error is behind it; where none does, it is that token's.
func TestWrongNext(t *testing.T) {
	texts, c := []string{whole}, chance(4)
	for len(texts) < 40 {
		if s := told(c.prog(3, 3)); len(s) > 100 && len(s) < 500 {
			texts = append(texts, s)
		}
	}
	letters := anyPieces()
	went, stopped := 0, 0
	for _, s := range texts {
		r, ahead := newRow(), ""
		for _, piece := range append(strings.Fields(s), "") {
			for _, x := range letters {
				letter := letterOf(cut(x)[0])
				if !r.may(letter) {
					stopped++
					refused(t, ahead+x, api.ErrForm, len(ahead))
					continue
				}
				went++
				r.read(letter)
				if r.may("END") {
					if _, err := stmt.Parse(ahead + x); err != nil {
						t.Errorf("%q: %v", ahead+x, err)
					}
				} else {
					refused(t, ahead+x, api.ErrForm, len(ahead)+len(x))
				}
				r.back()
			}
			if piece != "" {
				r.read(letterOf(cut(piece)[0]))
				ahead += piece + " "
			}
		}
		if !r.may("END") {
			t.Errorf("%q is no program", s)
		}
	}
	if went < 10000 || stopped < 100000 {
		t.Errorf("%d went on, %d did not", went, stopped)
	}
}

// cut is the tokens of a text that has some.
func cut(s string) []api.Token {
	l, err := lex.Cut(s)
	if err != nil {
		panic(s)
	}
	return l
}

// TestWrongScattered (P8.2): programs' texts, some pieces of which are others, gone, twice, or cut off, are read as the model has it.
func TestWrongScattered(t *testing.T) {
	c, read, wrong := chance(5), 0, 0
	for range 4000 {
		pieces := strings.Fields(told(c.prog(2, 3)))
		if len(pieces) > 200 {
			continue
		}
		for range 1 + c.below(3) {
			pieces = c.turned(pieces)
		}
		s := strings.Join(pieces, " ")
		l := cut(s)
		k := model(l)
		if k < len(l) {
			wrong++
			refused(t, s, api.ErrForm, l[k].At)
			continue
		}
		read++
		p, err := stmt.Parse(s)
		if err != nil || stmt.Check(p) != api.OK || told(p) != strings.ReplaceAll(s, " else { }", "") {
			t.Errorf("%q is read as %q, %v", s, told(p), err)
		}
	}
	if read < 300 || wrong < 1000 {
		t.Errorf("%d were read, %d were not", read, wrong)
	}
}

// turned is pieces with one of them another one, gone, twice, or with all behind cut off.
func (c *chance) turned(pieces []string) []string {
	x := anyPieces()[c.below(len(anyPieces()))]
	k := c.below(len(pieces) + 1)
	next := min(k+1, len(pieces))
	switch c.below(5) {
	case 0:
		return slices.Insert(slices.Clone(pieces), k, x)
	case 1:
		return slices.Concat(pieces[:k], pieces[next:])
	case 2:
		return slices.Concat(pieces[:next], pieces[k:])
	case 3:
		return slices.Concat(pieces[:k], []string{x}, pieces[next:])
	}
	if c.is() {
		return pieces
	}
	return pieces[:k]
}

// TestParseEnds (P8.3): whatever a text is, a program that may be, or an error with a place within the text.
func TestParseEnds(t *testing.T) {
	c, good, bad := chance(6), 0, 0
	ends := func(s string) {
		p, err := stmt.Parse(s)
		var f api.Fault
		switch {
		case err == nil && stmt.Check(p) == api.OK:
			good++
		case errors.As(err, &f) && err == error(f) && f.At >= 0 && f.At <= len(s) && len(p.Funcs) == 0:
			bad++
		default:
			t.Errorf("Parse(%q): %v", short(s), err)
		}
	}
	for range 20000 {
		b := make([]byte, c.below(40))
		for k := range b {
			b[k] = byte(c.below(256))
		}
		ends(string(b))
		ends("fn f(){" + string(b))
	}
	for range 20000 {
		var pieces []string
		for range c.below(30) {
			pieces = append(pieces, anyPieces()[c.below(len(anyPieces()))])
		}
		ends(strings.Join(pieces, " "))
		ends("fn f ( ) { x = 1 ; " + strings.Join(pieces, " "))
	}
	for n := range len(whole) + 1 {
		ends(whole[:n])
		ends(whole[n:])
	}
	for _, s := range []string{"(", "{", "fn f(){", "if 1{", "a[", "fn f(){if 1{}else{", ";", ",", "fn", "\n"} {
		for _, n := range []int{1, 10, 100, 1000, 16384 / len(s), 16384/len(s) + 1, 100000} {
			ends(strings.Repeat(s, n))
			ends("fn f(){" + strings.Repeat(s, n))
			ends("fn f(){ x = " + strings.Repeat(s, n))
		}
	}
	if good < 30 || bad < 50000 {
		t.Errorf("%d programs, %d errors", good, bad)
	}
}
