package lex_test

import (
	"slices"
	"strings"
	"testing"

	"sacristy/api"
	"sacristy/lex"
)

// TestNamed (P6.2): names, at their edges; words, and what is wrong.
func TestNamed(t *testing.T) {
	for _, s := range []string{"a", "z", "_", "a1", "_1", "__", "abc_09", "lets", "let_", "_let", "elsewhere", "nums", "main", "a234567890123456", strings.Repeat("_", 16)} {
		if !lex.Named(s) {
			t.Errorf("Named(%q): no", s)
		}
	}
	none := append(allWords(), allSigns()...)
	none = append(none, "", " ", "\n", "0", "1", "1a", "0_", "A", "aB", "a b", " a", "a ", "a\n", "\na", "a;", ";a", "a.b", "a..", "a-1", "a!", "!", "\u00e9", "a\u00e9", "a\x00", "\x00", "a\xff",
		"a2345678901234567", strings.Repeat("_", 17), strings.Repeat("a", 16384), strings.Repeat("a", 16385), "a"+strings.Repeat(" ", 16384), "a"+strings.Repeat(" ", 15), strings.Repeat(" ", 15)+"a")
	for _, s := range none {
		if lex.Named(s) {
			t.Errorf("Named(%q): yes", short(s))
		}
	}
}

// TestNamedBytes (P6.2): each byte, as the first one and as one behind, and each two of those about the edges.
func TestNamedBytes(t *testing.T) {
	is := func(b int, of string) bool { return strings.IndexByte(of, byte(b)) >= 0 }
	letters, digits := "abcdefghijklmnopqrstuvwxyz_", "0123456789"
	for a := range 256 {
		if s := string([]byte{byte(a)}); lex.Named(s) != is(a, letters) {
			t.Errorf("Named(%q): %v", s, !is(a, letters))
		}
		for b := range 256 {
			want := is(a, letters) && is(b, letters+digits) && !(a == 'i' && b == 'f') && !(a == 'f' && b == 'n')
			if s := string([]byte{byte(a), byte(b)}); lex.Named(s) != want {
				t.Errorf("Named(%q): %v", s, !want)
			}
		}
	}
}

// TestJoinTold (P6.2): the pieces, with one blank between two; the end, and what has no kind, is left out.
func TestJoinTold(t *testing.T) {
	none := api.Token{Text: "x", Num: 7}
	for _, x := range []struct {
		l    []api.Token
		want string
	}{
		{nil, ""},
		{[]api.Token{}, ""},
		{line(end(0)), ""},
		{line(none), ""},
		{line(name("a", 5)), "a"},
		{line(num(0, 0)), "0"},
		{line(num(1<<64-1, 0)), "18446744073709551615"},
		{line(num(1000, 0)), "1000"},
		{line(name("a", 0), sign("<<", 0), num(2, 0), sign(";", 0), end(0)), "a << 2 ;"},
		{line(word("let", 9), name("x", 3), sign("=", 3), num(10, 1), end(0), sign(";", 0)), "let x = 10 ;"},
		{line(end(0), name("a", 0), end(0), end(1), name("b", 0), end(0)), "a b"},
		{line(none, name("a", 0), none, none, name("b", 0), none), "a b"},
		{line(sign("<", 0), sign("<", 1)), "< <"},
		{line(num(1, 0), num(2, 1)), "1 2"},
		{line(api.Token{Kind: api.TkNum, Text: "x", Num: 7}, api.Token{Kind: api.TkName, Text: "y", Num: 8}, api.Token{Kind: api.TkEnd, Text: "z", Num: 9}), "7 y"},
	} {
		if s := lex.Join(x.l); s != x.want {
			t.Errorf("Join(%+v): %q, not %q", x.l, s, x.want)
		}
	}
	for kind := range 256 {
		want := "a b"
		switch uint8(kind) {
		case api.TkName, api.TkWord, api.TkSign:
			want = "a x b"
		case api.TkNum:
			want = "a 7 b"
		}
		if s := lex.Join(line(name("a", 0), api.Token{Kind: uint8(kind), Text: "x", Num: 7}, name("b", 0))); s != want {
			t.Errorf("Join of kind %d: %q, not %q", kind, s, want)
		}
	}
}

// TestJoinKept (P6.2): what is handed in does not change.
func TestJoinKept(t *testing.T) {
	l := line(name("a", 0), end(1), api.Token{}, num(3, 2))
	kept := slices.Clone(l)
	if s := lex.Join(l); s != "a 3" || !slices.Equal(l, kept) {
		t.Errorf("Join: %q, %+v", s, l)
	}
}

// placeless is the tokens, all at 0.
func placeless(l []api.Token) []api.Token {
	l = slices.Clone(l)
	for k := range l {
		l[k].At = 0
	}
	return l
}

// TestBlanks (P6.3): whatever blanks stand between tokens, and as many as there are, the tokens are the same, but for their places.
func TestBlanks(t *testing.T) {
	c := chance(1)
	for range 3000 {
		var want []api.Token
		s := c.blanks(0)
		for range c.below(40) {
			p := c.piece()
			tok, e := tokenOf(p)
			if e != api.OK {
				t.Fatalf("%q: %v", p, e)
			}
			tok.At = len(s)
			want = append(want, tok)
			s += p + c.blanks(1+c.below(3))
		}
		s += c.blanks(0)
		cutsAs(t, s, append(want, end(len(s))))
	}
}

// TestThereAndBack (P6.3): what was cut, joined, and cut again has the same tokens; what was joined is joined as itself.
func TestThereAndBack(t *testing.T) {
	c, cut := chance(2), 0
	for range 20000 {
		s := ""
		for range c.below(20) {
			s += c.piece() + strings.Repeat(c.blanks(0), c.below(2))
		}
		l, err := lex.Cut(s)
		if err != nil {
			continue
		}
		cut++
		joined := lex.Join(l)
		again, err := lex.Cut(joined)
		if err != nil || !slices.Equal(placeless(again), placeless(l)) || lex.Join(again) != joined {
			t.Fatalf("%q is joined as %q, and cut as %+v, %v", s, joined, again, err)
		}
	}
	if cut < 3000 {
		t.Errorf("%d texts were cut", cut)
	}
}

// TestScattered (P6.1): texts of scattered bytes, many of them right, are cut as the model does.
func TestScattered(t *testing.T) {
	c, cut := chance(3), 0
	for range 60000 {
		var b []byte
		bytes := "abcletifn_0123456789 \n(){}[],;=#..+-**^^/%&|<<<>>>>$"
		if c.below(4) == 0 {
			bytes += "!A\t\x00\xff~."
		}
		for range c.below(24) {
			b = append(b, bytes[c.below(len(bytes))])
		}
		sameAsModel(t, string(b))
		if _, f := model(string(b)); f.Err == api.OK {
			cut++
		}
	}
	if cut < 10000 {
		t.Errorf("%d texts were cut", cut)
	}
}
