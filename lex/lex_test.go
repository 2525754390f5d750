package lex_test

import (
	"errors"
	"slices"
	"strings"
	"testing"

	"sacristy/api"
	"sacristy/lex"
)

func name(s string, at int) api.Token { return api.Token{Kind: api.TkName, Text: s, At: at} }
func word(s string, at int) api.Token { return api.Token{Kind: api.TkWord, Text: s, At: at} }
func sign(s string, at int) api.Token { return api.Token{Kind: api.TkSign, Text: s, At: at} }
func num(v uint64, at int) api.Token  { return api.Token{Kind: api.TkNum, Num: v, At: at} }
func end(at int) api.Token            { return api.Token{Kind: api.TkEnd, At: at} }
func line(l ...api.Token) []api.Token { return l }
func short(s string) string           { return s[:min(len(s), 60)] }
func errnoOf(err error) (e api.Errno) { errors.As(err, &e); return e }
func faultOf(err error) (f api.Fault) { errors.As(err, &f); return f }

// cutsAs asks that s has just these tokens.
func cutsAs(t *testing.T, s string, want []api.Token) {
	t.Helper()
	if l, err := lex.Cut(s); err != nil || !slices.Equal(l, want) {
		t.Errorf("Cut(%q): %+v, %v, not %+v", short(s), l, err, want)
	}
}

// refused asks that s has no tokens, but an error with its place, that is found by each of the ways to ask for it.
func refused(t *testing.T, s string, e api.Errno, at int) {
	t.Helper()
	l, err := lex.Cut(s)
	if f := (api.Fault{At: at, Err: e}); len(l) != 0 || err != error(f) || faultOf(err) != f || errnoOf(err) != e || !errors.Is(err, e) {
		t.Errorf("Cut(%q): %+v, %v, not %v", short(s), l, err, f)
	}
}

// TestCutTold (P6.1): texts and their tokens, written out by hand; the chapter's example is the first one.
func TestCutTold(t *testing.T) {
	for s, want := range map[string][]api.Token{
		"a1<<2;":             line(name("a1", 0), sign("<<", 2), num(2, 4), sign(";", 5), end(6)),
		"":                   line(end(0)),
		" ":                  line(end(1)),
		" \n \n":             line(end(4)),
		"a":                  line(name("a", 0), end(1)),
		" a ":                line(name("a", 1), end(3)),
		"\n\na\n":            line(name("a", 2), end(4)),
		"a b":                line(name("a", 0), name("b", 2), end(3)),
		"1a":                 line(num(1, 0), name("a", 1), end(2)),
		"10a0 0":             line(num(10, 0), name("a0", 2), num(0, 5), end(6)),
		"1_0":                line(num(1, 0), name("_0", 1), end(3)),
		"0x1f":               line(num(0, 0), name("x1f", 1), end(4)),
		"1e5":                line(num(1, 0), name("e5", 1), end(3)),
		"12let":              line(num(12, 0), word("let", 2), end(5)),
		"_":                  line(name("_", 0), end(1)),
		"_9_":                line(name("_9_", 0), end(3)),
		"let x=#k;":          line(word("let", 0), name("x", 4), sign("=", 5), sign("#", 6), name("k", 7), sign(";", 8), end(9)),
		"lets let1 _let let": line(name("lets", 0), name("let1", 5), name("_let", 10), word("let", 15), end(18)),
		"v=b[0..(n-1)]{}": line(name("v", 0), sign("=", 1), name("b", 2), sign("[", 3), num(0, 4), sign("..", 5), sign("(", 7), name("n", 8), sign("-", 9),
			num(1, 10), sign(")", 11), sign("]", 12), sign("{", 13), sign("}", 14), end(15)),
		"secret s = ( a *^ b ) ;": line(word("secret", 0), name("s", 7), sign("=", 9), sign("(", 11), name("a", 13), sign("*^", 15), name("b", 18), sign(")", 20), sign(";", 22), end(23)),
	} {
		cutsAs(t, s, want)
	}
	refused(t, "1,000", api.ErrForm, 2)
}

// TestCutSigns (P6.1): each sign alone, between names, and beside itself.
func TestCutSigns(t *testing.T) {
	if n := len(allSigns()); n != 25 {
		t.Errorf("%d signs", n)
	}
	for _, s := range allSigns() {
		cutsAs(t, s, line(sign(s, 0), end(len(s))))
		cutsAs(t, "a"+s+"1", line(name("a", 0), sign(s, 1), num(1, 1+len(s)), end(2+len(s))))
		cutsAs(t, " "+s+"\n"+s, line(sign(s, 1), sign(s, 2+len(s)), end(2+2*len(s))))
	}
}

// TestCutLongest (P6.1): where several signs stand, it is the longest one, from the left on.
func TestCutLongest(t *testing.T) {
	for s, want := range map[string][]api.Token{
		"*^^":    line(sign("*^", 0), sign("^", 2), end(3)),
		"**^":    line(sign("*", 0), sign("*^", 1), end(3)),
		"^*":     line(sign("^", 0), sign("*", 1), end(2)),
		"* ^":    line(sign("*", 0), sign("^", 2), end(3)),
		"<<<":    line(sign("<<", 0), sign("<", 2), end(3)),
		"<<<<":   line(sign("<<", 0), sign("<<", 2), end(4)),
		"<<<$":   line(sign("<<", 0), sign("<$", 2), end(4)),
		"<$<":    line(sign("<$", 0), sign("<", 2), end(3)),
		"< <$":   line(sign("<", 0), sign("<$", 2), end(4)),
		"< <":    line(sign("<", 0), sign("<", 2), end(3)),
		">> >>>": line(sign(">>", 0), sign(">>>", 3), end(6)),
		">>>>>":  line(sign(">>>", 0), sign(">>", 3), end(5)),
		">>>>>>": line(sign(">>>", 0), sign(">>>", 3), end(6)),
		"....":   line(sign("..", 0), sign("..", 2), end(4)),
		"==":     line(sign("=", 0), sign("=", 1), end(2)),
		"&&||":   line(sign("&", 0), sign("&", 1), sign("|", 2), sign("|", 3), end(4)),
		"<=":     line(sign("<", 0), sign("=", 1), end(2)),
		"-1":     line(sign("-", 0), num(1, 1), end(2)),
		"//":     line(sign("/", 0), sign("/", 1), end(2)),
	} {
		cutsAs(t, s, want)
	}
	for s, at := range map[string]int{"<<$": 2, ">>>>": 3, "...": 2, ". .": 0, ">": 0, "> >": 0, ">>>>>>>": 6, "*^$": 2, "..a.": 3, "a.b": 1} {
		refused(t, s, api.ErrForm, at)
	}
}

// TestCutPairs (P6.1): two signs, one right behind the other, are cut as the model does.
func TestCutPairs(t *testing.T) {
	for _, a := range allSigns() {
		for _, b := range allSigns() {
			sameAsModel(t, a+b)
			sameAsModel(t, a+b+a)
			sameAsModel(t, a+" "+b)
		}
	}
}

// TestCutWords (P6.1): the words, and what is near one: that is a name.
func TestCutWords(t *testing.T) {
	if n := len(allWords()); n != 16 {
		t.Errorf("%d words", n)
	}
	for _, s := range allWords() {
		cutsAs(t, s, line(word(s, 0), end(len(s))))
		cutsAs(t, "("+s+")", line(sign("(", 0), word(s, 1), sign(")", 1+len(s)), end(2+len(s))))
		cutsAs(t, s+" "+s, line(word(s, 0), word(s, 1+len(s)), end(1+2*len(s))))
		for _, near := range []string{s + "_", s + "0", "_" + s, s + "s", s + s, s[:len(s)-1], s[1:]} {
			cutsAs(t, near, line(name(near, 0), end(len(near))))
		}
		refused(t, strings.ToUpper(s[:1])+s[1:], api.ErrForm, 0)
	}
	for _, s := range []string{"int", "func", "fun", "const", "var", "true", "ret", "go", "break", "to", "byte"} {
		cutsAs(t, s, line(name(s, 0), end(len(s))))
	}
}

// TestCutNames (P6.1): names of 1 to 16 bytes; one more is ErrLong, where it begins.
func TestCutNames(t *testing.T) {
	for _, first := range "_abcdefghijklmnopqrstuvwxyz" {
		long := string(first) + "z0_9a8b7c6d5e4f3g2"
		for n := 1; n <= 16; n++ {
			cutsAs(t, long[:n], line(name(long[:n], 0), end(n)))
		}
		for n := 17; n <= len(long); n++ {
			refused(t, long[:n], api.ErrLong, 0)
			refused(t, "7 ;\n"+long[:n]+" !", api.ErrLong, 4)
		}
	}
	for _, n := range []int{17, 18, 32, 255, 256, 257, 1000, 16384} {
		refused(t, strings.Repeat("a", n), api.ErrLong, 0)
		refused(t, "let"+strings.Repeat("_", n-3), api.ErrLong, 0)
	}
	cutsAs(t, strings.Repeat("_", 16)+"+"+strings.Repeat("_", 16), line(name(strings.Repeat("_", 16), 0), sign("+", 16), name(strings.Repeat("_", 16), 17), end(33)))
	refused(t, "a234567890123456;a2345678901234567", api.ErrLong, 17)
}

// TestCutNumbers (P6.1): numbers, and digits that are none.
func TestCutNumbers(t *testing.T) {
	for s, want := range map[string]uint64{
		"0": 0, "1": 1, "9": 9, "10": 10, "99": 99, "255": 255, "1000000": 1000000, "9223372036854775807": 1<<63 - 1, "9223372036854775808": 1 << 63,
		"9999999999999999999": 9999999999999999999, "10000000000000000000": 10000000000000000000, "18446744073709551609": 1<<64 - 7, "18446744073709551615": 1<<64 - 1,
	} {
		cutsAs(t, s, line(num(want, 0), end(len(s))))
		cutsAs(t, "-"+s+" "+s, line(sign("-", 0), num(want, 1), num(want, 2+len(s)), end(2+2*len(s))))
	}
	for _, s := range []string{
		"00", "01", "07", "010", "000", "0018446744073709551615", "018446744073709551616", "18446744073709551616", "18446744073709551617", "18446744073709551620",
		"18446744073709551700", "20000000000000000000", "99999999999999999999", "100000000000000000000", "36893488147419103232", "184467440737095516150", "340282366920938463463374607431768211456",
		strings.Repeat("0", 16384), strings.Repeat("1", 16384), "1" + strings.Repeat("0", 16383),
	} {
		refused(t, s, api.ErrForm, 0)
		if len(s) < 100 {
			refused(t, "x =\n"+s+";!", api.ErrForm, 4)
			refused(t, s+"a", api.ErrForm, 0)
			cutsAs(t, "a"+s[:2], line(name("a"+s[:2], 0), end(3)))
		}
	}
}

// TestCutBytes (P6.1): each byte, alone and behind each kind of token: letters, digits, signs and blanks are those that are named, and no others.
func TestCutBytes(t *testing.T) {
	kinds := map[uint8]int{}
	for b := range 256 {
		s := string([]byte{byte(b)})
		for _, ahead := range []string{"", "a", "7", "let", ";", "<", "..", " ", "\n"} {
			sameAsModel(t, ahead+s)
			sameAsModel(t, ahead+s+ahead)
		}
		if l, err := lex.Cut(s); err == nil {
			kinds[l[0].Kind]++
		}
	}
	if kinds[api.TkName] != 27 || kinds[api.TkNum] != 10 || kinds[api.TkSign] != 19 || kinds[api.TkEnd] != 2 || len(kinds) != 4 {
		t.Error(kinds)
	}
	for _, s := range []string{"\t", "\r", "\x00", "\v", "\f", "A", "Z", "`", "@", "!", "?", ":", "\"", "'", "\\", "~", "$", ">", ".", "\x7f", "\x80", "\xff", "\u00e9", "\u017f", "\u212a", "\u0663", "\u00a0", "\u2028", "\ufeff"} {
		refused(t, s, api.ErrForm, 0)
		refused(t, "a"+s, api.ErrForm, 1)
		refused(t, "1"+s+"1", api.ErrForm, 1)
		refused(t, "; "+s+";", api.ErrForm, 2)
	}
}

// TestCutFirst (P6.1): of several faults it is the first one, whatever comes behind.
func TestCutFirst(t *testing.T) {
	long := strings.Repeat("a", 17)
	refused(t, "a!", api.ErrForm, 1)
	refused(t, "01", api.ErrForm, 0)
	refused(t, "01 "+long, api.ErrForm, 0)
	refused(t, long+" 01", api.ErrLong, 0)
	refused(t, long+"!", api.ErrLong, 0)
	refused(t, "! "+long, api.ErrForm, 0)
	refused(t, " \n ! "+long, api.ErrForm, 3)
	refused(t, "a 1 . 01", api.ErrForm, 4)
	refused(t, "1 2 3 4 05 !", api.ErrForm, 8)
	refused(t, "1"+long, api.ErrLong, 1)
	refused(t, "0"+long+"00", api.ErrLong, 1)
}

// TestCutLong (P6.1): a text of MaxText bytes is cut; one of more is ErrLong at 0, whatever else is wrong.
func TestCutLong(t *testing.T) {
	const most = 16384
	for _, s := range []string{" ", "\n", ";", "a;", "1 ", ">>>>>>>>"} {
		s = strings.Repeat(s, most+1)
		sameAsModel(t, s[:most-1])
		sameAsModel(t, s[:most])
		refused(t, s[:most+1], api.ErrLong, 0)
	}
	blanks := strings.Repeat(" ", most)
	cutsAs(t, blanks, line(end(most)))
	cutsAs(t, blanks[1:]+"x", line(name("x", most-1), end(most)))
	refused(t, blanks+"x", api.ErrLong, 0)
	refused(t, blanks[1:]+"!", api.ErrForm, most-1)
	refused(t, blanks+"!", api.ErrLong, 0)
	refused(t, "!"+blanks, api.ErrLong, 0)
	refused(t, "01"+blanks, api.ErrLong, 0)
	refused(t, strings.Repeat("a", most+1), api.ErrLong, 0)
	refused(t, strings.Repeat(blanks, 300), api.ErrLong, 0)
	if l, err := lex.Cut(strings.Repeat(";", most)); len(l) != most+1 || err != nil {
		t.Errorf("%d tokens, %v", len(l), err)
	}
}

// TestCutNone (P6.1): without a fault there is no error at all.
func TestCutNone(t *testing.T) {
	if _, err := lex.Cut("a"); err != nil {
		t.Error(err)
	}
	if api.ErrLong != 5 || api.ErrForm != 7 || api.MaxText != 16384 || api.MaxName != 16 {
		t.Error("numbers of package api")
	}
}

// TestCutOwn (P6.1): what was answered is not answered again where it was changed.
func TestCutOwn(t *testing.T) {
	s := "let a = 5;"
	first, _ := lex.Cut(s)
	kept := slices.Clone(first)
	clear(first)
	cutsAs(t, s, kept)
}

// sameAsModel asks that s is cut as the model does.
func sameAsModel(t *testing.T, s string) {
	t.Helper()
	if l, f := model(s); f.Err != api.OK {
		refused(t, s, f.Err, f.At)
	} else {
		cutsAs(t, s, l)
	}
}
