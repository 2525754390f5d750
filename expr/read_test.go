package expr_test

import (
	"errors"
	"math"
	"slices"
	"strings"
	"testing"

	"sacristy/api"
	"sacristy/expr"
	"sacristy/lex"
)

// short is the beginning of the text of l.
func short(l []api.Token) string { return lex.Join(l[:min(len(l), 30)]) }

// reads asks that e is read from l, from at on, up to next, and that l stays as it is.
func reads(t *testing.T, l []api.Token, at int, e api.Expr, next int) {
	t.Helper()
	kept := slices.Clone(l)
	got, n, err := expr.Read(l, at)
	if err != nil || n != next || !same(got, e) {
		t.Errorf("Read(%q, %d): %q, %d, %v; not %q, %d", short(l), at, told(got), n, err, told(e), next)
	}
	if !slices.Equal(l, kept) {
		t.Errorf("Read(%q, %d) turned its tokens", short(kept), at)
	}
}

// refused asks that nothing is read from l, from at on, but an error with its place, that is found by each of the ways to ask for it.
func refused(t *testing.T, l []api.Token, at int, wrong api.Errno, place int) {
	t.Helper()
	e, next, err := expr.Read(l, at)
	f := api.Fault{At: place, Err: wrong}
	var asFault api.Fault
	var asErrno api.Errno
	if err != error(f) || !errors.As(err, &asFault) || asFault != f || !errors.As(err, &asErrno) || asErrno != wrong || !errors.Is(err, wrong) {
		t.Errorf("Read(%q, %d): %v, not %v", short(l), at, err, f)
	}
	if next != 0 || !same(e, api.Expr{}) {
		t.Errorf("Read(%q, %d): %q, %d beside an error", short(l), at, told(e), next)
	}
}

// asModel asks that l is read from at on as the model has it, and tells whether it is.
func asModel(t *testing.T, l []api.Token, at int) bool {
	t.Helper()
	next, f := model(l, at)
	if f.Err != api.OK {
		refused(t, l, at, f.Err, f.At)
		return false
	}
	e, n, err := expr.Read(l, at)
	if err != nil || n != next || expr.Check(e) != api.OK || told(e) != lex.Join(l[at:next]) {
		t.Fatalf("Read(%q, %d): %q, %d, %v; not up to %d", short(l), at, told(e), n, err, next)
	}
	back, wrong := expr.Tell(e)
	if wrong != api.OK || !slices.Equal(back, placeless(l[at:next])) {
		t.Fatalf("%q is told as %+v", lex.Join(l[at:next]), back)
	}
	return true
}

// TestReadTold (P7.2): texts and their expressions, written out by hand; the chapter's example is the first one.
func TestReadTold(t *testing.T) {
	a, b, n := variable("a"), variable("b"), variable("n")
	for s, want := range map[string]api.Expr{
		"(a + b[2])":               two(api.InAdd, a, byteOf("b", num(2))),
		"0":                        num(0),
		"18446744073709551615":     num(math.MaxUint64),
		"a":                        a,
		"a234567890123456":         variable("a234567890123456"),
		"lets":                     variable("lets"),
		"#a":                       length("a"),
		"a[b]":                     byteOf("a", b),
		"a[#a]":                    byteOf("a", length("a")),
		"a[b[n[0]]]":               byteOf("a", byteOf("b", byteOf("n", num(0)))),
		"(1-1)":                    two(api.InSub, num(1), num(1)),
		"((a<b)&(b<$n))":           two(api.InAnd, two(api.InSltu, a, b), two(api.InSlt, b, n)),
		"(a*(b*^n))":               two(api.InMul, a, two(api.InMulhu, b, n)),
		"a[(n>>3)]":                byteOf("a", two(api.InSrl, n, num(3))),
		"((a[(1+n)]^#b)>>>63)":     two(api.InSra, two(api.InXor, byteOf("a", two(api.InAdd, num(1), n)), length("b")), num(63)),
		"(((a|b)/(a%b))<<(n - 1))": two(api.InSll, two(api.InDivu, two(api.InOr, a, b), two(api.InRemu, a, b)), two(api.InSub, n, num(1))),
	} {
		l := cut(s)
		reads(t, l, 0, want, len(l))
		reads(t, placed(l), 0, want, len(l))
		behind := slices.Concat(cut("let a = ("), l, cut("; seal"))
		reads(t, behind, 4, want, 4+len(l))
	}
}

// TestReadOps (P7.2): each sign as an Op: those of the chapter are read as it has them, the others are ErrForm where they stand.
func TestReadOps(t *testing.T) {
	read := 0
	for _, s := range allSigns() {
		l := placed([]api.Token{signToken("("), nameToken("a"), signToken(s), numToken(7), signToken(")")})
		switch op := ops()[s]; {
		case op != 0:
			read++
			reads(t, l, 0, two(op, variable("a"), num(7)), 5)
		case s == "[":
			refused(t, l, 0, api.ErrForm, 112)
		default:
			refused(t, l, 0, api.ErrForm, 106)
		}
	}
	if read != 14 {
		t.Errorf("%d Ops", read)
	}
	for s, op := range map[string]uint8{
		"+": api.InAdd, "-": api.InSub, "<<": api.InSll, "<$": api.InSlt, "<": api.InSltu, "^": api.InXor, ">>": api.InSrl, ">>>": api.InSra,
		"|": api.InOr, "&": api.InAnd, "*": api.InMul, "*^": api.InMulhu, "/": api.InDivu, "%": api.InRemu,
	} {
		reads(t, cut("(1"+s+"2)"), 0, two(op, num(1), num(2)), 5)
	}
}

// TestReadWrong (P7.2): the first token with which no expression goes on so; the places are those of the text.
func TestReadWrong(t *testing.T) {
	for s, at := range map[string]int{
		"(a + )":      5,
		"":            0,
		"  ":          2,
		";":           0,
		")":           0,
		"]":           0,
		"[":           0,
		"[1]":         0,
		"+":           0,
		"-1":          0,
		"let":         0,
		"secret":      0,
		"#":           1,
		"#1":          1,
		"##a":         1,
		"#let":        1,
		"#(a+b)":      1,
		"#[":          1,
		"(":           1,
		"()":          1,
		"(a":          2,
		"(a)":         2,
		"(a b)":       3,
		"(a 1)":       3,
		"(1)":         2,
		"(#a)":        3,
		"(a+":         3,
		"(a+b":        4,
		"(a+b+n)":     4,
		"(a+b]":       4,
		"(a+b;":       4,
		"(a++b)":      3,
		"(a+-1)":      3,
		"(a,b)":       2,
		"(a=b)":       2,
		"(a..b)":      2,
		"(a#b)":       2,
		"(+b)":        1,
		"(1[2]+3)":    2,
		"(#a[2]+3)":   3,
		"(a(b)+3)":    2,
		"a[":          2,
		"a[]":         2,
		"a[let]":      2,
		"a[1":         3,
		"a[1)":        3,
		"a[1;":        3,
		"a[1+2]":      3,
		"a[1 2]":      4,
		"a[b[1]":      6,
		"a[(1+2]":     6,
		"a[#]":        3,
		"(a[1]+b[)":   8,
		"(a[]+)":      3,
		"((a+b)+(a)]": 9,
		"(a+let)":     3,
		"(let+a)":     1,
		"(a[0..1]+2)": 4,
		"{a}":         0,
		"=1":          0,
		"..":          0,
		"num n":       0,
	} {
		l, err := lex.Cut(s)
		if err != nil {
			t.Fatal(s, err)
		}
		refused(t, l, 0, api.ErrForm, at)
	}
}

// TestReadNone (P7.2): without a token where one is asked for, the place is that of the last one; 0, if there is none, or at is below 0.
func TestReadNone(t *testing.T) {
	refused(t, nil, 0, api.ErrForm, 0)
	refused(t, []api.Token{}, 0, api.ErrForm, 0)
	l := placed(cut("(a+b[2])"))
	last := l[len(l)-1].At
	for _, at := range []int{-1, -2, -7, -8, -9, -1000, math.MinInt32, math.MinInt, math.MinInt + 1} {
		refused(t, l, at, api.ErrForm, 0)
		refused(t, l[4:], at, api.ErrForm, 0)
		refused(t, nil, at, api.ErrForm, 0)
	}
	for _, at := range []int{len(l), len(l) + 1, 1000, 1 << 32, math.MaxInt - 1, math.MaxInt} {
		refused(t, l, at, api.ErrForm, last)
		refused(t, nil, at, api.ErrForm, 0)
	}
	for n := range l {
		if n > 0 {
			refused(t, l[:n], 0, api.ErrForm, l[n-1].At)
		}
	}
	refused(t, placed(cut("#")), 0, api.ErrForm, 100)
	refused(t, placed(cut("a[")), 0, api.ErrForm, 103)
	refused(t, []api.Token{{Kind: api.TkSign, Text: "(", At: -5}}, 0, api.ErrForm, -5)
	reads(t, l, 1, variable("a"), 2)
	reads(t, l, 3, byteOf("b", num(2)), 7)
	reads(t, l, 5, num(2), 6)
	refused(t, l, 2, api.ErrForm, l[2].At)
	refused(t, l, 7, api.ErrForm, l[7].At)
}

// TestReadBytes (P7.2): a name that has a [ behind it is read as a byte of a buffer, the longest that stands there.
func TestReadBytes(t *testing.T) {
	reads(t, cut("a[1][2]"), 0, byteOf("a", num(1)), 4)
	reads(t, cut("a b"), 0, variable("a"), 1)
	reads(t, cut("a]"), 0, variable("a"), 1)
	reads(t, cut("#a[1]"), 0, length("a"), 2)
	reads(t, cut("1[1]"), 0, num(1), 1)
	reads(t, cut("(a+b)[1]"), 0, two(api.InAdd, variable("a"), variable("b")), 5)
	refused(t, placed(cut("a[)")), 0, api.ErrForm, 106)
	refused(t, placed(cut("a[1;")), 0, api.ErrForm, 109)
}

// TestReadTokens (P7.2): tokens that are those of no expression: of other kinds, names that are none, and such that have more than their kind has.
func TestReadTokens(t *testing.T) {
	for _, bad := range []api.Token{
		{}, {Kind: api.TkEnd}, {Kind: 6, Text: "a"}, {Kind: 255, Num: 1}, {Text: "a"}, {Num: 1}, {Text: "("}, {Text: "#"},
		nameToken(""), nameToken("let"), nameToken("num"), nameToken("A"), nameToken("1"), nameToken("1a"), nameToken("a b"), nameToken(" a"), nameToken("a "), nameToken("a!"),
		nameToken("#"), nameToken("("), nameToken("a2345678901234567"), nameToken(strings.Repeat("a", 20000)), wordToken("a"), wordToken("let"), wordToken("seal"), wordToken("1"),
		signToken("a"), signToken("1"), signToken(""), signToken("( "), signToken("(("), signToken("+"), signToken("["),
		{Kind: api.TkName, Text: "a", Num: 1}, {Kind: api.TkNum, Text: "1", Num: 1}, {Kind: api.TkSign, Text: "#", Num: 1}, {Kind: api.TkSign, Text: "(", Num: 1},
	} {
		refused(t, placed([]api.Token{bad, nameToken("a"), signToken("+"), nameToken("a"), signToken(")")}), 0, api.ErrForm, 100)
		refused(t, placed([]api.Token{bad, signToken("["), numToken(1), signToken("]")}), 0, api.ErrForm, 100)
		refused(t, placed([]api.Token{signToken("("), nameToken("a"), signToken("-"), bad, signToken(")")}), 0, api.ErrForm, 109)
		refused(t, placed([]api.Token{nameToken("a"), signToken("["), bad, signToken("]")}), 0, api.ErrForm, 106)
		refused(t, placed([]api.Token{signToken("#"), bad}), 0, api.ErrForm, 103)
		if bad.Text != "+" && bad.Text != "[" {
			refused(t, placed([]api.Token{signToken("("), nameToken("a"), bad, nameToken("a"), signToken(")")}), 0, api.ErrForm, 106)
			refused(t, placed([]api.Token{signToken("("), nameToken("a"), signToken("*"), nameToken("a"), bad}), 0, api.ErrForm, 112)
			refused(t, placed([]api.Token{nameToken("a"), signToken("["), nameToken("a"), bad}), 0, api.ErrForm, 109)
			reads(t, placed([]api.Token{nameToken("a"), bad, numToken(1), signToken("]")}), 0, variable("a"), 1)
		}
	}
	for _, kind := range []uint8{0, api.TkName, api.TkWord, api.TkNum, api.TkEnd, 6, 255} {
		of := func(s string) api.Token { return api.Token{Kind: kind, Text: s} }
		refused(t, placed([]api.Token{signToken("("), numToken(1), of("+"), numToken(2), signToken(")")}), 0, api.ErrForm, 106)
		refused(t, placed([]api.Token{signToken("("), numToken(1), signToken("+"), numToken(2), of(")")}), 0, api.ErrForm, 112)
		refused(t, placed([]api.Token{nameToken("a"), signToken("["), numToken(2), of("]")}), 0, api.ErrForm, 109)
		reads(t, placed([]api.Token{nameToken("a"), of("["), numToken(2), of("]")}), 0, variable("a"), 1)
	}
}

// chain is what an expression that is one deeper is put into: what stands ahead of it, and behind it, and behind how many tokens its first kid begins.
type chain struct {
	ahead, behind string
	first         int
}

func chains() []chain {
	return []chain{{"(", "+1)", 1}, {"(1*", ")", 1}, {"(#a/", ")", 1}, {"a[", "]", 2}}
}

// TestReadDepth (P7.2): MaxDepth is read; one deeper is ErrDepth where it would have to begin, whatever stands there.
func TestReadDepth(t *testing.T) {
	for _, in := range chains() {
		for _, n := range []int{1, 2, 38, 39} {
			l := cut(strings.Repeat(in.ahead, n) + "7" + strings.Repeat(in.behind, n))
			e, next, err := expr.Read(l, 0)
			if err != nil || next != len(l) || deepOf(e) != n+1 {
				t.Errorf("%s, %d deep: %d deep, %d, %v", in.ahead, n+1, deepOf(e), next, err)
			}
			asModel(t, placed(l), 0)
		}
		for _, n := range []int{40, 41, 100, 1000} {
			l := placed(cut(strings.Repeat(in.ahead, n) + "7" + strings.Repeat(in.behind, n)))
			k := 39*len(cut(in.ahead)) + in.first
			refused(t, l, 0, api.ErrDepth, l[k].At)
			refused(t, l[:k], 0, api.ErrDepth, l[k-1].At)
			for _, x := range anyTokens() {
				refused(t, placed(slices.Concat(l[:k], []api.Token{x})), 0, api.ErrDepth, l[k].At)
				refused(t, placed(slices.Concat(l[:k], []api.Token{x, signToken("["), x})), 0, api.ErrDepth, l[k].At)
			}
		}
	}
	l := placed(cut(strings.Repeat("(", 5000)))
	refused(t, l, 0, api.ErrDepth, l[40].At)
	refused(t, l, 4000, api.ErrDepth, l[4040].At)
	refused(t, l, 4959, api.ErrDepth, l[4999].At)
	refused(t, l, 4960, api.ErrDepth, l[4999].At) // its forty are the last ones, and what is behind them would be too deep
	refused(t, l, 4961, api.ErrForm, l[4999].At)
}

// anyTokens is one of each kind, and such of no text.
func anyTokens() []api.Token {
	l := []api.Token{{}, {Kind: api.TkEnd}, {Kind: 9}, nameToken("a"), nameToken(""), nameToken("A"), wordToken("let"), wordToken("else"), numToken(0), numToken(1 << 63), signToken("")}
	for _, s := range allSigns() {
		l = append(l, signToken(s))
	}
	return l
}

// TestReadDeepest (P7.2): what is MaxDepth deep already has no kids: of an Op, of bytes, the first or the second one; numbers, names and lengths are let be there.
func TestReadDeepest(t *testing.T) {
	ahead, behind := strings.Repeat("(1+", 39), strings.Repeat(")", 39)
	n := len(cut(ahead))
	for _, s := range []string{"7", "a", "#a"} {
		if l := cut(ahead + s + behind); !asModel(t, l, 0) {
			t.Errorf("%s is not read", s)
		}
	}
	for _, s := range []string{"(", "()", "(1+2)", "(let", "a[", "a[]", "a[1]", "a[;"} {
		of := 1
		if s[0] == 'a' {
			of = 2
		}
		l := placed(append(cut(ahead+s), api.Token{Kind: api.TkEnd}))
		refused(t, l, 0, api.ErrDepth, l[n+of].At)
	}
	for _, s := range []string{"", ")", "]", "#", "#1", "+", "let", "#(", "1[", "1 1", "a(", "#a["} {
		l := append(cut(ahead+s), api.Token{Kind: api.TkEnd})
		_, f := model(placed(l), 0)
		refused(t, placed(l), 0, api.ErrForm, f.At)
	}
	left := strings.Repeat("(", 39) + "1" + strings.Repeat("+1)", 38) + "+"
	n = len(cut(left))
	for s, wrong := range map[string]api.Errno{"1)": api.OK, "(1+1))": api.OK, "a[1])": api.OK, strings.Repeat("(", 40): api.ErrDepth, strings.Repeat("a[", 39) + ";": api.ErrDepth, "let": api.ErrForm} {
		l := placed(cut(left + s))
		if _, f := model(l, 0); f.Err != wrong {
			t.Errorf("%q: %v", s, f)
		}
		asModel(t, l, 0)
	}
}

// TestReadFirst (P7.2): of a wrong token and one that is too deep it is the one ahead.
func TestReadFirst(t *testing.T) {
	deep := strings.Repeat("(", 40)
	refused(t, placed(cut("(a+)"+deep+"1")), 0, api.ErrForm, 109)
	refused(t, placed(cut("(a let "+deep+"1")), 0, api.ErrForm, 106)
	refused(t, placed(cut(deep+") let")), 0, api.ErrDepth, 220)
	refused(t, placed(cut("(a+"+deep[:39]+") let")), 0, api.ErrDepth, 100+3*42)
	refused(t, placed(cut("(a+"+deep[:38]+") let")), 0, api.ErrForm, 100+3*41)
	reads(t, cut("a"+deep), 0, variable("a"), 1)
	reads(t, cut("(a+b)"+deep), 0, two(api.InAdd, variable("a"), variable("b")), 5)
}
