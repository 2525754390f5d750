package expr_test

import (
	"slices"
	"strings"
	"testing"

	"sacristy/api"
	"sacristy/expr"
	"sacristy/lex"
)

// is asks that Check answers wrong, and that Tell answers it, too, or the tokens.
func is(t *testing.T, e api.Expr, wrong api.Errno) {
	t.Helper()
	if got := expr.Check(e); got != wrong {
		t.Errorf("Check(%+v): %v, not %v", e, got, wrong)
	}
	l, got := expr.Tell(e)
	if got != wrong || wrong != api.OK && len(l) != 0 {
		t.Errorf("Tell(%+v): %+v, %v, not %v", e, l, got, wrong)
	}
	if wrong == api.OK && lex.Join(l) != told(e) {
		t.Errorf("Tell(%+v): %q, not %q", e, lex.Join(l), told(e))
	}
}

// TestNumbers: those of package api that the chapter names.
func TestNumbers(t *testing.T) {
	if api.ErrArg != 2 || api.ErrForm != 7 || api.ErrDepth != 70 || api.MaxDepth != 40 {
		t.Error("numbers of package api")
	}
}

// TestCheckFields (P7.1): each kind, with each field as it is to be and otherwise.
func TestCheckFields(t *testing.T) {
	good := 0
	for _, kind := range []uint8{0, 1, 2, 3, 4, 5, 6, 7, 128, 255} {
		for _, v := range []uint64{0, 1, 1 << 63} {
			for _, s := range []string{"", "a", "let", "1"} {
				for op := range 256 {
					for kids := range 4 {
						e := api.Expr{Kind: kind, Num: v, Name: s, Op: uint8(op), Kids: slices.Repeat([]api.Expr{num(3)}, kids)}
						var may bool
						switch kind {
						case api.ExNum:
							may = s == "" && op == 0 && kids == 0
						case api.ExVar, api.ExLen:
							may = v == 0 && s == "a" && op == 0 && kids == 0
						case api.ExByte:
							may = v == 0 && s == "a" && op == 0 && kids == 1
						case api.ExBin:
							may = v == 0 && s == "" && op >= 1 && op <= 14 && kids == 2
						}
						if may {
							good++
							is(t, e, api.OK)
						} else {
							is(t, e, api.ErrArg)
						}
					}
				}
			}
		}
	}
	if good != 3+1+1+1+14 {
		t.Errorf("%d may be", good)
	}
}

// TestCheckNames (P7.1): names are names.
func TestCheckNames(t *testing.T) {
	for s, wrong := range map[string]api.Errno{
		"a": 0, "_": 0, "z9": 0, "lets": 0, "a234567890123456": 0,
		"": 2, "a2345678901234567": 2, "A": 2, "9": 2, "a b": 2, " a": 2, "a ": 2, "a\n": 2, "a!": 2, "#": 2, "a[": 2, "\x00": 2, "\u00e9": 2, strings.Repeat("a", 1<<14+1): 2,
	} {
		is(t, variable(s), wrong)
		is(t, length(s), wrong)
		is(t, byteOf(s, num(0)), wrong)
		is(t, two(1, num(1), byteOf("a", variable(s))), wrong)
	}
	for _, s := range strings.Fields("let secret buf if else while for view edit move open call seal fn return num") {
		is(t, variable(s), api.ErrArg)
		is(t, length(s), api.ErrArg)
		is(t, byteOf(s, num(0)), api.ErrArg)
		is(t, variable(s+"0"), api.OK)
	}
}

// TestCheckKids (P7.1): one wrong kid, wherever it is, makes all wrong; lists without elements are none.
func TestCheckKids(t *testing.T) {
	for _, bad := range []api.Expr{{}, {Kind: 6}, {Kind: 255}, {Kind: api.ExNum, Name: "a"}, {Kind: api.ExVar}, {Kind: api.ExByte, Name: "a"}, two(0, num(1), num(1)), two(15, num(1), num(1))} {
		is(t, bad, api.ErrArg)
		is(t, byteOf("a", bad), api.ErrArg)
		is(t, two(1, bad, num(1)), api.ErrArg)
		is(t, two(1, num(1), bad), api.ErrArg)
		is(t, two(1, bad, bad), api.ErrArg)
		is(t, two(1, two(2, num(1), byteOf("b", two(3, num(1), bad))), num(1)), api.ErrArg)
	}
	is(t, api.Expr{Kind: api.ExNum, Kids: []api.Expr{}}, api.OK)
	is(t, api.Expr{Kind: api.ExVar, Name: "a", Kids: []api.Expr{}}, api.OK)
	is(t, api.Expr{Kind: api.ExByte, Name: "a", Kids: []api.Expr{{Kind: api.ExLen, Name: "a", Kids: []api.Expr{}}}}, api.OK)
	is(t, api.Expr{Kind: api.ExByte, Name: "a", Kids: []api.Expr{}}, api.ErrArg)
	is(t, api.Expr{Kind: api.ExBin, Op: 1, Kids: make([]api.Expr, 100000)}, api.ErrArg)
}

// deepened is e within n others, each of them as k says: the first kid, the second one, of a byte.
func deepened(e api.Expr, n, k int) api.Expr {
	for range n {
		switch k {
		case 0:
			e = two(1, e, num(1))
		case 1:
			e = two(1, num(1), e)
		default:
			e = byteOf("a", e)
		}
	}
	return e
}

// TestCheckDepth (P7.1): MaxDepth may be, one deeper may not, whichever kid it is that is so deep.
func TestCheckDepth(t *testing.T) {
	for k := range 3 {
		for _, leaf := range []api.Expr{num(1), variable("a"), length("a")} {
			for n := range 40 {
				is(t, deepened(leaf, n, k), api.OK)
			}
			for _, n := range []int{40, 41, 80, 255, 256, 1000, 100000} {
				if expr.Check(deepened(leaf, n, k)) != api.ErrArg {
					t.Errorf("%d deep: may be", n+1)
				}
			}
		}
		is(t, deepened(api.Expr{}, 39, k), api.ErrArg)
		is(t, deepened(byteOf("a", num(1)), 38, k), api.OK)
		is(t, deepened(byteOf("a", num(1)), 39, k), api.ErrArg)
		is(t, deepened(deepened(num(1), 20, k), 19, (k+1)%3), api.OK)
		is(t, deepened(deepened(num(1), 20, k), 20, (k+1)%3), api.ErrArg)
	}
	is(t, two(1, deepened(num(1), 38, 0), deepened(num(1), 38, 1)), api.OK)
	is(t, two(1, deepened(num(1), 38, 0), deepened(num(1), 39, 1)), api.ErrArg)
	is(t, two(1, deepened(num(1), 39, 0), deepened(num(1), 38, 1)), api.ErrArg)
}

// TestCheckRing (P7.1): a list that is its own kid has no end, and is too deep.
func TestCheckRing(t *testing.T) {
	for _, e := range []api.Expr{{Kind: api.ExByte, Name: "a", Kids: make([]api.Expr, 1)}, {Kind: api.ExBin, Op: 1, Kids: make([]api.Expr, 2)}} {
		for k := range e.Kids {
			e.Kids[k] = e
		}
		_, told := expr.Tell(e)
		if expr.Check(e) != api.ErrArg || told != api.ErrArg {
			t.Errorf("kind %d: may be", e.Kind)
		}
	}
}

// TestTellTold (P7.1): expressions and their tokens, written out by hand, each at the place 0.
func TestTellTold(t *testing.T) {
	for _, x := range []struct {
		e    api.Expr
		want []api.Token
	}{
		{num(0), []api.Token{{Kind: api.TkNum}}},
		{num(1<<64 - 1), []api.Token{{Kind: api.TkNum, Num: 1<<64 - 1}}},
		{variable("a"), []api.Token{{Kind: api.TkName, Text: "a"}}},
		{length("ab"), []api.Token{{Kind: api.TkSign, Text: "#"}, {Kind: api.TkName, Text: "ab"}}},
		{byteOf("b", num(2)), []api.Token{{Kind: api.TkName, Text: "b"}, {Kind: api.TkSign, Text: "["}, {Kind: api.TkNum, Num: 2}, {Kind: api.TkSign, Text: "]"}}},
		{two(api.InSltu, variable("a"), length("b")), []api.Token{{Kind: api.TkSign, Text: "("}, {Kind: api.TkName, Text: "a"}, {Kind: api.TkSign, Text: "<"},
			{Kind: api.TkSign, Text: "#"}, {Kind: api.TkName, Text: "b"}, {Kind: api.TkSign, Text: ")"}}},
	} {
		if l, wrong := expr.Tell(x.e); wrong != api.OK || !slices.Equal(l, x.want) {
			t.Errorf("Tell(%+v): %+v, %v", x.e, l, wrong)
		}
	}
	for s, op := range ops() {
		if l, wrong := expr.Tell(two(op, num(1), two(op, num(2), num(3)))); wrong != api.OK || lex.Join(l) != "( 1 "+s+" ( 2 "+s+" 3 ) )" {
			t.Errorf("Tell of %d: %q, %v", op, lex.Join(l), wrong)
		}
	}
}

// TestTellScattered (P7.1): scattered expressions may be, and are told as their texts; what is told is new, and nothing that is handed in is turned.
func TestTellScattered(t *testing.T) {
	c := chance(3)
	for k := range 5000 {
		e := c.expr(1 + k%12)
		text := told(e)
		is(t, e, api.OK)
		l, _ := expr.Tell(e)
		if !slices.Equal(l, placeless(l)) {
			t.Fatalf("%q: places", text)
		}
		clear(l)
		if again, _ := expr.Tell(e); lex.Join(again) != text || told(e) != text {
			t.Fatalf("%q is told as %q then", text, lex.Join(again))
		}
	}
}

// TestReadOwn (P7.2): what is read shares no list with another one.
func TestReadOwn(t *testing.T) {
	l := cut("(a+(b*2))")
	first, _, _ := expr.Read(l, 0)
	first.Kids[0], first.Kids[1].Kids[1] = num(9), num(9)
	again, _, err := expr.Read(l, 0)
	if err != nil || told(again) != "( a + ( b * 2 ) )" {
		t.Errorf("%q, %v", told(again), err)
	}
	kids := again.Kids
	_ = append(kids[:1], num(8))
	if third, _, _ := expr.Read(l, 0); told(third) != "( a + ( b * 2 ) )" {
		t.Errorf("%q", told(third))
	}
}
