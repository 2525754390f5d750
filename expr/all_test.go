package expr_test

import (
	"slices"
	"testing"

	"sacristy/api"
	"sacristy/expr"
	"sacristy/lex"
)

// everyRow gives all rows of n tokens out of letters.
func everyRow(letters []api.Token, n int, yield func([]api.Token)) {
	row := make([]api.Token, n)
	var fill func(k int)
	fill = func(k int) {
		if k == n {
			yield(row)
			return
		}
		for _, t := range letters {
			t.At = 10 * (k + 1)
			row[k] = t
			fill(k + 1)
		}
	}
	fill(0)
}

// TestReadEvery (P7.2): all rows of at most six tokens, of those that expressions have and one more, are read as the model does, from each of the first two on.
func TestReadEvery(t *testing.T) {
	letters := []api.Token{nameToken("a"), numToken(1), signToken("("), signToken(")"), signToken("["), signToken("]"), signToken("#"), signToken("+"), signToken(";")}
	read := 0
	for n := range 7 {
		everyRow(letters, n, func(l []api.Token) {
			if asModel(t, l, 0) {
				read++
			}
			asModel(t, l, 1)
		})
	}
	if read < 100000 {
		t.Errorf("%d were read", read)
	}
}

// spelled is all expressions of exactly n tokens, of one name and one sign of an Op, as texts with a letter a token.
func spelled(n int, known map[int][]string) []string {
	if l, ok := known[n]; ok || n < 1 {
		return l
	}
	var l []string
	switch n {
	case 1:
		l = []string{"a"}
	case 2:
		l = []string{"#a"}
	}
	for _, k := range spelled(n-3, known) {
		l = append(l, "a["+k+"]")
	}
	for m := 1; m < n-3; m++ {
		for _, k := range spelled(m, known) {
			for _, j := range spelled(n-3-m, known) {
				l = append(l, "("+k+"+"+j+")")
			}
		}
	}
	known[n] = l
	return l
}

// TestReadGoesOn (P7.2): the place of an error is the first token with which the tokens of no expression begin, all expressions that go on so told one by one.
func TestReadGoesOn(t *testing.T) {
	known, whole, begun := map[int][]string{}, map[string]int{}, map[string]int{}
	for n := range 18 { // four tokens of an expression are at most thirteen short of its end
		for _, s := range spelled(n, known) {
			whole[s]++
			for k := range min(len(s), 4) + 1 {
				begun[s[:k]]++
			}
		}
	}
	letters := []api.Token{nameToken("a"), signToken("("), signToken(")"), signToken("["), signToken("]"), signToken("#"), signToken("+"), signToken(";")}
	for n := range 5 {
		everyRow(letters, n, func(l []api.Token) {
			s := ""
			for _, tok := range l {
				s += tok.Text
			}
			k := 0
			for k < n && begun[s[:k+1]] > 0 {
				k++
			}
			if whole[s[:k]] > 0 {
				if _, next, err := expr.Read(l, 0); err != nil || next != k {
					t.Errorf("%s: %d, %v", s, next, err)
				}
				return
			}
			refused(t, l, 0, api.ErrForm, placeAt(l, k))
		})
	}
}

// TestReadScattered (P7.2): expressions, some tokens of which are others, gone, twice, or cut off, are read as the model does.
func TestReadScattered(t *testing.T) {
	c, read, wrong := chance(1), 0, 0
	for range 40000 {
		l, e := expr.Tell(c.expr(1 + c.below(6)))
		if e != api.OK {
			t.Fatal(e)
		}
		for range c.below(4) {
			k := c.below(len(l) + 1)
			switch c.below(4) {
			case 0:
				l = slices.Insert(l, k, c.token())
			case 1:
				l = slices.Delete(l, k, min(k+1, len(l)))
			case 2:
				l = l[:k]
			case 3:
				l = append(l[:k:k], append([]api.Token{c.token()}, l[min(k+1, len(l)):]...)...)
			}
		}
		if asModel(t, placed(l), 0) {
			read++
		} else {
			wrong++
		}
		if len(l) > 0 {
			asModel(t, placed(l), c.below(len(l)))
		}
	}
	if read < 10000 || wrong < 10000 {
		t.Errorf("%d were read, %d were not", read, wrong)
	}
}

// readAgain asks that e, told, is read again between what stands ahead and behind.
func readAgain(t *testing.T, e api.Expr, ahead, behind []api.Token) {
	t.Helper()
	l, wrong := expr.Tell(e)
	if wrong != api.OK {
		t.Fatalf("%q is not told: %v", told(e), wrong)
	}
	got, next, err := expr.Read(placed(slices.Concat(ahead, l, behind)), len(ahead))
	if err != nil || next != len(ahead)+len(l) || !same(got, e) {
		t.Errorf("%q, with %q behind: %q, %d, %v", told(e), lex.Join(behind), told(got), next, err)
	}
}

// TestToldReadAgain (P7.3): what is told is read again, whatever stands ahead of it and behind; a name that has a [ behind it is the beginning of a byte, and is left out.
func TestToldReadAgain(t *testing.T) {
	c := chance(2)
	for k := range 30000 {
		e := c.expr(1 + k%9)
		var ahead, behind []api.Token
		for range c.below(4) {
			ahead = append(ahead, c.token())
		}
		for range c.below(4) {
			behind = append(behind, c.token())
		}
		if e.Kind == api.ExVar && len(behind) > 0 && behind[0] == signToken("[") {
			continue
		}
		readAgain(t, e, ahead, behind)
	}
}

// TestToldBefore (P7.3): each kind of expression, with each token behind.
func TestToldBefore(t *testing.T) {
	for _, e := range []api.Expr{num(5), variable("a"), length("a"), byteOf("a", num(1)), byteOf("a", variable("b")), two(1, num(1), variable("b")), two(14, byteOf("a", num(1)), length("b"))} {
		readAgain(t, e, nil, nil)
		for _, x := range anyTokens() {
			if e.Kind == api.ExVar && x == signToken("[") {
				continue
			}
			readAgain(t, e, nil, []api.Token{x})
			readAgain(t, e, []api.Token{x}, []api.Token{x, x})
		}
	}
}

// TestToldDeep (P7.3): the deepest ones, too.
func TestToldDeep(t *testing.T) {
	left, right, bytes, both := num(1), variable("a"), length("b"), num(2)
	for k := range 39 {
		left, right, bytes = two(1, left, num(2)), two(2, num(3), right), byteOf("c", bytes)
		both = two(uint8(1+k%14), variable("d"), both)
	}
	for _, e := range []api.Expr{left, right, bytes, both} {
		if deepOf(e) != 40 {
			t.Errorf("%d deep", deepOf(e))
		}
		readAgain(t, e, cut("let x ="), cut("; ("))
	}
}
