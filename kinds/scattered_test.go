package kinds_test

import (
	"iter"
	"reflect"
	"slices"
	"testing"

	"sacristy/api"
	"sacristy/kinds"
	"sacristy/scope"
	"sacristy/stmt"
)

// sampled is so many scattered programs that may be, with fewer and more things that are of any kind.
func sampled(t *testing.T, n int) iter.Seq[api.Prog] {
	return func(yield func(p api.Prog) bool) {
		for k := 0; n > 0; k++ {
			p := scattered(k, []int{0, 10, 30, 100}[k%4], 1+k%5, 1+k%7)
			if stmt.Check(p) != api.OK {
				continue
			}
			if err := scope.Check(p); err != nil {
				t.Fatalf("scope: %v: %s", err, told(p))
			}
			n--
			if !yield(p) {
				return
			}
		}
	}
}

// TestScattered (P11.1): scattered programs have the first fault that the chapter tells of them, item by item.
func TestScattered(t *testing.T) {
	wrong, right := map[string]int{}, 0
	for p := range sampled(t, 16000) {
		at := fault(p)
		if at >= 0 {
			refusedAt(t, p, at, api.ErrType)
			wrong[kindOf(items(p)[at])]++
		} else if err := kinds.Check(p); err != nil {
			t.Errorf("%v: %s", err, told(p))
		} else {
			right++
		}
	}
	if right < 6000 {
		t.Errorf("%d are right", right)
	}
	for _, s := range []string{"expression", "set", "put", "view", "edit", "move", "call", "seal"} {
		if wrong[s] < 50 {
			t.Errorf("%v", wrong)
		}
	}
}

// kindOf is what an item is, in a few words.
func kindOf(x item) string {
	switch {
	case x.seal:
		return "seal"
	case x.call != nil:
		return "call"
	case len(x.asks) > 0 && !slices.Contains([]string{"variable", "length", "byte"}, x.asks[len(x.asks)-1].how):
		return x.asks[len(x.asks)-1].how
	}
	return "expression"
}

// calls is the calls of these statements, and of those within them.
func calls(l []api.Stmt) (found []*api.Stmt) {
	for k := range l {
		if l[k].Kind == api.StCall {
			found = append(found, &l[k])
		}
		found = append(append(found, calls(l[k].Body)...), calls(l[k].Else)...)
	}
	return found
}

// callItems is the numbers of the items that are calls, in order.
func callItems(p api.Prog) (found []int) {
	for k, x := range items(p) {
		if x.call != nil {
			found = append(found, k)
		}
	}
	return found
}

// TestOneMore (P11.2): where a program is let be each call hands over as many as its function has params: with one more, or one fewer, it is refused, at the call.
func TestOneMore(t *testing.T) {
	count := 0
	for p := range sampled(t, 8000) {
		if kinds.Check(p) != nil {
			continue
		}
		at := callItems(p)
		for _, f := range p.Funcs {
			for _, s := range calls(f.Body) {
				count++
				for _, turn := range []func(s *api.Stmt){
					func(s *api.Stmt) { s.Ex = append(slices.Clone(s.Ex), api.Expr{Kind: api.ExNum}) },
					func(s *api.Stmt) { s.Ex = append([]api.Expr{{Kind: api.ExNum, Num: 7}}, s.Ex...) },
					func(s *api.Stmt) { s.Ex = s.Ex[:max(0, len(s.Ex)-1)] },
					func(s *api.Stmt) { s.Args = append(slices.Clone(s.Args), s.Args...) },
					func(s *api.Stmt) { s.Args = s.Args[:max(0, len(s.Args)-1)] },
				} {
					kept := *s
					turn(s)
					if len(s.Ex) != len(kept.Ex) || len(s.Args) != len(kept.Args) {
						refusedAt(t, p, at[0], api.ErrType)
					}
					*s = kept
				}
				at = at[1:]
			}
		}
	}
	if count < 2000 {
		t.Errorf("%d calls", count)
	}
}

// TestKept (R5, R6): what is handed in is not turned, and is answered the same again.
func TestKept(t *testing.T) {
	for k := range 2000 {
		p, kept := scattered(k, 30, 4, 5), scattered(k, 30, 4, 5)
		err := kinds.Check(p)
		again := kinds.Check(p)
		if again != err || !reflect.DeepEqual(p, kept) {
			t.Errorf("%v, then %v: %s", err, again, told(p))
		}
	}
}
