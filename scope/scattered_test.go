package scope_test

import (
	"iter"
	"reflect"
	"strconv"
	"testing"

	"sacristy/api"
	"sacristy/lex"
	"sacristy/scope"
	"sacristy/stmt"
)

// sampled is so many scattered programs that may be, with fewer and more names that are any.
func sampled(n int) iter.Seq[api.Prog] {
	return func(yield func(p api.Prog) bool) {
		for k := 0; n > 0; k++ {
			p := scattered(k, []int{0, 6, 12, 40}[k%4], 1+k%5, 1+k%7)
			if stmt.Check(p) != api.OK {
				continue
			}
			n--
			if !yield(p) {
				return
			}
		}
	}
}

// TestScattered (P10.1, P10.2): scattered programs have the first fault, and the items, that the chapter tells of them, item by item.
func TestScattered(t *testing.T) {
	counts, places := map[api.Errno]int{}, map[bool]int{}
	for p := range sampled(16000) {
		l := items(p)
		has(t, p, len(l))
		want, is := fault(p)
		counts[want.Err]++
		if is {
			places[l[want.At].head]++
			refusedAt(t, p, want.At, want.Err)
		} else if err := scope.Check(p); err != nil {
			t.Errorf("%v: %s", err, told(p))
		}
	}
	if counts[api.OK] < 4000 || counts[api.ErrNone] < 2000 || counts[api.ErrHave] < 1500 || places[true] < 500 || places[false] < 3000 {
		t.Errorf("%v, %v", counts, places)
	}
}

// renamed is p with another name, that new tells, in the place of each one.
func renamed(t *testing.T, p api.Prog, name func(string) string) api.Prog {
	t.Helper()
	l, err := lex.Cut(told(p))
	if err != nil {
		t.Fatal(err)
	}
	for k := range l {
		if l[k].Kind == api.TkName {
			l[k].Text = name(l[k].Text)
		}
	}
	return parsed(t, lex.Join(l))
}

// TestRenamed (P10.3): with other names, one for each, a program is let be, or has the same error at the same item.
func TestRenamed(t *testing.T) {
	count := map[bool]int{}
	for p := range sampled(6000) {
		if len(told(p)) > 4000 { // with longer names it would be too long a text
			continue
		}
		want := scope.Check(p)
		count[want == nil]++
		names := map[string]int{}
		number := func(s string) int {
			if _, is := names[s]; !is {
				names[s] = len(names)
			}
			return names[s]
		}
		for _, name := range []func(string) string{
			func(s string) string { return "a23456789_" + s },
			func(s string) string {
				return []string{"lets", "fn_", "_", "num0"}[number(s)%4] + strconv.Itoa(number(s))
			},
			func(s string) string { return "z" + strconv.Itoa(1000-number(s)) },
		} {
			if got := scope.Check(renamed(t, p, name)); got != want {
				t.Errorf("%v, not %v: %s", got, want, told(p))
			}
		}
	}
	if count[true] < 3000 || count[false] < 1000 {
		t.Errorf("%v", count)
	}
}

// TestKept (R5, R6): what is handed in is not turned, and is answered the same again.
func TestKept(t *testing.T) {
	for k := range 2000 {
		p, kept := scattered(k, 20, 4, 5), scattered(k, 20, 4, 5)
		err := scope.Check(p)
		n, wrong := scope.Items(p)
		again := scope.Check(p)
		m, other := scope.Items(p)
		if again != err || m != n || other != wrong || !reflect.DeepEqual(p, kept) {
			t.Errorf("%v, %d, %v, then %v, %d, %v: %s", err, n, wrong, again, m, other, told(p))
		}
	}
}
