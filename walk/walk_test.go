package walk_test

import (
	"errors"
	"reflect"
	"testing"

	"sacristy/api"
	"sacristy/stmt"
	"sacristy/walk"
)

// lister lists the items that it is at, and what stands behind blocks; it stops at one of so many.
type lister struct {
	walk.Walk[*lister]
	l    []string
	stop int
}

func (l *lister) at(s string) {
	if len(l.l) == l.stop {
		l.Stop(api.ErrType)
	}
	l.l = append(l.l, s)
}

func (l *lister) head(f api.Func) { l.at("fn " + f.Name + l.Ahead("f").Name) }
func (l *lister) tail(f api.Func) { l.at("end " + f.Name + l.Ahead("g").Name) }
func (l *lister) let(s api.Stmt)  { l.at(s.Name) }

func (l *lister) branch(s api.Stmt) {
	l.at("if")
	l.Block(s.Body)
	l.Block(s.Else)
}

func (l *lister) through(p api.Prog) error {
	return l.Through(p, l, walk.Looks[*lister]{
		Head:  (*lister).head,
		Stmts: map[uint8]func(*lister, api.Stmt){api.StLet: (*lister).let, api.StIf: (*lister).branch},
		Tail:  (*lister).tail,
	})
}

func parsed(t *testing.T, s string) api.Prog {
	t.Helper()
	p, err := stmt.Parse(s)
	if err != nil {
		t.Fatal(err)
	}
	return p
}

// TestThrough: each item is looked at once, in order, and a walk that is stopped has the item's number; functions are ahead behind their tails.
func TestThrough(t *testing.T) {
	p := parsed(t, "fn f() { let a = 1; if 1 { let b = 1; if 1 { let c = 1; } let d = 1; } else { let e = 1; } let f = 1; }; fn g() { }; fn h() { if 1 { } else { let a = 1; } };")
	want := []string{"fn f", "a", "if", "b", "if", "c", "d", "e", "f", "end f", "fn gf", "end g", "fn hf", "if", "a", "end hg"}
	for stop := range want {
		l := lister{stop: stop}
		err := l.through(p)
		if err != error(api.Fault{At: stop, Err: api.ErrType}) || !errors.Is(err, api.ErrType) || !reflect.DeepEqual(l.l, append([]string(nil), want[:stop]...)) {
			t.Errorf("%d: %v, %q", stop, err, l.l)
		}
	}
	l := lister{stop: len(want)}
	if err := l.through(p); err != nil || !reflect.DeepEqual(l.l, want) {
		t.Errorf("%v, %q", err, l.l)
	}
	l.stop = 0
	l.l = nil
	if err := l.through(p); err != error(api.Fault{At: 0, Err: api.ErrType}) {
		t.Errorf("a second walk: %v", err)
	}
	if err := l.through(api.Prog{}); err != nil {
		t.Errorf("no function: %v", err)
	}
}

// TestParams: numbers and buffers are told apart, each in order.
func TestParams(t *testing.T) {
	f := parsed(t, "fn f(num a, view b, secret c, edit secret d, num e) { };").Funcs[0]
	numbers, buffers := walk.Params(f)
	if want := []api.Param{{Name: "a"}, {Name: "c", Sec: true}, {Name: "e"}}; !reflect.DeepEqual(numbers, want) {
		t.Errorf("numbers: %v", numbers)
	}
	if want := []api.Param{{Name: "b", Buf: true}, {Name: "d", Buf: true, Sec: true, Mut: true}}; !reflect.DeepEqual(buffers, want) {
		t.Errorf("buffers: %v", buffers)
	}
	if numbers, buffers = walk.Params(api.Func{}); len(numbers) != 0 || len(buffers) != 0 {
		t.Errorf("of none: %v, %v", numbers, buffers)
	}
}
