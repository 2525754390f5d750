package label_test

import (
	"reflect"
	"slices"
	"testing"

	"sacristy/api"
	"sacristy/expr"
	"sacristy/kinds"
	"sacristy/label"
	"sacristy/stmt"
)

// wrongs is of how many things one is wrong, for the k-th program.
func wrongs(k int) int { return []int{0, 20, 60, 200}[k%4] }

// TestScattered (P12.1): scattered programs have the first fault that the chapter tells of them, item by item.
func TestScattered(t *testing.T) {
	wrong, right := map[uint8]int{}, 0
	for k := range 12000 {
		p := scattered(k, wrongs(k), 1+k%5, 1+k%6)
		if stmt.Check(p) != api.OK { // it is too long
			continue
		}
		kindly(t, p)
		at := fault(p)
		switch {
		case at < 0:
			lets(t, p)
			right++
		case wrongs(k) == 0:
			t.Errorf("wrong at %d: %.900s", at, told(p))
		default:
			refusedAt(t, p, at, api.ErrSecret)
			wrong[kindAt(p, at)]++
		}
	}
	if right < 6000 {
		t.Errorf("%d are right", right)
	}
	for kind := range uint8(13) {
		if kind != api.StMove && wrong[kind] < 20 {
			t.Errorf("of the kind %d too few are wrong: %v", kind, wrong)
		}
	}
}

// kindAt is the kind of the statement that the item at is; 0: a tail.
func kindAt(p api.Prog, at int) uint8 {
	var kinds []uint8
	var block func(l []api.Stmt)
	block = func(l []api.Stmt) {
		for _, s := range l {
			kinds = append(kinds, s.Kind)
			block(s.Body)
			block(s.Else)
		}
	}
	for _, f := range p.Funcs {
		kinds = append(kinds, 0)
		block(f.Body)
		kinds = append(kinds, 0)
	}
	return kinds[at]
}

// TestExpressions (P12.1): all small expressions, where secrets may be, and where none may.
func TestExpressions(t *testing.T) {
	leaves := []api.Expr{{Kind: api.ExNum, Num: 2}, {Kind: api.ExVar, Name: "n"}, {Kind: api.ExVar, Name: "k"}, {Kind: api.ExLen, Name: "v"}, {Kind: api.ExLen, Name: "vs"}}
	all := slices.Clone(leaves)
	for _, e := range leaves {
		for _, b := range []string{"v", "vs"} {
			all = append(all, api.Expr{Kind: api.ExByte, Name: b, Kids: []api.Expr{e}})
		}
		for _, x := range leaves {
			for op := api.InAdd; op <= api.InRemu; op++ {
				all = append(all, api.Expr{Kind: api.ExBin, Op: op, Kids: []api.Expr{e, x}})
			}
		}
	}
	for _, e := range all {
		held(t, e)
		for _, b := range []string{"v", "vs"} {
			held(t, api.Expr{Kind: api.ExByte, Name: b, Kids: []api.Expr{e}})
		}
		for _, x := range leaves[1:3] {
			for op := api.InAdd; op <= api.InRemu; op++ {
				held(t, api.Expr{Kind: api.ExBin, Op: op, Kids: []api.Expr{e, x}})
				held(t, api.Expr{Kind: api.ExBin, Op: op, Kids: []api.Expr{x, e}})
			}
		}
	}
}

// held asks for what the chapter says of e, where it may be secret, and where it may not.
func held(t *testing.T, e api.Expr) {
	t.Helper()
	known := things{{"n", false, false}, {"k", false, true}, {"v", true, false}, {"vs", true, true}}
	tokens, wrong := expr.Tell(e)
	if wrong != api.OK {
		t.Fatal(wrong)
	}
	f := api.Func{Name: "f", Params: []api.Param{{Name: "n"}, {Name: "k", Sec: true}, {Name: "v", Buf: true}, {Name: "vs", Buf: true, Sec: true}}}
	for _, sec := range []bool{false, true} {
		is := !known.hangs(tokens) && (sec || !known.secretly(tokens))
		l := []api.Stmt{{Kind: api.StLet, Name: "x", Sec: sec, Ex: []api.Expr{e}}}
		if sec {
			l = append(l, api.Stmt{Kind: api.StOpen, Name: "x", Ex: []api.Expr{e}})
		} else {
			l = append(l, api.Stmt{Kind: api.StIf, Ex: []api.Expr{e}})
		}
		asStmt, asRet := f, f
		asRet.Ret, asRet.Sec = []api.Expr{e}, sec
		for _, s := range l {
			asStmt.Body = []api.Stmt{s}
			for _, f := range []api.Func{asStmt, asRet} {
				p := api.Prog{Funcs: []api.Func{f}}
				if is {
					lets(t, p)
				} else {
					refusedAt(t, p, 1, api.ErrSecret)
				}
			}
		}
	}
}

// TestNothingSecret (P12.2): where nothing is secret nothing is refused.
func TestNothingSecret(t *testing.T) {
	count := 0
	for k := range 6000 {
		p := unsecret(k, 1+k%5, 1+k%6)
		if stmt.Check(p) != api.OK {
			continue
		}
		lets(t, p)
		count++
		q := scattered(k, wrongs(k), 1+k%5, 1+k%6)
		if stmt.Check(q) == api.OK {
			lets(t, bared(q))
		}
	}
	if count < 4000 {
		t.Errorf("%d programs", count)
	}
}

// bared is p, with nothing that is secret.
func bared(p api.Prog) (bare api.Prog) {
	for _, f := range p.Funcs {
		f.Sec, f.Params, f.Body = false, slices.Clone(f.Params), baredBlock(f.Body)
		for k := range f.Params {
			f.Params[k].Sec = false
		}
		bare.Funcs = append(bare.Funcs, f)
	}
	return bare
}

func baredBlock(l []api.Stmt) (bare []api.Stmt) {
	for _, s := range l {
		s.Sec, s.Body, s.Else = false, baredBlock(s.Body), baredBlock(s.Else)
		bare = append(bare, s)
	}
	return bare
}

// TestKept (R5, R6): what is handed in is not turned, and is answered the same again.
func TestKept(t *testing.T) {
	for k := range 2000 {
		p, kept := scattered(k, 30, 4, 5), scattered(k, 30, 4, 5)
		err := label.Check(p)
		again := label.Check(p)
		if again != err || !reflect.DeepEqual(p, kept) {
			t.Errorf("%v, then %v: %.900s", err, again, told(p))
		}
		if err == nil && kinds.Check(p) != nil {
			t.Errorf("kinds refuses it: %.900s", told(p))
		}
	}
}
