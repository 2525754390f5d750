package scope_test

import (
	"slices"

	"sacristy/api"
	"sacristy/expr"
)

// item is one of a program's, and what the chapter has of it.
type item struct {
	fn     int   // which function it is of
	head   bool  // whether it is the head
	blocks []int // the numbers of all blocks that it is in
	into   int   // the block in which what it gives is known
	gives  []string
	asks   []string
	calls  string
}

// lister lists items; its blocks are numbered.
type lister struct {
	l      []item
	fn     int
	blocks int
}

// asked is the names that these expressions ask.
func asked(l []api.Expr) (names []string) {
	for _, e := range l {
		tokens, _ := expr.Tell(e)
		for _, x := range tokens {
			if x.Kind == api.TkName {
				names = append(names, x.Text)
			}
		}
	}
	return names
}

// items is all those of p, which may be.
func items(p api.Prog) []item {
	var m lister
	for k, f := range p.Funcs {
		m.fn = k
		m.blocks++
		body := []int{m.blocks}
		head := item{fn: k, head: true, into: m.blocks}
		for _, x := range f.Params {
			head.gives = append(head.gives, x.Name)
		}
		m.l = append(m.l, head)
		m.list(f.Body, body)
		m.l = append(m.l, item{fn: k, blocks: body, asks: asked(f.Ret)})
	}
	return m.l
}

// list lists those of a block, and of all within.
func (m *lister) list(l []api.Stmt, blocks []int) {
	for _, s := range l {
		x := item{fn: m.fn, blocks: blocks, into: blocks[len(blocks)-1], asks: asked(s.Ex)}
		body, other := m.blocks+1, m.blocks+2
		m.blocks += 2
		switch s.Kind {
		case 1, 3, 10:
			x.gives = []string{s.Name}
		case 2, 4:
			x.asks = append(x.asks, s.Name)
		case 7:
			x.gives, x.into = []string{s.Name}, body
		case 8:
			x.gives, x.into, x.asks = []string{s.Name}, body, append(x.asks, s.From)
		case 9:
			x.gives, x.asks = []string{s.Name}, append(x.asks, s.From)
		case 11:
			x.asks, x.calls = append(x.asks, s.Args...), s.From
			if s.Name != "" {
				x.gives = []string{s.Name}
			}
		}
		m.l = append(m.l, x)
		m.list(s.Body, append(slices.Clone(blocks), body))
		m.list(s.Else, append(slices.Clone(blocks), other))
	}
}

// given tells whether one of these items, of the same function as x, gives that name, so that it is known at x, if that is asked, too.
func given(l []item, x item, name string, known bool) bool {
	return slices.ContainsFunc(l, func(y item) bool {
		return y.fn == x.fn && slices.Contains(y.gives, name) && (!known || slices.Contains(x.blocks, y.into))
	})
}

// twice tells whether a name stands in l twice.
func twice(l []string) bool {
	for k, s := range l {
		if slices.Contains(l[:k], s) {
			return true
		}
	}
	return false
}

// wrongAt is what is wrong at the item k; OK, if nothing is.
func wrongAt(p api.Prog, l []item, k int) api.Errno {
	x, before := l[k], l[:k]
	ahead := func(name string) bool {
		return slices.ContainsFunc(p.Funcs[:x.fn], func(f api.Func) bool { return f.Name == name })
	}
	if x.head {
		if ahead(p.Funcs[x.fn].Name) || twice(x.gives) {
			return api.ErrHave
		}
		return api.OK
	}
	for _, name := range x.asks {
		if !given(before, x, name, true) {
			return api.ErrNone
		}
	}
	if x.calls != "" && !ahead(x.calls) {
		return api.ErrNone
	}
	for _, name := range x.gives {
		if given(before, x, name, false) {
			return api.ErrHave
		}
	}
	return api.OK
}

// fault is the first one of p, and whether there is one.
func fault(p api.Prog) (api.Fault, bool) {
	l := items(p)
	for k := range l {
		if wrong := wrongAt(p, l, k); wrong != api.OK {
			return api.Fault{At: k, Err: wrong}, true
		}
	}
	return api.Fault{}, false
}
