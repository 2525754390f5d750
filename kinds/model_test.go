package kinds_test

import (
	"slices"

	"sacristy/api"
	"sacristy/expr"
)

// way is a name, and how it is asked.
type way struct{ name, how string }

// item is one of a program's, and what the chapter has of it.
type item struct {
	fn    int // which function it is of
	asks  []way
	gives []way // and what gives it
	call  *api.Stmt
	seal  bool
}

// asks is how expressions ask names, told by the tokens about these.
func asks(l []api.Expr) (ways []way) {
	for _, e := range l {
		tokens, _ := expr.Tell(e)
		for k, x := range tokens {
			switch {
			case x.Kind != api.TkName:
			case k > 0 && tokens[k-1].Text == "#":
				ways = append(ways, way{x.Text, "length"})
			case k+1 < len(tokens) && tokens[k+1].Text == "[":
				ways = append(ways, way{x.Text, "byte"})
			default:
				ways = append(ways, way{x.Text, "variable"})
			}
		}
	}
	return ways
}

// paramWay is what gives the name of p.
func paramWay(p api.Param) string {
	switch {
	case p.Mut:
		return "edit param"
	case p.Buf:
		return "view param"
	}
	return "num param"
}

// items is all those of p, which scope lets be.
func items(p api.Prog) (l []item) {
	for k, f := range p.Funcs {
		head := item{fn: k}
		for _, x := range f.Params {
			head.gives = append(head.gives, way{x.Name, paramWay(x)})
		}
		l = append(l, head)
		l = statements(l, k, f.Body)
		l = append(l, item{fn: k, asks: asks(f.Ret)})
	}
	return l
}

// statements is l, and behind it the items of a block of the function fn.
func statements(l []item, fn int, block []api.Stmt) []item {
	for _, s := range block {
		x := item{fn: fn, asks: asks(s.Ex)}
		give := func(how string) { x.gives = append(x.gives, way{s.Name, how}) }
		ask := func(name, how string) { x.asks = append(x.asks, way{name, how}) }
		switch s.Kind {
		case 1:
			give("let")
		case 2:
			ask(s.Name, "set")
		case 3:
			give("buf")
		case 4:
			ask(s.Name, "put")
		case 7:
			give("for")
		case 8:
			how := "view"
			if s.Mut {
				how = "edit"
			}
			give(how)
			ask(s.From, how)
		case 9:
			give("move")
			ask(s.From, "move")
		case 10:
			give("open")
		case 11:
			x.call = &s
			for _, name := range s.Args {
				ask(name, "arg")
			}
			if s.Name != "" {
				give("call")
			}
		case 12:
			x.seal = true
		}
		l = append(l, x)
		l = statements(l, fn, s.Body)
		l = statements(l, fn, s.Else)
	}
	return l
}

// givenBy is what gives the name in the function of x.
func givenBy(l []item, x item, name string) string {
	for _, y := range l {
		for _, w := range y.gives {
			if y.fn == x.fn && w.name == name {
				return w.how
			}
		}
	}
	return "nothing"
}

// may tells whether what was given so may be asked so.
func may(given, how string) bool {
	among := func(l ...string) bool { return slices.Contains(l, given) }
	switch how {
	case "variable":
		return among("num param", "let", "for", "open", "call")
	case "set":
		return among("let")
	case "length", "byte", "view", "arg":
		return among("view param", "edit param", "buf", "move", "view", "edit")
	case "put", "edit", "edit arg":
		return among("buf", "move", "edit", "edit param")
	}
	return among("buf", "move") // to be moved
}

// called tells whether the call of x is one that its function lets be.
func called(p api.Prog, l []item, x item) bool {
	k := slices.IndexFunc(p.Funcs, func(f api.Func) bool { return f.Name == x.call.From })
	numbers, lent := len(x.call.Ex), 0
	for _, y := range p.Funcs[k].Params {
		if !y.Buf {
			numbers--
			continue
		}
		if lent < len(x.call.Args) && y.Mut && !may(givenBy(l, x, x.call.Args[lent]), "edit arg") {
			return false
		}
		lent++
	}
	return numbers == 0 && lent == len(x.call.Args) && (x.call.Name == "" || len(p.Funcs[k].Ret) > 0)
}

// right tells whether nothing is wrong at the item k.
func right(p api.Prog, l []item, k int) bool {
	x := l[k]
	for _, w := range x.asks {
		if !may(givenBy(l, x, w.name), w.how) {
			return false
		}
	}
	return (x.call == nil || called(p, l, x)) && (!x.seal || x.fn == len(p.Funcs)-1)
}

// fault is the item of the first one of p, which scope lets be; below 0: none.
func fault(p api.Prog) int {
	l := items(p)
	for k := range l {
		if !right(p, l, k) {
			return k
		}
	}
	return -1
}
