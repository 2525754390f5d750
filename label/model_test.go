package label_test

import (
	"slices"

	"sacristy/api"
	"sacristy/expr"
)

// thing is a name that is known, and what the chapter has of it.
type thing struct {
	name     string
	buf, sec bool
}

// things is those that are known at an item.
type things []thing

func (l things) with(name string, buf, sec bool) things {
	if name == "" {
		return l
	}
	return append(slices.Clone(l), thing{name, buf, sec})
}

func (l things) secret(name string) bool {
	return slices.ContainsFunc(l, func(x thing) bool { return x.name == name && x.sec })
}

// inner is the tokens from the one behind the first one, which opens, up to the one that closes it.
func inner(l []api.Token) []api.Token {
	deep := 0
	for k, x := range l {
		switch x.Text {
		case "(", "[":
			deep++
		case ")", "]":
			deep--
		}
		if deep == 0 {
			return l[1:k]
		}
	}
	return nil
}

// secretly tells whether the expression of these tokens is secret: it asks a name that is, within no place, and not for its length.
func (l things) secretly(tokens []api.Token) bool {
	deep := 0
	for k, x := range tokens {
		switch {
		case x.Text == "[":
			deep++
		case x.Text == "]":
			deep--
		case x.Kind == api.TkName && deep == 0 && (k == 0 || tokens[k-1].Text != "#") && l.secret(x.Text):
			return true
		}
	}
	return false
}

// divided tells whether these tokens, with the sign between them, are two of which one is divided by the other.
func divided(tokens []api.Token) bool {
	deep := 0
	for _, x := range tokens {
		switch x.Text {
		case "(", "[":
			deep++
		case ")", "]":
			deep--
		case "/", "%":
			if deep == 0 {
				return true
			}
		}
	}
	return false
}

// hangs tells whether a place, or a division, of the expression of these tokens hangs on a secret.
func (l things) hangs(tokens []api.Token) bool {
	for k, x := range tokens {
		if x.Text != "[" && x.Text != "(" {
			continue
		}
		within := inner(tokens[k:])
		if (x.Text == "[" || divided(within)) && l.secretly(within) {
			return true
		}
	}
	return false
}

// model tells the items of a program, as the chapter has them.
type model struct {
	done  []api.Func
	wrong []bool // of each item: whether it is
}

// wrongly tells of expressions whether one is wrong: each may be secret, or may not.
func (l things) wrongly(exprs []api.Expr, may ...bool) bool {
	for k, e := range exprs {
		tokens, _ := expr.Tell(e)
		if l.hangs(tokens) || l.secretly(tokens) && !may[k] {
			return true
		}
	}
	return false
}

func (m *model) function(f api.Func) {
	var known things
	for _, p := range f.Params {
		known = known.with(p.Name, p.Buf, p.Sec)
	}
	m.wrong = append(m.wrong, false)
	known = m.block(known, f.Body)
	m.wrong = append(m.wrong, known.wrongly(f.Ret, f.Sec))
	m.done = append(m.done, f)
}

// block tells a block's items; it answers what is known at its end.
func (m *model) block(known things, l []api.Stmt) things {
	for _, s := range l {
		m.wrong = append(m.wrong, m.is(known, s))
		switch s.Kind {
		case api.StFor:
			m.block(known.with(s.Name, false, false), s.Body)
		case api.StView:
			m.block(known.with(s.Name, true, known.secret(s.From)), s.Body)
		default:
			m.block(known, s.Body)
			m.block(known, s.Else)
			known = m.behind(known, s)
		}
	}
	return known
}

// behind is what is known behind a statement.
func (m *model) behind(known things, s api.Stmt) things {
	switch s.Kind {
	case api.StLet:
		return known.with(s.Name, false, s.Sec)
	case api.StBuf:
		return known.with(s.Name, true, s.Sec)
	case api.StMove:
		return known.with(s.Name, true, known.secret(s.From))
	case api.StOpen:
		return known.with(s.Name, false, false)
	case api.StCall:
		return known.with(s.Name, false, m.called(s).Sec)
	}
	return known
}

func (m *model) called(s api.Stmt) api.Func {
	return m.done[slices.IndexFunc(m.done, func(f api.Func) bool { return f.Name == s.From })]
}

// is tells whether a statement is wrong.
func (m *model) is(known things, s api.Stmt) bool {
	switch s.Kind {
	case api.StLet:
		return known.wrongly(s.Ex, s.Sec)
	case api.StSet:
		return known.wrongly(s.Ex, known.secret(s.Name))
	case api.StPut:
		return known.wrongly(s.Ex, false, known.secret(s.Name))
	case api.StOpen:
		return known.wrongly(s.Ex, true)
	case api.StCall:
		var may, lent []bool
		for _, p := range m.called(s).Params {
			if p.Buf {
				lent = append(lent, p.Sec)
			} else {
				may = append(may, p.Sec)
			}
		}
		for k, name := range s.Args {
			if known.secret(name) != lent[k] {
				return true
			}
		}
		return known.wrongly(s.Ex, may...)
	case api.StSeal:
		return slices.ContainsFunc(known, func(x thing) bool { return !x.buf && x.sec })
	}
	return known.wrongly(s.Ex, false, false)
}

// fault is the first item of p that is wrong, which kinds lets be; below 0: none.
func fault(p api.Prog) int {
	var m model
	for _, f := range p.Funcs {
		m.function(f)
	}
	return slices.Index(m.wrong, true)
}
