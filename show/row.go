package show

import (
	"sacristy/api"
	"sacristy/expr"
)

// row is a line's tokens; each of its methods answers it with more behind.
type row []api.Token

func (r row) word(s string) row { return append(r, api.Token{Kind: api.TkWord, Text: s}) }

func (r row) name(s string) row { return append(r, api.Token{Kind: api.TkName, Text: s}) }

func (r row) sign(l ...string) row {
	for _, s := range l {
		r = append(r, api.Token{Kind: api.TkSign, Text: s})
	}
	return r
}

func (r row) secret(is bool) row {
	if is {
		r = r.word("secret")
	}
	return r
}

func (r row) expr(e api.Expr) row {
	l, _ := expr.Tell(e) // it may be, as its program may
	return append(r, l...)
}

func (r row) param(p api.Param) row {
	switch {
	case p.Mut:
		r = r.word("edit")
	case p.Buf:
		r = r.word("view")
	case !p.Sec:
		r = r.word("num")
	}
	return r.secret(p.Sec).name(p.Name)
}

// list is r with all of l behind, and a comma between two.
func list[T any](r row, l []T, put func(row, T) row) row {
	for k, x := range l {
		if k > 0 {
			r = r.sign(",")
		}
		r = put(r, x)
	}
	return r
}
