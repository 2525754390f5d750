package show

import (
	"iter"

	"sacristy/api"
)

// lines gives the lines of p, which may be: of each how deep it is, and its tokens.
func lines(p api.Prog) iter.Seq2[int, row] {
	return func(yield func(int, row) bool) {
		for _, f := range p.Funcs {
			if !taker(yield).function(f) {
				return
			}
		}
	}
}

// taker is handed one line behind the other, and tells whether it takes another one; the same is what its methods tell.
type taker func(deep int, r row) bool

func (take taker) function(f api.Func) bool {
	return take(0, head(f)) && take.block(f.Body, 1) && take(0, tail(f))
}

func (take taker) block(l []api.Stmt, deep int) bool {
	for _, s := range l {
		if !take.statement(s, deep) {
			return false
		}
	}
	return true
}

func (take taker) statement(s api.Stmt, deep int) bool {
	if !take(deep, first(s)) {
		return false
	}
	switch s.Kind {
	case api.StIf, api.StWhile, api.StFor, api.StView:
		return take.block(s.Body, deep+1) && take.other(s.Else, deep) && take(deep, row{}.sign("}"))
	}
	return true
}

// other hands over what stands from a Body's } to the Else's: no line, if that has no statement.
func (take taker) other(l []api.Stmt, deep int) bool {
	if len(l) == 0 {
		return true
	}
	return take(deep, row{}.sign("}").word("else").sign("{")) && take.block(l, deep+1)
}
