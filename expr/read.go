package expr

import (
	"sacristy/api"
	"sacristy/lex"
)

// reader reads what stands in l from at on, within so many expressions.
type reader struct {
	l    []api.Token
	at   int
	deep int
}

// part is a piece of an expression, as it is read into that one; if it isn't there, the reader stays at the token that is wrong.
type part func(*api.Expr) api.Errno

// expression reads the one that begins at the next token.
func (r *reader) expression() (api.Expr, api.Errno) {
	if r.deep == api.MaxDepth {
		return api.Expr{}, api.ErrDepth
	}
	r.deep++
	e := api.Expr{Kind: r.kind()}
	for _, read := range r.parts(e.Kind) {
		if wrong := read(&e); wrong != api.OK {
			return api.Expr{}, wrong
		}
	}
	r.deep--
	return e, api.OK
}

// kind is the one kind of expressions that may begin at the next token; where none begins, it is one whose first part is not there.
func (r *reader) kind() uint8 {
	first := r.ahead(0)
	switch {
	case first.Kind == api.TkNum:
		return api.ExNum
	case first == sign(signLen):
		return api.ExLen
	case first == sign(signLeft):
		return api.ExBin
	case r.ahead(1) == sign(signOpen):
		return api.ExByte
	}
	return api.ExVar
}

// parts is the parts of expressions of a kind, in order.
func (r *reader) parts(kind uint8) []part {
	switch kind {
	case api.ExNum:
		return []part{r.number}
	case api.ExLen:
		return []part{r.sign(signLen), r.name}
	case api.ExByte:
		return []part{r.name, r.sign(signOpen), r.kid, r.sign(signClose)}
	case api.ExBin:
		return []part{r.sign(signLeft), r.kid, r.op, r.kid, r.sign(signRight)}
	}
	return []part{r.name}
}

func (r *reader) number(e *api.Expr) api.Errno {
	e.Num = r.ahead(0).Num
	return r.take(number(e.Num))
}

func (r *reader) name(e *api.Expr) api.Errno {
	e.Name = r.ahead(0).Text
	if !lex.Named(e.Name) {
		return api.ErrForm
	}
	return r.take(name(e.Name))
}

func (r *reader) op(e *api.Expr) api.Errno {
	for op, s := range signs {
		if s != "" && r.take(sign(s)) == api.OK {
			e.Op = uint8(op)
			return api.OK
		}
	}
	return api.ErrForm
}

func (r *reader) kid(e *api.Expr) api.Errno {
	kid, wrong := r.expression()
	e.Kids = append(e.Kids, kid)
	return wrong
}

// sign is the part that is a sign alone, of which an expression keeps nothing.
func (r *reader) sign(s string) part {
	return func(*api.Expr) api.Errno { return r.take(sign(s)) }
}

// take goes on behind t, if that is the next token.
func (r *reader) take(t api.Token) api.Errno {
	if r.ahead(0) != t {
		return api.ErrForm
	}
	r.at++
	return api.OK
}

// ahead is the token that stands so many behind the next one, wherever in the text; one of no kind, if there is none.
func (r *reader) ahead(n int) api.Token {
	k := r.at + n
	if k < 0 || k >= len(r.l) {
		return api.Token{}
	}
	t := r.l[k]
	t.At = 0
	return t
}

// place is where the next token stands; where there is none, the last one.
func (r *reader) place() int {
	if r.at < 0 || len(r.l) == 0 {
		return 0
	}
	return r.l[min(r.at, len(r.l)-1)].At
}
