package stmt

import (
	"sacristy/api"
	"sacristy/expr"
)

// reader reads a program of the tokens l from at on. It never goes beyond the last one, which is TkEnd, as it takes none but those that it names.
type reader struct {
	l     []api.Token
	at    int
	reads map[string]func(*reader) api.Stmt // by the first word
	deep  int                               // how many blocks it is in
	begun int                               // how many statements
}

// read is the program of l.
func read(l []api.Token) (p api.Prog, err error) {
	defer func() {
		if wrong := recover(); wrong != nil {
			err = wrong.(error)
		}
	}()
	r := reader{l: l, reads: reads()}
	return r.program(), nil
}

// stop ends the reading at the next token.
func (r *reader) stop(e api.Errno) {
	panic(api.Fault{At: r.l[r.at].At, Err: e})
}

// next tells whether this word, or sign, stands next.
func (r *reader) next(s string) bool {
	return r.l[r.at].Text == s // no name is a word, and numbers and the end have no Text
}

// has takes this word, or sign, if it stands next, and tells whether it did.
func (r *reader) has(s string) bool {
	if !r.next(s) {
		return false
	}
	r.at++
	return true
}

// take takes this word, or sign, which has to stand next.
func (r *reader) take(s string) {
	if !r.has(s) {
		r.stop(api.ErrForm)
	}
}

func (r *reader) name() string {
	t := r.l[r.at]
	if t.Kind != api.TkName {
		r.stop(api.ErrForm)
	}
	r.at++
	return t.Text
}

func (r *reader) expr() api.Expr {
	e, next, err := expr.Read(r.l, r.at)
	if err != nil {
		panic(err)
	}
	r.at = next
	return e
}

// between reads an expression with a sign ahead and one behind.
func (r *reader) between(ahead, behind string) api.Expr {
	r.take(ahead)
	e := r.expr()
	r.take(behind)
	return e
}

// list reads some, with a comma between two, and the sign behind them.
func list[T any](r *reader, one func(*reader) T, behind string) []T {
	if r.has(behind) {
		return nil
	}
	l := []T{one(r)}
	for !r.has(behind) {
		r.take(",")
		if len(l) == api.MaxParams {
			r.stop(api.ErrLong)
		}
		l = append(l, one(r))
	}
	return l
}
