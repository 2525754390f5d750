package show

import "sacristy/api"

// head is the tokens of a function's first line.
func head(f api.Func) row {
	r := row{}.word("fn").name(f.Name).sign("(")
	return list(r, f.Params, row.param).sign(")", "{")
}

// tail is the tokens of a function's last line.
func tail(f api.Func) row {
	r := row{}.sign("}")
	for _, e := range f.Ret {
		r = r.sign("=").secret(f.Sec).expr(e)
	}
	return r.sign(";")
}

// words has the first word of statements that are not Mut, by their kinds; those that begin with a name have none.
var words = [...]string{
	api.StLet:   "let",
	api.StBuf:   "buf",
	api.StIf:    "if",
	api.StWhile: "while",
	api.StFor:   "for",
	api.StView:  "view",
	api.StMove:  "move",
	api.StOpen:  "open",
	api.StCall:  "call",
	api.StSeal:  "seal",
}

// begin is what s begins with: its words, and its name, if it has one.
func begin(s api.Stmt) (r row) {
	put := func(kind uint8, piece string) {
		if piece != "" {
			r = append(r, api.Token{Kind: kind, Text: piece})
		}
	}
	word := words[s.Kind]
	switch s.Kind {
	case api.StView:
		if s.Mut {
			word = "edit"
		}
		fallthrough
	default:
		put(api.TkWord, word)
		r = r.secret(s.Sec)
		fallthrough
	case api.StSet, api.StPut:
		put(api.TkName, s.Name)
	}
	return r
}

// first is the tokens of a statement's first line: up to the { of its Body, if it has blocks; else all.
func first(s api.Stmt) row {
	r := begin(s)
	switch s.Kind {
	case api.StBuf:
		return r.sign("[").expr(s.Ex[0]).sign("]", ";")
	case api.StPut:
		return r.sign("[").expr(s.Ex[0]).sign("]", "=").expr(s.Ex[1]).sign(";")
	case api.StIf, api.StWhile:
		return r.expr(s.Ex[0]).sign("{")
	case api.StFor:
		return r.sign("<").expr(s.Ex[0]).sign("{")
	case api.StView:
		return r.sign("=").name(s.From).sign("[").expr(s.Ex[0]).sign("..").expr(s.Ex[1]).sign("]", "{")
	case api.StMove:
		return r.sign("=").name(s.From).sign(";")
	case api.StCall:
		return call(r, s)
	case api.StSeal:
		return r.sign(";")
	}
	return r.sign("=").expr(s.Ex[0]).sign(";") // StLet, StSet, StOpen
}

// call is r, what a call begins with, and the rest of its tokens.
func call(r row, s api.Stmt) row {
	if s.Name != "" {
		r = r.sign("=")
	}
	r = list(r.name(s.From).sign("("), s.Ex, row.expr).sign(";")
	return list(r, s.Args, row.name).sign(")", ";")
}
