package expr

import "sacristy/api"

// tell is l, and behind it the tokens of e, which may be.
func tell(l []api.Token, e api.Expr) []api.Token {
	switch e.Kind {
	case api.ExNum:
		return append(l, number(e.Num))
	case api.ExVar:
		return append(l, name(e.Name))
	case api.ExLen:
		return append(l, sign(signLen), name(e.Name))
	case api.ExByte:
		l = tell(append(l, name(e.Name), sign(signOpen)), e.Kids[0])
		return append(l, sign(signClose))
	}
	l = tell(append(l, sign(signLeft)), e.Kids[0])
	l = tell(append(l, sign(signOf(e.Op))), e.Kids[1])
	return append(l, sign(signRight))
}

func number(v uint64) api.Token { return api.Token{Kind: api.TkNum, Num: v} }

func name(s string) api.Token { return api.Token{Kind: api.TkName, Text: s} }

func sign(s string) api.Token { return api.Token{Kind: api.TkSign, Text: s} }
