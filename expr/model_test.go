package expr_test

import (
	"slices"
	"strconv"
	"strings"

	"sacristy/api"
	"sacristy/lex"
)

func num(v uint64) api.Expr                { return api.Expr{Kind: 1, Num: v} }
func variable(s string) api.Expr           { return api.Expr{Kind: 2, Name: s} }
func length(s string) api.Expr             { return api.Expr{Kind: 4, Name: s} }
func two(op uint8, a, b api.Expr) api.Expr { return api.Expr{Kind: 3, Op: op, Kids: []api.Expr{a, b}} }
func byteOf(s string, k api.Expr) api.Expr {
	return api.Expr{Kind: 5, Name: s, Kids: []api.Expr{k}}
}

func nameToken(s string) api.Token { return api.Token{Kind: api.TkName, Text: s} }
func wordToken(s string) api.Token { return api.Token{Kind: api.TkWord, Text: s} }
func signToken(s string) api.Token { return api.Token{Kind: api.TkSign, Text: s} }
func numToken(v uint64) api.Token  { return api.Token{Kind: api.TkNum, Num: v} }

// ops is the Ops by their signs, as the chapter lists them.
func ops() map[string]uint8 {
	return map[string]uint8{
		"+": 1, "-": 2, "<<": 3, "<$": 4, "<": 5, "^": 6, ">>": 7, ">>>": 8, "|": 9, "&": 10, "*": 11, "*^": 12, "/": 13, "%": 14,
	}
}

func allSigns() []string {
	return strings.Fields("( ) { } [ ] , ; = # .. + - * *^ / % & | ^ << >> >>> < <$")
}

// told is the text of e, its pieces with one blank between two.
func told(e api.Expr) string {
	switch e.Kind {
	case 1:
		return strconv.FormatUint(e.Num, 10)
	case 2:
		return e.Name
	case 3:
		for s, op := range ops() {
			if op == e.Op {
				return "( " + told(e.Kids[0]) + " " + s + " " + told(e.Kids[1]) + " )"
			}
		}
	case 4:
		return "# " + e.Name
	case 5:
		return e.Name + " [ " + told(e.Kids[0]) + " ]"
	}
	return "?"
}

// same tells whether both are the same, a list without elements as none.
func same(a, b api.Expr) bool {
	return a.Kind == b.Kind && a.Num == b.Num && a.Name == b.Name && a.Op == b.Op && slices.EqualFunc(a.Kids, b.Kids, same)
}

// deepOf is how deep e is.
func deepOf(e api.Expr) int {
	d := 0
	for _, k := range e.Kids {
		d = max(d, deepOf(k))
	}
	return d + 1
}

// placed is l with places that tell one token from the others: the first one at 100, three between two.
func placed(l []api.Token) []api.Token {
	l = slices.Clone(l)
	for k := range l {
		l[k].At = 100 + 3*k
	}
	return l
}

// placeless is l, all at 0.
func placeless(l []api.Token) []api.Token {
	l = slices.Clone(l)
	for k := range l {
		l[k].At = 0
	}
	return l
}

// cut is the tokens of a text that has some, without the end.
func cut(s string) []api.Token {
	l, err := lex.Cut(s)
	if err != nil {
		panic(s)
	}
	return l[:len(l)-1]
}

// want is what has to stand next: an expression, so deep, or what stands for one kind of tokens.
type want struct {
	what string
	deep int
}

// model is where behind the expression at at l goes on, or a fault: a pile of what has to stand, and no recursion.
func model(l []api.Token, at int) (next int, f api.Fault) {
	pile := []want{{"expression", 1}}
	for k := at; ; {
		if len(pile) == 0 {
			return k, api.Fault{}
		}
		w := pile[len(pile)-1]
		pile = pile[:len(pile)-1]
		if w.what == "expression" && w.deep > 40 {
			return 0, api.Fault{At: placeAt(l, k), Err: api.ErrDepth}
		}
		more, takes, ok := steps(l, k, w)
		if !ok {
			return 0, api.Fault{At: placeAt(l, k), Err: api.ErrForm}
		}
		pile = append(pile, more...)
		if takes {
			k++
		}
	}
}

// steps is what has to stand behind, the last one first, whether the token k is taken, and whether it may stand where w has to.
func steps(l []api.Token, k int, w want) (more []want, takes, ok bool) {
	s := spelt(l, k)
	kid := want{"expression", w.deep + 1}
	switch {
	case w.what == "bytes" && s == "[":
		return []want{{"]", 0}, kid}, true, true
	case w.what == "bytes":
		return nil, false, true
	case w.what == "op":
		return nil, true, ops()[s] != 0
	case w.what != "expression":
		return nil, true, s == w.what
	case s == "1":
		return nil, true, true
	case s == "a":
		return []want{{"bytes", w.deep}}, true, true
	case s == "#":
		return []want{{"a", 0}}, true, true
	case s == "(":
		return []want{{")", 0}, kid, {"op", 0}, kid}, true, true
	}
	return nil, false, false
}

// spelt is the sign of a token, a for names, 1 for numbers; else nothing.
func spelt(l []api.Token, k int) string {
	if k < 0 || k >= len(l) {
		return ""
	}
	t := l[k]
	switch {
	case t.Kind == 1 && t.Num == 0 && lex.Named(t.Text):
		return "a"
	case t.Kind == 3 && t.Text == "":
		return "1"
	case t.Kind == 4 && t.Num == 0 && slices.Contains(allSigns(), t.Text):
		return t.Text
	}
	return ""
}

func placeAt(l []api.Token, k int) int {
	if k < 0 || len(l) == 0 {
		return 0
	}
	return l[min(k, len(l)-1)].At
}

// chance gives scattered numbers, the same ones each time.
type chance uint64

// below is one below n.
func (c *chance) below(n int) int {
	*c = *c*6364136223846793005 + 1442695040888963407
	return int(uint64(*c) >> 33 % uint64(n))
}

func (c *chance) name() string {
	return []string{"a", "b", "_", "x1", "lets", "num0", "a234567890123456"}[c.below(7)]
}

// expr is an expression that is at most so deep.
func (c *chance) expr(deep int) api.Expr {
	pick := c.below(8)
	if deep == 1 {
		pick %= 3
	}
	switch pick {
	case 0:
		return num(1<<c.below(64) - uint64(c.below(2)))
	case 1:
		return variable(c.name())
	case 2:
		return length(c.name())
	case 3, 4:
		return byteOf(c.name(), c.expr(deep-1))
	}
	return two(uint8(1+c.below(14)), c.expr(deep-1), c.expr(deep-1))
}

// token is any one, many of them of expressions, some of no text.
func (c *chance) token() api.Token {
	switch c.below(12) {
	case 0, 1:
		return nameToken(c.name())
	case 2, 3:
		return numToken(uint64(c.below(1000)))
	case 4:
		return wordToken([]string{"let", "secret", "num", "seal"}[c.below(4)])
	case 5:
		return api.Token{Kind: uint8(c.below(7)), Text: []string{"", "a", "let", "#", "+", "A"}[c.below(6)], Num: uint64(c.below(3))}
	case 6:
		return api.Token{Kind: api.TkEnd}
	}
	return signToken(allSigns()[c.below(25)])
}
