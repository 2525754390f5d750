package stmt_test

import (
	"slices"
	"strconv"
	"strings"

	"sacristy/api"
)

func num(v uint64) api.Expr                { return api.Expr{Kind: 1, Num: v} }
func variable(s string) api.Expr           { return api.Expr{Kind: 2, Name: s} }
func length(s string) api.Expr             { return api.Expr{Kind: 4, Name: s} }
func two(op uint8, a, b api.Expr) api.Expr { return api.Expr{Kind: 3, Op: op, Kids: []api.Expr{a, b}} }
func byteOf(s string, k api.Expr) api.Expr {
	return api.Expr{Kind: 5, Name: s, Kids: []api.Expr{k}}
}

func exprs(l ...api.Expr) []api.Expr { return l }
func stmts(l ...api.Stmt) []api.Stmt { return l }
func funcs(l ...api.Func) api.Prog   { return api.Prog{Funcs: l} }

func let(name string, e api.Expr) api.Stmt {
	return api.Stmt{Kind: 1, Name: name, Ex: exprs(e)}
}

func seal() api.Stmt { return api.Stmt{Kind: 12} }

func ifs(body, other []api.Stmt) api.Stmt {
	return api.Stmt{Kind: 5, Ex: exprs(num(1)), Body: body, Else: other}
}

// seals is so many of them.
func seals(n int) []api.Stmt { return slices.Repeat(stmts(seal()), n) }

func allSigns() []string {
	return strings.Fields("( ) { } [ ] , ; = # .. + - * *^ / % & | ^ << >> >>> < <$")
}

func allWords() []string {
	return strings.Fields("let secret buf if else while for view edit move open call seal fn return num")
}

// anyPieces is a text of each letter of the grammar, but the end.
func anyPieces() []string {
	return slices.Concat(allSigns(), allWords(), []string{"x", "a234567890123456", "lets", "0", "18446744073709551615"})
}

func ops() []string {
	return strings.Fields("? + - << <$ < ^ >> >>> | & * *^ / %")
}

// toldExpr is the text of e, its pieces with one blank between two.
func toldExpr(e api.Expr) string {
	switch e.Kind {
	case 1:
		return strconv.FormatUint(e.Num, 10)
	case 2:
		return e.Name
	case 3:
		return "( " + toldExpr(e.Kids[0]) + " " + ops()[e.Op] + " " + toldExpr(e.Kids[1]) + " )"
	case 4:
		return "# " + e.Name
	case 5:
		return e.Name + " [ " + toldExpr(e.Kids[0]) + " ]"
	}
	return "?"
}

// line is pieces with one blank between two; empty ones are left out.
func line(pieces ...string) string {
	return strings.Join(slices.DeleteFunc(pieces, func(s string) bool { return s == "" }), " ")
}

// when is the word s, if it is so.
func when(is bool, s string) string {
	if is {
		return s
	}
	return ""
}

func commas[T any](l []T, one func(T) string) string {
	var told []string
	for _, x := range l {
		told = append(told, one(x))
	}
	return strings.Join(told, " , ")
}

func toldBlock(l []api.Stmt) string {
	all := []string{"{"}
	for _, s := range l {
		all = append(all, toldStmt(s))
	}
	return line(append(all, "}")...)
}

func toldStmt(s api.Stmt) string {
	ex := func(k int) string { return toldExpr(s.Ex[k]) }
	switch s.Kind {
	case 1:
		return line("let", when(s.Sec, "secret"), s.Name, "=", ex(0), ";")
	case 2:
		return line(s.Name, "=", ex(0), ";")
	case 3:
		return line("buf", when(s.Sec, "secret"), s.Name, "[", ex(0), "] ;")
	case 4:
		return line(s.Name, "[", ex(0), "] =", ex(1), ";")
	case 5:
		other := ""
		if len(s.Else) > 0 {
			other = "else " + toldBlock(s.Else)
		}
		return line("if", ex(0), toldBlock(s.Body), other)
	case 6:
		return line("while", ex(0), toldBlock(s.Body))
	case 7:
		return line("for", s.Name, "<", ex(0), toldBlock(s.Body))
	case 8:
		return line(when(!s.Mut, "view"), when(s.Mut, "edit"), s.Name, "=", s.From, "[", ex(0), "..", ex(1), "]", toldBlock(s.Body))
	case 9:
		return line("move", s.Name, "=", s.From, ";")
	case 10:
		return line("open", s.Name, "=", ex(0), ";")
	case 11:
		return line("call", s.Name, when(s.Name != "", "="), s.From, "(", commas(s.Ex, toldExpr), ";", commas(s.Args, strings.Clone), ") ;")
	case 12:
		return "seal ;"
	}
	return "?"
}

func toldParam(p api.Param) string {
	if !p.Buf {
		return line(when(!p.Sec, "num"), when(p.Sec, "secret"), p.Name)
	}
	return line(when(!p.Mut, "view"), when(p.Mut, "edit"), when(p.Sec, "secret"), p.Name)
}

// told is the text of p, all its pieces with one blank between two.
func told(p api.Prog) string {
	var all []string
	for _, f := range p.Funcs {
		ret := ""
		if len(f.Ret) > 0 {
			ret = line("=", when(f.Sec, "secret"), toldExpr(f.Ret[0]))
		}
		all = append(all, line("fn", f.Name, "(", commas(f.Params, toldParam), ")", toldBlock(f.Body), ret, ";"))
	}
	return line(all...)
}

func sameExpr(a, b api.Expr) bool {
	return a.Kind == b.Kind && a.Num == b.Num && a.Name == b.Name && a.Op == b.Op && slices.EqualFunc(a.Kids, b.Kids, sameExpr)
}

func sameStmt(a, b api.Stmt) bool {
	return a.Kind == b.Kind && a.Name == b.Name && a.From == b.From && a.Sec == b.Sec && a.Mut == b.Mut && slices.Equal(a.Args, b.Args) &&
		slices.EqualFunc(a.Ex, b.Ex, sameExpr) && slices.EqualFunc(a.Body, b.Body, sameStmt) && slices.EqualFunc(a.Else, b.Else, sameStmt)
}

func sameFunc(a, b api.Func) bool {
	return a.Name == b.Name && a.Sec == b.Sec && slices.Equal(a.Params, b.Params) &&
		slices.EqualFunc(a.Ret, b.Ret, sameExpr) && slices.EqualFunc(a.Body, b.Body, sameStmt)
}

// same tells whether both are the same, a list without elements as none.
func same(a, b api.Prog) bool { return slices.EqualFunc(a.Funcs, b.Funcs, sameFunc) }

// chance gives scattered numbers, the same ones each time.
type chance uint64

// below is one below n.
func (c *chance) below(n int) int {
	*c = *c*6364136223846793005 + 1442695040888963407
	return int(uint64(*c) >> 33 % uint64(n))
}

func (c *chance) is() bool { return c.below(2) == 0 }

func (c *chance) name() string {
	return []string{"a", "b", "_", "x1", "lets", "fn0", "a234567890123456"}[c.below(7)]
}

// some is how many there are of something, far below each limit.
func (c *chance) some() int { return []int{0, 1, 1, 2, 3}[c.below(5)] }

// expr is an expression that is at most so deep.
func (c *chance) expr(deep int) api.Expr {
	pick := c.below(7)
	if deep == 1 {
		pick %= 3
	}
	switch pick {
	case 0:
		return num(1<<c.below(64) - uint64(c.below(2)))
	case 1:
		return variable(c.name())
	case 2:
		return length(c.name())
	case 3:
		return byteOf(c.name(), c.expr(deep-1))
	}
	return two(uint8(1+c.below(14)), c.expr(deep-1), c.expr(deep-1))
}

func (c *chance) exprs(n int) (l []api.Expr) {
	for range n {
		l = append(l, c.expr(1+c.below(3)))
	}
	return l
}

// block is statements, at most so many one within the other.
func (c *chance) block(deep int) (l []api.Stmt) {
	if deep == 0 {
		return nil
	}
	for range c.below(4) {
		l = append(l, c.stmt(uint8(1+c.below(12)), deep))
	}
	return l
}

// stmt is a statement of this kind, with blocks that are less deep.
func (c *chance) stmt(kind uint8, deep int) api.Stmt {
	s := api.Stmt{Kind: kind, Name: c.name()}
	switch kind {
	case 1, 3:
		s.Sec, s.Ex = c.is(), c.exprs(1)
	case 2, 10:
		s.Ex = c.exprs(1)
	case 4:
		s.Ex = c.exprs(2)
	case 5:
		s.Name, s.Ex, s.Body, s.Else = "", c.exprs(1), c.block(deep-1), c.block(deep-1)
	case 6:
		s.Name, s.Ex, s.Body = "", c.exprs(1), c.block(deep-1)
	case 7:
		s.Ex, s.Body = c.exprs(1), c.block(deep-1)
	case 8:
		s.From, s.Mut, s.Ex, s.Body = c.name(), c.is(), c.exprs(2), c.block(deep-1)
	case 9:
		s.From = c.name()
	case 11:
		s.From, s.Ex = c.name(), c.exprs(c.some())
		for range c.some() {
			s.Args = append(s.Args, c.name())
		}
		if c.is() {
			s.Name = ""
		}
	case 12:
		s.Name = ""
	}
	return s
}

func (c *chance) fn(deep int) api.Func {
	f := api.Func{Name: c.name(), Body: c.block(deep), Ret: c.exprs(c.below(2))}
	f.Sec = len(f.Ret) == 1 && c.is()
	for range c.some() {
		p := api.Param{Name: c.name(), Buf: c.is(), Sec: c.is()}
		p.Mut = p.Buf && c.is()
		f.Params = append(f.Params, p)
	}
	return f
}

func (c *chance) prog(most, deep int) (p api.Prog) {
	for range c.below(most + 1) {
		p.Funcs = append(p.Funcs, c.fn(deep))
	}
	return p
}
