package show_test

import (
	"slices"
	"strconv"
	"strings"

	"sacristy/api"
)

func num(v uint64) api.Expr                { return api.Expr{Kind: 1, Num: v} }
func variable(s string) api.Expr           { return api.Expr{Kind: 2, Name: s} }
func length(s string) api.Expr             { return api.Expr{Kind: 4, Name: s} }
func two(op uint8, a, b api.Expr) api.Expr { return api.Expr{Kind: 3, Op: op, Kids: []api.Expr{a, b}} }
func byteOf(s string, k api.Expr) api.Expr {
	return api.Expr{Kind: 5, Name: s, Kids: []api.Expr{k}}
}

func exprs(l ...api.Expr) []api.Expr { return l }
func stmts(l ...api.Stmt) []api.Stmt { return l }
func funcs(l ...api.Func) api.Prog   { return api.Prog{Funcs: l} }
func in(l ...api.Stmt) api.Prog      { return funcs(api.Func{Name: "f", Body: l}) }

func let(name string, e api.Expr) api.Stmt {
	return api.Stmt{Kind: 1, Name: name, Ex: exprs(e)}
}

func seal() api.Stmt { return api.Stmt{Kind: 12} }

func ifs(body, other []api.Stmt) api.Stmt {
	return api.Stmt{Kind: 5, Ex: exprs(num(1)), Body: body, Else: other}
}

// seals is so many of them.
func seals(n int) []api.Stmt { return slices.Repeat(stmts(seal()), n) }

// short is the beginning of a text, and its end.
func short(s string) string {
	if len(s) <= 600 {
		return s
	}
	return s[:200] + " .. " + s[len(s)-200:]
}

func ops() []string {
	return strings.Fields("? + - << <$ < ^ >> >>> | & * *^ / %")
}

// toldExpr is the text of e, its pieces with one blank between two.
func toldExpr(e api.Expr) string {
	switch e.Kind {
	case 1:
		return strconv.FormatUint(e.Num, 10)
	case 2:
		return e.Name
	case 3:
		return "( " + toldExpr(e.Kids[0]) + " " + ops()[e.Op] + " " + toldExpr(e.Kids[1]) + " )"
	case 4:
		return "# " + e.Name
	case 5:
		return e.Name + " [ " + toldExpr(e.Kids[0]) + " ]"
	}
	return "?"
}

// row is pieces with one blank between two; empty ones are left out.
func row(pieces ...string) string {
	return strings.Join(slices.DeleteFunc(pieces, func(s string) bool { return s == "" }), " ")
}

// when is the word s, if it is so.
func when(is bool, s string) string {
	if is {
		return s
	}
	return ""
}

func commas[T any](l []T, one func(T) string) string {
	var told []string
	for _, x := range l {
		told = append(told, one(x))
	}
	return strings.Join(told, " , ")
}

func toldBlock(l []api.Stmt) string {
	all := []string{"{"}
	for _, s := range l {
		all = append(all, toldStmt(s))
	}
	return row(append(all, "}")...)
}

func toldStmt(s api.Stmt) string {
	ex := func(k int) string { return toldExpr(s.Ex[k]) }
	switch s.Kind {
	case 1:
		return row("let", when(s.Sec, "secret"), s.Name, "=", ex(0), ";")
	case 2:
		return row(s.Name, "=", ex(0), ";")
	case 3:
		return row("buf", when(s.Sec, "secret"), s.Name, "[", ex(0), "] ;")
	case 4:
		return row(s.Name, "[", ex(0), "] =", ex(1), ";")
	case 5:
		return row("if", ex(0), toldBlock(s.Body), when(len(s.Else) > 0, "else "+toldBlock(s.Else)))
	case 6:
		return row("while", ex(0), toldBlock(s.Body))
	case 7:
		return row("for", s.Name, "<", ex(0), toldBlock(s.Body))
	case 8:
		return row(when(!s.Mut, "view"), when(s.Mut, "edit"), s.Name, "=", s.From, "[", ex(0), "..", ex(1), "]", toldBlock(s.Body))
	case 9:
		return row("move", s.Name, "=", s.From, ";")
	case 10:
		return row("open", s.Name, "=", ex(0), ";")
	case 11:
		return row("call", s.Name, when(s.Name != "", "="), s.From, "(", commas(s.Ex, toldExpr), ";", commas(s.Args, strings.Clone), ") ;")
	case 12:
		return "seal ;"
	}
	return "?"
}

func toldParam(p api.Param) string {
	if !p.Buf {
		return row(when(!p.Sec, "num"), when(p.Sec, "secret"), p.Name)
	}
	return row(when(!p.Mut, "view"), when(p.Mut, "edit"), when(p.Sec, "secret"), p.Name)
}

// told is the text of p, all its pieces with one blank between two.
func told(p api.Prog) string {
	var all []string
	for _, f := range p.Funcs {
		ret := ""
		if len(f.Ret) > 0 {
			ret = row("=", when(f.Sec, "secret"), toldExpr(f.Ret[0]))
		}
		all = append(all, row("fn", f.Name, "(", commas(f.Params, toldParam), ")", toldBlock(f.Body), ret, ";"))
	}
	return row(all...)
}

// inLines is a program's text, whose pieces have a blank between two, cut into its lines by its signs alone: one ends behind a {, behind a ; that stands in no round brackets, and behind a } of a statement that no else follows.
func inLines(s string) string {
	var b strings.Builder
	deep, round, begins := 0, 0, true
	pieces := strings.Fields(s)
	for k, p := range pieces {
		if p == "}" {
			deep--
		}
		if begins {
			b.WriteString(strings.Repeat("  ", deep))
		} else {
			b.WriteByte(' ')
		}
		b.WriteString(p)
		begins = false
		switch p {
		case "(":
			round++
		case ")":
			round--
		case "{":
			deep++
			begins = true
		case ";":
			begins = round == 0
		case "}":
			begins = deep > 0 && pieces[k+1] != "else"
		}
		if begins {
			b.WriteByte('\n')
		}
	}
	return b.String()
}

func sameExpr(a, b api.Expr) bool {
	return a.Kind == b.Kind && a.Num == b.Num && a.Name == b.Name && a.Op == b.Op && slices.EqualFunc(a.Kids, b.Kids, sameExpr)
}

func sameStmt(a, b api.Stmt) bool {
	return a.Kind == b.Kind && a.Name == b.Name && a.From == b.From && a.Sec == b.Sec && a.Mut == b.Mut && slices.Equal(a.Args, b.Args) &&
		slices.EqualFunc(a.Ex, b.Ex, sameExpr) && slices.EqualFunc(a.Body, b.Body, sameStmt) && slices.EqualFunc(a.Else, b.Else, sameStmt)
}

func sameFunc(a, b api.Func) bool {
	return a.Name == b.Name && a.Sec == b.Sec && slices.Equal(a.Params, b.Params) &&
		slices.EqualFunc(a.Ret, b.Ret, sameExpr) && slices.EqualFunc(a.Body, b.Body, sameStmt)
}

// same tells whether both are the same, a list without elements as none.
func same(a, b api.Prog) bool { return slices.EqualFunc(a.Funcs, b.Funcs, sameFunc) }
