package stmt_test

import (
	"slices"
	"strings"

	"sacristy/api"
)

// grammar has what a program's tokens are, as the chapters have it, each line what stands for one thing, with the limits left out.
const grammar = `
Text : Program END
Program :
Program : Program fn NAME ( Params ) Block Ret ;
Params :
Params : Param
Params : Params1 , Param
Params1 : Param
Params1 : Params1 , Param
Param : num NAME
Param : secret NAME
Param : view NAME
Param : view secret NAME
Param : edit NAME
Param : edit secret NAME
Ret :
Ret : = Expr
Ret : = secret Expr
Block : { Stmts }
Stmts :
Stmts : Stmts Stmt
Stmt : let NAME = Expr ;
Stmt : let secret NAME = Expr ;
Stmt : NAME = Expr ;
Stmt : buf NAME [ Expr ] ;
Stmt : buf secret NAME [ Expr ] ;
Stmt : NAME [ Expr ] = Expr ;
Stmt : if Expr Block
Stmt : if Expr Block else Block
Stmt : while Expr Block
Stmt : for NAME < Expr Block
Stmt : view NAME = NAME [ Expr .. Expr ] Block
Stmt : edit NAME = NAME [ Expr .. Expr ] Block
Stmt : move NAME = NAME ;
Stmt : open NAME = Expr ;
Stmt : call NAME ( Exprs ; Names ) ;
Stmt : call NAME = NAME ( Exprs ; Names ) ;
Stmt : seal ;
Exprs :
Exprs : Exprs1
Exprs1 : Expr
Exprs1 : Exprs1 , Expr
Names :
Names : Names1
Names1 : NAME
Names1 : Names1 , NAME
Expr : NUM
Expr : NAME
Expr : # NAME
Expr : NAME [ Expr ]
Expr : ( Expr Op Expr )
Op : +
Op : -
Op : <<
Op : <$
Op : <
Op : ^
Op : >>
Op : >>>
Op : |
Op : &
Op : *
Op : *^
Op : /
Op : %
`

// rule is a line of the grammar: what it is of, and what stands for it.
type rule struct {
	of   string
	made []string
}

// rules is all lines, the first one that of a text.
func rules() []rule {
	var l []rule
	for line := range strings.Lines(strings.TrimSpace(grammar)) {
		of, made, _ := strings.Cut(line, ":")
		l = append(l, rule{strings.TrimSpace(of), strings.Fields(made)})
	}
	return l
}

// item is a rule of which so much was read, from a set of the row on.
type item struct{ rule, dot, from int }

// row is what a text's tokens may be, one set of items ahead of each (Earley's way, with no tree): none goes on in the set behind a token with which no program goes on.
type row struct {
	rules []rule
	sets  [][]item
}

func newRow() *row {
	r := &row{rules: rules()}
	r.sets = [][]item{r.closed([]item{{}}, 0)}
	return r
}

// next is what has to stand behind the dot; "", if nothing has to.
func (r *row) next(i item) string {
	if made := r.rules[i.rule].made; i.dot < len(made) {
		return made[i.dot]
	}
	return ""
}

// closed is set, the one of that number, with all that begins, or ends, in it, too.
func (r *row) closed(set []item, number int) []item {
	known := map[item]int{}
	add := func(i item) {
		if known[i] == 0 {
			known[i]++
			set = append(set, i)
		}
	}
	for _, i := range set {
		known[i]++
	}
	for before := -1; before < len(known); { // again, as long as it grows: what is empty ends where it begins
		before = len(known)
		for k := 0; k < len(set); k++ {
			i := set[k]
			if n := r.next(i); n != "" {
				for j, x := range r.rules {
					if x.of == n {
						add(item{rule: j, from: number})
					}
				}
				continue
			}
			behind := set
			if i.from < number {
				behind = r.sets[i.from]
			}
			for _, up := range behind {
				if r.next(up) == r.rules[i.rule].of {
					add(item{up.rule, up.dot + 1, up.from})
				}
			}
		}
	}
	return set
}

// may tells whether a program's tokens, up to behind those that were read, go on so.
func (r *row) may(letter string) bool {
	return slices.ContainsFunc(r.sets[len(r.sets)-1], func(i item) bool { return r.next(i) == letter })
}

// read goes on behind a letter that may be.
func (r *row) read(letter string) {
	var set []item
	for _, i := range r.sets[len(r.sets)-1] {
		if r.next(i) == letter {
			set = append(set, item{i.rule, i.dot + 1, i.from})
		}
	}
	n := len(r.sets)
	r.sets = append(r.sets, r.closed(set, n))
}

// back takes the last letter back.
func (r *row) back() { r.sets = r.sets[:len(r.sets)-1] }

// letterOf is what stands for a token in the grammar.
func letterOf(t api.Token) string {
	switch t.Kind {
	case api.TkName:
		return "NAME"
	case api.TkNum:
		return "NUM"
	case api.TkEnd:
		return "END"
	}
	return t.Text
}

// model is the number of the first token with which no program's tokens go on so; how many there are, if it is one.
func model(l []api.Token) int {
	r := newRow()
	for k, t := range l {
		if !r.may(letterOf(t)) {
			return k
		}
		r.read(letterOf(t))
	}
	return len(l)
}
