package stmt

import (
	"sacristy/api"
	"sacristy/lex"
)

// asked tells whether a name may stand in a statement, or has to.
type asked uint8

const (
	never asked = iota
	may
	must
)

// needs is what statements of a kind have: names, whether they may be Sec, and Mut, from how many to how many expressions, how many Args at most, which blocks.
type needs struct {
	name, from  asked
	sec, mut    bool
	least, most int
	args        int
	body, other bool
}

// kinds has what each kind of statements needs.
var kinds = [...]needs{
	api.StLet:   {name: must, sec: true, least: 1, most: 1},
	api.StSet:   {name: must, least: 1, most: 1},
	api.StBuf:   {name: must, sec: true, least: 1, most: 1},
	api.StPut:   {name: must, least: 2, most: 2},
	api.StIf:    {least: 1, most: 1, body: true, other: true},
	api.StWhile: {least: 1, most: 1, body: true},
	api.StFor:   {name: must, least: 1, most: 1, body: true},
	api.StView:  {name: must, from: must, mut: true, least: 2, most: 2, body: true},
	api.StMove:  {name: must, from: must},
	api.StOpen:  {name: must, least: 1, most: 1},
	api.StCall:  {name: may, from: must, most: api.MaxParams, args: api.MaxParams},
	api.StSeal:  {},
}

// met tells whether s has what is needed, and nothing else; what its expressions and blocks are is not asked.
func (n needs) met(s api.Stmt) bool {
	return n.name.met(s.Name) && n.from.met(s.From) &&
		(n.sec || !s.Sec) && (n.mut || !s.Mut) &&
		n.least <= len(s.Ex) && len(s.Ex) <= n.most && len(s.Args) <= n.args &&
		(n.body || len(s.Body) == 0) && (n.other || len(s.Else) == 0)
}

// met tells whether the name s may stand there, or none, if s is empty.
func (a asked) met(s string) bool {
	if s == "" {
		return a != must
	}
	return a != never && lex.Named(s)
}
