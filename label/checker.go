package label

import (
	"sacristy/api"
	"sacristy/walk"
)

// checker looks at the items of a program whose names are of the kinds that are asked.
type checker struct {
	walk.Walk[*checker]
	names map[string]struct{} // those of this function that are secret
	known int                 // how many secret numbers are, at the item
}

func looks() walk.Looks[*checker] {
	return walk.Looks[*checker]{
		Head: (*checker).head,
		Stmts: map[uint8]func(*checker, api.Stmt){
			api.StLet: (*checker).let, api.StSet: (*checker).set, api.StBuf: (*checker).buf, api.StPut: (*checker).put,
			api.StIf: (*checker).branch, api.StWhile: (*checker).branch, api.StFor: (*checker).branch, api.StView: (*checker).view,
			api.StMove: (*checker).move, api.StOpen: (*checker).open, api.StCall: (*checker).call, api.StSeal: (*checker).seal,
		},
		Tail: (*checker).tail,
	}
}

// refuse ends the walk, if a secret is where none may be.
func (c *checker) refuse(is bool) {
	if is {
		c.Stop(api.ErrSecret)
	}
}

// secret tells whether a name is.
func (c *checker) secret(name string) bool {
	_, is := c.names[name]
	return is
}

func (c *checker) give(name string, secret bool) {
	if secret {
		c.names[name] = struct{}{}
	}
}

// giveNumber gives a number's name: if it is secret, no seal may stand where it is known.
func (c *checker) giveNumber(name string, secret bool) {
	c.give(name, secret)
	if secret {
		c.known++
	}
}

// block looks at the statements of a block: the numbers that they give are known up to its end.
func (c *checker) block(l []api.Stmt) {
	before := c.known
	c.Block(l)
	c.known = before
}

func (c *checker) head(f api.Func) {
	c.names, c.known = map[string]struct{}{}, 0
	for _, p := range f.Params {
		if p.Buf {
			c.give(p.Name, p.Sec)
		} else {
			c.giveNumber(p.Name, p.Sec)
		}
	}
}

func (c *checker) tail(f api.Func) {
	for _, e := range f.Ret {
		c.refuse(c.expr(e) && !f.Sec)
	}
}

// expr looks at e, and tells whether it is secret.
func (c *checker) expr(e api.Expr) bool {
	kids := false
	for _, kid := range e.Kids {
		kids = c.expr(kid) || kids // each kid is looked at, whatever those ahead of it are
	}
	switch e.Kind {
	case api.ExVar:
		return c.secret(e.Name)
	case api.ExByte:
		c.refuse(kids)
		return c.secret(e.Name)
	case api.ExBin:
		c.refuse(kids && divides(e.Op))
		return kids
	}
	return false
}

// divides tells whether an instruction is one at which can be seen what it is done with.
func divides(op uint8) bool { return op == api.InDivu || op == api.InRemu }

// public looks at expressions, none of which may be secret.
func (c *checker) public(l []api.Expr) {
	for _, e := range l {
		c.refuse(c.expr(e))
	}
}

func (c *checker) let(s api.Stmt) {
	c.refuse(c.expr(s.Ex[0]) && !s.Sec)
	c.giveNumber(s.Name, s.Sec)
}

func (c *checker) set(s api.Stmt) {
	c.refuse(c.expr(s.Ex[0]) && !c.secret(s.Name))
}

func (c *checker) buf(s api.Stmt) {
	c.public(s.Ex)
	c.give(s.Name, s.Sec)
}

func (c *checker) put(s api.Stmt) {
	c.public(s.Ex[:1])
	c.refuse(c.expr(s.Ex[1]) && !c.secret(s.Name))
}

// branch looks at a statement whose blocks hang on its expressions; the name that it gives, if any, is not secret.
func (c *checker) branch(s api.Stmt) {
	c.public(s.Ex)
	c.block(s.Body)
	c.block(s.Else)
}

func (c *checker) view(s api.Stmt) {
	c.public(s.Ex)
	c.give(s.Name, c.secret(s.From))
	c.block(s.Body)
}

func (c *checker) move(s api.Stmt) { c.give(s.Name, c.secret(s.From)) }

// open looks at a statement that tells its expression, secret or not: but what it asks within that may not hang on a secret.
func (c *checker) open(s api.Stmt) { c.expr(s.Ex[0]) }

func (c *checker) call(s api.Stmt) {
	f := c.Ahead(s.From)
	numbers, buffers := walk.Params(f)
	for k, e := range s.Ex {
		c.refuse(c.expr(e) && !numbers[k].Sec)
	}
	for k, name := range s.Args {
		c.refuse(c.secret(name) != buffers[k].Sec)
	}
	if s.Name != "" {
		c.giveNumber(s.Name, f.Sec)
	}
}

func (c *checker) seal(api.Stmt) { c.refuse(c.known > 0) }
