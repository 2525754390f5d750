package kinds

import (
	"sacristy/api"
	"sacristy/walk"
)

// given is what a name is, by what gave it: where nothing of this is so, it is a number's, which may not be set.
type given struct {
	set   bool // it is a number's, which may be set
	buf   bool // it is a buffer's
	turn  bool // it is a buffer's, which may be turned
	owned bool // it is a buffer's, which is owned
}

// checker looks at the items of a program whose names are known.
type checker struct {
	walk.Walk[*checker]
	left  int // how many functions are behind
	names map[string]given
}

func looks() walk.Looks[*checker] {
	return walk.Looks[*checker]{
		Head: (*checker).head,
		Stmts: map[uint8]func(*checker, api.Stmt){
			api.StLet: (*checker).let, api.StSet: (*checker).set, api.StBuf: (*checker).buf, api.StPut: (*checker).put,
			api.StIf: (*checker).branch, api.StWhile: (*checker).branch, api.StFor: (*checker).number, api.StView: (*checker).view,
			api.StMove: (*checker).move, api.StOpen: (*checker).number, api.StCall: (*checker).call, api.StSeal: (*checker).seal,
		},
		Tail: (*checker).tail,
	}
}

// need ends the walk, unless that is so.
func (c *checker) need(so bool) {
	if !so {
		c.Stop(api.ErrType)
	}
}

func (c *checker) head(f api.Func) {
	c.left--
	c.names = map[string]given{}
	for _, p := range f.Params {
		c.names[p.Name] = given{buf: p.Buf, turn: p.Mut}
	}
}

func (c *checker) tail(f api.Func) { c.exprs(f.Ret) }

func (c *checker) exprs(l []api.Expr) {
	for _, e := range l {
		switch e.Kind {
		case api.ExVar:
			c.need(!c.names[e.Name].buf)
		case api.ExLen, api.ExByte:
			c.need(c.names[e.Name].buf)
		}
		c.exprs(e.Kids)
	}
}

func (c *checker) let(s api.Stmt) {
	c.exprs(s.Ex)
	c.names[s.Name] = given{set: true}
}

func (c *checker) set(s api.Stmt) {
	c.exprs(s.Ex)
	c.need(c.names[s.Name].set)
}

// owns gives the name to a buffer that is owned.
func (c *checker) owns(name string) {
	c.names[name] = given{buf: true, turn: true, owned: true}
}

func (c *checker) buf(s api.Stmt) {
	c.exprs(s.Ex)
	c.owns(s.Name)
}

func (c *checker) put(s api.Stmt) {
	c.exprs(s.Ex)
	c.need(c.names[s.Name].turn)
}

// branch looks at a statement that gives no name.
func (c *checker) branch(s api.Stmt) {
	c.exprs(s.Ex)
	c.Block(s.Body)
	c.Block(s.Else)
}

// number looks at a statement that gives a number which may not be set.
func (c *checker) number(s api.Stmt) {
	c.exprs(s.Ex)
	c.names[s.Name] = given{}
	c.Block(s.Body)
}

func (c *checker) view(s api.Stmt) {
	c.exprs(s.Ex)
	from := c.names[s.From]
	c.need(from.buf && (from.turn || !s.Mut))
	c.names[s.Name] = given{buf: true, turn: s.Mut}
	c.Block(s.Body)
}

func (c *checker) move(s api.Stmt) {
	c.need(c.names[s.From].owned)
	c.owns(s.Name)
}

func (c *checker) call(s api.Stmt) {
	c.exprs(s.Ex)
	f := c.Ahead(s.From)
	numbers, buffers := walk.Params(f)
	c.need(len(s.Ex) == len(numbers) && len(s.Args) == len(buffers))
	for k, name := range s.Args {
		lent := c.names[name]
		c.need(lent.buf && (lent.turn || !buffers[k].Mut))
	}
	if s.Name != "" {
		c.need(len(f.Ret) == 1)
		c.names[s.Name] = given{}
	}
}

func (c *checker) seal(api.Stmt) { c.need(c.left == 0) }
