package show_test

import "sacristy/api"

// chance gives scattered numbers, the same ones each time.
type chance uint64

// below is one below n.
func (c *chance) below(n int) int {
	*c = *c*6364136223846793005 + 1442695040888963407
	return int(uint64(*c) >> 33 % uint64(n))
}

func (c *chance) is() bool { return c.below(2) == 0 }

func (c *chance) name() string {
	return []string{"a", "b", "_", "x1", "lets", "fn0", "a234567890123456"}[c.below(7)]
}

// some is how many there are of something, at most as many as may be.
func (c *chance) some() int { return []int{0, 1, 1, 2, 3, 8}[c.below(6)] }

// expr is an expression that is at most so deep.
func (c *chance) expr(deep int) api.Expr {
	pick := c.below(7)
	if deep == 1 {
		pick %= 3
	}
	switch pick {
	case 0:
		return num(1<<c.below(64) - uint64(c.below(2)))
	case 1:
		return variable(c.name())
	case 2:
		return length(c.name())
	case 3:
		return byteOf(c.name(), c.expr(deep-1))
	}
	return two(uint8(1+c.below(14)), c.expr(deep-1), c.expr(deep-1))
}

func (c *chance) exprs(n int) (l []api.Expr) {
	for range n {
		l = append(l, c.expr(1+c.below(3)))
	}
	return l
}

// block is statements, at most so many one within the other.
func (c *chance) block(deep int) (l []api.Stmt) {
	if deep == 0 {
		return nil
	}
	for range c.below(4) {
		l = append(l, c.stmt(uint8(1+c.below(12)), deep))
	}
	return l
}

// stmt is a statement of this kind, with blocks that are less deep.
func (c *chance) stmt(kind uint8, deep int) api.Stmt {
	s := api.Stmt{Kind: kind, Name: c.name()}
	switch kind {
	case 1, 3:
		s.Sec, s.Ex = c.is(), c.exprs(1)
	case 2, 10:
		s.Ex = c.exprs(1)
	case 4:
		s.Ex = c.exprs(2)
	case 5:
		s.Name, s.Ex, s.Body, s.Else = "", c.exprs(1), c.block(deep-1), c.block(deep-1)
	case 6:
		s.Name, s.Ex, s.Body = "", c.exprs(1), c.block(deep-1)
	case 7:
		s.Ex, s.Body = c.exprs(1), c.block(deep-1)
	case 8:
		s.From, s.Mut, s.Ex, s.Body = c.name(), c.is(), c.exprs(2), c.block(deep-1)
	case 9:
		s.From = c.name()
	case 11:
		s.From, s.Ex = c.name(), c.exprs(c.some())
		for range c.some() {
			s.Args = append(s.Args, c.name())
		}
		if c.is() {
			s.Name = ""
		}
	case 12:
		s.Name = ""
	}
	return s
}

func (c *chance) fn(deep int) api.Func {
	f := api.Func{Name: c.name(), Body: c.block(deep), Ret: c.exprs(c.below(2))}
	f.Sec = len(f.Ret) == 1 && c.is()
	for range c.some() {
		p := api.Param{Name: c.name(), Buf: c.is(), Sec: c.is()}
		p.Mut = p.Buf && c.is()
		f.Params = append(f.Params, p)
	}
	return f
}

func (c *chance) prog(most, deep int) (p api.Prog) {
	for range c.below(most + 1) {
		p.Funcs = append(p.Funcs, c.fn(deep))
	}
	return p
}
