package kinds_test

import (
	"slices"
	"strconv"

	"sacristy/api"
)

// chance gives scattered numbers, the same ones each time.
type chance uint64

// below is one below n.
func (c *chance) below(n int) int {
	*c = *c*6364136223846793005 + 1442695040888963407
	return int(uint64(*c) >> 33 % uint64(n))
}

func (c *chance) is() bool { return c.below(2) == 0 }

// maker makes scattered programs that scope lets be, and whose things are of the kinds that are asked; but one of so many is any.
type maker struct {
	chance
	wrong int // how many; 0: none
	last  bool
	funcs []api.Func
	known []way // in the function, here, and what gave them
	names int   // how many were given in the function
}

func (m *maker) any() bool { return m.wrong > 0 && m.below(m.wrong) == 0 }

// those is the names that are known and may be asked so.
func (m *maker) those(how string) (l []string) {
	for _, w := range m.known {
		if may(w.how, how) {
			l = append(l, w.name)
		}
	}
	return l
}

// pick is one that is known and may be asked so, or any that is known; whether there is one.
func (m *maker) pick(how string) (string, bool) {
	l := m.those(how)
	if m.any() && len(m.known) > 0 {
		return m.known[m.below(len(m.known))].name, true
	}
	if len(l) == 0 {
		return "", false
	}
	return l[m.below(len(l))], true
}

// give is a new name.
func (m *maker) give() string {
	m.names++
	return "n" + strconv.Itoa(m.names)
}

// expr is an expression that is at most so deep.
func (m *maker) expr(deep int) api.Expr {
	kind := uint8(1 + m.below(5))
	if how := []string{2: "variable", 4: "length", 5: "byte"}; kind != 1 && kind != 3 {
		name, is := m.pick(how[kind])
		if is && kind != 5 {
			return api.Expr{Kind: kind, Name: name}
		}
		if is && deep > 1 {
			return api.Expr{Kind: kind, Name: name, Kids: []api.Expr{m.expr(deep - 1)}}
		}
	}
	if kind == 3 && deep > 1 {
		return api.Expr{Kind: 3, Op: uint8(1 + m.below(14)), Kids: []api.Expr{m.expr(deep - 1), m.expr(deep - 1)}}
	}
	return api.Expr{Kind: 1, Num: uint64(m.below(100))}
}

func (m *maker) exprs(n int) (l []api.Expr) {
	for range n {
		l = append(l, m.expr(1+m.below(4)))
	}
	return l
}

// block is statements, at most so many one within the other, in which these names are known, too.
func (m *maker) block(deep int, names ...way) (l []api.Stmt) {
	if deep == 0 {
		return nil
	}
	before := m.known
	m.known = append(slices.Clone(before), names...)
	for range m.below(5) {
		l = append(l, m.stmt(deep))
	}
	m.known = before
	return l
}

// stmt is a statement; what it gives is known then, if it is not for a Body alone.
func (m *maker) stmt(deep int) api.Stmt {
	s := api.Stmt{Kind: uint8(1 + m.below(12))}
	given, is := "", true
	switch s.Kind {
	case 1:
		s.Sec, s.Ex, given = m.is(), m.exprs(1), "let"
	case 2:
		s.Ex = m.exprs(1)
		s.Name, is = m.pick("set")
	case 3:
		s.Sec, s.Ex, given = m.is(), m.exprs(1), "buf"
	case 4:
		s.Ex = m.exprs(2)
		s.Name, is = m.pick("put")
	case 5:
		s.Ex, s.Body, s.Else = m.exprs(1), m.block(deep-1), m.block(deep-1)
	case 6:
		s.Ex, s.Body = m.exprs(1), m.block(deep-1)
	case 7:
		s.Ex, s.Name = m.exprs(1), m.give()
		s.Body = m.block(deep-1, way{s.Name, "for"})
	case 8:
		return m.view(deep)
	case 9:
		s.From, is = m.pick("move")
		given = "move"
	case 10:
		s.Ex, given = m.exprs(1), "open"
	case 11:
		return m.call(deep)
	case 12:
		is = m.last || m.any()
	}
	if !is {
		return m.stmt(deep)
	}
	if given != "" {
		s.Name = m.give()
		m.known = append(slices.Clone(m.known), way{s.Name, given})
	}
	return s
}

// view is one of a buffer that is known, or another statement, if there is none.
func (m *maker) view(deep int) api.Stmt {
	s := api.Stmt{Kind: 8, Mut: m.is(), Ex: m.exprs(2)}
	how := "view"
	if s.Mut {
		how = "edit"
	}
	from, is := m.pick(how)
	if !is {
		return m.stmt(deep)
	}
	s.From, s.Name = from, m.give()
	s.Body = m.block(deep-1, way{s.Name, how})
	return s
}

// call is one of a function ahead, or another statement, if there is none, or nothing to be handed to it.
func (m *maker) call(deep int) api.Stmt {
	if len(m.funcs) == 0 {
		return m.stmt(deep)
	}
	f := m.funcs[m.below(len(m.funcs))]
	s := api.Stmt{Kind: 11, From: f.Name}
	for _, p := range f.Params {
		how := "arg"
		if p.Mut {
			how = "edit arg"
		}
		name, is := m.pick(how)
		if p.Buf && !is {
			return m.stmt(deep)
		}
		if p.Buf && !m.any() {
			s.Args = append(s.Args, name)
		} else if !p.Buf && !m.any() {
			s.Ex = append(s.Ex, m.expr(2))
		}
	}
	if m.any() {
		s.Ex = append(s.Ex, m.expr(2))
	}
	if len(f.Ret) > 0 && m.is() || m.any() {
		s.Name = m.give()
		m.known = append(slices.Clone(m.known), way{s.Name, "call"})
	}
	return s
}

func (m *maker) fn(deep int) api.Func {
	f := api.Func{Name: "n" + strconv.Itoa(len(m.funcs))}
	m.known, m.names = nil, 0
	for range m.below(5) {
		p := api.Param{Name: m.give(), Buf: m.is(), Sec: m.is()}
		p.Mut = p.Buf && m.is()
		f.Params = append(f.Params, p)
		m.known = append(m.known, way{p.Name, paramWay(p)})
	}
	for range m.below(7) {
		f.Body = append(f.Body, m.stmt(deep))
	}
	f.Ret = m.exprs(m.below(2))
	f.Sec = len(f.Ret) == 1 && m.is()
	m.funcs = append(m.funcs, f)
	return f
}

// scattered is a program of at most so many functions.
func scattered(seed, wrong, most, deep int) (p api.Prog) {
	m := maker{chance: chance(seed), wrong: wrong}
	m.below(2)
	n := m.below(most + 1)
	for k := range n {
		m.last = k == n-1
		p.Funcs = append(p.Funcs, m.fn(deep))
	}
	return p
}
