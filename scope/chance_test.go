package scope_test

import (
	"slices"
	"strconv"

	"sacristy/api"
)

// chance gives scattered numbers, the same ones each time.
type chance uint64

// below is one below n.
func (c *chance) below(n int) int {
	*c = *c*6364136223846793005 + 1442695040888963407
	return int(uint64(*c) >> 33 % uint64(n))
}

func (c *chance) is() bool { return c.below(2) == 0 }

// maker makes scattered programs whose names are known where they are asked, and new ones where they are given; but one of so many is any.
type maker struct {
	chance
	wrong int // how many; 0: none
	funcs []string
	known []string // in the function, here
	all   []string // given in the function
}

func (m *maker) any() bool { return m.wrong > 0 && m.below(m.wrong) == 0 }

// pick is one of l; one that was given in the function, or a new one, if there is none.
func (m *maker) pick(l []string) string {
	if len(l) == 0 || m.any() {
		return "n" + strconv.Itoa(m.below(len(m.all)+1))
	}
	return l[m.below(len(l))]
}

// give is a name to be given.
func (m *maker) give() string {
	name := "n" + strconv.Itoa(len(m.all))
	if m.any() {
		name = "n" + strconv.Itoa(m.below(len(m.all)+1))
	}
	m.all = append(m.all, name)
	return name
}

// expr is an expression that is at most so deep; it asks nothing where nothing is known.
func (m *maker) expr(deep int) api.Expr {
	pick := m.below(7)
	if deep == 1 {
		pick %= 3
	}
	if len(m.known) == 0 && !m.any() {
		pick = 0
	}
	switch pick {
	case 0:
		return api.Expr{Kind: 1, Num: uint64(m.below(100))}
	case 1:
		return api.Expr{Kind: 2, Name: m.pick(m.known)}
	case 2:
		return api.Expr{Kind: 4, Name: m.pick(m.known)}
	case 3:
		return api.Expr{Kind: 5, Name: m.pick(m.known), Kids: m.exprs(1)}
	}
	return api.Expr{Kind: 3, Op: uint8(1 + m.below(14)), Kids: []api.Expr{m.expr(deep - 1), m.expr(deep - 1)}}
}

func (m *maker) exprs(n int) (l []api.Expr) {
	for range n {
		l = append(l, m.expr(1+m.below(3)))
	}
	return l
}

// block is statements, at most so many one within the other, in which these names are known, too.
func (m *maker) block(deep int, names ...string) (l []api.Stmt) {
	if deep == 0 {
		return nil
	}
	before := m.known
	m.known = append(slices.Clone(before), names...)
	for range m.below(5) {
		l = append(l, m.stmt(deep))
	}
	m.known = before
	return l
}

// kind is one of a statement that asks nothing but in expressions, where nothing is known.
func (m *maker) kind() uint8 {
	if len(m.known) == 0 && !m.any() {
		return []uint8{1, 3, 5, 6, 7, 10, 12}[m.below(7)]
	}
	return uint8(1 + m.below(12))
}

// stmt is a statement; what it gives is known then, if it is not for a Body alone.
func (m *maker) stmt(deep int) api.Stmt {
	s := api.Stmt{Kind: m.kind()}
	switch s.Kind {
	case 1, 3:
		s.Sec, s.Ex, s.Name = m.is(), m.exprs(1), m.give()
	case 2:
		s.Ex, s.Name = m.exprs(1), m.pick(m.known)
	case 4:
		s.Ex, s.Name = m.exprs(2), m.pick(m.known)
	case 5:
		s.Ex, s.Body, s.Else = m.exprs(1), m.block(deep-1), m.block(deep-1)
	case 6:
		s.Ex, s.Body = m.exprs(1), m.block(deep-1)
	case 7:
		s.Ex, s.Name = m.exprs(1), m.give()
		s.Body = m.block(deep-1, s.Name)
	case 8:
		s.Mut, s.Ex, s.From, s.Name = m.is(), m.exprs(2), m.pick(m.known), m.give()
		s.Body = m.block(deep-1, s.Name)
	case 9:
		s.From, s.Name = m.pick(m.known), m.give()
	case 10:
		s.Ex, s.Name = m.exprs(1), m.give()
	case 11:
		return m.call()
	}
	if s.Kind == 1 || s.Kind == 3 || s.Kind == 9 || s.Kind == 10 {
		m.known = append(slices.Clone(m.known), s.Name)
	}
	return s
}

// call is a call of a function ahead, if there is one.
func (m *maker) call() api.Stmt {
	if len(m.funcs) == 0 && !m.any() {
		return api.Stmt{Kind: 12}
	}
	s := api.Stmt{Kind: 11, From: m.pick(m.funcs), Ex: m.exprs(m.below(3))}
	for range m.below(3) {
		s.Args = append(s.Args, m.pick(m.known))
	}
	if m.is() {
		s.Name = m.give()
		m.known = append(slices.Clone(m.known), s.Name)
	}
	return s
}

func (m *maker) fn(deep int) api.Func {
	f := api.Func{Name: "n" + strconv.Itoa(len(m.funcs))}
	if m.any() {
		f.Name = m.pick(m.funcs)
	}
	m.known, m.all = nil, nil
	for range m.below(4) {
		p := api.Param{Name: m.give(), Buf: m.is(), Sec: m.is()}
		p.Mut = p.Buf && m.is()
		f.Params = append(f.Params, p)
		m.known = append(m.known, p.Name)
	}
	for range m.below(6) {
		f.Body = append(f.Body, m.stmt(deep))
	}
	f.Ret = m.exprs(m.below(2))
	f.Sec = len(f.Ret) == 1 && m.is()
	m.funcs = append(m.funcs, f.Name)
	return f
}

// scattered is a program of at most so many functions.
func scattered(seed, wrong, most, deep int) (p api.Prog) {
	m := maker{chance: chance(seed), wrong: wrong}
	m.below(2)
	for range m.below(most + 1) {
		p.Funcs = append(p.Funcs, m.fn(deep))
	}
	return p
}
