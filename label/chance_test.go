package label_test

import (
	"slices"
	"strconv"

	"sacristy/api"
)

// chance gives scattered numbers, the same ones each time.
type chance uint64

// below is one below n.
func (c *chance) below(n int) int {
	*c = *c*6364136223846793005 + 1442695040888963407
	return int(uint64(*c) >> 33 % uint64(n))
}

func (c *chance) is() bool { return c.below(2) == 0 }

// name is one that is known, and what may be done with it.
type name struct {
	text                       string
	buf, set, turn, owned, sec bool
}

// maker makes scattered programs whose things are of the kinds that are asked, and whose secrets are apart; but one of so many is where none may be.
type maker struct {
	chance
	wrong   int  // how many; 0: none
	nothing bool // whether nothing is secret
	last    bool
	funcs   []api.Func
	known   []name // in the function, here
	names   int    // how many were given in the function
}

func (m *maker) any() bool { return m.wrong > 0 && m.below(m.wrong) == 0 }

func (m *maker) sec() bool { return !m.nothing && m.is() }

// pick is a name that is known and that fits; whether there is one.
func (m *maker) pick(fits func(x name) bool) (name, bool) {
	l := slices.DeleteFunc(slices.Clone(m.known), func(x name) bool { return !fits(x) })
	if len(l) == 0 {
		return name{}, false
	}
	return l[m.below(len(l))], true
}

// fresh is a new name.
func (m *maker) fresh() string {
	m.names++
	return "n" + strconv.Itoa(m.names)
}

// give has a name known from here on.
func (m *maker) give(x name) string {
	x.text = m.fresh()
	m.known = append(slices.Clone(m.known), x)
	return x.text
}

// atom is an expression that asks one name, which may be secret, or may not; or a number.
func (m *maker) atom(secret bool, deep int) api.Expr {
	secret = secret || m.any()
	kind := []uint8{api.ExVar, api.ExVar, api.ExLen, api.ExByte, api.ExByte, api.ExNum}[m.below(6)]
	x, is := m.pick(func(x name) bool { return x.buf == (kind != api.ExVar) && (secret || !x.sec || kind == api.ExLen) })
	if !is || kind == api.ExNum || kind == api.ExByte && deep < 2 {
		return api.Expr{Kind: api.ExNum, Num: uint64(m.below(9))}
	}
	if kind == api.ExByte {
		return api.Expr{Kind: kind, Name: x.text, Kids: []api.Expr{m.place(deep - 1)}}
	}
	return api.Expr{Kind: kind, Name: x.text}
}

// expr is an expression that is at most so deep, and that may be secret, or may not.
func (m *maker) expr(secret bool, deep int) api.Expr {
	if deep < 2 || m.below(3) == 0 {
		return m.atom(secret, deep)
	}
	op := uint8(1 + m.below(14))
	if op == api.InDivu || op == api.InRemu {
		secret = m.any()
	}
	return api.Expr{Kind: api.ExBin, Op: op, Kids: []api.Expr{m.expr(secret, deep-1), m.expr(secret, deep-1)}}
}

// place is an expression that is not secret, and often below 4.
func (m *maker) place(deep int) api.Expr {
	if deep < 2 || m.below(4) == 0 {
		return m.expr(m.any(), deep)
	}
	return api.Expr{Kind: api.ExBin, Op: api.InAnd, Kids: []api.Expr{m.expr(m.any(), deep-1), {Kind: api.ExNum, Num: 3}}}
}

// some is an expression of some depth.
func (m *maker) some(secret bool) api.Expr { return m.expr(secret || m.any(), 1+m.below(4)) }

// block is statements, at most so many one within the other, in which these names are known, too.
func (m *maker) block(deep int, names ...name) (l []api.Stmt) {
	if deep == 0 {
		return nil
	}
	before := m.known
	m.known = append(slices.Clone(before), names...)
	for range m.below(5) {
		l = append(l, m.stmt(deep))
	}
	m.known = before
	return l
}

// stmt is a statement; what it gives is known then, if it is not for a Body alone.
func (m *maker) stmt(deep int) api.Stmt {
	s, is := m.one(uint8(1+m.below(12)), deep)
	for !is {
		s, is = m.one(uint8(1+m.below(12)), deep)
	}
	return s
}

// one is a statement of that kind; whether there is one.
func (m *maker) one(kind uint8, deep int) (api.Stmt, bool) {
	s := api.Stmt{Kind: kind}
	switch kind {
	case api.StLet:
		s.Sec = m.sec()
		s.Ex = []api.Expr{m.some(s.Sec)}
		s.Name = m.give(name{set: true, sec: s.Sec})
	case api.StSet:
		x, is := m.pick(func(x name) bool { return x.set })
		s.Name, s.Ex = x.text, []api.Expr{m.some(x.sec)}
		return s, is
	case api.StBuf:
		s.Sec, s.Ex = m.sec(), []api.Expr{{Kind: api.ExNum, Num: uint64(m.below(9))}}
		if m.is() {
			s.Ex = []api.Expr{m.place(3)}
		}
		s.Name = m.give(name{buf: true, turn: true, owned: true, sec: s.Sec})
	case api.StPut:
		x, is := m.pick(func(x name) bool { return x.turn })
		s.Name, s.Ex = x.text, []api.Expr{m.place(3), m.some(x.sec)}
		return s, is
	case api.StIf:
		s.Ex = []api.Expr{m.some(false)}
		s.Body, s.Else = m.block(deep-1), m.block(deep-1)
	case api.StWhile:
		s.Ex, s.Body = []api.Expr{m.some(false)}, m.block(deep-1)
	case api.StFor:
		s.Ex, s.Name = []api.Expr{m.place(3)}, m.fresh()
		s.Body = m.block(deep-1, name{text: s.Name})
	case api.StView:
		return m.view(deep)
	case api.StMove:
		x, is := m.pick(func(x name) bool { return x.owned })
		if is {
			s.From, s.Name = x.text, m.give(x)
		}
		return s, is
	case api.StOpen:
		s.Ex = []api.Expr{m.some(true)}
		s.Name = m.give(name{})
	case api.StCall:
		return m.call()
	case api.StSeal:
		_, held := m.pick(func(x name) bool { return x.sec && !x.buf })
		return s, m.last && (!held || m.any())
	}
	return s, true
}

// view is one of a buffer that is known; whether there is one.
func (m *maker) view(deep int) (api.Stmt, bool) {
	s := api.Stmt{Kind: api.StView, Mut: m.is(), Ex: []api.Expr{m.place(2), m.some(false)}}
	from, is := m.pick(func(x name) bool { return x.buf && (x.turn || !s.Mut) })
	if !is {
		return s, false
	}
	s.From, s.Name = from.text, m.fresh()
	if m.is() { // one that is there always
		s.Ex = []api.Expr{{Kind: api.ExNum}, {Kind: api.ExLen, Name: from.text}}
	}
	s.Body = m.block(deep-1, name{text: s.Name, buf: true, turn: s.Mut, sec: from.sec})
	return s, true
}

// call is one of a function ahead; whether there is one, and something to be handed to it.
func (m *maker) call() (api.Stmt, bool) {
	if len(m.funcs) == 0 {
		return api.Stmt{}, false
	}
	f := m.funcs[m.below(len(m.funcs))]
	s := api.Stmt{Kind: api.StCall, From: f.Name}
	for _, p := range f.Params {
		if !p.Buf {
			s.Ex = append(s.Ex, m.some(p.Sec))
			continue
		}
		free := m.any()
		x, is := m.pick(func(x name) bool { return x.buf && (x.turn || !p.Mut) && (x.sec == p.Sec || free) })
		if !is {
			return s, false
		}
		s.Args = append(s.Args, x.text)
	}
	if len(f.Ret) > 0 && m.is() {
		s.Name = m.give(name{sec: f.Sec})
	}
	return s, true
}

func (m *maker) fn(deep int) api.Func {
	f := api.Func{Name: "f" + strconv.Itoa(len(m.funcs))}
	m.known, m.names = nil, 0
	for range m.below(6) {
		p := api.Param{Buf: m.is(), Sec: m.sec()}
		p.Mut = p.Buf && m.is()
		p.Name = m.give(name{buf: p.Buf, turn: p.Mut, sec: p.Sec})
		f.Params = append(f.Params, p)
	}
	for range 1 + m.below(8) {
		f.Body = append(f.Body, m.stmt(deep))
	}
	if m.is() {
		f.Sec = m.sec()
		f.Ret = []api.Expr{m.some(f.Sec)}
	}
	m.funcs = append(m.funcs, f)
	return f
}

// scattered is a program of at most so many functions, whose statements are so deep; of so many things one is secret where it may not be (0: none).
func scattered(seed, wrong, most, deep int) (p api.Prog) {
	return (&maker{chance: chance(seed), wrong: wrong}).prog(most, deep)
}

// unsecret is one in which nothing is secret.
func unsecret(seed, most, deep int) api.Prog {
	return (&maker{chance: chance(seed), nothing: true}).prog(most, deep)
}

func (m *maker) prog(most, deep int) (p api.Prog) {
	m.below(2)
	n := m.below(most + 1)
	for k := range n {
		m.last = k == n-1
		p.Funcs = append(p.Funcs, m.fn(deep))
	}
	return p
}
