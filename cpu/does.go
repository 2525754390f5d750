package cpu

import (
	"sacristy/api"
	"sacristy/word"
)

const (
	oneByte   = 1
	wordBytes = 8
)

// imm is its number, as a word.
func (s *step) imm() uint64 { return uint64(s.x.Imm) }

// place is where it loads, stores, or jumps to.
func (s *step) place() uint64 { return s.a.v + s.imm() }

// way is where a branch, or a jump, goes.
func (s *step) way() uint64 { return s.c.pc + s.imm() }

// lay puts v into the register that it sets.
func (s *step) lay(v uint64, taint bool) { s.c.lay(int(s.x.Rd), value{v, taint}) }

// made lays what fn makes of a and r.
func (s *step) made(fn uint8, r value) {
	v, _ := word.Op(fn, s.a.v, r.v) // fn is one of those of two registers always
	s.lay(v, s.a.taint || r.taint)
}

func (s *step) two() { s.made(s.x.Op, s.b) }

func (s *step) divide() {
	s.seen.Kind, s.seen.A, s.seen.B = api.SeenDiv, s.a.v, s.b.v
	s.seen.Taint = s.a.taint || s.b.taint
	s.two()
}

// number lays what fn makes of a and the number, that is never tainted.
func (s *step) number(fn uint8) { s.made(fn, value{v: s.imm()}) }

func (s *step) addi()  { s.number(api.InAdd) }
func (s *step) sltiu() { s.number(api.InSltu) }
func (s *step) xori()  { s.number(api.InXor) }
func (s *step) ori()   { s.number(api.InOr) }
func (s *step) andi()  { s.number(api.InAnd) }
func (s *step) slli()  { s.number(api.InSll) }
func (s *step) srli()  { s.number(api.InSrl) }
func (s *step) srai()  { s.number(api.InSra) }

func (s *step) lui() { s.lay(s.imm(), false) }

// asks tells that memory is asked, and where.
func (s *step) asks(kind uint8) {
	s.seen.Kind, s.seen.A, s.seen.Taint = kind, s.place(), s.a.taint
}

func (s *step) load(n int) {
	s.asks(api.SeenLoad)
	v, taint, e := s.c.mem.Load(s.place(), n)
	must(e)
	s.lay(v, taint || s.a.taint)
}

func (s *step) store(n int) {
	s.asks(api.SeenStore)
	must(s.c.mem.Store(s.place(), n, s.b.v, s.a.taint || s.b.taint))
}

func (s *step) lbu() { s.load(oneByte) }
func (s *step) ld()  { s.load(wordBytes) }
func (s *step) sb()  { s.store(oneByte) }
func (s *step) sd()  { s.store(wordBytes) }

func (s *step) branch(goes bool) {
	s.seen.Taint = s.a.taint || s.b.taint
	if goes {
		s.next = s.way()
	}
}

func (s *step) beq()  { s.branch(s.a.v == s.b.v) }
func (s *step) bne()  { s.branch(s.a.v != s.b.v) }
func (s *step) bltu() { s.branch(s.a.v < s.b.v) }
func (s *step) bgeu() { s.branch(s.a.v >= s.b.v) }

// jump lays where it would have gone on, and goes to at.
func (s *step) jump(at uint64) {
	s.lay(s.next, false)
	s.next = at
}

func (s *step) jal() { s.jump(s.way()) }

func (s *step) jalr() {
	s.seen.Taint = s.a.taint
	s.jump(s.place() &^ 1)
}

func (s *step) ecall() {
	call := s.c.regs[api.RegCall]
	if call.v > api.CallSeal {
		must(api.ErrCall)
	}
	s.seen.Kind, s.seen.A, s.seen.Taint = api.SeenCall, call.v, call.taint
	switch {
	case call.v < api.CallTell:
		s.c.over, s.c.code, s.next = true, uint8(call.v), s.c.pc
	case call.v == api.CallTell:
		s.tell()
	}
}

// tell tells a register, that is no secret any more then.
func (s *step) tell() {
	r := &s.c.regs[api.RegWord]
	s.c.told = append(s.c.told, api.Tale{V: r.v, Taint: r.taint})
	r.taint = false
}
