package cpu

import (
	"sacristy/api"
	"sacristy/disas"
)

const insnBytes = 4

// step is one: its instruction, what the registers that it asks hold, what is seen of it, and where the next one is.
type step struct {
	c    *Cpu
	x    api.Insn
	a, b value
	seen api.Seen
	next uint64
}

// Step takes a step.
func (c *Cpu) Step() (e api.Errno) {
	if c == nil {
		return api.ErrNil
	}
	if c.over {
		return api.ErrOver
	}
	if len(c.trace) == api.MaxSteps {
		return api.ErrFull
	}
	defer func() {
		if r := recover(); r != nil {
			e = r.(api.Errno)
			c.over, c.wrong = true, e
		}
	}()
	s := c.begin()
	does(s.x.Op)(s)
	c.pc, c.trace = s.next, append(c.trace, s.seen)
	return api.OK
}

// Run takes steps, at most fuel of them.
func (c *Cpu) Run(fuel int) api.Errno {
	if c == nil {
		return api.ErrNil
	}
	if c.over {
		return api.ErrOver
	}
	if fuel < 0 || fuel > api.MaxSteps {
		return api.ErrArg
	}
	for range fuel {
		if e := c.Step(); e != api.OK || c.over {
			return e
		}
	}
	return api.ErrFuel
}

// begin is the step at pc, as long as nothing is said by its Op.
func (c *Cpu) begin() *step {
	w, e := c.mem.Fetch(c.pc)
	must(e)
	x, e := disas.Decode(w)
	must(e)
	return &step{
		c: c, x: x, a: c.regs[x.Rs1], b: c.regs[x.Rs2],
		seen: api.Seen{Pc: c.pc, Kind: api.SeenStep}, next: c.pc + insnBytes,
	}
}

// must ends a step that goes wrong: all that may go wrong is asked ahead of the first change.
func must(e api.Errno) {
	if e != api.OK {
		panic(e)
	}
}

// does is what a step of this Op does.
func does(op uint8) func(*step) {
	return [...]func(*step){
		api.InAdd: (*step).two, api.InSub: (*step).two, api.InSll: (*step).two, api.InSlt: (*step).two,
		api.InSltu: (*step).two, api.InXor: (*step).two, api.InSrl: (*step).two, api.InSra: (*step).two,
		api.InOr: (*step).two, api.InAnd: (*step).two, api.InMul: (*step).two, api.InMulhu: (*step).two,
		api.InDivu: (*step).divide, api.InRemu: (*step).divide,
		api.InAddi: (*step).addi, api.InSltiu: (*step).sltiu, api.InXori: (*step).xori, api.InOri: (*step).ori,
		api.InAndi: (*step).andi, api.InSlli: (*step).slli, api.InSrli: (*step).srli, api.InSrai: (*step).srai,
		api.InLui: (*step).lui, api.InLbu: (*step).lbu, api.InLd: (*step).ld, api.InSb: (*step).sb, api.InSd: (*step).sd,
		api.InBeq: (*step).beq, api.InBne: (*step).bne, api.InBltu: (*step).bltu, api.InBgeu: (*step).bgeu,
		api.InJal: (*step).jal, api.InJalr: (*step).jalr, api.InEcall: (*step).ecall,
	}[op]
}
