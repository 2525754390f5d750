package cpu_test

import (
	"math"
	"slices"
	"strings"
	"testing"

	"sacristy/api"
	"sacristy/cpu"
	"sacristy/mem"
)

const top = ^uint64(0) // 2^64 - 1

// halt and loop are the shortest programs: one is over at once, one never.
var (
	halt = api.Insn{Op: api.InEcall}
	loop = api.Insn{Op: api.InJal}
)

func addi(rd, rs1 uint8, i int64) api.Insn {
	return api.Insn{Op: api.InAddi, Rd: rd, Rs1: rs1, Imm: i}
}

// TestNew (P5.1): a machine begins at pc, wherever that is, and has nothing yet; without a memory there is none.
func TestNew(t *testing.T) {
	for _, pc := range []uint64{0, 1, base, base + 2, 1 << 40, 1 << 63, top} {
		if c, e := cpu.New(nil, pc); c != nil || e != api.ErrArg {
			t.Errorf("New of no memory: %v, %v", c, e)
		}
		m, _ := mem.New(town(1))
		c, e := cpu.New(m, pc)
		if c == nil || e != api.OK {
			t.Fatalf("New(%d): %v, %v", pc, c, e)
		}
		sameRegs(t, c, &model{pc: pc})
		if over, code, e := c.Over(); over || code != 0 || e != api.OK {
			t.Errorf("Over: %v, %d, %v", over, code, e)
		}
		if len(c.Told()) != 0 || len(c.Trace()) != 0 {
			t.Errorf("Told, Trace: %v, %v", c.Told(), c.Trace())
		}
	}
}

// TestRegs (P5.1): each register is one of its own; what is laid into register 0 is lost.
func TestRegs(t *testing.T) {
	c, _, o := pair(t, halt)
	for _, taint := range []bool{true, false} {
		for i := range 32 {
			lay(t, c, o, i, top-uint64(i), taint)
			sameRegs(t, c, o)
			lay(t, c, o, 31-i, uint64(i)<<57, !taint)
			sameRegs(t, c, o)
		}
	}
	if v, taint, e := c.Reg(0); v != 0 || taint || e != api.OK {
		t.Errorf("Reg(0): %d, %v, %v", v, taint, e)
	}
}

// TestRegsRefused (P5.1): no register but these 32.
func TestRegsRefused(t *testing.T) {
	c, m, o := pair(t, halt)
	for i := range 32 {
		lay(t, c, o, i, uint64(i)+77, i%2 == 0)
	}
	for _, i := range []int{-1, 32, 33, 64, -32, 256, 257, 1 << 32, math.MaxInt, math.MinInt} {
		if v, taint, e := c.Reg(i); v != 0 || taint || e != api.ErrArg {
			t.Errorf("Reg(%d): %d, %v, %v", i, v, taint, e)
		}
		if e := c.SetReg(i, 5, true); e != api.ErrArg {
			t.Errorf("SetReg(%d): %v", i, e)
		}
	}
	same(t, c, m, o)
}

// TestNone (P5.1, P5.2, P5.3): of no machine ErrNil, and nothing.
func TestNone(t *testing.T) {
	var c *cpu.Cpu
	for _, i := range []int{0, 5, -1, 32} {
		if v, taint, e := c.Reg(i); v != 0 || taint || e != api.ErrNil {
			t.Errorf("Reg(%d): %d, %v, %v", i, v, taint, e)
		}
		if e := c.SetReg(i, 1, true); e != api.ErrNil {
			t.Errorf("SetReg(%d): %v", i, e)
		}
		if e := c.Run(i); e != api.ErrNil {
			t.Errorf("Run(%d): %v", i, e)
		}
	}
	if e := c.Step(); e != api.ErrNil {
		t.Error(e)
	}
	if over, code, e := c.Over(); over || code != 0 || e != api.OK {
		t.Errorf("Over: %v, %d, %v", over, code, e)
	}
	if c.Pc() != 0 || len(c.Told()) != 0 || len(c.Trace()) != 0 {
		t.Errorf("%d, %v, %v", c.Pc(), c.Told(), c.Trace())
	}
}

// TestExamples (P5.2, P5.3): the chapter's table.
func TestExamples(t *testing.T) {
	c, _, _ := pair(t, addi(10, 0, 7), addi(17, 0, 4), halt, addi(17, 0, 0), halt)
	if e := c.Run(100); e != api.OK {
		t.Error(e)
	}
	if l := c.Told(); !slices.Equal(l, []api.Tale{{V: 7}}) {
		t.Error(l)
	}
	if over, code, e := c.Over(); !over || code != 0 || e != api.OK {
		t.Error(over, code, e)
	}
	want := []api.Seen{
		{Pc: 4096, Kind: api.SeenStep}, {Pc: 4100, Kind: api.SeenStep}, {Pc: 4104, Kind: api.SeenCall, A: 4},
		{Pc: 4108, Kind: api.SeenStep}, {Pc: 4112, Kind: api.SeenCall},
	}
	if l := c.Trace(); !slices.Equal(l, want) || c.Pc() != 4112 {
		t.Error(l, c.Pc())
	}

	c, _, o := pair(t, api.Insn{Op: api.InLbu, Rd: 5, Rs1: 6})
	lay(t, c, o, 6, 100, true)
	if e := c.Step(); e != api.OK {
		t.Error(e)
	}
	if v, taint, e := c.Reg(5); v != 0 || !taint || e != api.OK {
		t.Error(v, taint, e)
	}
	if l := c.Trace(); !slices.Equal(l, []api.Seen{{Pc: 4096, Kind: api.SeenLoad, A: 100, Taint: true}}) {
		t.Error(l)
	}

	c, _, _ = pair(t, loop)
	if e := c.Run(100); e != api.ErrFuel || len(c.Trace()) != 100 {
		t.Error(e, len(c.Trace()))
	}
}

// forms has an instruction of each Op, of registers of its own, and with those that are asked and set being one, or none.
func forms() []api.Insn {
	var l []api.Insn
	for op := api.InAdd; op <= api.InEcall; op++ {
		for _, r := range [][3]uint8{{5, 6, 7}, {6, 6, 7}, {7, 6, 7}, {5, 6, 6}, {6, 6, 6}, {0, 6, 7}, {5, 0, 7}, {5, 6, 0}, {31, 30, 29}} {
			for _, i := range []int64{8, -4, 0, 63, 2047, -2048} {
				if x := (api.Insn{Op: op, Rd: r[0], Rs1: r[1], Rs2: r[2], Imm: i}); formed(&x) && !slices.Contains(l, x) {
					l = append(l, x)
				}
			}
		}
	}
	return l
}

// formed leaves of x what its Op has a use for; whether that has a word.
func formed(x *api.Insn) bool {
	switch op := x.Op; {
	case op <= api.InRemu:
		x.Imm = 0
	case op <= api.InAndi, op == api.InLbu, op == api.InLd, op == api.InJalr:
		x.Rs2 = 0
	case op <= api.InSrai:
		x.Rs2 = 0
		return x.Imm >= 0 && x.Imm < 64
	case op == api.InLui:
		x.Rs1, x.Rs2, x.Imm = 0, 0, x.Imm<<20
	case op == api.InSb, op == api.InSd:
		x.Rd = 0
	case op <= api.InBgeu:
		x.Rd, x.Imm = 0, x.Imm&^1
	case op == api.InJal:
		x.Rs1, x.Rs2, x.Imm = 0, 0, x.Imm&^1
	default:
		*x = api.Insn{Op: op}
	}
	return true
}

// TestEach (P5.2): each Op, with words at all edges, tainted or not: what it makes, sees, and where it goes on. Bytes stay as the steps ahead have left them.
func TestEach(t *testing.T) {
	words := []uint64{0, 1, 2, 3, 63, 64, 100, 101, 137, 256, 272, 1 << 31, 1 << 32, 1<<40 - 8, 1<<63 - 1, 1 << 63, top - 7, top}
	for _, x := range forms() {
		_, m, first := pair(t, x)
		put(t, m, first, 96, "abcdefghijklmnopqrstuvwxyz", false)
		put(t, m, first, 256, "ABCDEFGHIJKLMNOPQRSTUVWX", false)
		for _, a := range words {
			for _, b := range words {
				for k := range 4 {
					c, _ := cpu.New(m, base)
					o := &model{pc: base, cells: first.cells, known: first.known}
					lay(t, c, o, int(x.Rs2), b, k&2 != 0)
					lay(t, c, o, int(x.Rs1), a, k&1 != 0)
					if e, want := c.Step(), o.step(); e != want {
						t.Fatalf("%v of %x and %x: %v, not %v", x, a, b, e, want)
					}
					sameHeld(t, c, o)
				}
				if x.Rs2 == 0 && x.Op > api.InRemu {
					break // b is asked by none of them
				}
			}
			sameBytes(t, m, first)
		}
	}
}

// TestLoadTaint (P5.2): what is loaded is tainted by each of its bytes alone, or by its place; register 0 never.
func TestLoadTaint(t *testing.T) {
	for _, op := range []uint8{api.InLbu, api.InLd} {
		for k := range uint64(12) {
			for _, taint := range []bool{false, true} {
				c, m, o := pair(t, api.Insn{Op: op, Rd: 5, Rs1: 6, Imm: 2}, api.Insn{Op: op, Rs1: 6, Imm: 2})
				lay(t, c, o, 6, 96, taint)
				put(t, m, o, 96+k, "x", true)
				for range 2 {
					if e, want := c.Step(), o.step(); e != want || e != api.OK {
						t.Fatal(e, want)
					}
				}
				inside := op == api.InLbu && k == 2 || op == api.InLd && k >= 2 && k < 10
				if _, is, _ := c.Reg(5); is != (taint || inside) {
					t.Errorf("%d with %d tainted: %v", op, k, is)
				}
				same(t, c, m, o)
			}
		}
	}
}

// TestStoreTaint (P5.2): what is stored is tainted by its word, or its place, and no more, if neither is.
func TestStoreTaint(t *testing.T) {
	for _, op := range []uint8{api.InSb, api.InSd} {
		for k := range 8 {
			c, m, o := pair(t, api.Insn{Op: op, Rs1: 6, Rs2: 7, Imm: 3})
			lay(t, c, o, 6, 96, k&1 != 0)
			lay(t, c, o, 7, 0x8877665544332211, k&2 != 0)
			put(t, m, o, 96, strings.Repeat("-", 16), k&4 != 0)
			if e, want := c.Step(), o.step(); e != want || e != api.OK {
				t.Fatal(e, want)
			}
			n := bytesOf(op)
			s, taints, _ := m.Bytes(96, 16)
			if want := "---" + "\x11\x22\x33\x44\x55\x66\x77\x88"[:n] + strings.Repeat("-", 13-n); s != want {
				t.Errorf("%d: %q", op, s)
			}
			for at, is := range taints {
				if inside := at >= 3 && at < 3+n; inside && is != (k&3 != 0) || !inside && is != (k&4 != 0) {
					t.Errorf("%d, %d: byte %d is tainted: %v", op, k, at, is)
				}
			}
			same(t, c, m, o)
		}
	}
}

// TestCalls (P5.2): each call, tainted or not: over with a code, told, sealed; of what is above ErrCall.
func TestCalls(t *testing.T) {
	for _, call := range []uint64{0, 1, 2, 3, 4, 5, 6, 7, 17, 255, 256, 257, 260, 261, 1 << 32, 1<<32 + 4, 1 << 63, top} {
		for k := range 4 {
			c, m, o := pair(t, halt, halt)
			lay(t, c, o, 17, call, k&1 != 0)
			lay(t, c, o, 10, 123456789, k&2 != 0)
			for range 2 {
				if e, want := c.Step(), o.step(); e != want {
					t.Fatalf("call %d: %v, not %v", call, e, want)
				}
				same(t, c, m, o)
			}
		}
	}
}

// TestTell (P5.2): what is told, in order, as it was tainted; it is not tainted any more then, but its copies are.
func TestTell(t *testing.T) {
	c, _, o := pair(t, addi(17, 0, 4), addi(5, 10, 0), halt, addi(10, 10, 1), halt, addi(10, 5, 9), halt, halt)
	lay(t, c, o, 10, 7, true)
	if e := c.Run(8); e != api.ErrFuel {
		t.Error(e)
	}
	if l := c.Told(); !slices.Equal(l, []api.Tale{{V: 7, Taint: true}, {V: 8}, {V: 16, Taint: true}, {V: 16}}) {
		t.Error(l)
	}
	if v, taint, _ := c.Reg(5); v != 7 || !taint {
		t.Error(v, taint)
	}
}

// TestHalt (P5.2, P5.3): who is over stays so: pc stays, and no step is taken.
func TestHalt(t *testing.T) {
	for code := range uint8(4) {
		c, m, o := pair(t, addi(17, 0, int64(code)), halt, halt)
		for range 2 {
			if e, want := c.Step(), o.step(); e != want || e != api.OK {
				t.Fatal(e, want)
			}
		}
		for range 3 {
			if e := c.Step(); e != api.ErrOver {
				t.Error(e)
			}
			for _, fuel := range []int{0, 1, 100, -1, 1 << 20, 1<<20 + 1} {
				if e := c.Run(fuel); e != api.ErrOver {
					t.Errorf("Run(%d): %v", fuel, e)
				}
			}
			same(t, c, m, o)
		}
		if over, k, e := c.Over(); !over || k != code || e != api.OK || c.Pc() != base+4 {
			t.Errorf("%v, %d, %v, %d", over, k, e, c.Pc())
		}
		lay(t, c, o, 17, 4, true)
		same(t, c, m, o)
	}
}
