package cpu_test

import (
	"math"
	"slices"
	"testing"

	"sacristy/api"
	"sacristy/cpu"
	"sacristy/mem"
)

// TestWrong (P5.2): steps that go wrong: by a fetch, a word, a load, a store, a call: nothing is done, or seen, and it is over with that error.
func TestWrong(t *testing.T) {
	raw := func(w int64) api.Insn { return api.Insn{Op: 200, Imm: w} }
	at := func(op uint8, i int64) api.Insn {
		x := api.Insn{Op: op, Rd: 5, Rs1: 6, Rs2: 7, Imm: i}
		formed(&x)
		return x
	}
	for _, x := range []struct {
		x    api.Insn
		a    uint64 // of register 6
		call uint64 // of register 17
		e    api.Errno
	}{
		{raw(0), 0, 0, api.ErrForm}, {raw(0xffffffff), 0, 0, api.ErrForm}, {raw(0x00100073), 0, 0, api.ErrForm}, {raw(0x00000073 | 1<<7), 0, 0, api.ErrForm},
		{at(api.InLbu, 0), 95, 0, api.ErrFault}, {at(api.InLbu, 0), 164, 0, api.ErrFault}, {at(api.InLbu, 0), base, 0, api.ErrFault}, {at(api.InLbu, -1), 0, 0, api.ErrFault},
		{at(api.InLd, 0), 89, 0, api.ErrFault}, {at(api.InLd, 0), 137, 0, api.ErrFault}, {at(api.InLd, 0), 143, 0, api.ErrFault}, {at(api.InLd, 0), 157, 0, api.ErrFault},
		{at(api.InLd, 0), base, 0, api.ErrFault}, {at(api.InLd, 0), 273, 0, api.ErrFault}, {at(api.InLd, 0), top - 3, 0, api.ErrFault}, {at(api.InLd, 1), 1<<40 - 8, 0, api.ErrFault},
		{at(api.InSb, 0), 95, 0, api.ErrFault}, {at(api.InSb, 0), 256, 0, api.ErrFault}, {at(api.InSb, 0), base, 0, api.ErrFault}, {at(api.InSb, 0), 279, 0, api.ErrFault},
		{at(api.InSd, 0), 95, 0, api.ErrFault}, {at(api.InSd, 0), 137, 0, api.ErrFault}, {at(api.InSd, 0), 256, 0, api.ErrFault}, {at(api.InSd, 0), 157, 0, api.ErrFault},
		{halt, 0, 6, api.ErrCall}, {halt, 0, 256, api.ErrCall}, {halt, 0, top, api.ErrCall},
	} {
		for _, taint := range []bool{false, true} {
			c, m, o := pair(t, addi(5, 0, 1), x.x, halt)
			lay(t, c, o, 6, x.a, taint)
			lay(t, c, o, 7, 999, !taint)
			lay(t, c, o, 17, x.call, taint)
			if e, f := c.Step(), o.step(); e != api.OK || f != api.OK {
				t.Fatal(e, f)
			}
			if e, f := c.Step(), o.step(); e != x.e || f != x.e {
				t.Errorf("%v of %d: %v, %v", x.x, x.a, e, f)
			}
			if over, code, e := c.Over(); !over || code != 0 || e != x.e || c.Pc() != base+4 || len(c.Trace()) != 1 {
				t.Errorf("%v of %d: %v, %d, %v at %d, %v", x.x, x.a, over, code, e, c.Pc(), c.Trace())
			}
			if e, f := c.Step(), c.Run(5); e != api.ErrOver || f != api.ErrOver {
				t.Error(e, f)
			}
			same(t, c, m, o)
		}
	}
}

// TestWrongPc (P5.2): no instruction is fetched but where one stands, in a code, at a multiple of 4.
func TestWrongPc(t *testing.T) {
	for _, pc := range []uint64{0, 96, 144, 256, base - 4, base + 1, base + 2, base + 3, base + 8, 1<<40 - 8, 1 << 40, top - 3, top, 1<<32 + base, 1<<63 + base} {
		m, _ := mem.New(town(2))
		for _, r := range town(2) {
			m.Set(r.From, textOf([]uint32{0x73, 0x73}), false)
		}
		c, _ := cpu.New(m, pc)
		if e := c.Run(1); e != api.ErrFault {
			t.Errorf("at %d: %v", pc, e)
		}
		if over, code, e := c.Over(); !over || code != 0 || e != api.ErrFault || c.Pc() != pc || len(c.Trace()) != 0 {
			t.Errorf("at %d: %v, %d, %v, %d, %v", pc, over, code, e, c.Pc(), c.Trace())
		}
	}
}

// TestWays (P5.2): where branches and jumps go on, below the first place and beyond the last one, too; jumps lay where they would have gone on.
func TestWays(t *testing.T) {
	for _, x := range []struct {
		x    api.Insn
		a, b uint64
		pc   uint64
		link uint64
	}{
		{api.Insn{Op: api.InJal, Rd: 5, Imm: 8}, 0, 0, base + 8, base + 4},
		{api.Insn{Op: api.InJal, Rd: 5, Imm: 0}, 0, 0, base, base + 4},
		{api.Insn{Op: api.InJal, Rd: 5, Imm: 2}, 0, 0, base + 2, base + 4},
		{api.Insn{Op: api.InJal, Rd: 5, Imm: -base - 4}, 0, 0, top - 3, base + 4},
		{api.Insn{Op: api.InJal, Rd: 0, Imm: 1<<20 - 2}, 0, 0, base + 1<<20 - 2, 0},
		{api.Insn{Op: api.InJalr, Rd: 5, Rs1: 6, Imm: 3}, 100, 0, 102, base + 4},
		{api.Insn{Op: api.InJalr, Rd: 5, Rs1: 6, Imm: -1}, 0, 0, top - 1, base + 4},
		{api.Insn{Op: api.InJalr, Rd: 5, Rs1: 6, Imm: 1}, top, 0, 0, base + 4},
		{api.Insn{Op: api.InJalr, Rd: 6, Rs1: 6, Imm: 8}, 92, 0, 100, base + 4},
		{api.Insn{Op: api.InJalr, Rd: 0, Rs1: 6, Imm: 0}, 7, 0, 6, 0},
		{api.Insn{Op: api.InBeq, Rs1: 6, Rs2: 7, Imm: -8}, 5, 5, base - 8, 0},
		{api.Insn{Op: api.InBeq, Rs1: 6, Rs2: 7, Imm: -8}, 5, 6, base + 4, 0},
		{api.Insn{Op: api.InBne, Rs1: 6, Rs2: 7, Imm: 4094}, 5, 1<<32 + 5, base + 4094, 0},
		{api.Insn{Op: api.InBne, Rs1: 6, Rs2: 7, Imm: 4094}, 5, 5, base + 4, 0},
		{api.Insn{Op: api.InBltu, Rs1: 6, Rs2: 7, Imm: 12}, 1, top, base + 12, 0},
		{api.Insn{Op: api.InBltu, Rs1: 6, Rs2: 7, Imm: 12}, top, 1, base + 4, 0},
		{api.Insn{Op: api.InBltu, Rs1: 6, Rs2: 7, Imm: 12}, 9, 9, base + 4, 0},
		{api.Insn{Op: api.InBgeu, Rs1: 6, Rs2: 7, Imm: -4096}, 9, 9, base - 4096, 0},
		{api.Insn{Op: api.InBgeu, Rs1: 6, Rs2: 7, Imm: -4096}, top, 1, base - 4096, 0},
		{api.Insn{Op: api.InBgeu, Rs1: 6, Rs2: 7, Imm: -4096}, 1, 1 << 63, base + 4, 0},
	} {
		c, m, o := pair(t, x.x)
		lay(t, c, o, 6, x.a, false)
		lay(t, c, o, 7, x.b, false)
		if e, f := c.Step(), o.step(); e != api.OK || f != api.OK {
			t.Fatal(e, f)
		}
		v, _, _ := c.Reg(int(x.x.Rd))
		if c.Pc() != x.pc || v != x.link {
			t.Errorf("%v of %d and %d: %d, %d", x.x, x.a, x.b, c.Pc(), v)
		}
		same(t, c, m, o)
	}
}

// TestFull (P5.2, P5.3): MaxSteps steps are taken, and not one more, and it is not over.
func TestFull(t *testing.T) {
	c, _, _ := pair(t, addi(5, 5, 1), api.Insn{Op: api.InJal, Imm: -4})
	if e := c.Run(1<<20 - 1); e != api.ErrFuel {
		t.Error(e)
	}
	if e := c.Step(); e != api.OK || c.Pc() != base {
		t.Error(e, c.Pc())
	}
	for range 2 {
		if e := c.Step(); e != api.ErrFull {
			t.Error(e)
		}
		for fuel, want := range map[int]api.Errno{0: api.ErrFuel, 1: api.ErrFull, 1 << 20: api.ErrFull, -1: api.ErrArg, 1<<20 + 1: api.ErrArg} {
			if e := c.Run(fuel); e != want {
				t.Errorf("Run(%d): %v", fuel, e)
			}
		}
		over, code, e := c.Over()
		v, _, _ := c.Reg(5)
		if l := c.Trace(); over || code != 0 || e != api.OK || v != 1<<19 || c.Pc() != base || len(l) != 1<<20 || l[1<<20-1] != (api.Seen{Pc: base + 4, Kind: api.SeenStep}) {
			t.Errorf("%v, %d, %v, %d, %d, %d", over, code, e, v, c.Pc(), len(l))
		}
	}
}

// TestFullWhole (P5.3): a run may take MaxSteps steps, and be over by the last one.
func TestFullWhole(t *testing.T) {
	c, _, o := pair(t, addi(5, 5, -1), api.Insn{Op: api.InBne, Rs1: 5, Imm: -4}, addi(5, 5, 0), halt)
	lay(t, c, o, 5, 1<<19-1, false)
	if e := c.Run(1 << 20); e != api.OK || len(c.Trace()) != 1<<20 {
		t.Error(e, len(c.Trace()))
	}
	if over, code, e := c.Over(); !over || code != 0 || e != api.OK {
		t.Error(over, code, e)
	}
	if e := c.Step(); e != api.ErrOver {
		t.Error(e)
	}
}

// TestRun (P5.3): with each fuel: as many steps, and no more; who is over by the last of them has not run out of it.
func TestRun(t *testing.T) {
	for _, end := range []struct {
		l []api.Insn
		e api.Errno
		n int // steps that are seen
	}{
		{[]api.Insn{addi(5, 0, 3), addi(6, 5, 3), halt}, api.OK, 3},
		{[]api.Insn{addi(17, 0, 3), addi(6, 5, 3), addi(6, 6, 3), halt}, api.OK, 4},
		{[]api.Insn{addi(5, 0, 3), addi(6, 5, 3)}, api.ErrFault, 2},
		{[]api.Insn{addi(5, 0, 3), {Op: 200}}, api.ErrForm, 1},
		{[]api.Insn{addi(17, 0, 6), halt}, api.ErrCall, 1},
		{[]api.Insn{{Op: api.InSb, Rs1: 0}}, api.ErrFault, 0},
		{[]api.Insn{loop}, api.ErrFuel, 1 << 30},
	} {
		last := end.n // the step by which it is over is the last one, or goes wrong behind it
		if end.e != api.OK && end.e != api.ErrFuel {
			last++
		}
		for fuel := range 12 {
			c, m, o := pair(t, end.l...)
			want := end.e
			if fuel < last {
				want = api.ErrFuel
			}
			if e := c.Run(fuel); e != want || len(c.Trace()) != min(fuel, end.n) {
				t.Errorf("%v, Run(%d): %v, not %v; %v", end.l, fuel, e, want, c.Trace())
			}
			for range fuel {
				o.step()
			}
			same(t, c, m, o)
		}
	}
}

// TestRunRefused (P5.3): fuel that is none: nothing is done.
func TestRunRefused(t *testing.T) {
	c, m, o := pair(t, addi(5, 5, 1), loop)
	for _, fuel := range []int{-1, -5, 1<<20 + 1, 1 << 32, 1<<32 + 1, math.MaxInt, math.MinInt} {
		if e := c.Run(fuel); e != api.ErrArg {
			t.Errorf("Run(%d): %v", fuel, e)
		}
	}
	if e := c.Run(0); e != api.ErrFuel {
		t.Error(e)
	}
	same(t, c, m, o)
}

// TestParts (P5.2, P5.3): a run in parts is the run, and as steps are, one by one.
func TestParts(t *testing.T) {
	l := []api.Insn{addi(5, 0, 40), addi(10, 10, 3), addi(17, 0, 4), halt, addi(5, 5, -1), {Op: api.InBne, Rs1: 5, Imm: -16}, addi(17, 0, 2), halt}
	whole, m, _ := pair(t, l...)
	if e := whole.Run(1000); e != api.OK {
		t.Fatal(e)
	}
	for part := 1; part < 30; part++ {
		c, n, _ := pair(t, l...)
		e := api.ErrFuel
		for e == api.ErrFuel {
			if e = c.Run(part); e == api.OK {
				break
			}
			if f := c.Step(); f != api.OK {
				t.Fatal(f)
			}
			if over, _, _ := c.Over(); over {
				e = api.OK
			}
		}
		alike(t, whole, c)
		s, _, _ := m.Bytes(96, 48)
		if r, _, _ := n.Bytes(96, 48); r != s || e != api.OK {
			t.Errorf("in parts of %d: %q, %v", part, r, e)
		}
	}
}

// alike holds two machines' answers against each other.
func alike(t *testing.T, c, b *cpu.Cpu) {
	t.Helper()
	for i := range 32 {
		v, is, _ := c.Reg(i)
		if w, also, _ := b.Reg(i); w != v || also != is {
			t.Errorf("Reg(%d): %d, %v, not %d, %v", i, w, also, v, is)
		}
	}
	over, code, e := c.Over()
	if o, k, f := b.Over(); o != over || k != code || f != e || c.Pc() != b.Pc() {
		t.Errorf("Over: %v, %d, %v", o, k, f)
	}
	if !slices.Equal(c.Told(), b.Told()) || !slices.Equal(c.Trace(), b.Trace()) {
		t.Errorf("%v, %v", b.Told(), b.Trace())
	}
}

// TestOwn (P5.1): what was told, and seen, and answered, is not the machine's own, and two answers have nothing in common.
func TestOwn(t *testing.T) {
	c, m, o := pair(t, addi(17, 0, 4), halt, halt, halt, halt)
	for range 4 {
		if e, f := c.Step(), o.step(); e != f {
			t.Fatal(e)
		}
	}
	told, seen := c.Told(), c.Trace()
	clear(c.Told())
	clear(c.Trace())
	if !slices.Equal(told, o.told) || !slices.Equal(seen, o.trace) {
		t.Error(told, seen)
	}
	clear(told)
	clear(seen)
	_, _ = append(told[:1], api.Tale{V: 9}), append(seen[:1], api.Seen{A: 9})
	same(t, c, m, o)
	told, seen = c.Told(), c.Trace()
	if e, f := c.Step(), o.step(); e != f {
		t.Fatal(e)
	}
	_, _ = append(told, api.Tale{V: 9}), append(seen, api.Seen{A: 9})
	if len(told) != 3 || len(seen) != 4 {
		t.Error(told, seen)
	}
	same(t, c, m, o)
}

// TestAnew (P5.2): the word at pc is fetched anew by each step, as the memory has it then.
func TestAnew(t *testing.T) {
	c, m, _ := pair(t, addi(5, 5, 1), api.Insn{Op: api.InJal, Imm: -4})
	if e := c.Run(6); e != api.ErrFuel {
		t.Error(e)
	}
	if e := m.Set(base, textOf(wordsOf(t, []api.Insn{addi(5, 5, 100)})), true); e != api.OK {
		t.Fatal(e)
	}
	if e := c.Run(4); e != api.ErrFuel {
		t.Error(e)
	}
	if v, taint, e := c.Reg(5); v != 203 || taint || e != api.OK {
		t.Error(v, taint, e)
	}
	if e := m.Set(base+4, "\x00\x00\x00\x00", false); e != api.OK {
		t.Fatal(e)
	}
	if e := c.Run(4); e != api.ErrForm || c.Pc() != base+4 {
		t.Error(e, c.Pc())
	}
}

// TestShared (P5.1): two machines of one memory have registers of their own, and its bytes both.
func TestShared(t *testing.T) {
	c, m, _ := pair(t, api.Insn{Op: api.InSd, Rs1: 6, Rs2: 7}, api.Insn{Op: api.InLd, Rd: 8, Rs1: 6}, halt)
	b, e := cpu.New(m, base+4)
	if e != api.OK {
		t.Fatal(e)
	}
	for i, v := range map[int]uint64{6: 100, 7: 1 << 60} {
		c.SetReg(i, v, i == 7)
		b.SetReg(i, v*uint64(7-i), false)
	}
	if e, f := c.Step(), b.Run(9); e != api.OK || f != api.OK {
		t.Error(e, f)
	}
	if v, taint, _ := b.Reg(8); v != 1<<60 || !taint {
		t.Error(v, taint)
	}
	if v, taint, _ := c.Reg(8); v != 0 || taint || c.Pc() != base+4 || len(c.Trace()) != 1 || len(b.Trace()) != 2 {
		t.Error(v, taint, c.Pc())
	}
}
