package cpu_test

import (
	"slices"
	"testing"

	"sacristy/api"
	"sacristy/cpu"
	"sacristy/mem"
)

// draw is scattered numbers, the same ones each time.
type draw uint64

// of is a number below n.
func (d *draw) of(n int) int {
	*d = *d*6364136223846793005 + 1442695040888963407
	return int(uint64(*d) >> 33 % uint64(n))
}

// reg is a register, most often one of a few.
func (d *draw) reg() uint8 {
	if d.of(8) == 0 {
		return uint8(d.of(32))
	}
	return []uint8{0, 5, 6, 7, 8, 10, 10, 17}[d.of(8)]
}

// insn is an instruction at step k of n: its ways lead to others most often, its places lie about those of register 9.
func (d *draw) insn(k, n int) api.Insn {
	op := uint8(1 + d.of(34))
	to := int64(d.of(n)-k) * 4
	if d.of(20) == 0 {
		to += 2
	}
	switch {
	case op <= api.InRemu:
		return api.Insn{Op: op, Rd: d.reg(), Rs1: d.reg(), Rs2: d.reg()}
	case op <= api.InAndi:
		return api.Insn{Op: op, Rd: d.reg(), Rs1: d.reg(), Imm: int64(d.of(4096) - 2048)}
	case op <= api.InSrai:
		return api.Insn{Op: op, Rd: d.reg(), Rs1: d.reg(), Imm: int64(d.of(64))}
	case op == api.InLui:
		return api.Insn{Op: op, Rd: d.reg(), Imm: int64(d.of(1<<20)-1<<19) * 4096}
	case op <= api.InLd:
		return api.Insn{Op: op, Rd: d.reg(), Rs1: d.near(), Imm: int64(d.of(60) - 4)}
	case op <= api.InSd:
		return api.Insn{Op: op, Rs1: d.near(), Rs2: d.reg(), Imm: int64(d.of(60) - 4)}
	case op <= api.InBgeu:
		return api.Insn{Op: op, Rs1: d.reg(), Rs2: d.reg(), Imm: to}
	case op == api.InJal:
		return api.Insn{Op: op, Rd: d.reg(), Imm: to}
	case op == api.InJalr:
		return api.Insn{Op: op, Rd: d.reg(), Rs1: 11, Imm: int64(d.of(n*4 + 2))}
	}
	return api.Insn{Op: api.InEcall}
}

// near is the register of a place, most often one where bytes are.
func (d *draw) near() uint8 {
	if d.of(10) == 0 {
		return d.reg()
	}
	return []uint8{9, 9, 9, 12}[d.of(4)]
}

// program is n instructions; ahead of many calls stands what lays which one it is.
func (d *draw) program(n int) []api.Insn {
	l := make([]api.Insn, n)
	for k := range l {
		l[k] = d.insn(k, n)
		if l[k].Op == api.InEcall && k > 0 && d.of(10) > 0 {
			l[k-1] = api.Insn{Op: api.InAddi, Rd: 17, Imm: []int64{4, 4, 4, 5, 5, 4, 0, 1, 2, 3, 6}[d.of(11)]}
		}
		if d.of(200) == 0 {
			l[k] = api.Insn{Op: 200, Imm: []int64{0, 0xffffffff, 0x00100073, 0x00000003}[d.of(4)]}
		}
	}
	return l
}

// begin lays places, and words and bytes that are tainted, or not, into both.
func (d *draw) begin(t *testing.T, c *cpu.Cpu, m *mem.Mem, o *model, tainted int) {
	lay(t, c, o, 9, 96, false)
	lay(t, c, o, 11, base, false)
	lay(t, c, o, 12, 254, false)
	for _, i := range []int{5, 6, 7, 8, 10, 17} {
		lay(t, c, o, i, uint64(d.of(9)), d.of(tainted) == 0)
	}
	for k := range 68 {
		put(t, m, o, uint64(96+k), string([]byte{byte(d.of(256))}), d.of(tainted) == 0)
	}
}

// TestScattered (P5.2): programs of all kinds, step by step: all that is there, told and seen is as the chapter has it.
func TestScattered(t *testing.T) {
	d, steps := draw(1), 0
	ends, ops := map[api.Errno]int{}, map[uint8]int{}
	for range 4000 {
		c, m, o := pair(t, d.program(2+d.of(30))...)
		d.begin(t, c, m, o, 4)
		for range 100 {
			w, _, _ := o.read(o.pc, 4, api.RegCode)
			e := o.step()
			if f := c.Step(); f != e {
				t.Fatalf("Step: %v, not %v", f, e)
			}
			ends[e]++
			sameRegs(t, c, o)
			if e != api.OK {
				break
			}
			ops[o.known[uint32(w)].Op]++
			steps++
		}
		same(t, c, m, o)
	}
	for op := api.InAdd; op <= api.InEcall; op++ {
		if ops[op] < 100 {
			t.Errorf("Op %d was taken %d times", op, ops[op])
		}
	}
	for _, e := range []api.Errno{api.ErrFault, api.ErrForm, api.ErrCall, api.ErrOver} {
		if ends[e] < 100 {
			t.Errorf("%v came %d times", e, ends[e])
		}
	}
}

// twin is a machine that is the same, but for what is tainted: of that the words and bytes are others.
func twin(t *testing.T, d *draw, l []api.Insn, o *model) (*cpu.Cpu, *mem.Mem, *model) {
	c, m, p := pair(t, l...)
	for i, r := range o.regs {
		if r.Taint {
			r.V = r.V*3 + uint64(d.of(1000))
		}
		lay(t, c, p, i, r.V, r.Taint)
	}
	for at, b := range o.cells {
		if b.taint {
			b.value ^= byte(at*29 + 1)
		}
		put(t, m, p, at, string([]byte{b.value}), b.taint)
	}
	return c, m, p
}

// hidden blots out what is tainted of all registers and bytes.
func hidden(c *cpu.Cpu, m *mem.Mem) (regs [32]api.Tale, bytes []byte, taints []bool) {
	for i := range regs {
		v, taint, _ := c.Reg(i)
		if taint {
			v = 0
		}
		regs[i] = api.Tale{V: v, Taint: taint}
	}
	for _, r := range m.Regions() {
		s, l, _ := m.Bytes(r.From, int(r.Size))
		for k := range len(s) {
			if l[k] {
				bytes = append(bytes, 0)
			} else {
				bytes = append(bytes, s[k])
			}
		}
		taints = append(taints, l...)
	}
	return regs, bytes, taints
}

// TestApart (P5.4): two machines that differ in what is tainted alone see the same, and are the same but for that, as long as nothing seen hangs on a taint, no step goes wrong, and both tell the same.
func TestApart(t *testing.T) {
	d, steps, loads, stores, tells, tainted := draw(7), 0, 0, 0, 0, 0
	for range 4000 {
		l := d.program(4 + d.of(40))
		c, m, o := pair(t, l...)
		d.begin(t, c, m, o, 5)
		b, n, _ := twin(t, &d, l, o)
		for range 120 {
			e, f := c.Step(), b.Step()
			if e != api.OK || f != api.OK {
				break
			}
			s, r := c.Trace(), b.Trace()
			if s[len(s)-1].Taint != r[len(r)-1].Taint {
				t.Fatalf("%v hangs on a taint, or %v, not both", s[len(s)-1], r[len(r)-1])
			}
			if s[len(s)-1].Taint || !slices.Equal(c.Told(), b.Told()) {
				break
			}
			if !slices.Equal(s, r) {
				t.Fatalf("%v and %v are seen", s[len(s)-1], r[len(r)-1])
			}
			regs, bytes, taints := hidden(c, m)
			regs2, bytes2, taints2 := hidden(b, n)
			if c.Pc() != b.Pc() || regs != regs2 || !slices.Equal(bytes, bytes2) || !slices.Equal(taints, taints2) {
				t.Fatalf("behind %v: %v and %v", s[len(s)-1], regs, regs2)
			}
			steps++
			loads += count(s[len(s)-1].Kind == api.SeenLoad)
			stores += count(s[len(s)-1].Kind == api.SeenStore)
			tells += count(s[len(s)-1].Kind == api.SeenCall && s[len(s)-1].A == api.CallTell)
			tainted += count(slices.ContainsFunc(regs[:], func(r api.Tale) bool { return r.Taint }))
		}
	}
	if steps < 10000 || loads < 500 || stores < 500 || tells < 100 || tainted < 5000 {
		t.Errorf("too few: %d steps, %d loads, %d stores, %d tells, %d with a taint", steps, loads, stores, tells, tainted)
	}
}

func count(is bool) int {
	if is {
		return 1
	}
	return 0
}
