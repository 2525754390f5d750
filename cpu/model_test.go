package cpu_test

import (
	"math/big"
	"slices"
	"testing"

	"sacristy/api"
	"sacristy/cpu"
	"sacristy/insn"
	"sacristy/mem"
)

const base = 4096 // where the code begins

// cell is what a place has: which region it is in, of which kind, its byte, and whether that is tainted.
type cell struct {
	region int
	kind   uint8
	value  byte
	taint  bool
}

// model is a machine as the chapter tells it: its memory place by place, its code by its instructions' words.
type model struct {
	regs  [32]api.Tale
	pc    uint64
	cells map[uint64]cell
	known map[uint32]api.Insn
	over  bool
	code  uint8
	wrong api.Errno
	told  []api.Tale
	trace []api.Seen
}

// town has regions of all kinds: an arena and an output next to each other, an input, and the code of n words.
func town(n int) []api.Region {
	return []api.Region{
		{From: 96, Size: 48, Kind: api.RegArena}, {From: 144, Size: 20, Kind: api.RegOut}, {From: 256, Size: 24, Kind: api.RegIn},
		{From: base, Size: uint64(n) * 4, Kind: api.RegCode}, {From: 1<<40 - 8, Size: 8, Kind: api.RegArena},
	}
}

// wordsOf is the words of these instructions; one of an Op from 200 on stands for a word that is its Imm.
func wordsOf(t *testing.T, l []api.Insn) []uint32 {
	t.Helper()
	var words []uint32
	for _, x := range l {
		w, e := insn.Encode(x)
		if x.Op >= 200 {
			w, e = uint32(x.Imm), api.OK
		}
		if e != api.OK {
			t.Fatalf("%v has no word", x)
		}
		words = append(words, w)
	}
	return words
}

// textOf is words, four bytes each.
func textOf(l []uint32) string {
	var s []byte
	for _, w := range l {
		s = append(s, byte(w), byte(w>>8), byte(w>>16), byte(w>>24))
	}
	return string(s)
}

// pair is a machine of this code, and its model; both begin at the code's first instruction.
func pair(t *testing.T, l ...api.Insn) (*cpu.Cpu, *mem.Mem, *model) {
	t.Helper()
	words := wordsOf(t, l)
	m, e := mem.New(town(len(l)))
	if e != api.OK || m.Set(base, textOf(words), false) != api.OK {
		t.Fatal(e)
	}
	c, e := cpu.New(m, base)
	if c == nil || e != api.OK {
		t.Fatal(c, e)
	}
	o := &model{pc: base, cells: map[uint64]cell{}, known: map[uint32]api.Insn{}}
	for k, r := range town(len(l)) {
		for at := r.From; at < r.From+r.Size; at++ {
			o.cells[at] = cell{region: k, kind: r.Kind}
		}
	}
	o.set(base, textOf(words), false)
	for k, x := range l {
		if x.Op < 200 {
			o.known[words[k]] = x
		}
	}
	return c, m, o
}

func (o *model) set(at uint64, s string, taint bool) {
	for k := range len(s) {
		b := o.cells[at+uint64(k)]
		b.value, b.taint = s[k], taint
		o.cells[at+uint64(k)] = b
	}
}

func (o *model) setReg(i int, v uint64, taint bool) {
	if i != 0 {
		o.regs[i] = api.Tale{V: v, Taint: taint}
	}
}

// read is what n bytes from at on tell, if they lie in one region of one of these kinds.
func (o *model) read(at uint64, n int, kinds ...uint8) (v uint64, taint bool, e api.Errno) {
	first := o.cells[at]
	for k := n - 1; k >= 0; k-- {
		b, is := o.cells[at+uint64(k)]
		if !is || b.region != first.region || !slices.Contains(kinds, b.kind) {
			return 0, false, api.ErrFault
		}
		v, taint = v*256+uint64(b.value), taint || b.taint
	}
	return v, taint, api.OK
}

// step is a step, as the chapter's table has it.
func (o *model) step() api.Errno {
	if o.over {
		return api.ErrOver
	}
	if len(o.trace) == 1048576 {
		return api.ErrFull
	}
	e := o.try()
	if e != api.OK {
		o.over, o.wrong = true, e
	}
	return e
}

func (o *model) try() api.Errno {
	w, _, e := o.read(o.pc, 4, api.RegCode)
	if e != api.OK || o.pc%4 != 0 {
		return api.ErrFault
	}
	x, is := o.known[uint32(w)]
	if !is {
		return api.ErrForm
	}
	a, b, i := o.regs[x.Rs1], o.regs[x.Rs2], uint64(x.Imm)
	both, at := a.Taint || b.Taint, a.V+i
	seen, next := api.Seen{Pc: o.pc, Kind: api.SeenStep}, o.pc+4
	switch x.Op {
	case api.InDivu, api.InRemu:
		seen = api.Seen{Pc: o.pc, Kind: api.SeenDiv, A: a.V, B: b.V, Taint: both}
		o.setReg(int(x.Rd), made(x.Op, a.V, b.V), both)
	case api.InLui:
		o.setReg(int(x.Rd), i, false)
	case api.InLbu, api.InLd:
		seen = api.Seen{Pc: o.pc, Kind: api.SeenLoad, A: at, Taint: a.Taint}
		v, taint, e := o.read(at, bytesOf(x.Op), api.RegIn, api.RegArena, api.RegOut)
		if e != api.OK {
			return e
		}
		o.setReg(int(x.Rd), v, taint || a.Taint)
	case api.InSb, api.InSd:
		seen = api.Seen{Pc: o.pc, Kind: api.SeenStore, A: at, Taint: a.Taint}
		n := bytesOf(x.Op)
		if _, _, e := o.read(at, n, api.RegArena, api.RegOut); e != api.OK {
			return e
		}
		o.set(at, textOf([]uint32{uint32(b.V), uint32(b.V >> 32)})[:n], both)
	case api.InBeq, api.InBne, api.InBltu, api.InBgeu:
		seen.Taint = both
		if goes := map[uint8]bool{api.InBeq: a.V == b.V, api.InBne: a.V != b.V, api.InBltu: a.V < b.V, api.InBgeu: a.V >= b.V}; goes[x.Op] {
			next = o.pc + i
		}
	case api.InJal:
		o.setReg(int(x.Rd), next, false)
		next = o.pc + i
	case api.InJalr:
		seen.Taint = a.Taint
		o.setReg(int(x.Rd), next, false)
		next = at - at%2
	case api.InEcall:
		call := o.regs[17]
		seen = api.Seen{Pc: o.pc, Kind: api.SeenCall, A: call.V, Taint: call.Taint}
		switch call.V {
		case 0, 1, 2, 3:
			o.over, o.code, next = true, byte(call.V), o.pc
		case 4:
			o.told = append(o.told, o.regs[10])
			o.regs[10].Taint = false
		case 5:
		default:
			return api.ErrCall
		}
	default:
		if fn, of := likewise[x.Op]; of {
			o.setReg(int(x.Rd), made(fn, a.V, i), a.Taint)
		} else {
			o.setReg(int(x.Rd), made(x.Op, a.V, b.V), both)
		}
	}
	o.trace, o.pc = append(o.trace, seen), next
	return api.OK
}

// likewise is which Op of two registers does the same.
var likewise = map[uint8]uint8{
	api.InAddi: api.InAdd, api.InSltiu: api.InSltu, api.InXori: api.InXor, api.InOri: api.InOr, api.InAndi: api.InAnd,
	api.InSlli: api.InSll, api.InSrli: api.InSrl, api.InSrai: api.InSra,
}

func bytesOf(op uint8) int {
	if op == api.InLbu || op == api.InSb {
		return 1
	}
	return 8
}

// made is what an instruction of two registers makes, by numbers without bounds.
func made(op uint8, a, b uint64) uint64 {
	x, y, z := new(big.Int).SetUint64(a), new(big.Int).SetUint64(b), new(big.Int)
	signed := big.NewInt(int64(a))
	if b == 0 && op == api.InDivu {
		return ^uint64(0)
	}
	if b == 0 && op == api.InRemu {
		return a
	}
	switch op {
	case api.InAdd:
		z.Add(x, y)
	case api.InSub:
		z.Sub(x.Add(x, new(big.Int).Lsh(big.NewInt(1), 64)), y)
	case api.InMul:
		z.Mul(x, y)
	case api.InMulhu:
		z.Rsh(z.Mul(x, y), 64)
	case api.InDivu:
		z.Quo(x, y)
	case api.InRemu:
		z.Rem(x, y)
	case api.InSll:
		z.Lsh(x, uint(b%64))
	case api.InSrl:
		z.Rsh(x, uint(b%64))
	case api.InSra:
		z.Rsh(signed, uint(b%64))
		return uint64(z.Int64())
	case api.InXor:
		z.Xor(x, y)
	case api.InOr:
		z.Or(x, y)
	case api.InAnd:
		z.And(x, y)
	case api.InSlt:
		z.SetInt64(int64(max(signed.Cmp(big.NewInt(int64(b)))*-1, 0)))
	case api.InSltu:
		z.SetInt64(int64(max(x.Cmp(y)*-1, 0)))
	}
	return z.And(z, new(big.Int).SetUint64(^uint64(0))).Uint64()
}

// same holds all that a machine answers, and the bytes of its memory, against the model's.
func same(t *testing.T, c *cpu.Cpu, m *mem.Mem, o *model) {
	t.Helper()
	sameHeld(t, c, o)
	sameBytes(t, m, o)
}

func sameHeld(t *testing.T, c *cpu.Cpu, o *model) {
	t.Helper()
	sameRegs(t, c, o)
	if over, code, e := c.Over(); over != o.over || code != o.code || e != o.wrong {
		t.Fatalf("Over: %v, %d, %v, not %v, %d, %v", over, code, e, o.over, o.code, o.wrong)
	}
	if l := c.Told(); !slices.Equal(l, o.told) {
		t.Fatalf("Told: %v, not %v", l, o.told)
	}
	if l := c.Trace(); !slices.Equal(l, o.trace) {
		t.Fatalf("Trace: %v, not %v", l, o.trace)
	}
}

func sameBytes(t *testing.T, m *mem.Mem, o *model) {
	t.Helper()
	for _, r := range m.Regions() {
		s, taints, _ := m.Bytes(r.From, int(r.Size))
		for k := range len(s) {
			if b := o.cells[r.From+uint64(k)]; s[k] != b.value || taints[k] != b.taint {
				t.Fatalf("at %d: %d, %v, not %d, %v", r.From+uint64(k), s[k], taints[k], b.value, b.taint)
			}
		}
	}
}

func sameRegs(t *testing.T, c *cpu.Cpu, o *model) {
	t.Helper()
	if pc := c.Pc(); pc != o.pc {
		t.Fatalf("Pc: %d, not %d", pc, o.pc)
	}
	for i, r := range o.regs {
		if v, taint, e := c.Reg(i); v != r.V || taint != r.Taint || e != api.OK {
			t.Fatalf("Reg(%d): %x, %v, %v, not %x, %v", i, v, taint, e, r.V, r.Taint)
		}
	}
}

// lay puts a word into both.
func lay(t *testing.T, c *cpu.Cpu, o *model, i int, v uint64, taint bool) {
	t.Helper()
	if e := c.SetReg(i, v, taint); e != api.OK {
		t.Fatalf("SetReg(%d): %v", i, e)
	}
	o.setReg(i, v, taint)
}

// put puts bytes into both.
func put(t *testing.T, m *mem.Mem, o *model, at uint64, s string, taint bool) {
	t.Helper()
	if e := m.Set(at, s, taint); e != api.OK {
		t.Fatalf("Set(%d): %v", at, e)
	}
	o.set(at, s, taint)
}
