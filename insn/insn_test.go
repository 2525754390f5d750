package insn_test

import (
	"math"
	"slices"
	"testing"

	"sacristy/api"
	"sacristy/insn"
)

// run is n bits of Imm, from the bit from on, that stand in the word from the bit at on.
type run struct{ from, at, n int }

// form is what instructions of a form have: Imm from lo to hi, a multiple of step.
type form struct {
	rd, rs1, rs2 bool
	lo, hi, step int64
	runs         []run
}

var (
	regs   = form{rd: true, rs1: true, rs2: true, step: 1}
	number = form{rd: true, rs1: true, lo: -2048, hi: 2047, step: 1, runs: []run{{0, 20, 5}, {5, 25, 7}}}
	shift  = form{rd: true, rs1: true, lo: 0, hi: 63, step: 1, runs: []run{{0, 20, 5}, {5, 25, 1}}}
	large  = form{rd: true, lo: -1 << 31, hi: 1<<31 - 4096, step: 4096, runs: []run{{12, 12, 20}}}
	store  = form{rs1: true, rs2: true, lo: -2048, hi: 2047, step: 1, runs: []run{{0, 7, 5}, {5, 25, 7}}}
	branch = form{rs1: true, rs2: true, lo: -4096, hi: 4094, step: 2, runs: []run{{11, 7, 1}, {1, 8, 4}, {5, 25, 6}, {12, 31, 1}}}
	jump   = form{rd: true, lo: -1 << 20, hi: 1<<20 - 2, step: 2, runs: []run{{12, 12, 8}, {11, 20, 1}, {1, 21, 10}, {20, 31, 1}}}
	bare   = form{step: 1}
)

// kind is an Op, and its word where all that its form names is 0.
type kind struct {
	op   uint8
	bare uint32
	form
}

func kinds() []kind {
	return []kind{
		{api.InAdd, 0x00000033, regs}, {api.InSub, 0x40000033, regs}, {api.InSll, 0x00001033, regs}, {api.InSlt, 0x00002033, regs},
		{api.InSltu, 0x00003033, regs}, {api.InXor, 0x00004033, regs}, {api.InSrl, 0x00005033, regs}, {api.InSra, 0x40005033, regs},
		{api.InOr, 0x00006033, regs}, {api.InAnd, 0x00007033, regs}, {api.InMul, 0x02000033, regs}, {api.InMulhu, 0x02003033, regs},
		{api.InDivu, 0x02005033, regs}, {api.InRemu, 0x02007033, regs},
		{api.InAddi, 0x00000013, number}, {api.InSltiu, 0x00003013, number}, {api.InXori, 0x00004013, number},
		{api.InOri, 0x00006013, number}, {api.InAndi, 0x00007013, number},
		{api.InSlli, 0x00001013, shift}, {api.InSrli, 0x00005013, shift}, {api.InSrai, 0x40005013, shift},
		{api.InLui, 0x00000037, large}, {api.InLbu, 0x00004003, number}, {api.InLd, 0x00003003, number},
		{api.InSb, 0x00000023, store}, {api.InSd, 0x00003023, store},
		{api.InBeq, 0x00000063, branch}, {api.InBne, 0x00001063, branch}, {api.InBltu, 0x00006063, branch}, {api.InBgeu, 0x00007063, branch},
		{api.InJal, 0x0000006f, jump}, {api.InJalr, 0x00000067, number}, {api.InEcall, 0x00000073, bare},
	}
}

// with is the instruction of k that has these, where its form names them.
func (k kind) with(rd, rs1, rs2 uint8, imm int64) api.Insn {
	x := api.Insn{Op: k.op, Imm: imm}
	if k.rd {
		x.Rd = rd
	}
	if k.rs1 {
		x.Rs1 = rs1
	}
	if k.rs2 {
		x.Rs2 = rs2
	}
	return x
}

// word is the word of x, bit by bit as the chapter has it.
func (k kind) word(x api.Insn) uint32 {
	w := k.bare | uint32(x.Rd)<<7 | uint32(x.Rs1)<<15 | uint32(x.Rs2)<<20
	for _, r := range k.runs {
		for i := range r.n {
			w |= uint32(x.Imm>>(r.from+i)&1) << (r.at + i)
		}
	}
	return w
}

// numbers has all Imm of the form, where they are few; else each bit, both ends, and scattered ones.
func (f form) numbers() []int64 {
	var l []int64
	if f.hi-f.lo <= 1<<13 {
		for v := f.lo; v <= f.hi; v += f.step {
			l = append(l, v)
		}
		return l
	}
	for v := f.step; v <= f.hi; v *= 2 {
		l = append(l, v, -v, v-f.step, f.step-v)
	}
	for v, k := uint64(1), 0; k < 2000; k++ {
		v = v*6364136223846793005 + 1442695040888963407
		l = append(l, f.lo+int64(v>>33)%((f.hi-f.lo)/f.step)*f.step)
	}
	l = append(l, f.lo, f.lo+f.step, f.hi)
	slices.Sort(l)
	return slices.Compact(l)
}

// TestEncodeTold (P2.1): the chapter's examples, and one instruction of each Op.
func TestEncodeTold(t *testing.T) {
	for _, x := range []struct {
		in   api.Insn
		want uint32
	}{
		{api.Insn{Op: api.InAddi, Rd: 1, Imm: -1}, 0xfff00093}, {api.Insn{Op: api.InSub, Rd: 3, Rs1: 1, Rs2: 2}, 0x402081b3},
		{api.Insn{Op: api.InSrai, Rd: 5, Rs1: 5, Imm: 63}, 0x43f2d293}, {api.Insn{Op: api.InLui, Rd: 10, Imm: 4096}, 0x00001537},
		{api.Insn{Op: api.InSd, Rs1: 2, Rs2: 8, Imm: -8}, 0xfe813c23}, {api.Insn{Op: api.InBne, Rs1: 5, Imm: -4}, 0xfe029ee3},
		{api.Insn{Op: api.InJal, Imm: 8}, 0x0080006f}, {api.Insn{Op: api.InEcall}, 0x00000073},
		{api.Insn{Op: api.InAdd, Rd: 10, Rs1: 11, Rs2: 12}, 0x00c58533}, {api.Insn{Op: api.InSll, Rd: 10, Rs1: 11, Rs2: 12}, 0x00c59533},
		{api.Insn{Op: api.InSlt, Rd: 10, Rs1: 11, Rs2: 12}, 0x00c5a533}, {api.Insn{Op: api.InSltu, Rd: 10, Rs1: 11, Rs2: 12}, 0x00c5b533},
		{api.Insn{Op: api.InXor, Rd: 10, Rs1: 11, Rs2: 12}, 0x00c5c533}, {api.Insn{Op: api.InSrl, Rd: 10, Rs1: 11, Rs2: 12}, 0x00c5d533},
		{api.Insn{Op: api.InSra, Rd: 10, Rs1: 11, Rs2: 12}, 0x40c5d533}, {api.Insn{Op: api.InOr, Rd: 10, Rs1: 11, Rs2: 12}, 0x00c5e533},
		{api.Insn{Op: api.InAnd, Rd: 10, Rs1: 11, Rs2: 12}, 0x00c5f533}, {api.Insn{Op: api.InMul, Rd: 10, Rs1: 11, Rs2: 12}, 0x02c58533},
		{api.Insn{Op: api.InMulhu, Rd: 10, Rs1: 11, Rs2: 12}, 0x02c5b533}, {api.Insn{Op: api.InDivu, Rd: 10, Rs1: 11, Rs2: 12}, 0x02c5d533},
		{api.Insn{Op: api.InRemu, Rd: 31, Rs1: 31, Rs2: 31}, 0x03ffffb3}, {api.Insn{Op: api.InSltiu, Rd: 10, Rs1: 11, Imm: 1}, 0x0015b513},
		{api.Insn{Op: api.InXori, Rd: 10, Rs1: 11, Imm: -1}, 0xfff5c513}, {api.Insn{Op: api.InOri, Rd: 10, Rs1: 11, Imm: 2047}, 0x7ff5e513},
		{api.Insn{Op: api.InAndi, Rd: 10, Rs1: 11, Imm: -2048}, 0x8005f513}, {api.Insn{Op: api.InSlli, Rd: 10, Rs1: 11, Imm: 63}, 0x03f59513},
		{api.Insn{Op: api.InSrli, Rd: 10, Rs1: 11, Imm: 32}, 0x0205d513}, {api.Insn{Op: api.InLui, Rd: 1, Imm: -1 << 31}, 0x800000b7},
		{api.Insn{Op: api.InLbu, Rd: 10, Rs1: 11, Imm: 5}, 0x0055c503}, {api.Insn{Op: api.InLd, Rd: 10, Rs1: 2, Imm: 16}, 0x01013503},
		{api.Insn{Op: api.InSb, Rs1: 10, Rs2: 11, Imm: 31}, 0x00b50fa3}, {api.Insn{Op: api.InBeq, Rs1: 10, Rs2: 11, Imm: 2048}, 0x00b500e3},
		{api.Insn{Op: api.InBltu, Rs1: 10, Rs2: 11, Imm: -4096}, 0x80b56063}, {api.Insn{Op: api.InBgeu, Rs1: 10, Rs2: 11, Imm: 4094}, 0x7eb57fe3},
		{api.Insn{Op: api.InJal, Rd: 1, Imm: -1 << 20}, 0x800000ef}, {api.Insn{Op: api.InJal, Rd: 1, Imm: 2048}, 0x001000ef},
		{api.Insn{Op: api.InJalr, Rs1: 1}, 0x00008067},
	} {
		if w, e := insn.Encode(x.in); w != x.want || e != api.OK {
			t.Errorf("Encode(%+v): %08x, %v, not %08x", x.in, w, e, x.want)
		}
	}
}

// TestEncodeBits (P2.1): of each Op every register and number stands bit by bit where its form has it, and again so.
func TestEncodeBits(t *testing.T) {
	for _, k := range kinds() {
		var l []api.Insn
		for r := range uint8(32) {
			l = append(l, k.with(r, 0, 0, 0), k.with(0, r, 0, 0), k.with(0, 0, r, 0), k.with(r, 31-r, r^5, 0))
		}
		for _, v := range k.numbers() {
			l = append(l, k.with(0, 0, 0, v), k.with(31, 31, 31, v), k.with(10, 21, 9, v))
		}
		for _, x := range l {
			w, e := insn.Encode(x)
			if w != k.word(x) || e != api.OK {
				t.Fatalf("Encode(%+v): %08x, %v, not %08x", x, w, e, k.word(x))
			}
			if again, e := insn.Encode(x); again != w || e != api.OK {
				t.Fatalf("Encode(%+v): %08x, then %08x, %v", x, w, again, e)
			}
		}
	}
}

// refused asks for ErrArg, and 0.
func refused(t *testing.T, x api.Insn) {
	t.Helper()
	if w, e := insn.Encode(x); w != 0 || e != api.ErrArg {
		t.Errorf("Encode(%+v): %08x, %v", x, w, e)
	}
}

// TestEncodeNoOp (P2.1): no Op beside the table's has a word.
func TestEncodeNoOp(t *testing.T) {
	if api.ErrArg != 2 {
		t.Error(api.ErrArg)
	}
	known := map[uint8]bool{}
	for _, k := range kinds() {
		known[k.op] = true
	}
	if len(known) != 34 {
		t.Error(len(known))
	}
	for op := range 256 {
		if !known[uint8(op)] {
			refused(t, api.Insn{Op: uint8(op)})
			refused(t, api.Insn{Op: uint8(op), Rd: 1, Rs1: 2, Rs2: 3})
			refused(t, api.Insn{Op: uint8(op), Imm: 4096})
		}
	}
}

// TestEncodeNoRegister (P2.1): registers go to 31, and those that the form does not name are 0.
func TestEncodeNoRegister(t *testing.T) {
	for _, k := range kinds() {
		for r := 1; r < 256; r++ {
			for _, x := range []struct {
				named bool
				in    api.Insn
			}{
				{k.rd, api.Insn{Op: k.op, Rd: uint8(r)}}, {k.rs1, api.Insn{Op: k.op, Rs1: uint8(r)}}, {k.rs2, api.Insn{Op: k.op, Rs2: uint8(r)}},
			} {
				if !x.named || r > 31 {
					refused(t, x.in)
				} else if _, e := insn.Encode(x.in); e != api.OK {
					t.Errorf("Encode(%+v): %v", x.in, e)
				}
			}
		}
	}
}

// TestEncodeNoNumber (P2.1): what lies beyond the form's numbers, or between them, is refused.
func TestEncodeNoNumber(t *testing.T) {
	refused(t, api.Insn{Op: api.InAddi, Rs2: 1})
	refused(t, api.Insn{Op: api.InAddi, Imm: 2048})
	refused(t, api.Insn{Op: api.InBeq, Imm: 3})
	for _, k := range kinds() {
		far := []int64{math.MinInt64, math.MaxInt64, math.MinInt64 + 4096, math.MaxInt64 - 4095, 1 << 32, -1 << 32, 1<<32 + 4096, 1 << 62, k.hi * 2, k.hi*2 + 2, k.lo * 2}
		for _, v := range append(far, k.lo-k.step, k.hi+k.step, k.lo-1, k.hi+1) {
			if v < k.lo || v > k.hi {
				refused(t, k.with(1, 2, 3, v))
			}
		}
		for v := int64(1); v < k.step; v++ {
			for _, w := range []int64{v, -v, k.lo + v, k.hi - v} {
				refused(t, k.with(1, 2, 3, w))
			}
		}
	}
}

// TestAll (P2.2): each word as four bytes, the lowest one first, in order.
func TestAll(t *testing.T) {
	addi, ecall, lui := api.Insn{Op: api.InAddi, Rd: 1, Imm: -1}, api.Insn{Op: api.InEcall}, api.Insn{Op: api.InLui, Rd: 10, Imm: 4096}
	for _, x := range []struct {
		l    []api.Insn
		want string
	}{
		{nil, ""}, {[]api.Insn{}, ""}, {[]api.Insn{addi}, "\x93\x00\xf0\xff"}, {[]api.Insn{ecall}, "\x73\x00\x00\x00"},
		{[]api.Insn{lui, addi, ecall, addi}, "\x37\x15\x00\x00\x93\x00\xf0\xff\x73\x00\x00\x00\x93\x00\xf0\xff"},
	} {
		kept := slices.Clone(x.l)
		if s, e := insn.All(x.l); s != x.want || e != api.OK {
			t.Errorf("All(%+v): %q, %v, not %q", x.l, s, e, x.want)
		}
		if !slices.Equal(kept, x.l) {
			t.Errorf("All has changed %+v to %+v", kept, x.l)
		}
	}
}

// TestAllWords (P2.2): a long text has all words of its instructions.
func TestAllWords(t *testing.T) {
	var l []api.Insn
	for _, k := range kinds() {
		for _, v := range k.numbers() {
			l = append(l, k.with(3, 4, 5, v))
		}
	}
	s, e := insn.All(l)
	if e != api.OK || len(s) != 4*len(l) {
		t.Fatalf("%d bytes of %d instructions, %v", len(s), len(l), e)
	}
	for i, x := range l {
		w, _ := insn.Encode(x)
		b := s[4*i:]
		if uint32(b[0])|uint32(b[1])<<8|uint32(b[2])<<16|uint32(b[3])<<24 != w {
			t.Fatalf("%+v, the instruction %d: %q, not %08x", x, i, b[:4], w)
		}
	}
}

// TestAllRefused (P2.2): ErrArg, and nothing, wherever one without a word stands.
func TestAllRefused(t *testing.T) {
	fine := api.Insn{Op: api.InEcall}
	for _, bad := range []api.Insn{{}, {Op: 35}, {Op: api.InEcall, Imm: 1}, {Op: api.InAddi, Imm: 2048}, {Op: api.InAdd, Rd: 32}} {
		for _, l := range [][]api.Insn{{bad}, {bad, fine, fine}, {fine, bad, fine}, {fine, fine, bad}} {
			if s, e := insn.All(l); s != "" || e != api.ErrArg {
				t.Errorf("All(%+v): %q, %v", l, s, e)
			}
		}
	}
}

// TestUnlike (P2.3): no two instructions have one word, and the lowest two bits of each are 1.
func TestUnlike(t *testing.T) {
	has := map[uint32]api.Insn{}
	look := func(x api.Insn) {
		w, e := insn.Encode(x)
		if e != api.OK || w&3 != 3 {
			t.Fatalf("Encode(%+v): %08x, %v", x, w, e)
		}
		if y, ok := has[w]; ok && y != x {
			t.Fatalf("%08x is the word of %+v and of %+v", w, x, y)
		}
		has[w] = x
	}
	for _, k := range kinds() {
		for _, v := range k.numbers() {
			look(k.with(0, 0, 0, v))
			look(k.with(21, 10, 30, v))
		}
		for r := range 32 * 32 * 32 {
			look(k.with(uint8(r%32), uint8(r/32%32), uint8(r/1024), 0))
		}
	}
}
