package disas_test

import "sacristy/api"

// told is an instruction, its word, and its text.
type told struct {
	x    api.Insn
	w    uint32
	text string
}

// one has each Op at least once, written out by hand; the chapters' examples are among them.
func one() []told {
	return []told{
		{api.Insn{Op: api.InAddi, Rd: 1, Imm: -1}, 0xfff00093, "addi x1 x0 -1"},
		{api.Insn{Op: api.InSub, Rd: 3, Rs1: 1, Rs2: 2}, 0x402081b3, "sub x3 x1 x2"},
		{api.Insn{Op: api.InSrai, Rd: 5, Rs1: 5, Imm: 63}, 0x43f2d293, "srai x5 x5 63"},
		{api.Insn{Op: api.InLui, Rd: 10, Imm: 4096}, 0x00001537, "lui x10 4096"},
		{api.Insn{Op: api.InSd, Rs1: 2, Rs2: 8, Imm: -8}, 0xfe813c23, "sd x2 x8 -8"},
		{api.Insn{Op: api.InBne, Rs1: 5, Imm: -4}, 0xfe029ee3, "bne x5 x0 -4"},
		{api.Insn{Op: api.InJal, Imm: 8}, 0x0080006f, "jal x0 8"},
		{api.Insn{Op: api.InEcall}, 0x00000073, "ecall"},
		{api.Insn{Op: api.InAdd, Rd: 10, Rs1: 11, Rs2: 12}, 0x00c58533, "add x10 x11 x12"},
		{api.Insn{Op: api.InSll, Rd: 10, Rs1: 11, Rs2: 12}, 0x00c59533, "sll x10 x11 x12"},
		{api.Insn{Op: api.InSlt, Rd: 10, Rs1: 11, Rs2: 12}, 0x00c5a533, "slt x10 x11 x12"},
		{api.Insn{Op: api.InSltu, Rd: 10, Rs1: 11, Rs2: 12}, 0x00c5b533, "sltu x10 x11 x12"},
		{api.Insn{Op: api.InXor, Rd: 10, Rs1: 11, Rs2: 12}, 0x00c5c533, "xor x10 x11 x12"},
		{api.Insn{Op: api.InSrl, Rd: 10, Rs1: 11, Rs2: 12}, 0x00c5d533, "srl x10 x11 x12"},
		{api.Insn{Op: api.InSra, Rd: 10, Rs1: 11, Rs2: 12}, 0x40c5d533, "sra x10 x11 x12"},
		{api.Insn{Op: api.InOr, Rd: 10, Rs1: 11, Rs2: 12}, 0x00c5e533, "or x10 x11 x12"},
		{api.Insn{Op: api.InAnd, Rd: 10, Rs1: 11, Rs2: 12}, 0x00c5f533, "and x10 x11 x12"},
		{api.Insn{Op: api.InMul, Rd: 10, Rs1: 11, Rs2: 12}, 0x02c58533, "mul x10 x11 x12"},
		{api.Insn{Op: api.InMulhu, Rd: 10, Rs1: 11, Rs2: 12}, 0x02c5b533, "mulhu x10 x11 x12"},
		{api.Insn{Op: api.InDivu, Rd: 10, Rs1: 11, Rs2: 12}, 0x02c5d533, "divu x10 x11 x12"},
		{api.Insn{Op: api.InRemu, Rd: 31, Rs1: 31, Rs2: 31}, 0x03ffffb3, "remu x31 x31 x31"},
		{api.Insn{Op: api.InAddi}, 0x00000013, "addi x0 x0 0"},
		{api.Insn{Op: api.InSltiu, Rd: 10, Rs1: 11, Imm: 1}, 0x0015b513, "sltiu x10 x11 1"},
		{api.Insn{Op: api.InXori, Rd: 10, Rs1: 11, Imm: -1}, 0xfff5c513, "xori x10 x11 -1"},
		{api.Insn{Op: api.InOri, Rd: 10, Rs1: 11, Imm: 2047}, 0x7ff5e513, "ori x10 x11 2047"},
		{api.Insn{Op: api.InAndi, Rd: 10, Rs1: 11, Imm: -2048}, 0x8005f513, "andi x10 x11 -2048"},
		{api.Insn{Op: api.InSlli, Rd: 10, Rs1: 11, Imm: 63}, 0x03f59513, "slli x10 x11 63"},
		{api.Insn{Op: api.InSrli, Rd: 10, Rs1: 11, Imm: 32}, 0x0205d513, "srli x10 x11 32"},
		{api.Insn{Op: api.InSrai, Rd: 10, Rs1: 11}, 0x4005d513, "srai x10 x11 0"},
		{api.Insn{Op: api.InLui, Rd: 1, Imm: -1 << 31}, 0x800000b7, "lui x1 -2147483648"},
		{api.Insn{Op: api.InLui, Imm: 1<<31 - 4096}, 0x7ffff037, "lui x0 2147479552"},
		{api.Insn{Op: api.InLbu, Rd: 10, Rs1: 11, Imm: 5}, 0x0055c503, "lbu x10 x11 5"},
		{api.Insn{Op: api.InLd, Rd: 10, Rs1: 2, Imm: 16}, 0x01013503, "ld x10 x2 16"},
		{api.Insn{Op: api.InSb, Rs1: 10, Rs2: 11, Imm: 31}, 0x00b50fa3, "sb x10 x11 31"},
		{api.Insn{Op: api.InBeq, Rs1: 10, Rs2: 11, Imm: 2048}, 0x00b500e3, "beq x10 x11 2048"},
		{api.Insn{Op: api.InBltu, Rs1: 10, Rs2: 11, Imm: -4096}, 0x80b56063, "bltu x10 x11 -4096"},
		{api.Insn{Op: api.InBgeu, Rs1: 10, Rs2: 11, Imm: 4094}, 0x7eb57fe3, "bgeu x10 x11 4094"},
		{api.Insn{Op: api.InJal, Rd: 1, Imm: -1 << 20}, 0x800000ef, "jal x1 -1048576"},
		{api.Insn{Op: api.InJal, Rd: 1, Imm: 2048}, 0x001000ef, "jal x1 2048"},
		{api.Insn{Op: api.InJalr, Rs1: 1}, 0x00008067, "jalr x0 x1 0"},
	}
}

// run is n bits of Imm, from the bit from on, that stand in the word from the bit at on.
type run struct{ from, at, n int }

// form is what instructions of a form have, and which bits of a word are always the same; sign is the bit of Imm that is its sign, if above 0.
type form struct {
	mask         uint32
	rd, rs1, rs2 bool
	sign         int
	runs         []run
}

var (
	regs   = form{mask: 0xfe00707f, rd: true, rs1: true, rs2: true}
	number = form{mask: 0x0000707f, rd: true, rs1: true, sign: 11, runs: []run{{0, 20, 5}, {5, 25, 7}}}
	shift  = form{mask: 0xfc00707f, rd: true, rs1: true, runs: []run{{0, 20, 5}, {5, 25, 1}}}
	large  = form{mask: 0x0000007f, rd: true, sign: 31, runs: []run{{12, 12, 20}}}
	store  = form{mask: 0x0000707f, rs1: true, rs2: true, sign: 11, runs: []run{{0, 7, 5}, {5, 25, 7}}}
	branch = form{mask: 0x0000707f, rs1: true, rs2: true, sign: 12, runs: []run{{11, 7, 1}, {1, 8, 4}, {5, 25, 6}, {12, 31, 1}}}
	jump   = form{mask: 0x0000007f, rd: true, sign: 20, runs: []run{{12, 12, 8}, {11, 20, 1}, {1, 21, 10}, {20, 31, 1}}}
	bare   = form{mask: 0xffffffff}
)

// kind is an Op, its form, and what its words have where they are always the same.
type kind struct {
	op   uint8
	same uint32
	form
}

func kinds() []kind {
	return []kind{
		{api.InAdd, 0x00000033, regs}, {api.InSub, 0x40000033, regs}, {api.InSll, 0x00001033, regs}, {api.InSlt, 0x00002033, regs},
		{api.InSltu, 0x00003033, regs}, {api.InXor, 0x00004033, regs}, {api.InSrl, 0x00005033, regs}, {api.InSra, 0x40005033, regs},
		{api.InOr, 0x00006033, regs}, {api.InAnd, 0x00007033, regs}, {api.InMul, 0x02000033, regs}, {api.InMulhu, 0x02003033, regs},
		{api.InDivu, 0x02005033, regs}, {api.InRemu, 0x02007033, regs},
		{api.InAddi, 0x00000013, number}, {api.InSltiu, 0x00003013, number}, {api.InXori, 0x00004013, number},
		{api.InOri, 0x00006013, number}, {api.InAndi, 0x00007013, number},
		{api.InSlli, 0x00001013, shift}, {api.InSrli, 0x00005013, shift}, {api.InSrai, 0x40005013, shift},
		{api.InLui, 0x00000037, large}, {api.InLbu, 0x00004003, number}, {api.InLd, 0x00003003, number},
		{api.InSb, 0x00000023, store}, {api.InSd, 0x00003023, store},
		{api.InBeq, 0x00000063, branch}, {api.InBne, 0x00001063, branch}, {api.InBltu, 0x00006063, branch}, {api.InBgeu, 0x00007063, branch},
		{api.InJal, 0x0000006f, jump}, {api.InJalr, 0x00000067, number}, {api.InEcall, 0x00000073, bare},
	}
}

// read is the instruction of k that has the word w, bit by bit as chapter 2 has it.
func (k kind) read(w uint32) api.Insn {
	x := api.Insn{Op: k.op}
	if k.rd {
		x.Rd = uint8(w >> 7 & 31)
	}
	if k.rs1 {
		x.Rs1 = uint8(w >> 15 & 31)
	}
	if k.rs2 {
		x.Rs2 = uint8(w >> 20 & 31)
	}
	for _, r := range k.runs {
		for i := range r.n {
			x.Imm |= int64(w>>(r.at+i)&1) << (r.from + i)
		}
	}
	if k.sign > 0 && x.Imm>>k.sign&1 == 1 {
		x.Imm -= 2 << k.sign
	}
	return x
}

var known = kinds()

// find is the instruction of w, or false.
func find(w uint32) (api.Insn, bool) {
	for _, k := range known {
		if w&k.mask == k.same {
			return k.read(w), true
		}
	}
	return api.Insn{}, false
}

// fills is words that have every bit alone, all but one, each register in each place, and scattered ones.
func fills() []uint32 {
	l := []uint32{0, 1<<32 - 1, 0x55555555, 0xaaaaaaaa}
	for i := range 32 {
		l = append(l, 1<<i, ^(1 << i), 1<<i-1)
	}
	for r := range uint32(32) {
		l = append(l, r<<7, r<<15, r<<20, r<<7|(31-r)<<15|(r^5)<<20)
	}
	for v, k := uint64(1), 0; k < 2000; k++ {
		v = v*6364136223846793005 + 1442695040888963407
		l = append(l, uint32(v>>32))
	}
	return l
}
