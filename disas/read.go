package disas

import (
	"iter"

	"sacristy/api"
)

// The forms of instructions.
const (
	formNone uint8 = iota
	formRegs
	formNumber
	formShift
	formLarge
	formStore
	formBranch
	formJump
	formBare
)

// shape is what a form names.
type shape struct{ rd, rs1, rs2, imm bool }

// shapes has the shape of each form.
var shapes = [...]shape{
	formNone:   {},
	formRegs:   {rd: true, rs1: true, rs2: true},
	formNumber: {rd: true, rs1: true, imm: true},
	formShift:  {rd: true, rs1: true, imm: true},
	formLarge:  {rd: true, imm: true},
	formStore:  {rs1: true, rs2: true, imm: true},
	formBranch: {rs1: true, rs2: true, imm: true},
	formJump:   {rd: true, imm: true},
	formBare:   {},
}

// bits is so many bits of w, from the bit from on.
func bits(w uint32, from, width int) uint32 { return w >> from & (1<<width - 1) }

// formOf is the one form that instructions with the code of w, and its f3, have.
func formOf(w uint32) uint8 {
	switch bits(w, 0, 7) {
	case 0x33:
		return formRegs
	case 0x13:
		if bits(w, 12, 2) == 1 { // f3 is 1 or 5
			return formShift
		}
		fallthrough
	case 0x03, 0x67:
		return formNumber
	case 0x37:
		return formLarge
	case 0x23:
		return formStore
	case 0x63:
		return formBranch
	case 0x6f:
		return formJump
	case 0x73:
		return formBare
	}
	return formNone
}

// readings has, Op by Op, what w would be as an instruction of that Op.
func readings(w uint32) iter.Seq[api.Insn] {
	return func(yield func(api.Insn) bool) {
		x := fields(formOf(w), w)
		for x.Op = api.InAdd; x.Op <= api.InEcall; x.Op++ {
			if !yield(x) {
				return
			}
		}
	}
}

// fields is an instruction without an Op: the registers and the number that w has in that form.
func fields(form uint8, w uint32) api.Insn {
	s, x := shapes[form], api.Insn{Imm: number(form, w)}
	if s.rd {
		x.Rd = uint8(bits(w, 7, 5))
	}
	if s.rs1 {
		x.Rs1 = uint8(bits(w, 15, 5))
	}
	if s.rs2 {
		x.Rs2 = uint8(bits(w, 20, 5))
	}
	return x
}

// number is the Imm that w has in that form; 0, where the form has none.
func number(form uint8, w uint32) int64 {
	signed := int64(int32(w)) // in all forms the highest bit of w is the sign, where there is one
	high := signed >> 25 << 5 // f7's place, from bit 5 on
	part := func(from, width, at int) int64 { return int64(bits(w, from, width)) << at }
	switch form {
	case formShift:
		high &= 1 << 5 // f7's other bits are the Op's own
		fallthrough
	case formNumber:
		return high | part(20, 5, 0)
	case formStore:
		return high | part(7, 5, 0)
	case formBranch:
		return signed>>31<<12 | part(7, 1, 11) | part(25, 6, 5) | part(8, 4, 1)
	case formJump:
		return signed>>31<<20 | part(12, 8, 12) | part(20, 1, 11) | part(21, 10, 1)
	case formLarge:
		return signed >> 12 << 12
	}
	return 0
}
