package disas

import (
	"strconv"

	"sacristy/api"
	"sacristy/insn"
)

// names has the name of each Op.
var names = [...]string{
	api.InAdd:   "add",
	api.InSub:   "sub",
	api.InSll:   "sll",
	api.InSlt:   "slt",
	api.InSltu:  "sltu",
	api.InXor:   "xor",
	api.InSrl:   "srl",
	api.InSra:   "sra",
	api.InOr:    "or",
	api.InAnd:   "and",
	api.InMul:   "mul",
	api.InMulhu: "mulhu",
	api.InDivu:  "divu",
	api.InRemu:  "remu",
	api.InAddi:  "addi",
	api.InSltiu: "sltiu",
	api.InXori:  "xori",
	api.InOri:   "ori",
	api.InAndi:  "andi",
	api.InSlli:  "slli",
	api.InSrli:  "srli",
	api.InSrai:  "srai",
	api.InLui:   "lui",
	api.InLbu:   "lbu",
	api.InLd:    "ld",
	api.InSb:    "sb",
	api.InSd:    "sd",
	api.InBeq:   "beq",
	api.InBne:   "bne",
	api.InBltu:  "bltu",
	api.InBgeu:  "bgeu",
	api.InJal:   "jal",
	api.InJalr:  "jalr",
	api.InEcall: "ecall",
}

// Text is the name of x, and what its form names; or "?", where x has no word.
func Text(x api.Insn) string {
	w, e := insn.Encode(x)
	if e != api.OK {
		return "?"
	}
	s := shapes[formOf(w)]
	text := names[x.Op] + register(s.rd, x.Rd) + register(s.rs1, x.Rs1) + register(s.rs2, x.Rs2)
	if s.imm {
		text += " " + strconv.FormatInt(x.Imm, 10)
	}
	return text
}

func register(named bool, reg uint8) string {
	if !named {
		return ""
	}
	return " x" + strconv.Itoa(int(reg))
}
