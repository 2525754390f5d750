package insn

import "sacristy/api"

// The forms of instructions.
const (
	formNone uint8 = iota
	formRegs
	formNumber
	formShift
	formLarge
	formStore
	formBranch
	formJump
	formBare
)

// shape is which registers a form names, and its number: of so many bits (0: none), a multiple of step.
type shape struct {
	rd, rs1, rs2 bool
	bits         int
	step         int64
}

// shapes has the shape of each form.
var shapes = [...]shape{
	formRegs:   {rd: true, rs1: true, rs2: true},
	formNumber: {rd: true, rs1: true, bits: 12, step: 1},
	formShift:  {rd: true, rs1: true, bits: 6, step: 1},
	formLarge:  {rd: true, bits: 32, step: 1 << 12},
	formStore:  {rs1: true, rs2: true, bits: 12, step: 1},
	formBranch: {rs1: true, rs2: true, bits: 13, step: 2},
	formJump:   {rd: true, bits: 21, step: 2},
	formBare:   {},
}

// row is what an Op has: the fields of its word that are always the same, and its form.
type row struct {
	code, f3, f7 uint8
	form         uint8
}

// rows has the row of each Op.
var rows = [...]row{
	api.InAdd:   {0x33, 0, 0x00, formRegs},
	api.InSub:   {0x33, 0, 0x20, formRegs},
	api.InSll:   {0x33, 1, 0x00, formRegs},
	api.InSlt:   {0x33, 2, 0x00, formRegs},
	api.InSltu:  {0x33, 3, 0x00, formRegs},
	api.InXor:   {0x33, 4, 0x00, formRegs},
	api.InSrl:   {0x33, 5, 0x00, formRegs},
	api.InSra:   {0x33, 5, 0x20, formRegs},
	api.InOr:    {0x33, 6, 0x00, formRegs},
	api.InAnd:   {0x33, 7, 0x00, formRegs},
	api.InMul:   {0x33, 0, 0x01, formRegs},
	api.InMulhu: {0x33, 3, 0x01, formRegs},
	api.InDivu:  {0x33, 5, 0x01, formRegs},
	api.InRemu:  {0x33, 7, 0x01, formRegs},
	api.InAddi:  {0x13, 0, 0x00, formNumber},
	api.InSltiu: {0x13, 3, 0x00, formNumber},
	api.InXori:  {0x13, 4, 0x00, formNumber},
	api.InOri:   {0x13, 6, 0x00, formNumber},
	api.InAndi:  {0x13, 7, 0x00, formNumber},
	api.InSlli:  {0x13, 1, 0x00, formShift},
	api.InSrli:  {0x13, 5, 0x00, formShift},
	api.InSrai:  {0x13, 5, 0x20, formShift},
	api.InLui:   {0x37, 0, 0x00, formLarge},
	api.InLbu:   {0x03, 4, 0x00, formNumber},
	api.InLd:    {0x03, 3, 0x00, formNumber},
	api.InSb:    {0x23, 0, 0x00, formStore},
	api.InSd:    {0x23, 3, 0x00, formStore},
	api.InBeq:   {0x63, 0, 0x00, formBranch},
	api.InBne:   {0x63, 1, 0x00, formBranch},
	api.InBltu:  {0x63, 6, 0x00, formBranch},
	api.InBgeu:  {0x63, 7, 0x00, formBranch},
	api.InJal:   {0x6f, 0, 0x00, formJump},
	api.InJalr:  {0x67, 0, 0x00, formNumber},
	api.InEcall: {0x73, 0, 0x00, formBare},
}
