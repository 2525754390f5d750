// Package calls holds the layers' exported functions against the signatures that the chapters list: it does not compile when one is otherwise.
package calls

import (
	"testing"

	"sacristy/alloc"
	"sacristy/api"
	"sacristy/audit"
	"sacristy/borrow"
	"sacristy/build"
	"sacristy/check"
	"sacristy/cpu"
	"sacristy/disas"
	"sacristy/emit"
	"sacristy/expr"
	"sacristy/fix"
	"sacristy/flow"
	"sacristy/fold"
	"sacristy/image"
	"sacristy/inline"
	"sacristy/insn"
	"sacristy/ir"
	"sacristy/kinds"
	"sacristy/label"
	"sacristy/leak"
	"sacristy/lex"
	"sacristy/live"
	"sacristy/lower"
	"sacristy/mem"
	"sacristy/moves"
	"sacristy/par"
	"sacristy/place"
	"sacristy/run"
	"sacristy/scope"
	"sacristy/show"
	"sacristy/side"
	"sacristy/span"
	"sacristy/stmt"
	"sacristy/trim"
	"sacristy/unit"
	"sacristy/word"
)

// The machine: layers 1 to 5.
var (
	_ func(uint8, uint64, uint64) (uint64, api.Errno) = word.Op
	_ func(uint64, int) (uint64, api.Errno)           = word.Sign
	_ func(int64, int) bool                           = word.Fits
	_ func(uint64, int) (string, api.Errno)           = word.Bytes
	_ func(string) (uint64, api.Errno)                = word.Word

	_ func(api.Insn) (uint32, api.Errno)   = insn.Encode
	_ func([]api.Insn) (string, api.Errno) = insn.All

	_ func(uint32) (api.Insn, api.Errno)   = disas.Decode
	_ func(string) ([]api.Insn, api.Errno) = disas.All
	_ func(api.Insn) string                = disas.Text

	_ func([]api.Region) (*mem.Mem, api.Errno)                = mem.New
	_ func(*mem.Mem) []api.Region                             = (*mem.Mem).Regions
	_ func(*mem.Mem, uint64, int) (uint64, bool, api.Errno)   = (*mem.Mem).Load
	_ func(*mem.Mem, uint64, int, uint64, bool) api.Errno     = (*mem.Mem).Store
	_ func(*mem.Mem, uint64) (uint32, api.Errno)              = (*mem.Mem).Fetch
	_ func(*mem.Mem, uint64, string, bool) api.Errno          = (*mem.Mem).Set
	_ func(*mem.Mem, uint64, int) (string, []bool, api.Errno) = (*mem.Mem).Bytes
	_ func(*mem.Mem, uint64) (*cpu.Cpu, api.Errno)            = cpu.New
	_ func(*cpu.Cpu, int) (v uint64, taint bool, e api.Errno) = (*cpu.Cpu).Reg
	_ func(*cpu.Cpu, int, uint64, bool) api.Errno             = (*cpu.Cpu).SetReg
	_ func(*cpu.Cpu) api.Errno                                = (*cpu.Cpu).Step
	_ func(*cpu.Cpu, int) api.Errno                           = (*cpu.Cpu).Run
	_ func(*cpu.Cpu) uint64                                   = (*cpu.Cpu).Pc
	_ func(*cpu.Cpu) (over bool, code uint8, e api.Errno)     = (*cpu.Cpu).Over
	_ func(*cpu.Cpu) []api.Tale                               = (*cpu.Cpu).Told
	_ func(*cpu.Cpu) []api.Seen                               = (*cpu.Cpu).Trace
)

// Texts and programs: layers 6 to 17.
var (
	_ func(string) ([]api.Token, error) = lex.Cut
	_ func(string) bool                 = lex.Named
	_ func([]api.Token) string          = lex.Join

	_ func(api.Expr) api.Errno                      = expr.Check
	_ func([]api.Token, int) (api.Expr, int, error) = expr.Read
	_ func(api.Expr) ([]api.Token, api.Errno)       = expr.Tell

	_ func(api.Prog) api.Errno           = stmt.Check
	_ func(string) (api.Prog, error)     = stmt.Parse
	_ func(api.Prog) (string, api.Errno) = show.Show

	_ func(api.Prog) error            = scope.Check
	_ func(api.Prog) (int, api.Errno) = scope.Items
	_ func(api.Prog) error            = kinds.Check
	_ func(api.Prog) error            = label.Check
	_ func(api.Prog) error            = borrow.Check
	_ func(api.Prog) error            = moves.Check

	_ func(api.Prog) error                 = check.Check
	_ func(string) (api.Prog, error)       = check.Of
	_ func(api.Prog) ([]api.Handed, error) = check.Entry

	_ func(api.Prog, api.Input, int, int) (api.Out, api.Errno) = run.Run
	_ func(api.Prog) (api.Func, api.Errno)                     = inline.Of
)

// Programs of steps: layers 18 to 26.
var (
	_ func(api.Ir) api.Errno                                 = ir.Check
	_ func(api.Ir, api.Input, int, int) (api.Out, api.Errno) = ir.Run

	_ func(api.Prog) (int, api.Errno)    = lower.Size
	_ func(api.Prog) (api.Ir, api.Errno) = lower.Of

	_ func(api.Range) api.Errno                                = span.Check
	_ func(api.Range, uint64) bool                             = span.Has
	_ func(api.Range, api.Range) (api.Range, api.Errno)        = span.Join
	_ func(api.Range, api.Range) (api.Range, api.Errno)        = span.Meet
	_ func(api.Range, api.Range) (api.Range, api.Errno)        = span.Widen
	_ func(uint8, api.Range, api.Range) (api.Range, api.Errno) = span.Alu

	_ func(api.Ir, [][]api.Range) api.Errno                          = flow.Check
	_ func(api.Ir) ([][]api.Range, api.Errno)                        = flow.In
	_ func(api.Ir, [][]api.Range, int, int) ([]api.Range, api.Errno) = flow.At
	_ func(api.Ir, [][]api.Range) ([][]bool, api.Errno)              = flow.Known

	_ func(api.Ir) (api.Ir, api.Errno)      = trim.Of
	_ func(api.Ir, api.Ir) (int, api.Errno) = trim.Left
	_ func(api.Ir) (api.Ir, api.Errno)      = fold.Of

	_ func(api.Op) []int                           = live.Asks
	_ func(api.Op) (int, bool)                     = live.Sets
	_ func(api.Ir) ([][]int, api.Errno)            = live.In
	_ func(api.Ir, int, int) ([]int, api.Errno)    = live.At
	_ func(api.Ir) ([]api.Stay, api.Errno)         = alloc.Stays
	_ func(api.Ir, int) (api.Places, api.Errno)    = alloc.Assign
	_ func(api.Ir, api.Places) api.Errno           = audit.Check
	_ func(api.Ir, api.Places) (api.Ir, api.Errno) = audit.In
)

// Images, and what stands on them: layers 27 to 35.
var (
	_ func([]api.Move, api.Place) ([]api.Move, api.Errno) = par.Order
	_ func([]api.Move) (int, api.Errno)                   = par.Rings

	_ func(api.Ir, api.Places) ([]api.Line, api.Errno) = emit.Emit
	_ func(int) (int, api.Errno)                       = emit.Reg
	_ func([]api.Line) ([]api.Insn, api.Errno)         = fix.Fix
	_ func([]api.Line) ([]int, api.Errno)              = fix.Places

	_ func(api.Image) api.Errno               = image.Check
	_ func(api.Image) (string, api.Errno)     = image.Put
	_ func(string) (api.Image, api.Errno)     = image.Get
	_ func(api.Image) ([]api.Insn, api.Errno) = image.Text
	_ func(string) (api.Image, error)         = build.Of
	_ func(api.Prog) (api.Image, error)       = build.Prog

	_ func(api.Image, api.Input, int, int) (api.Out, api.Errno)    = side.Run
	_ func(api.Image, api.Input, int, int) ([]api.Seen, api.Errno) = side.Seen
	_ func(api.Image, api.Input, int, int) ([]api.Mark, api.Errno) = side.Marks
	_ func(string, api.Input, int, int) (bool, error)              = side.Both

	_ func(...api.Unit) api.Errno                                = unit.Check
	_ func(...api.Unit) ([]string, api.Errno)                    = unit.Order
	_ func(string, ...api.Unit) (api.Prog, api.Errno)            = unit.Link
	_ func(string, string, int, ...api.Unit) (string, int, bool) = unit.Means

	_ func(string, int) api.Spot       = place.Find
	_ func(string) ([]api.Spot, error) = place.Items
	_ func(string) (api.Spot, error)   = place.Why
	_ func(string) string              = place.Tell

	_ func([]api.Handed, api.Input, api.Input) bool                                    = leak.Alike
	_ func([]api.Handed, api.Input, string) api.Input                                  = leak.Turn
	_ func(api.Image, api.Input, api.Input, int, int) (api.Leak, api.Errno)            = leak.Compare
	_ func(api.Image, api.Input, int, int, ...string) (n int, l api.Leak, e api.Errno) = leak.Hunt
)

// TestCalls: that this file compiles is what it tests.
func TestCalls(t *testing.T) {}
