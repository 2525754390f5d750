/-
  NARROWER THAN 'FOR EVERY INPUT', by the rows' own cells (each row's printed sentence says how): CpuPlays: laid.
  DERIVED. THE GIVEN ROWS OF THIS SEAT. 1 by the template 'for every input the law returns true; each argument reads behind the call as it read before'; 0 by the template 'total and deterministic' (their statements: YtfaacmcnefbgcaaGreatDoorTotals.lean).
  GIVEN WITH THE SEED: the statements are not yours to turn. If you find one false, say at which input.
  Laid BY PROGRAM, IN A SANDBOX (cutbox-rows.mjs): the forced cells as the released guide's own fill.sh prints them over the translation d0a1a3ad944b75d5… (all of the seat's roots in one cut). By AI agents, Wed Nov 11 2026. No macro, syntax, notation, axiom, sorry.
-/
import Derived.Test.YtfaacmcnefbgcaaGreatDoorChecked
import GoSem.Claim
import GoSem.ClaimJoined
import GoSem.ClaimMapViews
import Derived.JoinedTies
import Derived.KernelRfl
namespace Go.Proofs.YtfaacmcnefbgcaaGreatDoor
/- THE CELL 'sum', in the pinned program and in every row, IS THE sha256 OF THE DUMP (.gsa) THAT YtfaacmcnefbgcaaGreatDoorProg.lean LOADS. Nothing in Lean hashes anything: it is a label: what it is worth is what the hold of that sum in a sandbox is worth. -/
noncomputable def Tryz.pinned : Pinned := { name := "ytfaacmcnefbgcaagreatdoor", sum := "d0a1a3ad944b75d58df60fb0d8f89ae8a791b2a8a0ad4cec28fb41ca6e5c84c5", checked := Tryz.checked }
namespace Rows
def none {H : Type} : Left H := { results := [], args := [] }

/- WHAT THE LISTED PACKAGE-LEVEL VARIABLES READ AS WHEN THE CALL BEGINS. Each datum BY PROGRAM (the guide's laid-datum.mjs) off the statement by which the dump's own 'gosem.cut.vars' lays the variable. In a bare row this is a premise. The card (YtfaacmcnefbgcaaGreatDoorCards.lean) ties it to the program's text. -/
def laid_sacristy_insn_shapes {H : Type} : DataW H := .agg [.agg [.lit (.bool false), .lit (.bool false), .lit (.bool false), .lit (.int .i64 0), .lit (.int .i64 0)], .agg [.lit (.bool true), .lit (.bool true), .lit (.bool true), .lit (.int .i64 0), .lit (.int .i64 0)], .agg [.lit (.bool true), .lit (.bool true), .lit (.bool false), .lit (.int .i64 12), .lit (.int .i64 1)], .agg [.lit (.bool true), .lit (.bool true), .lit (.bool false), .lit (.int .i64 6), .lit (.int .i64 1)], .agg [.lit (.bool true), .lit (.bool false), .lit (.bool false), .lit (.int .i64 32), .lit (.int .i64 4096)], .agg [.lit (.bool false), .lit (.bool true), .lit (.bool true), .lit (.int .i64 12), .lit (.int .i64 1)], .agg [.lit (.bool false), .lit (.bool true), .lit (.bool true), .lit (.int .i64 13), .lit (.int .i64 2)], .agg [.lit (.bool true), .lit (.bool false), .lit (.bool false), .lit (.int .i64 21), .lit (.int .i64 2)], .agg [.lit (.bool false), .lit (.bool false), .lit (.bool false), .lit (.int .i64 0), .lit (.int .i64 0)]]
def laid_sacristy_insn_rows {H : Type} : DataW H := .agg [.agg [.lit (.int .u8 0), .lit (.int .u8 0), .lit (.int .u8 0), .lit (.int .u8 0)], .agg [.lit (.int .u8 51), .lit (.int .u8 0), .lit (.int .u8 0), .lit (.int .u8 1)], .agg [.lit (.int .u8 51), .lit (.int .u8 0), .lit (.int .u8 32), .lit (.int .u8 1)], .agg [.lit (.int .u8 51), .lit (.int .u8 1), .lit (.int .u8 0), .lit (.int .u8 1)], .agg [.lit (.int .u8 51), .lit (.int .u8 2), .lit (.int .u8 0), .lit (.int .u8 1)], .agg [.lit (.int .u8 51), .lit (.int .u8 3), .lit (.int .u8 0), .lit (.int .u8 1)], .agg [.lit (.int .u8 51), .lit (.int .u8 4), .lit (.int .u8 0), .lit (.int .u8 1)], .agg [.lit (.int .u8 51), .lit (.int .u8 5), .lit (.int .u8 0), .lit (.int .u8 1)], .agg [.lit (.int .u8 51), .lit (.int .u8 5), .lit (.int .u8 32), .lit (.int .u8 1)], .agg [.lit (.int .u8 51), .lit (.int .u8 6), .lit (.int .u8 0), .lit (.int .u8 1)], .agg [.lit (.int .u8 51), .lit (.int .u8 7), .lit (.int .u8 0), .lit (.int .u8 1)], .agg [.lit (.int .u8 51), .lit (.int .u8 0), .lit (.int .u8 1), .lit (.int .u8 1)], .agg [.lit (.int .u8 51), .lit (.int .u8 3), .lit (.int .u8 1), .lit (.int .u8 1)], .agg [.lit (.int .u8 51), .lit (.int .u8 5), .lit (.int .u8 1), .lit (.int .u8 1)], .agg [.lit (.int .u8 51), .lit (.int .u8 7), .lit (.int .u8 1), .lit (.int .u8 1)], .agg [.lit (.int .u8 19), .lit (.int .u8 0), .lit (.int .u8 0), .lit (.int .u8 2)], .agg [.lit (.int .u8 19), .lit (.int .u8 3), .lit (.int .u8 0), .lit (.int .u8 2)], .agg [.lit (.int .u8 19), .lit (.int .u8 4), .lit (.int .u8 0), .lit (.int .u8 2)], .agg [.lit (.int .u8 19), .lit (.int .u8 6), .lit (.int .u8 0), .lit (.int .u8 2)], .agg [.lit (.int .u8 19), .lit (.int .u8 7), .lit (.int .u8 0), .lit (.int .u8 2)], .agg [.lit (.int .u8 19), .lit (.int .u8 1), .lit (.int .u8 0), .lit (.int .u8 3)], .agg [.lit (.int .u8 19), .lit (.int .u8 5), .lit (.int .u8 0), .lit (.int .u8 3)], .agg [.lit (.int .u8 19), .lit (.int .u8 5), .lit (.int .u8 32), .lit (.int .u8 3)], .agg [.lit (.int .u8 55), .lit (.int .u8 0), .lit (.int .u8 0), .lit (.int .u8 4)], .agg [.lit (.int .u8 3), .lit (.int .u8 4), .lit (.int .u8 0), .lit (.int .u8 2)], .agg [.lit (.int .u8 3), .lit (.int .u8 3), .lit (.int .u8 0), .lit (.int .u8 2)], .agg [.lit (.int .u8 35), .lit (.int .u8 0), .lit (.int .u8 0), .lit (.int .u8 5)], .agg [.lit (.int .u8 35), .lit (.int .u8 3), .lit (.int .u8 0), .lit (.int .u8 5)], .agg [.lit (.int .u8 99), .lit (.int .u8 0), .lit (.int .u8 0), .lit (.int .u8 6)], .agg [.lit (.int .u8 99), .lit (.int .u8 1), .lit (.int .u8 0), .lit (.int .u8 6)], .agg [.lit (.int .u8 99), .lit (.int .u8 6), .lit (.int .u8 0), .lit (.int .u8 6)], .agg [.lit (.int .u8 99), .lit (.int .u8 7), .lit (.int .u8 0), .lit (.int .u8 6)], .agg [.lit (.int .u8 111), .lit (.int .u8 0), .lit (.int .u8 0), .lit (.int .u8 7)], .agg [.lit (.int .u8 103), .lit (.int .u8 0), .lit (.int .u8 0), .lit (.int .u8 2)], .agg [.lit (.int .u8 115), .lit (.int .u8 0), .lit (.int .u8 0), .lit (.int .u8 8)]]
def laid_sacristy_disas_shapes {H : Type} : DataW H := .agg [.agg [.lit (.bool false), .lit (.bool false), .lit (.bool false), .lit (.bool false)], .agg [.lit (.bool true), .lit (.bool true), .lit (.bool true), .lit (.bool false)], .agg [.lit (.bool true), .lit (.bool true), .lit (.bool false), .lit (.bool true)], .agg [.lit (.bool true), .lit (.bool true), .lit (.bool false), .lit (.bool true)], .agg [.lit (.bool true), .lit (.bool false), .lit (.bool false), .lit (.bool true)], .agg [.lit (.bool false), .lit (.bool true), .lit (.bool true), .lit (.bool true)], .agg [.lit (.bool false), .lit (.bool true), .lit (.bool true), .lit (.bool true)], .agg [.lit (.bool true), .lit (.bool false), .lit (.bool false), .lit (.bool true)], .agg [.lit (.bool false), .lit (.bool false), .lit (.bool false), .lit (.bool false)]]

/-- 'sacristylaw05.CpuPlays': WHATEVER THE INPUT: true; the input reads as it did. -/
def cpuPlaysSpec : ChangeSpec := { name := "cpuPlays", fn := fun _ => fun
  | [d1, d2] => { results := [.lit (.bool true)], args := [d1, d2] }
  | _ => none }
def cpuPlaysRow : OpenClaim := { program := "ytfaacmcnefbgcaagreatdoor", sum := "d0a1a3ad944b75d58df60fb0d8f89ae8a791b2a8a0ad4cec28fb41ca6e5c84c5", func := "sacristy/sacristylaw05.CpuPlays", spec := "cpuPlays", unfollowed := true, recurses := true, named := ["sacristy/disas.shapes", "sacristy/insn.rows", "sacristy/insn.shapes"], apart := false, laid := [("sacristy/insn.shapes", laid_sacristy_insn_shapes), ("sacristy/insn.rows", laid_sacristy_insn_rows), ("sacristy/disas.shapes", laid_sacristy_disas_shapes)] }
def CpuPlaysSaid : Prop := cpuPlaysRow.holds Tryz.pinned (OpenSpec.ofChange cpuPlaysSpec)

/-- ITS FALSE NEIGHBOUR: 'it returns false'. Refute it at one input. -/
def cpuPlaysWrong : ChangeSpec := { name := "cpuPlays", fn := fun _ => fun
  | [d1, d2] => { results := [.lit (.bool false)], args := [d1, d2] }
  | _ => none }
def CpuPlaysWrongFalsely : Prop := cpuPlaysRow.holds Tryz.pinned (OpenSpec.ofChange cpuPlaysWrong)

/- THE SECOND FORM. 'bulk': how many values and letters a reading holds, each counted each time it is reached (what is shared counts as often as it is met; a slice's spare places count too). A statement '..UptoSaid' is the law's where the arguments, and the package variables that the reading takes, are together of bulk at most 1048576: NARROWER than '..Said'. Prove '..Said' where nothing that the law and all that it calls make is longer than what came in: it says more and counts as full. Else prove '..UptoSaid'. A law counts once. -/
mutual
def uptoBulk {H : Type} : DataW H → Nat
  | .lit (.string bytes) => bytes.length + 1
  | .lit _ => 1
  | .nil => 1
  | .ptr d => uptoBulk d + 1
  | .slice elems spare => uptoBulkAll elems + uptoBulkAll spare + 1
  | .agg parts => uptoBulkAll parts + 1
  | .iface _ d => uptoBulk d + 1
  | .map entries => uptoBulkEntries entries + 1
  | .held _ => 1
def uptoBulkAll {H : Type} : List (DataW H) → Nat
  | [] => 0
  | d :: r => uptoBulk d + uptoBulkAll r
def uptoBulkEntries {H : Type} : List (Lit × DataW H) → Nat
  | [] => 0
  | x :: r => uptoBulkEntry x + uptoBulkEntries r
def uptoBulkEntry {H : Type} : Lit × DataW H → Nat
  | (.string bytes, d) => bytes.length + uptoBulk d + 1
  | (_, d) => uptoBulk d + 1
 end
def uptoSmall : (H : Type) → List (DataW H) → Bool := fun _ ds => decide (uptoBulkAll ds ≤ 1048576)
def OpenSpec.upto (s : _root_.Go.ChangeSpec) : _root_.Go.OpenSpec := { _root_.Go.OpenSpec.ofChange s with cond := some uptoSmall }

/-- 'sacristylaw05.CpuPlays', WHERE WHAT IT READS IS OF BULK AT MOST 1048576: true; the input reads as it did. -/
def cpuPlaysUptoRow : OpenClaim := { program := "ytfaacmcnefbgcaagreatdoor", sum := "d0a1a3ad944b75d58df60fb0d8f89ae8a791b2a8a0ad4cec28fb41ca6e5c84c5", func := "sacristy/sacristylaw05.CpuPlays", spec := "cpuPlays", unfollowed := true, recurses := true, named := ["sacristy/disas.shapes", "sacristy/insn.rows", "sacristy/insn.shapes"], apart := false, laid := [("sacristy/insn.shapes", laid_sacristy_insn_shapes), ("sacristy/insn.rows", laid_sacristy_insn_rows), ("sacristy/disas.shapes", laid_sacristy_disas_shapes)], narrowed := true }
def CpuPlaysUptoSaid : Prop := cpuPlaysUptoRow.holds Tryz.pinned (OpenSpec.upto cpuPlaysSpec)

end Rows
end Go.Proofs.YtfaacmcnefbgcaaGreatDoor
