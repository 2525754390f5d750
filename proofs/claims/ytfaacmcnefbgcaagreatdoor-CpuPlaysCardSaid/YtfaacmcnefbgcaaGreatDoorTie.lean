/-
  DERIVED. GIVEN WITH THE SEED: THE PROGRAM's TIES (one call each: nine closed facts by the kernel) AND EACH ROW's TIE, after the 31st guide's Derived/Test/Toyas{Tie, Card}.lean. No idea stands in it: it is a product of the set-up. Laid BY PROGRAM, IN A SANDBOX (cutbox-door.mjs). By AI agents, Wed Nov 11 2026. No macro, syntax, notation, axiom, sorry.
-/
import Derived.Test.YtfaacmcnefbgcaaGreatDoorRows
import Derived.LaidByTextLater
import Derived.SevenTiedAt
import Derived.LaidSub
import Derived.LaidOnce
namespace Go.Proofs.YtfaacmcnefbgcaaGreatDoor
open Go
set_option maxRecDepth 100000
theorem seatTie1 : Tryz.prog.laidByTextLater [("sacristy/insn.shapes", Rows.laid_sacristy_insn_shapes), ("sacristy/insn.rows", Rows.laid_sacristy_insn_rows), ("sacristy/disas.shapes", Rows.laid_sacristy_disas_shapes)] [.data, .data, .data] true :=
  Program.laidByTextLater_by_one 75 8 141 (by kernel_rfl) (by kernel_rfl) (by kernel_rfl) (by kernel_rfl) (by kernel_rfl) (by kernel_rfl) (fun _ _ => by kernel_rfl)
theorem noOwnUnsafe : Tryz.pinned.checked.prog.headLifts.contains "ownunsafe" = false := by kernel_rfl
theorem tie : Tryz.prog.laidByTextLater [("sacristy/insn.shapes", Rows.laid_sacristy_insn_shapes), ("sacristy/insn.rows", Rows.laid_sacristy_insn_rows), ("sacristy/disas.shapes", Rows.laid_sacristy_disas_shapes)] [.data, .data, .data] true :=
  Program.laidByTextLater.sub seatTie1 ["sacristy/insn.shapes", "sacristy/insn.rows", "sacristy/disas.shapes"] (by kernel_rfl) (by kernel_rfl)
theorem cpuPlays_row_tie : Rows.cpuPlaysRow.laidByTextAt .later Tryz.pinned [.data, .data, .data] true :=
  OpenClaim.laidByTextAt_later rfl rfl tie noOwnUnsafe
theorem cpuPlaysUpto_row_tie : Rows.cpuPlaysUptoRow.laidByTextAt .later Tryz.pinned [.data, .data, .data] true :=
  OpenClaim.laidByTextAt_later rfl rfl tie noOwnUnsafe
end Go.Proofs.YtfaacmcnefbgcaaGreatDoor
