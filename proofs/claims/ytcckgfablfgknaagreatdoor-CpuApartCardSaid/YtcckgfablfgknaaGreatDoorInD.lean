/- Contracts of insn.takes and what it calls: by the laid table of forms. -/
import Derived.Test.YtcckgfablfgknaaGreatDoorQa
import Derived.Test.YtcckgfablfgknaaGreatDoorInA
import Derived.Test.YtcckgfablfgknaaGreatDoorQb
import Derived.Test.YtcckgfablfgknaaGreatDoorLay
namespace Go.Proofs.YtcckgfablfgknaaGreatDoor
open Go.ChangeShapes Go.WideShapes Go.ChangeAt Go.RowKit
set_option linter.unusedVariables false
/-- What the laid table of forms reads as. -/
def ShapesOk (w : World) : Prop := ∀ f < 9, w.cell? ⟨1, f * 5, none⟩ = some (.bool (rdT f)) ∧ w.cell? ⟨1, f * 5 + 1, none⟩ = some (.bool (rs1T f)) ∧ w.cell? ⟨1, f * 5 + 2, none⟩ = some (.bool (rs2T f)) ∧ w.cell? ⟨1, f * 5 + 3, none⟩ = some (.int .i64 (bitsT f : Nat)) ∧ w.cell? ⟨1, f * 5 + 4, none⟩ = some (.int .i64 (stepT f : Nat))
/-- What the laid table of rows reads as. -/
def RowsOk (w : World) : Prop := ∀ k < 35, w.cell? ⟨0, k * 4, none⟩ = some (.int .u8 (codeT k : Nat)) ∧ w.cell? ⟨0, k * 4 + 1, none⟩ = some (.int .u8 (f3T k : Nat)) ∧ w.cell? ⟨0, k * 4 + 2, none⟩ = some (.int .u8 (f7T k : Nat)) ∧ w.cell? ⟨0, k * 4 + 3, none⟩ = some (.int .u8 (formT k : Nat))
theorem ShapesOk.of {w w' : World} (h : ShapesOk w) (hb : Below w.heap.size w w') : ShapesOk w' := fun f hf => by
  obtain ⟨a, b, c, d, e⟩ := h f hf
  have t : ∀ {p : Addr} {v : Value}, w.cell? p = some v → w'.cell? p = some v := fun h => (hb.cell (World.block_lt_of_cell? w _ h)).trans h
  exact ⟨t a, t b, t c, t d, t e⟩
theorem RowsOk.of {w w' : World} (h : RowsOk w) (hb : Below w.heap.size w w') : RowsOk w' := fun f hf => by
  obtain ⟨a, b, c, d⟩ := h f hf
  have t : ∀ {p : Addr} {v : Value}, w.cell? p = some v → w'.cell? p = some v := fun h => (hb.cell (World.block_lt_of_cell? w _ h)).trans h
  exact ⟨t a, t b, t c, t d⟩
theorem gRows : Tryz.prog.globalNamed "sacristy/insn.rows" = some 0 := by kernel_rfl
theorem gShapes : Tryz.prog.globalNamed "sacristy/insn.shapes" = some 1 := by kernel_rfl
theorem tRows : (Tryz.prog.globals[0]?).map (·.type) = some 134 := by kernel_rfl
theorem tShapes : (Tryz.prog.globals[1]?).map (·.type) = some 166 := by kernel_rfl
def rowsL : List (Nat × Value) := (List.range 35).flatMap fun k => [(k * 4, .int .u8 (codeT k : Nat)), (k * 4 + 1, .int .u8 (f3T k : Nat)), (k * 4 + 2, .int .u8 (f7T k : Nat)), (k * 4 + 3, .int .u8 (formT k : Nat))]
def shapesL : List (Nat × Value) := (List.range 9).flatMap fun f => [(f * 5, .bool (rdT f)), (f * 5 + 1, .bool (rs1T f)), (f * 5 + 2, .bool (rs2T f)), (f * 5 + 3, .int .i64 (bitsT f : Nat)), (f * 5 + 4, .int .i64 (stepT f : Nat))]
theorem lRows : leaves Tryz.prog 5 134 0 Rows.laid_sacristy_insn_rows = some rowsL := by kernel_rfl
theorem lShapes : leaves Tryz.prog 5 166 0 Rows.laid_sacristy_insn_shapes = some shapesL := by kernel_rfl
def laidAll : List (String × DataW Unit) := [("sacristy/insn.shapes", Rows.laid_sacristy_insn_shapes), ("sacristy/insn.rows", Rows.laid_sacristy_insn_rows), ("sacristy/disas.shapes", Rows.laid_sacristy_disas_shapes)]
theorem laidPlain : (laidAll.filter fun x => x.2.handleName?.isSome) = [] := by kernel_rfl
theorem rows_of_laid {W : World} (h : laidMetH Tryz.prog laidAll W) : RowsOk W := fun k hk => by
  have hl := laid_leaves h laidPlain "sacristy/insn.rows" Rows.laid_sacristy_insn_rows 0 134 5 rowsL (List.Mem.tail _ (List.Mem.head _)) gRows tRows lRows
  have hm : ∀ x ∈ ([(k * 4, .int .u8 (codeT k : Nat)), (k * 4 + 1, .int .u8 (f3T k : Nat)), (k * 4 + 2, .int .u8 (f7T k : Nat)), (k * 4 + 3, .int .u8 (formT k : Nat))] : List (Nat × Value)), x ∈ rowsL := fun x hx => List.mem_flatMap.2 ⟨k, List.mem_range.2 hk, hx⟩
  exact ⟨hl _ (hm _ (List.Mem.head _)), hl _ (hm _ (List.Mem.tail _ (List.Mem.head _))), hl _ (hm _ (List.Mem.tail _ (List.Mem.tail _ (List.Mem.head _)))), hl _ (hm _ (List.Mem.tail _ (List.Mem.tail _ (List.Mem.tail _ (List.Mem.head _)))))⟩
theorem shapes_of_laid {W : World} (h : laidMetH Tryz.prog laidAll W) : ShapesOk W := fun k hk => by
  have hl := laid_leaves h laidPlain "sacristy/insn.shapes" Rows.laid_sacristy_insn_shapes 1 166 5 shapesL (List.Mem.head _) gShapes tShapes lShapes
  have hm : ∀ x ∈ ([(k * 5, .bool (rdT k)), (k * 5 + 1, .bool (rs1T k)), (k * 5 + 2, .bool (rs2T k)), (k * 5 + 3, .int .i64 (bitsT k : Nat)), (k * 5 + 4, .int .i64 (stepT k : Nat))] : List (Nat × Value)), x ∈ shapesL := fun x hx => List.mem_flatMap.2 ⟨k, List.mem_range.2 hk, hx⟩
  exact ⟨hl _ (hm _ (List.Mem.head _)), hl _ (hm _ (List.Mem.tail _ (List.Mem.head _))), hl _ (hm _ (List.Mem.tail _ (List.Mem.tail _ (List.Mem.head _)))), hl _ (hm _ (List.Mem.tail _ (List.Mem.tail _ (List.Mem.tail _ (List.Mem.head _))))), hl _ (hm _ (List.Mem.tail _ (List.Mem.tail _ (List.Mem.tail _ (List.Mem.tail _ (List.Mem.head _))))))⟩
/-- word.Fits in plain numbers. -/
theorem fit_val (v : Int) (h0 : -9223372036854775808 ≤ v) (h1 : v < 9223372036854775808) (n : Nat) (hn : n = 12 ∨ n = 13 ∨ n = 21 ∨ n = 32) :
    decide (signv (v % 18446744073709551616).toNat n = (v % 18446744073709551616).toNat) = fitB v n := by
  obtain ⟨u, hu⟩ : ∃ u : Nat, (u : Int) = v % 18446744073709551616 := ⟨(v % 18446744073709551616).toNat, by omega⟩
  rw [← hu, Int.toNat_natCast, Bool.eq_iff_iff, decide_eq_true_eq]
  rcases hn with rfl | rfl | rfl | rfl
  · rw [fit12, signv_val u 12 (by omega) (by omega), show 2 ^ 12 = 4096 from rfl, show 2 ^ (12 - 1) = 2048 from rfl]; split <;> omega
  · rw [fit13, signv_val u 13 (by omega) (by omega), show 2 ^ 13 = 8192 from rfl, show 2 ^ (13 - 1) = 4096 from rfl]; split <;> omega
  · rw [fit21, signv_val u 21 (by omega) (by omega), show 2 ^ 21 = 2097152 from rfl, show 2 ^ (21 - 1) = 1048576 from rfl]; split <;> omega
  · rw [fit32, signv_val u 32 (by omega) (by omega), show 2 ^ 32 = 4294967296 from rfl, show 2 ^ (32 - 1) = 2147483648 from rfl]; split <;> omega
theorem fits_int (v : Int) (n : Nat) (h0 : -9223372036854775808 ≤ v) (h1 : v < 9223372036854775808) (hn : n = 12 ∨ n = 13 ∨ n = 21 ∨ n = 32) (w : World) :
    Calls Tryz.prog 145 #[.int .i64 v, .int .i64 n] w fun e w' => e = .returned (.bool (fitB v n)) ∧ w = w' := by
  have h := fits_any (v % 18446744073709551616).toNat n (by omega) (by omega) (by omega) w
  have e : wrap64 (((v % 18446744073709551616).toNat : Nat) : Int) = v := by unfold wrap64; omega
  rw [e, fit_val v h0 h1 n hn] at h
  exact h
theorem fillsReg_any (b : Bool) (r : Nat) (hr : r < 256) (w : World) :
    Calls Tryz.prog 111 #[.bool b, .int .u8 r] w fun e w' => e = .returned (.bool (regB b r)) ∧ w = w' := by
  cases b
  · go_enter Tryz.func111, Tryz.ntmps111
    go_wp2
    go_ret
    exact ⟨ret_bool (by unfold regB; rw [Bool.eq_iff_iff]; simp), rfl⟩
  · go_enter Tryz.func111, Tryz.ntmps111
    go_wp2
    go_ret
    exact ⟨ret_bool (by unfold regB; rw [Bool.eq_iff_iff]; simp; omega), rfl⟩
end Go.Proofs.YtcckgfablfgknaaGreatDoor
