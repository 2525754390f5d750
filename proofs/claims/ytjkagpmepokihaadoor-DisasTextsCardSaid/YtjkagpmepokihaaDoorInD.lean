/- Contracts of insn.takes and what it calls: by the laid table of forms. -/
import Derived.Test.YtjkagpmepokihaaDoorInS
import Derived.Test.YtjkagpmepokihaaDoorInA
import Derived.Test.YtjkagpmepokihaaDoorPl3
import Derived.Test.YtjkagpmepokihaaDoorLay
namespace Go.Proofs.YtjkagpmepokihaaDoor
open Go.ChangeShapes Go.WideShapes Go.ChangeAt Go.RowKit
set_option linter.unusedVariables false
/-- What the laid table of forms reads as. -/
def ShapesOk (w : World) : Prop := ∀ f < 9, w.cell? ⟨3, f * 5, none⟩ = some (.bool (rdT f)) ∧ w.cell? ⟨3, f * 5 + 1, none⟩ = some (.bool (rs1T f)) ∧ w.cell? ⟨3, f * 5 + 2, none⟩ = some (.bool (rs2T f)) ∧ w.cell? ⟨3, f * 5 + 3, none⟩ = some (.int .i64 (bitsT f : Nat)) ∧ w.cell? ⟨3, f * 5 + 4, none⟩ = some (.int .i64 (stepT f : Nat))
/-- What the laid table of rows reads as. -/
def RowsOk (w : World) : Prop := ∀ k < 35, w.cell? ⟨2, k * 4, none⟩ = some (.int .u8 (codeT k : Nat)) ∧ w.cell? ⟨2, k * 4 + 1, none⟩ = some (.int .u8 (f3T k : Nat)) ∧ w.cell? ⟨2, k * 4 + 2, none⟩ = some (.int .u8 (f7T k : Nat)) ∧ w.cell? ⟨2, k * 4 + 3, none⟩ = some (.int .u8 (formT k : Nat))
theorem ShapesOk.of {w w' : World} (h : ShapesOk w) (hb : Below w.heap.size w w') : ShapesOk w' := fun f hf => by
  obtain ⟨a, b, c, d, e⟩ := h f hf
  have t : ∀ {p : Addr} {v : Value}, w.cell? p = some v → w'.cell? p = some v := fun h => (hb.cell (World.block_lt_of_cell? w _ h)).trans h
  exact ⟨t a, t b, t c, t d, t e⟩
theorem RowsOk.of {w w' : World} (h : RowsOk w) (hb : Below w.heap.size w w') : RowsOk w' := fun f hf => by
  obtain ⟨a, b, c, d⟩ := h f hf
  have t : ∀ {p : Addr} {v : Value}, w.cell? p = some v → w'.cell? p = some v := fun h => (hb.cell (World.block_lt_of_cell? w _ h)).trans h
  exact ⟨t a, t b, t c, t d⟩
theorem gRows : Tryd.prog.globalNamed "sacristy/insn.rows" = some 2 := by kernel_rfl
theorem gShapes : Tryd.prog.globalNamed "sacristy/insn.shapes" = some 3 := by kernel_rfl
theorem tRows : (Tryd.prog.globals[2]?).map (·.type) = some 64 := by kernel_rfl
theorem tShapes : (Tryd.prog.globals[3]?).map (·.type) = some 80 := by kernel_rfl
def rowsL : List (Nat × Value) := (List.range 35).flatMap fun k => [(k * 4, .int .u8 (codeT k : Nat)), (k * 4 + 1, .int .u8 (f3T k : Nat)), (k * 4 + 2, .int .u8 (f7T k : Nat)), (k * 4 + 3, .int .u8 (formT k : Nat))]
def shapesL : List (Nat × Value) := (List.range 9).flatMap fun f => [(f * 5, .bool (rdT f)), (f * 5 + 1, .bool (rs1T f)), (f * 5 + 2, .bool (rs2T f)), (f * 5 + 3, .int .i64 (bitsT f : Nat)), (f * 5 + 4, .int .i64 (stepT f : Nat))]
theorem lRows : leaves Tryd.prog 5 64 0 Rows.laid_sacristy_insn_rows = some rowsL := by kernel_rfl
theorem lShapes : leaves Tryd.prog 5 80 0 Rows.laid_sacristy_insn_shapes = some shapesL := by kernel_rfl
def laidAll : List (String × DataW Unit) := [("math/bits.deBruijn32tab", Rows.laid_math_bits_deBruijn32tab), ("math/bits.deBruijn64tab", Rows.laid_math_bits_deBruijn64tab), ("internal/strconv.uint64pow10", Rows.laid_internal_strconv_uint64pow10), ("sacristy/insn.shapes", Rows.laid_sacristy_insn_shapes), ("sacristy/insn.rows", Rows.laid_sacristy_insn_rows), ("sacristy/disas.shapes", Rows.laid_sacristy_disas_shapes), ("sacristy/disas.names", Rows.laid_sacristy_disas_names)]
theorem laidPlain : (laidAll.filter fun x => x.2.handleName?.isSome) = [] := by kernel_rfl
theorem rows_of_laid {W : World} (h : laidMetH Tryd.prog laidAll W) : RowsOk W := fun k hk => by
  have hl := laid_leaves h laidPlain "sacristy/insn.rows" Rows.laid_sacristy_insn_rows 2 64 5 rowsL (List.Mem.tail _ (List.Mem.tail _ (List.Mem.tail _ (List.Mem.tail _ (List.Mem.head _))))) gRows tRows lRows
  have hm : ∀ x ∈ ([(k * 4, .int .u8 (codeT k : Nat)), (k * 4 + 1, .int .u8 (f3T k : Nat)), (k * 4 + 2, .int .u8 (f7T k : Nat)), (k * 4 + 3, .int .u8 (formT k : Nat))] : List (Nat × Value)), x ∈ rowsL := fun x hx => List.mem_flatMap.2 ⟨k, List.mem_range.2 hk, hx⟩
  exact ⟨hl _ (hm _ (List.Mem.head _)), hl _ (hm _ (List.Mem.tail _ (List.Mem.head _))), hl _ (hm _ (List.Mem.tail _ (List.Mem.tail _ (List.Mem.head _)))), hl _ (hm _ (List.Mem.tail _ (List.Mem.tail _ (List.Mem.tail _ (List.Mem.head _)))))⟩
theorem shapes_of_laid {W : World} (h : laidMetH Tryd.prog laidAll W) : ShapesOk W := fun k hk => by
  have hl := laid_leaves h laidPlain "sacristy/insn.shapes" Rows.laid_sacristy_insn_shapes 3 80 5 shapesL (List.Mem.tail _ (List.Mem.tail _ (List.Mem.tail _ (List.Mem.head _)))) gShapes tShapes lShapes
  have hm : ∀ x ∈ ([(k * 5, .bool (rdT k)), (k * 5 + 1, .bool (rs1T k)), (k * 5 + 2, .bool (rs2T k)), (k * 5 + 3, .int .i64 (bitsT k : Nat)), (k * 5 + 4, .int .i64 (stepT k : Nat))] : List (Nat × Value)), x ∈ shapesL := fun x hx => List.mem_flatMap.2 ⟨k, List.mem_range.2 hk, hx⟩
  exact ⟨hl _ (hm _ (List.Mem.head _)), hl _ (hm _ (List.Mem.tail _ (List.Mem.head _))), hl _ (hm _ (List.Mem.tail _ (List.Mem.tail _ (List.Mem.head _)))), hl _ (hm _ (List.Mem.tail _ (List.Mem.tail _ (List.Mem.tail _ (List.Mem.head _))))), hl _ (hm _ (List.Mem.tail _ (List.Mem.tail _ (List.Mem.tail _ (List.Mem.tail _ (List.Mem.head _))))))⟩
/-- word.Fits in plain numbers. -/
theorem fit_val (v : Int) (h0 : -9223372036854775808 ≤ v) (h1 : v < 9223372036854775808) (n : Nat) (hn : n = 12 ∨ n = 13 ∨ n = 21 ∨ n = 32) :
    decide (signv (v % 18446744073709551616).toNat n = (v % 18446744073709551616).toNat) = fitB v n := by
  obtain ⟨u, hu⟩ : ∃ u : Nat, (u : Int) = v % 18446744073709551616 := ⟨(v % 18446744073709551616).toNat, by omega⟩
  rw [← hu, Int.toNat_natCast, Bool.eq_iff_iff, decide_eq_true_eq]
  rcases hn with rfl | rfl | rfl | rfl
  · rw [fit12, signv_val u 12 (by omega) (by omega), show 2 ^ 12 = 4096 from rfl, show 2 ^ (12 - 1) = 2048 from rfl]; split <;> omega
  · rw [fit13, signv_val u 13 (by omega) (by omega), show 2 ^ 13 = 8192 from rfl, show 2 ^ (13 - 1) = 4096 from rfl]; split <;> omega
  · rw [fit21, signv_val u 21 (by omega) (by omega), show 2 ^ 21 = 2097152 from rfl, show 2 ^ (21 - 1) = 1048576 from rfl]; split <;> omega
  · rw [fit32, signv_val u 32 (by omega) (by omega), show 2 ^ 32 = 4294967296 from rfl, show 2 ^ (32 - 1) = 2147483648 from rfl]; split <;> omega
theorem fits_int (v : Int) (n : Nat) (h0 : -9223372036854775808 ≤ v) (h1 : v < 9223372036854775808) (hn : n = 12 ∨ n = 13 ∨ n = 21 ∨ n = 32) (w : World) :
    Calls Tryd.prog 56 #[.int .i64 v, .int .i64 n] w fun e w' => e = .returned (.bool (fitB v n)) ∧ w = w' := by
  have h := fits_any (v % 18446744073709551616).toNat n (by omega) (by omega) (by omega) w
  have e : wrap64 (((v % 18446744073709551616).toNat : Nat) : Int) = v := by unfold wrap64; omega
  rw [e, fit_val v h0 h1 n hn] at h
  exact h
theorem fillsReg_any (b : Bool) (r : Nat) (hr : r < 256) (w : World) :
    Calls Tryd.prog 41 #[.bool b, .int .u8 r] w fun e w' => e = .returned (.bool (regB b r)) ∧ w = w' := by
  cases b
  · go_enter Tryd.func41, Tryd.ntmps41
    go_wp2
    go_ret
    exact ⟨ret_bool (by unfold regB; rw [Bool.eq_iff_iff]; simp), rfl⟩
  · go_enter Tryd.func41, Tryd.ntmps41
    go_wp2
    go_ret
    exact ⟨ret_bool (by unfold regB; rw [Bool.eq_iff_iff]; simp; omega), rfl⟩
end Go.Proofs.YtjkagpmepokihaaDoor
