/- Contracts of insn.takes and what it calls: by the laid table of forms. -/
import Derived.Test.YtfaacmcnefbgcaaGreatDoorJa
import Derived.Test.YtfaacmcnefbgcaaGreatDoorLay
import Derived.Lib.Hide
namespace Go.Proofs.YtfaacmcnefbgcaaGreatDoor
open Go.ChangeShapes Go.WideShapes Go.ChangeAt Go.RowKit
set_option linter.unusedVariables false
/-- What the laid table of forms reads as. -/
def ShapesOk (w : World) : Prop := ∀ f < 9, w.cell? ⟨2, f * 5, none⟩ = some (.bool (rdT f)) ∧ w.cell? ⟨2, f * 5 + 1, none⟩ = some (.bool (rs1T f)) ∧ w.cell? ⟨2, f * 5 + 2, none⟩ = some (.bool (rs2T f)) ∧ w.cell? ⟨2, f * 5 + 3, none⟩ = some (.int .i64 (bitsT f : Nat)) ∧ w.cell? ⟨2, f * 5 + 4, none⟩ = some (.int .i64 (stepT f : Nat))
/-- What the laid table of rows reads as. -/
def RowsOk (w : World) : Prop := ∀ k < 35, w.cell? ⟨0, k * 4, none⟩ = some (.int .u8 (codeT k : Nat)) ∧ w.cell? ⟨0, k * 4 + 1, none⟩ = some (.int .u8 (f3T k : Nat)) ∧ w.cell? ⟨0, k * 4 + 2, none⟩ = some (.int .u8 (f7T k : Nat)) ∧ w.cell? ⟨0, k * 4 + 3, none⟩ = some (.int .u8 (formT k : Nat))
theorem ShapesOk.of {w w' : World} (h : ShapesOk w) (hb : Below w.heap.size w w') : ShapesOk w' := fun f hf => by
  obtain ⟨a, b, c, d, e⟩ := h f hf
  have t : ∀ {p : Addr} {v : Value}, w.cell? p = some v → w'.cell? p = some v := fun h => (hb.cell (World.block_lt_of_cell? w _ h)).trans h
  exact ⟨t a, t b, t c, t d, t e⟩
theorem RowsOk.of {w w' : World} (h : RowsOk w) (hb : Below w.heap.size w w') : RowsOk w' := fun f hf => by
  obtain ⟨a, b, c, d⟩ := h f hf
  have t : ∀ {p : Addr} {v : Value}, w.cell? p = some v → w'.cell? p = some v := fun h => (hb.cell (World.block_lt_of_cell? w _ h)).trans h
  exact ⟨t a, t b, t c, t d⟩
theorem gRows : Tryz.prog.globalNamed "sacristy/insn.rows" = some 0 := by kernel_rfl
theorem gShapes : Tryz.prog.globalNamed "sacristy/insn.shapes" = some 2 := by kernel_rfl
theorem tRows : (Tryz.prog.globals[0]?).map (·.type) = some 173 := by kernel_rfl
theorem tShapes : (Tryz.prog.globals[2]?).map (·.type) = some 188 := by kernel_rfl
def rowsL : List (Nat × Value) := (List.range 35).flatMap fun k => [(k * 4, .int .u8 (codeT k : Nat)), (k * 4 + 1, .int .u8 (f3T k : Nat)), (k * 4 + 2, .int .u8 (f7T k : Nat)), (k * 4 + 3, .int .u8 (formT k : Nat))]
def shapesL : List (Nat × Value) := (List.range 9).flatMap fun f => [(f * 5, .bool (rdT f)), (f * 5 + 1, .bool (rs1T f)), (f * 5 + 2, .bool (rs2T f)), (f * 5 + 3, .int .i64 (bitsT f : Nat)), (f * 5 + 4, .int .i64 (stepT f : Nat))]
theorem lRows : leaves Tryz.prog 5 173 0 Rows.laid_sacristy_insn_rows = some rowsL := by kernel_rfl
theorem lShapes : leaves Tryz.prog 5 188 0 Rows.laid_sacristy_insn_shapes = some shapesL := by kernel_rfl
def laidAll : List (String × DataW Unit) := [("sacristy/insn.shapes", Rows.laid_sacristy_insn_shapes), ("sacristy/insn.rows", Rows.laid_sacristy_insn_rows), ("sacristy/disas.shapes", Rows.laid_sacristy_disas_shapes)]
theorem laidPlain : (laidAll.filter fun x => x.2.handleName?.isSome) = [] := by kernel_rfl
theorem rows_of_laid {W : World} (h : laidMetH Tryz.prog laidAll W) : RowsOk W := fun k hk => by
  have hl := laid_leaves h laidPlain "sacristy/insn.rows" Rows.laid_sacristy_insn_rows 0 173 5 rowsL (List.Mem.tail _ (List.Mem.head _)) gRows tRows lRows
  have hm : ∀ x ∈ ([(k * 4, .int .u8 (codeT k : Nat)), (k * 4 + 1, .int .u8 (f3T k : Nat)), (k * 4 + 2, .int .u8 (f7T k : Nat)), (k * 4 + 3, .int .u8 (formT k : Nat))] : List (Nat × Value)), x ∈ rowsL := fun x hx => List.mem_flatMap.2 ⟨k, List.mem_range.2 hk, hx⟩
  exact ⟨hl _ (hm _ (List.Mem.head _)), hl _ (hm _ (List.Mem.tail _ (List.Mem.head _))), hl _ (hm _ (List.Mem.tail _ (List.Mem.tail _ (List.Mem.head _)))), hl _ (hm _ (List.Mem.tail _ (List.Mem.tail _ (List.Mem.tail _ (List.Mem.head _)))))⟩
theorem shapes_of_laid {W : World} (h : laidMetH Tryz.prog laidAll W) : ShapesOk W := fun k hk => by
  have hl := laid_leaves h laidPlain "sacristy/insn.shapes" Rows.laid_sacristy_insn_shapes 2 188 5 shapesL (List.Mem.head _) gShapes tShapes lShapes
  have hm : ∀ x ∈ ([(k * 5, .bool (rdT k)), (k * 5 + 1, .bool (rs1T k)), (k * 5 + 2, .bool (rs2T k)), (k * 5 + 3, .int .i64 (bitsT k : Nat)), (k * 5 + 4, .int .i64 (stepT k : Nat))] : List (Nat × Value)), x ∈ shapesL := fun x hx => List.mem_flatMap.2 ⟨k, List.mem_range.2 hk, hx⟩
  exact ⟨hl _ (hm _ (List.Mem.head _)), hl _ (hm _ (List.Mem.tail _ (List.Mem.head _))), hl _ (hm _ (List.Mem.tail _ (List.Mem.tail _ (List.Mem.head _)))), hl _ (hm _ (List.Mem.tail _ (List.Mem.tail _ (List.Mem.tail _ (List.Mem.head _))))), hl _ (hm _ (List.Mem.tail _ (List.Mem.tail _ (List.Mem.tail _ (List.Mem.tail _ (List.Mem.head _))))))⟩
/-- word.Fits in plain numbers. -/
theorem fit_val (v : Int) (h0 : -9223372036854775808 ≤ v) (h1 : v < 9223372036854775808) (n : Nat) (hn : n = 12 ∨ n = 13 ∨ n = 21 ∨ n = 32) :
    decide (signv (v % 18446744073709551616).toNat n = (v % 18446744073709551616).toNat) = fitB v n := by
  obtain ⟨u, hu⟩ : ∃ u : Nat, (u : Int) = v % 18446744073709551616 := ⟨(v % 18446744073709551616).toNat, by omega⟩
  rw [← hu, Int.toNat_natCast, Bool.eq_iff_iff, decide_eq_true_eq]
  rcases hn with rfl | rfl | rfl | rfl
  · rw [fit12, signv_val u 12 (by omega) (by omega), show 2 ^ 12 = 4096 from rfl, show 2 ^ (12 - 1) = 2048 from rfl]; split <;> omega
  · rw [fit13, signv_val u 13 (by omega) (by omega), show 2 ^ 13 = 8192 from rfl, show 2 ^ (13 - 1) = 4096 from rfl]; split <;> omega
  · rw [fit21, signv_val u 21 (by omega) (by omega), show 2 ^ 21 = 2097152 from rfl, show 2 ^ (21 - 1) = 1048576 from rfl]; split <;> omega
  · rw [fit32, signv_val u 32 (by omega) (by omega), show 2 ^ 32 = 4294967296 from rfl, show 2 ^ (32 - 1) = 2147483648 from rfl]; split <;> omega
theorem fits_int (v : Int) (n : Nat) (h0 : -9223372036854775808 ≤ v) (h1 : v < 9223372036854775808) (hn : n = 12 ∨ n = 13 ∨ n = 21 ∨ n = 32) (w : World) :
    Calls Tryz.prog 142 #[.int .i64 v, .int .i64 n] w fun e w' => e = .returned (.bool (fitB v n)) ∧ w = w' := by
  have h := fits_any (v % 18446744073709551616).toNat n (by omega) (by omega) (by omega) w
  have e : wrap64 (((v % 18446744073709551616).toNat : Nat) : Int) = v := by unfold wrap64; omega
  rw [e, fit_val v h0 h1 n hn] at h
  exact h
theorem fillsReg_any (b : Bool) (r : Nat) (hr : r < 256) (w : World) :
    Calls Tryz.prog 129 #[.bool b, .int .u8 r] w fun e w' => e = .returned (.bool (regB b r)) ∧ w = w' := by
  cases b
  · go_enter Tryz.func129, Tryz.ntmps129
    go_wp2
    go_ret
    exact ⟨ret_bool (by unfold regB; rw [Bool.eq_iff_iff]; simp), rfl⟩
  · go_enter Tryz.func129, Tryz.ntmps129
    go_wp2
    go_ret
    exact ⟨ret_bool (by unfold regB; rw [Bool.eq_iff_iff]; simp; omega), rfl⟩
end Go.Proofs.YtfaacmcnefbgcaaGreatDoor

/- Contracts of insn.fillsImm and insn.takes. -/
namespace Go.Proofs.YtfaacmcnefbgcaaGreatDoor
open Go.ChangeShapes Go.WideShapes Go.ChangeAt Go.RowKit
set_option linter.unusedVariables false
theorem tmod_zero (v : Int) (m : Int) : (v.tmod m == 0) = decide (v % m = 0) := by
  rw [Bool.eq_iff_iff, beq_iff_eq, decide_eq_true_eq, ← Int.dvd_iff_tmod_eq_zero, Int.dvd_iff_emod_eq_zero]
theorem fits12 (v : Int) (h0 : -9223372036854775808 ≤ v) (h1 : v < 9223372036854775808) (w : World) :
    Calls Tryz.prog 142 #[.int .i64 v, .int .i64 12] w fun e w' => e = .returned (.bool (fitB v 12)) ∧ w = w' := fits_int v 12 h0 h1 (by omega) w
theorem fits13 (v : Int) (h0 : -9223372036854775808 ≤ v) (h1 : v < 9223372036854775808) (w : World) :
    Calls Tryz.prog 142 #[.int .i64 v, .int .i64 13] w fun e w' => e = .returned (.bool (fitB v 13)) ∧ w = w' := fits_int v 13 h0 h1 (by omega) w
theorem fits21 (v : Int) (h0 : -9223372036854775808 ≤ v) (h1 : v < 9223372036854775808) (w : World) :
    Calls Tryz.prog 142 #[.int .i64 v, .int .i64 21] w fun e w' => e = .returned (.bool (fitB v 21)) ∧ w = w' := fits_int v 21 h0 h1 (by omega) w
theorem fits32 (v : Int) (h0 : -9223372036854775808 ≤ v) (h1 : v < 9223372036854775808) (w : World) :
    Calls Tryz.prog 142 #[.int .i64 v, .int .i64 32] w fun e w' => e = .returned (.bool (fitB v 32)) ∧ w = w' := fits_int v 32 h0 h1 (by omega) w
set_option maxHeartbeats 800000 in
theorem fillsImm_1 (v : Int) (h0 : -9223372036854775808 ≤ v) (h1 : v < 9223372036854775808) (w : World) (hs : ShapesOk w) :
    Calls Tryz.prog 130 #[.int .u8 1, .int .i64 v] w fun e w' => e = .returned (.bool (immB 1 v)) ∧ Below w.heap.size w w' := by
  have s0 : w.cell? ⟨2, 5, none⟩ = some (.bool true) := (hs 1 (by omega)).1
  have s1 : w.cell? ⟨2, 6, none⟩ = some (.bool true) := (hs 1 (by omega)).2.1
  have s2 : w.cell? ⟨2, 7, none⟩ = some (.bool true) := (hs 1 (by omega)).2.2.1
  have s3 : w.cell? ⟨2, 8, none⟩ = some (.int .i64 0) := (hs 1 (by omega)).2.2.2.1
  have s4 : w.cell? ⟨2, 9, none⟩ = some (.int .i64 0) := (hs 1 (by omega)).2.2.2.2
  clear hs
  go_enter Tryz.func130, Tryz.ntmps130
  go_wp2
  go_ret
  exact ⟨ret_bool (by unfold immB; rw [Bool.eq_iff_iff]; simp), (Below.refl _ _).alloc (Nat.le_refl _) _⟩
set_option maxHeartbeats 800000 in
theorem fillsImm_2 (v : Int) (h0 : -9223372036854775808 ≤ v) (h1 : v < 9223372036854775808) (w : World) (hs : ShapesOk w) :
    Calls Tryz.prog 130 #[.int .u8 2, .int .i64 v] w fun e w' => e = .returned (.bool (immB 2 v)) ∧ Below w.heap.size w w' := by
  have s0 : w.cell? ⟨2, 10, none⟩ = some (.bool true) := (hs 2 (by omega)).1
  have s1 : w.cell? ⟨2, 11, none⟩ = some (.bool true) := (hs 2 (by omega)).2.1
  have s2 : w.cell? ⟨2, 12, none⟩ = some (.bool false) := (hs 2 (by omega)).2.2.1
  have s3 : w.cell? ⟨2, 13, none⟩ = some (.int .i64 12) := (hs 2 (by omega)).2.2.2.1
  have s4 : w.cell? ⟨2, 14, none⟩ = some (.int .i64 1) := (hs 2 (by omega)).2.2.2.2
  clear hs
  have hc := fits12 v h0 h1
  cases hb : fitB v 12
  · rw [hb] at hc
    have hr : immB 2 v = false := by simp [immB, hb]
    have HR := Lib.hid hr
    clear hb hr
    go_enter Tryz.func130, Tryz.ntmps130
    go_wp2_with (go_at_call 142; (with_reducible refine (hc _).mono ?_); rintro e w' ⟨rfl, rfl⟩)
    go_ret
    exact ⟨by rw [HR.out]; rfl, (Below.refl _ _).alloc (Nat.le_refl _) _⟩
  · rw [hb] at hc
    have hr : immB 2 v = true := by simp [immB, hb]
    have HR := Lib.hid hr
    clear hb hr
    go_enter Tryz.func130, Tryz.ntmps130
    go_wp2_with (go_at_call 142; (with_reducible refine (hc _).mono ?_); rintro e w' ⟨rfl, rfl⟩)
    go_ret
    first | exact ⟨by rw [HR.out]; rfl, (Below.refl _ _).alloc (Nat.le_refl _) _⟩ | exact ⟨ret_bool (by rw [HR.out]; first | exact tmod_zero v _ | simp), (Below.refl _ _).alloc (Nat.le_refl _) _⟩
set_option maxHeartbeats 800000 in
theorem fillsImm_3 (v : Int) (h0 : -9223372036854775808 ≤ v) (h1 : v < 9223372036854775808) (w : World) (hs : ShapesOk w) :
    Calls Tryz.prog 130 #[.int .u8 3, .int .i64 v] w fun e w' => e = .returned (.bool (immB 3 v)) ∧ Below w.heap.size w w' := by
  have s0 : w.cell? ⟨2, 15, none⟩ = some (.bool true) := (hs 3 (by omega)).1
  have s1 : w.cell? ⟨2, 16, none⟩ = some (.bool true) := (hs 3 (by omega)).2.1
  have s2 : w.cell? ⟨2, 17, none⟩ = some (.bool false) := (hs 3 (by omega)).2.2.1
  have s3 : w.cell? ⟨2, 18, none⟩ = some (.int .i64 6) := (hs 3 (by omega)).2.2.2.1
  have s4 : w.cell? ⟨2, 19, none⟩ = some (.int .i64 1) := (hs 3 (by omega)).2.2.2.2
  clear hs
  by_cases ha : 0 ≤ v
  · go_enter Tryz.func130, Tryz.ntmps130
    go_wp2
    go_ret
    exact ⟨ret_bool (by unfold immB; simp [ha]), (Below.refl _ _).alloc (Nat.le_refl _) _⟩
  · go_enter Tryz.func130, Tryz.ntmps130
    go_wp2
    go_ret
    exact ⟨ret_bool (by unfold immB; simp; omega), (Below.refl _ _).alloc (Nat.le_refl _) _⟩
set_option maxHeartbeats 800000 in
theorem fillsImm_4 (v : Int) (h0 : -9223372036854775808 ≤ v) (h1 : v < 9223372036854775808) (w : World) (hs : ShapesOk w) :
    Calls Tryz.prog 130 #[.int .u8 4, .int .i64 v] w fun e w' => e = .returned (.bool (immB 4 v)) ∧ Below w.heap.size w w' := by
  have s0 : w.cell? ⟨2, 20, none⟩ = some (.bool true) := (hs 4 (by omega)).1
  have s1 : w.cell? ⟨2, 21, none⟩ = some (.bool false) := (hs 4 (by omega)).2.1
  have s2 : w.cell? ⟨2, 22, none⟩ = some (.bool false) := (hs 4 (by omega)).2.2.1
  have s3 : w.cell? ⟨2, 23, none⟩ = some (.int .i64 32) := (hs 4 (by omega)).2.2.2.1
  have s4 : w.cell? ⟨2, 24, none⟩ = some (.int .i64 4096) := (hs 4 (by omega)).2.2.2.2
  clear hs
  have hc := fits32 v h0 h1
  cases hb : fitB v 32
  · rw [hb] at hc
    have hr : immB 4 v = false := by simp [immB, hb]
    have HR := Lib.hid hr
    clear hb hr
    go_enter Tryz.func130, Tryz.ntmps130
    go_wp2_with (go_at_call 142; (with_reducible refine (hc _).mono ?_); rintro e w' ⟨rfl, rfl⟩)
    go_ret
    exact ⟨by rw [HR.out]; rfl, (Below.refl _ _).alloc (Nat.le_refl _) _⟩
  · rw [hb] at hc
    have hr : immB 4 v = decide (v % 4096 = 0) := by simp [immB, hb]
    have HR := Lib.hid hr
    clear hb hr
    go_enter Tryz.func130, Tryz.ntmps130
    go_wp2_with (go_at_call 142; (with_reducible refine (hc _).mono ?_); rintro e w' ⟨rfl, rfl⟩)
    go_ret
    first | exact ⟨by rw [HR.out]; rfl, (Below.refl _ _).alloc (Nat.le_refl _) _⟩ | exact ⟨ret_bool (by rw [HR.out]; first | exact tmod_zero v _ | simp), (Below.refl _ _).alloc (Nat.le_refl _) _⟩
set_option maxHeartbeats 800000 in
theorem fillsImm_5 (v : Int) (h0 : -9223372036854775808 ≤ v) (h1 : v < 9223372036854775808) (w : World) (hs : ShapesOk w) :
    Calls Tryz.prog 130 #[.int .u8 5, .int .i64 v] w fun e w' => e = .returned (.bool (immB 5 v)) ∧ Below w.heap.size w w' := by
  have s0 : w.cell? ⟨2, 25, none⟩ = some (.bool false) := (hs 5 (by omega)).1
  have s1 : w.cell? ⟨2, 26, none⟩ = some (.bool true) := (hs 5 (by omega)).2.1
  have s2 : w.cell? ⟨2, 27, none⟩ = some (.bool true) := (hs 5 (by omega)).2.2.1
  have s3 : w.cell? ⟨2, 28, none⟩ = some (.int .i64 12) := (hs 5 (by omega)).2.2.2.1
  have s4 : w.cell? ⟨2, 29, none⟩ = some (.int .i64 1) := (hs 5 (by omega)).2.2.2.2
  clear hs
  have hc := fits12 v h0 h1
  cases hb : fitB v 12
  · rw [hb] at hc
    have hr : immB 5 v = false := by simp [immB, hb]
    have HR := Lib.hid hr
    clear hb hr
    go_enter Tryz.func130, Tryz.ntmps130
    go_wp2_with (go_at_call 142; (with_reducible refine (hc _).mono ?_); rintro e w' ⟨rfl, rfl⟩)
    go_ret
    exact ⟨by rw [HR.out]; rfl, (Below.refl _ _).alloc (Nat.le_refl _) _⟩
  · rw [hb] at hc
    have hr : immB 5 v = true := by simp [immB, hb]
    have HR := Lib.hid hr
    clear hb hr
    go_enter Tryz.func130, Tryz.ntmps130
    go_wp2_with (go_at_call 142; (with_reducible refine (hc _).mono ?_); rintro e w' ⟨rfl, rfl⟩)
    go_ret
    first | exact ⟨by rw [HR.out]; rfl, (Below.refl _ _).alloc (Nat.le_refl _) _⟩ | exact ⟨ret_bool (by rw [HR.out]; first | exact tmod_zero v _ | simp), (Below.refl _ _).alloc (Nat.le_refl _) _⟩
set_option maxHeartbeats 800000 in
theorem fillsImm_6 (v : Int) (h0 : -9223372036854775808 ≤ v) (h1 : v < 9223372036854775808) (w : World) (hs : ShapesOk w) :
    Calls Tryz.prog 130 #[.int .u8 6, .int .i64 v] w fun e w' => e = .returned (.bool (immB 6 v)) ∧ Below w.heap.size w w' := by
  have s0 : w.cell? ⟨2, 30, none⟩ = some (.bool false) := (hs 6 (by omega)).1
  have s1 : w.cell? ⟨2, 31, none⟩ = some (.bool true) := (hs 6 (by omega)).2.1
  have s2 : w.cell? ⟨2, 32, none⟩ = some (.bool true) := (hs 6 (by omega)).2.2.1
  have s3 : w.cell? ⟨2, 33, none⟩ = some (.int .i64 13) := (hs 6 (by omega)).2.2.2.1
  have s4 : w.cell? ⟨2, 34, none⟩ = some (.int .i64 2) := (hs 6 (by omega)).2.2.2.2
  clear hs
  have hc := fits13 v h0 h1
  cases hb : fitB v 13
  · rw [hb] at hc
    have hr : immB 6 v = false := by simp [immB, hb]
    have HR := Lib.hid hr
    clear hb hr
    go_enter Tryz.func130, Tryz.ntmps130
    go_wp2_with (go_at_call 142; (with_reducible refine (hc _).mono ?_); rintro e w' ⟨rfl, rfl⟩)
    go_ret
    exact ⟨by rw [HR.out]; rfl, (Below.refl _ _).alloc (Nat.le_refl _) _⟩
  · rw [hb] at hc
    have hr : immB 6 v = decide (v % 2 = 0) := by simp [immB, hb]
    have HR := Lib.hid hr
    clear hb hr
    go_enter Tryz.func130, Tryz.ntmps130
    go_wp2_with (go_at_call 142; (with_reducible refine (hc _).mono ?_); rintro e w' ⟨rfl, rfl⟩)
    go_ret
    first | exact ⟨by rw [HR.out]; rfl, (Below.refl _ _).alloc (Nat.le_refl _) _⟩ | exact ⟨ret_bool (by rw [HR.out]; first | exact tmod_zero v _ | simp), (Below.refl _ _).alloc (Nat.le_refl _) _⟩
set_option maxHeartbeats 800000 in
theorem fillsImm_7 (v : Int) (h0 : -9223372036854775808 ≤ v) (h1 : v < 9223372036854775808) (w : World) (hs : ShapesOk w) :
    Calls Tryz.prog 130 #[.int .u8 7, .int .i64 v] w fun e w' => e = .returned (.bool (immB 7 v)) ∧ Below w.heap.size w w' := by
  have s0 : w.cell? ⟨2, 35, none⟩ = some (.bool true) := (hs 7 (by omega)).1
  have s1 : w.cell? ⟨2, 36, none⟩ = some (.bool false) := (hs 7 (by omega)).2.1
  have s2 : w.cell? ⟨2, 37, none⟩ = some (.bool false) := (hs 7 (by omega)).2.2.1
  have s3 : w.cell? ⟨2, 38, none⟩ = some (.int .i64 21) := (hs 7 (by omega)).2.2.2.1
  have s4 : w.cell? ⟨2, 39, none⟩ = some (.int .i64 2) := (hs 7 (by omega)).2.2.2.2
  clear hs
  have hc := fits21 v h0 h1
  cases hb : fitB v 21
  · rw [hb] at hc
    have hr : immB 7 v = false := by simp [immB, hb]
    have HR := Lib.hid hr
    clear hb hr
    go_enter Tryz.func130, Tryz.ntmps130
    go_wp2_with (go_at_call 142; (with_reducible refine (hc _).mono ?_); rintro e w' ⟨rfl, rfl⟩)
    go_ret
    exact ⟨by rw [HR.out]; rfl, (Below.refl _ _).alloc (Nat.le_refl _) _⟩
  · rw [hb] at hc
    have hr : immB 7 v = decide (v % 2 = 0) := by simp [immB, hb]
    have HR := Lib.hid hr
    clear hb hr
    go_enter Tryz.func130, Tryz.ntmps130
    go_wp2_with (go_at_call 142; (with_reducible refine (hc _).mono ?_); rintro e w' ⟨rfl, rfl⟩)
    go_ret
    first | exact ⟨by rw [HR.out]; rfl, (Below.refl _ _).alloc (Nat.le_refl _) _⟩ | exact ⟨ret_bool (by rw [HR.out]; first | exact tmod_zero v _ | simp), (Below.refl _ _).alloc (Nat.le_refl _) _⟩
set_option maxHeartbeats 800000 in
theorem fillsImm_8 (v : Int) (h0 : -9223372036854775808 ≤ v) (h1 : v < 9223372036854775808) (w : World) (hs : ShapesOk w) :
    Calls Tryz.prog 130 #[.int .u8 8, .int .i64 v] w fun e w' => e = .returned (.bool (immB 8 v)) ∧ Below w.heap.size w w' := by
  have s0 : w.cell? ⟨2, 40, none⟩ = some (.bool false) := (hs 8 (by omega)).1
  have s1 : w.cell? ⟨2, 41, none⟩ = some (.bool false) := (hs 8 (by omega)).2.1
  have s2 : w.cell? ⟨2, 42, none⟩ = some (.bool false) := (hs 8 (by omega)).2.2.1
  have s3 : w.cell? ⟨2, 43, none⟩ = some (.int .i64 0) := (hs 8 (by omega)).2.2.2.1
  have s4 : w.cell? ⟨2, 44, none⟩ = some (.int .i64 0) := (hs 8 (by omega)).2.2.2.2
  clear hs
  go_enter Tryz.func130, Tryz.ntmps130
  go_wp2
  go_ret
  exact ⟨ret_bool (by unfold immB; rw [Bool.eq_iff_iff]; simp), (Below.refl _ _).alloc (Nat.le_refl _) _⟩
end Go.Proofs.YtfaacmcnefbgcaaGreatDoor

/- Contract of insn.takes. -/
namespace Go.Proofs.YtfaacmcnefbgcaaGreatDoor
open Go.ChangeShapes Go.WideShapes Go.ChangeAt Go.RowKit
set_option linter.unusedVariables false
theorem fillsImm_any (f : Nat) (hf : f ≤ 8) (hf0 : f ≠ 0) (v : Int) (h0 : -9223372036854775808 ≤ v) (h1 : v < 9223372036854775808) (w : World) (hs : ShapesOk w) :
    Calls Tryz.prog 130 #[.int .u8 f, .int .i64 v] w fun e w' => e = .returned (.bool (immB f v)) ∧ Below w.heap.size w w' := by
  rcases form_cases hf hf0 with rfl | rfl | rfl | rfl | rfl | rfl | rfl | rfl
  · exact fillsImm_1 v h0 h1 w hs
  · exact fillsImm_2 v h0 h1 w hs
  · exact fillsImm_3 v h0 h1 w hs
  · exact fillsImm_4 v h0 h1 w hs
  · exact fillsImm_5 v h0 h1 w hs
  · exact fillsImm_6 v h0 h1 w hs
  · exact fillsImm_7 v h0 h1 w hs
  · exact fillsImm_8 v h0 h1 w hs
theorem ShapesOk.alloc {w : World} (h : ShapesOk w) (o : Obj) : ShapesOk (w.alloc o) := h.of ((Below.refl _ _).alloc (Nat.le_refl _) _)
theorem takes_any (f op rd rs1 rs2 : Nat) (v : Int) (hf : f ≤ 8) (hop : op < 256) (hrd : rd < 256) (hr1 : rs1 < 256) (hr2 : rs2 < 256) (h0 : -9223372036854775808 ≤ v) (h1 : v < 9223372036854775808) (w : World) (hs : ShapesOk w) :
    Calls Tryz.prog 117 #[.int .u8 f, .agg #[.int .u8 op, .int .u8 rd, .int .u8 rs1, .int .u8 rs2, .int .i64 v]] w fun e w' => e = .returned (.bool (takesB f rd rs1 rs2 v)) ∧ Below w.heap.size w w' := by
  by_cases hf0 : f = 0
  · subst hf0
    go_enter Tryz.func117, Tryz.ntmps117
    go_wp2
    go_ret
    exact ⟨rfl, (Below.refl _ _).alloc (Nat.le_refl _) _⟩
  obtain ⟨s0, s1, s2, s3, s4⟩ := hs f (by omega)
  have hz : ((f : Int) == 0) = false := by simpa using hf0
  have hg : 2 < w.heap.size := World.block_lt_of_cell? w _ s0
  have hi0 : (0 : Int) ≤ (f : Int) := by omega
  have hi9 : (f : Int) < 9 := by omega
  have c1 := fillsReg_any (rdT f) rd hrd
  have c2 := fillsReg_any (rs1T f) rs1 hr1
  have c3 := fillsReg_any (rs2T f) rs2 hr2
  cases b1 : regB (rdT f) rd
  · rw [b1] at c1
    have HR := Lib.hid (show takesB f rd rs1 rs2 v = false by simp [takesB, b1])
    clear b1
    go_enter Tryz.func117, Tryz.ntmps117
    go_wp2_with (go_at_call 129; first | ((with_reducible refine (c1 _).mono ?_); rintro e w' ⟨rfl, rfl⟩))
    go_ret
    exact ⟨by rw [HR.out]; rfl, ((Below.refl _ _).alloc (Nat.le_refl _) _).alloc (by simp) _⟩
  rw [b1] at c1
  cases b2 : regB (rs1T f) rs1
  · rw [b2] at c2
    have HR := Lib.hid (show takesB f rd rs1 rs2 v = false by simp [takesB, b1, b2])
    clear b1 b2
    go_enter Tryz.func117, Tryz.ntmps117
    go_wp2_with (go_at_call 129; first | ((with_reducible refine (c1 _).mono ?_); rintro e w' ⟨rfl, rfl⟩) | ((with_reducible refine (c2 _).mono ?_); rintro e w' ⟨rfl, rfl⟩))
    go_ret
    exact ⟨by rw [HR.out]; rfl, ((Below.refl _ _).alloc (Nat.le_refl _) _).alloc (by simp) _⟩
  rw [b2] at c2
  cases b3 : regB (rs2T f) rs2
  · rw [b3] at c3
    have HR := Lib.hid (show takesB f rd rs1 rs2 v = false by simp [takesB, b1, b2, b3])
    clear b1 b2 b3
    go_enter Tryz.func117, Tryz.ntmps117
    go_wp2_with (go_at_call 129; first | ((with_reducible refine (c1 _).mono ?_); rintro e w' ⟨rfl, rfl⟩) | ((with_reducible refine (c2 _).mono ?_); rintro e w' ⟨rfl, rfl⟩) | ((with_reducible refine (c3 _).mono ?_); rintro e w' ⟨rfl, rfl⟩))
    go_ret
    exact ⟨by rw [HR.out]; rfl, ((Below.refl _ _).alloc (Nat.le_refl _) _).alloc (by simp) _⟩
  rw [b3] at c3
  have HR := Lib.hid (show takesB f rd rs1 rs2 v = immB f v by simp [takesB, b1, b2, b3, hf0])
  clear b1 b2 b3
  go_enter Tryz.func117, Tryz.ntmps117
  go_wp2_with (first | (go_at_call 129; first | ((with_reducible refine (c1 _).mono ?_); rintro e w' ⟨rfl, rfl⟩) | ((with_reducible refine (c2 _).mono ?_); rintro e w' ⟨rfl, rfl⟩) | ((with_reducible refine (c3 _).mono ?_); rintro e w' ⟨rfl, rfl⟩)) | (go_at_call 130; ((with_reducible refine (fillsImm_any f hf hf0 v h0 h1 _ ((hs.alloc _).alloc _)).mono ?_); rintro e w' ⟨rfl, hb⟩)))
  go_ret
  exact ⟨by rw [HR.out]; rfl, Below.trans (((Below.refl _ _).alloc (Nat.le_refl _) _).alloc (by simp) _) (hb.mono (by simp; omega))⟩
end Go.Proofs.YtfaacmcnefbgcaaGreatDoor
