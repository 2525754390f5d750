/- Contracts of insn.fillsImm and insn.takes. -/
import Derived.Test.YtcckgfablfgknaaGreatDoorInD
import Derived.Lib.Hide
namespace Go.Proofs.YtcckgfablfgknaaGreatDoor
open Go.ChangeShapes Go.WideShapes Go.ChangeAt Go.RowKit
set_option linter.unusedVariables false
theorem tmod_zero (v : Int) (m : Int) : (v.tmod m == 0) = decide (v % m = 0) := by
  rw [Bool.eq_iff_iff, beq_iff_eq, decide_eq_true_eq, ← Int.dvd_iff_tmod_eq_zero, Int.dvd_iff_emod_eq_zero]
theorem fits12 (v : Int) (h0 : -9223372036854775808 ≤ v) (h1 : v < 9223372036854775808) (w : World) :
    Calls Tryz.prog 145 #[.int .i64 v, .int .i64 12] w fun e w' => e = .returned (.bool (fitB v 12)) ∧ w = w' := fits_int v 12 h0 h1 (by omega) w
theorem fits13 (v : Int) (h0 : -9223372036854775808 ≤ v) (h1 : v < 9223372036854775808) (w : World) :
    Calls Tryz.prog 145 #[.int .i64 v, .int .i64 13] w fun e w' => e = .returned (.bool (fitB v 13)) ∧ w = w' := fits_int v 13 h0 h1 (by omega) w
theorem fits21 (v : Int) (h0 : -9223372036854775808 ≤ v) (h1 : v < 9223372036854775808) (w : World) :
    Calls Tryz.prog 145 #[.int .i64 v, .int .i64 21] w fun e w' => e = .returned (.bool (fitB v 21)) ∧ w = w' := fits_int v 21 h0 h1 (by omega) w
theorem fits32 (v : Int) (h0 : -9223372036854775808 ≤ v) (h1 : v < 9223372036854775808) (w : World) :
    Calls Tryz.prog 145 #[.int .i64 v, .int .i64 32] w fun e w' => e = .returned (.bool (fitB v 32)) ∧ w = w' := fits_int v 32 h0 h1 (by omega) w
set_option maxHeartbeats 800000 in
theorem fillsImm_1 (v : Int) (h0 : -9223372036854775808 ≤ v) (h1 : v < 9223372036854775808) (w : World) (hs : ShapesOk w) :
    Calls Tryz.prog 112 #[.int .u8 1, .int .i64 v] w fun e w' => e = .returned (.bool (immB 1 v)) ∧ Below w.heap.size w w' := by
  have s0 : w.cell? ⟨1, 5, none⟩ = some (.bool true) := (hs 1 (by omega)).1
  have s1 : w.cell? ⟨1, 6, none⟩ = some (.bool true) := (hs 1 (by omega)).2.1
  have s2 : w.cell? ⟨1, 7, none⟩ = some (.bool true) := (hs 1 (by omega)).2.2.1
  have s3 : w.cell? ⟨1, 8, none⟩ = some (.int .i64 0) := (hs 1 (by omega)).2.2.2.1
  have s4 : w.cell? ⟨1, 9, none⟩ = some (.int .i64 0) := (hs 1 (by omega)).2.2.2.2
  clear hs
  go_enter Tryz.func112, Tryz.ntmps112
  go_wp2
  go_ret
  exact ⟨ret_bool (by unfold immB; rw [Bool.eq_iff_iff]; simp), (Below.refl _ _).alloc (Nat.le_refl _) _⟩
set_option maxHeartbeats 800000 in
theorem fillsImm_2 (v : Int) (h0 : -9223372036854775808 ≤ v) (h1 : v < 9223372036854775808) (w : World) (hs : ShapesOk w) :
    Calls Tryz.prog 112 #[.int .u8 2, .int .i64 v] w fun e w' => e = .returned (.bool (immB 2 v)) ∧ Below w.heap.size w w' := by
  have s0 : w.cell? ⟨1, 10, none⟩ = some (.bool true) := (hs 2 (by omega)).1
  have s1 : w.cell? ⟨1, 11, none⟩ = some (.bool true) := (hs 2 (by omega)).2.1
  have s2 : w.cell? ⟨1, 12, none⟩ = some (.bool false) := (hs 2 (by omega)).2.2.1
  have s3 : w.cell? ⟨1, 13, none⟩ = some (.int .i64 12) := (hs 2 (by omega)).2.2.2.1
  have s4 : w.cell? ⟨1, 14, none⟩ = some (.int .i64 1) := (hs 2 (by omega)).2.2.2.2
  clear hs
  have hc := fits12 v h0 h1
  cases hb : fitB v 12
  · rw [hb] at hc
    have hr : immB 2 v = false := by simp [immB, hb]
    have HR := Lib.hid hr
    clear hb hr
    go_enter Tryz.func112, Tryz.ntmps112
    go_wp2_with (go_at_call 145; (with_reducible refine (hc _).mono ?_); rintro e w' ⟨rfl, rfl⟩)
    go_ret
    exact ⟨by rw [HR.out]; rfl, (Below.refl _ _).alloc (Nat.le_refl _) _⟩
  · rw [hb] at hc
    have hr : immB 2 v = true := by simp [immB, hb]
    have HR := Lib.hid hr
    clear hb hr
    go_enter Tryz.func112, Tryz.ntmps112
    go_wp2_with (go_at_call 145; (with_reducible refine (hc _).mono ?_); rintro e w' ⟨rfl, rfl⟩)
    go_ret
    first | exact ⟨by rw [HR.out]; rfl, (Below.refl _ _).alloc (Nat.le_refl _) _⟩ | exact ⟨ret_bool (by rw [HR.out]; first | exact tmod_zero v _ | simp), (Below.refl _ _).alloc (Nat.le_refl _) _⟩
set_option maxHeartbeats 800000 in
theorem fillsImm_3 (v : Int) (h0 : -9223372036854775808 ≤ v) (h1 : v < 9223372036854775808) (w : World) (hs : ShapesOk w) :
    Calls Tryz.prog 112 #[.int .u8 3, .int .i64 v] w fun e w' => e = .returned (.bool (immB 3 v)) ∧ Below w.heap.size w w' := by
  have s0 : w.cell? ⟨1, 15, none⟩ = some (.bool true) := (hs 3 (by omega)).1
  have s1 : w.cell? ⟨1, 16, none⟩ = some (.bool true) := (hs 3 (by omega)).2.1
  have s2 : w.cell? ⟨1, 17, none⟩ = some (.bool false) := (hs 3 (by omega)).2.2.1
  have s3 : w.cell? ⟨1, 18, none⟩ = some (.int .i64 6) := (hs 3 (by omega)).2.2.2.1
  have s4 : w.cell? ⟨1, 19, none⟩ = some (.int .i64 1) := (hs 3 (by omega)).2.2.2.2
  clear hs
  by_cases ha : 0 ≤ v
  · go_enter Tryz.func112, Tryz.ntmps112
    go_wp2
    go_ret
    exact ⟨ret_bool (by unfold immB; simp [ha]), (Below.refl _ _).alloc (Nat.le_refl _) _⟩
  · go_enter Tryz.func112, Tryz.ntmps112
    go_wp2
    go_ret
    exact ⟨ret_bool (by unfold immB; simp; omega), (Below.refl _ _).alloc (Nat.le_refl _) _⟩
set_option maxHeartbeats 800000 in
theorem fillsImm_4 (v : Int) (h0 : -9223372036854775808 ≤ v) (h1 : v < 9223372036854775808) (w : World) (hs : ShapesOk w) :
    Calls Tryz.prog 112 #[.int .u8 4, .int .i64 v] w fun e w' => e = .returned (.bool (immB 4 v)) ∧ Below w.heap.size w w' := by
  have s0 : w.cell? ⟨1, 20, none⟩ = some (.bool true) := (hs 4 (by omega)).1
  have s1 : w.cell? ⟨1, 21, none⟩ = some (.bool false) := (hs 4 (by omega)).2.1
  have s2 : w.cell? ⟨1, 22, none⟩ = some (.bool false) := (hs 4 (by omega)).2.2.1
  have s3 : w.cell? ⟨1, 23, none⟩ = some (.int .i64 32) := (hs 4 (by omega)).2.2.2.1
  have s4 : w.cell? ⟨1, 24, none⟩ = some (.int .i64 4096) := (hs 4 (by omega)).2.2.2.2
  clear hs
  have hc := fits32 v h0 h1
  cases hb : fitB v 32
  · rw [hb] at hc
    have hr : immB 4 v = false := by simp [immB, hb]
    have HR := Lib.hid hr
    clear hb hr
    go_enter Tryz.func112, Tryz.ntmps112
    go_wp2_with (go_at_call 145; (with_reducible refine (hc _).mono ?_); rintro e w' ⟨rfl, rfl⟩)
    go_ret
    exact ⟨by rw [HR.out]; rfl, (Below.refl _ _).alloc (Nat.le_refl _) _⟩
  · rw [hb] at hc
    have hr : immB 4 v = decide (v % 4096 = 0) := by simp [immB, hb]
    have HR := Lib.hid hr
    clear hb hr
    go_enter Tryz.func112, Tryz.ntmps112
    go_wp2_with (go_at_call 145; (with_reducible refine (hc _).mono ?_); rintro e w' ⟨rfl, rfl⟩)
    go_ret
    first | exact ⟨by rw [HR.out]; rfl, (Below.refl _ _).alloc (Nat.le_refl _) _⟩ | exact ⟨ret_bool (by rw [HR.out]; first | exact tmod_zero v _ | simp), (Below.refl _ _).alloc (Nat.le_refl _) _⟩
set_option maxHeartbeats 800000 in
theorem fillsImm_5 (v : Int) (h0 : -9223372036854775808 ≤ v) (h1 : v < 9223372036854775808) (w : World) (hs : ShapesOk w) :
    Calls Tryz.prog 112 #[.int .u8 5, .int .i64 v] w fun e w' => e = .returned (.bool (immB 5 v)) ∧ Below w.heap.size w w' := by
  have s0 : w.cell? ⟨1, 25, none⟩ = some (.bool false) := (hs 5 (by omega)).1
  have s1 : w.cell? ⟨1, 26, none⟩ = some (.bool true) := (hs 5 (by omega)).2.1
  have s2 : w.cell? ⟨1, 27, none⟩ = some (.bool true) := (hs 5 (by omega)).2.2.1
  have s3 : w.cell? ⟨1, 28, none⟩ = some (.int .i64 12) := (hs 5 (by omega)).2.2.2.1
  have s4 : w.cell? ⟨1, 29, none⟩ = some (.int .i64 1) := (hs 5 (by omega)).2.2.2.2
  clear hs
  have hc := fits12 v h0 h1
  cases hb : fitB v 12
  · rw [hb] at hc
    have hr : immB 5 v = false := by simp [immB, hb]
    have HR := Lib.hid hr
    clear hb hr
    go_enter Tryz.func112, Tryz.ntmps112
    go_wp2_with (go_at_call 145; (with_reducible refine (hc _).mono ?_); rintro e w' ⟨rfl, rfl⟩)
    go_ret
    exact ⟨by rw [HR.out]; rfl, (Below.refl _ _).alloc (Nat.le_refl _) _⟩
  · rw [hb] at hc
    have hr : immB 5 v = true := by simp [immB, hb]
    have HR := Lib.hid hr
    clear hb hr
    go_enter Tryz.func112, Tryz.ntmps112
    go_wp2_with (go_at_call 145; (with_reducible refine (hc _).mono ?_); rintro e w' ⟨rfl, rfl⟩)
    go_ret
    first | exact ⟨by rw [HR.out]; rfl, (Below.refl _ _).alloc (Nat.le_refl _) _⟩ | exact ⟨ret_bool (by rw [HR.out]; first | exact tmod_zero v _ | simp), (Below.refl _ _).alloc (Nat.le_refl _) _⟩
set_option maxHeartbeats 800000 in
theorem fillsImm_6 (v : Int) (h0 : -9223372036854775808 ≤ v) (h1 : v < 9223372036854775808) (w : World) (hs : ShapesOk w) :
    Calls Tryz.prog 112 #[.int .u8 6, .int .i64 v] w fun e w' => e = .returned (.bool (immB 6 v)) ∧ Below w.heap.size w w' := by
  have s0 : w.cell? ⟨1, 30, none⟩ = some (.bool false) := (hs 6 (by omega)).1
  have s1 : w.cell? ⟨1, 31, none⟩ = some (.bool true) := (hs 6 (by omega)).2.1
  have s2 : w.cell? ⟨1, 32, none⟩ = some (.bool true) := (hs 6 (by omega)).2.2.1
  have s3 : w.cell? ⟨1, 33, none⟩ = some (.int .i64 13) := (hs 6 (by omega)).2.2.2.1
  have s4 : w.cell? ⟨1, 34, none⟩ = some (.int .i64 2) := (hs 6 (by omega)).2.2.2.2
  clear hs
  have hc := fits13 v h0 h1
  cases hb : fitB v 13
  · rw [hb] at hc
    have hr : immB 6 v = false := by simp [immB, hb]
    have HR := Lib.hid hr
    clear hb hr
    go_enter Tryz.func112, Tryz.ntmps112
    go_wp2_with (go_at_call 145; (with_reducible refine (hc _).mono ?_); rintro e w' ⟨rfl, rfl⟩)
    go_ret
    exact ⟨by rw [HR.out]; rfl, (Below.refl _ _).alloc (Nat.le_refl _) _⟩
  · rw [hb] at hc
    have hr : immB 6 v = decide (v % 2 = 0) := by simp [immB, hb]
    have HR := Lib.hid hr
    clear hb hr
    go_enter Tryz.func112, Tryz.ntmps112
    go_wp2_with (go_at_call 145; (with_reducible refine (hc _).mono ?_); rintro e w' ⟨rfl, rfl⟩)
    go_ret
    first | exact ⟨by rw [HR.out]; rfl, (Below.refl _ _).alloc (Nat.le_refl _) _⟩ | exact ⟨ret_bool (by rw [HR.out]; first | exact tmod_zero v _ | simp), (Below.refl _ _).alloc (Nat.le_refl _) _⟩
set_option maxHeartbeats 800000 in
theorem fillsImm_7 (v : Int) (h0 : -9223372036854775808 ≤ v) (h1 : v < 9223372036854775808) (w : World) (hs : ShapesOk w) :
    Calls Tryz.prog 112 #[.int .u8 7, .int .i64 v] w fun e w' => e = .returned (.bool (immB 7 v)) ∧ Below w.heap.size w w' := by
  have s0 : w.cell? ⟨1, 35, none⟩ = some (.bool true) := (hs 7 (by omega)).1
  have s1 : w.cell? ⟨1, 36, none⟩ = some (.bool false) := (hs 7 (by omega)).2.1
  have s2 : w.cell? ⟨1, 37, none⟩ = some (.bool false) := (hs 7 (by omega)).2.2.1
  have s3 : w.cell? ⟨1, 38, none⟩ = some (.int .i64 21) := (hs 7 (by omega)).2.2.2.1
  have s4 : w.cell? ⟨1, 39, none⟩ = some (.int .i64 2) := (hs 7 (by omega)).2.2.2.2
  clear hs
  have hc := fits21 v h0 h1
  cases hb : fitB v 21
  · rw [hb] at hc
    have hr : immB 7 v = false := by simp [immB, hb]
    have HR := Lib.hid hr
    clear hb hr
    go_enter Tryz.func112, Tryz.ntmps112
    go_wp2_with (go_at_call 145; (with_reducible refine (hc _).mono ?_); rintro e w' ⟨rfl, rfl⟩)
    go_ret
    exact ⟨by rw [HR.out]; rfl, (Below.refl _ _).alloc (Nat.le_refl _) _⟩
  · rw [hb] at hc
    have hr : immB 7 v = decide (v % 2 = 0) := by simp [immB, hb]
    have HR := Lib.hid hr
    clear hb hr
    go_enter Tryz.func112, Tryz.ntmps112
    go_wp2_with (go_at_call 145; (with_reducible refine (hc _).mono ?_); rintro e w' ⟨rfl, rfl⟩)
    go_ret
    first | exact ⟨by rw [HR.out]; rfl, (Below.refl _ _).alloc (Nat.le_refl _) _⟩ | exact ⟨ret_bool (by rw [HR.out]; first | exact tmod_zero v _ | simp), (Below.refl _ _).alloc (Nat.le_refl _) _⟩
set_option maxHeartbeats 800000 in
theorem fillsImm_8 (v : Int) (h0 : -9223372036854775808 ≤ v) (h1 : v < 9223372036854775808) (w : World) (hs : ShapesOk w) :
    Calls Tryz.prog 112 #[.int .u8 8, .int .i64 v] w fun e w' => e = .returned (.bool (immB 8 v)) ∧ Below w.heap.size w w' := by
  have s0 : w.cell? ⟨1, 40, none⟩ = some (.bool false) := (hs 8 (by omega)).1
  have s1 : w.cell? ⟨1, 41, none⟩ = some (.bool false) := (hs 8 (by omega)).2.1
  have s2 : w.cell? ⟨1, 42, none⟩ = some (.bool false) := (hs 8 (by omega)).2.2.1
  have s3 : w.cell? ⟨1, 43, none⟩ = some (.int .i64 0) := (hs 8 (by omega)).2.2.2.1
  have s4 : w.cell? ⟨1, 44, none⟩ = some (.int .i64 0) := (hs 8 (by omega)).2.2.2.2
  clear hs
  go_enter Tryz.func112, Tryz.ntmps112
  go_wp2
  go_ret
  exact ⟨ret_bool (by unfold immB; rw [Bool.eq_iff_iff]; simp), (Below.refl _ _).alloc (Nat.le_refl _) _⟩
end Go.Proofs.YtcckgfablfgknaaGreatDoor

/- Contract of insn.takes. -/
namespace Go.Proofs.YtcckgfablfgknaaGreatDoor
open Go.ChangeShapes Go.WideShapes Go.ChangeAt Go.RowKit
set_option linter.unusedVariables false
theorem fillsImm_any (f : Nat) (hf : f ≤ 8) (hf0 : f ≠ 0) (v : Int) (h0 : -9223372036854775808 ≤ v) (h1 : v < 9223372036854775808) (w : World) (hs : ShapesOk w) :
    Calls Tryz.prog 112 #[.int .u8 f, .int .i64 v] w fun e w' => e = .returned (.bool (immB f v)) ∧ Below w.heap.size w w' := by
  rcases form_cases hf hf0 with rfl | rfl | rfl | rfl | rfl | rfl | rfl | rfl
  · exact fillsImm_1 v h0 h1 w hs
  · exact fillsImm_2 v h0 h1 w hs
  · exact fillsImm_3 v h0 h1 w hs
  · exact fillsImm_4 v h0 h1 w hs
  · exact fillsImm_5 v h0 h1 w hs
  · exact fillsImm_6 v h0 h1 w hs
  · exact fillsImm_7 v h0 h1 w hs
  · exact fillsImm_8 v h0 h1 w hs
theorem ShapesOk.alloc {w : World} (h : ShapesOk w) (o : Obj) : ShapesOk (w.alloc o) := h.of ((Below.refl _ _).alloc (Nat.le_refl _) _)
theorem takes_any (f op rd rs1 rs2 : Nat) (v : Int) (hf : f ≤ 8) (hop : op < 256) (hrd : rd < 256) (hr1 : rs1 < 256) (hr2 : rs2 < 256) (h0 : -9223372036854775808 ≤ v) (h1 : v < 9223372036854775808) (w : World) (hs : ShapesOk w) :
    Calls Tryz.prog 54 #[.int .u8 f, .agg #[.int .u8 op, .int .u8 rd, .int .u8 rs1, .int .u8 rs2, .int .i64 v]] w fun e w' => e = .returned (.bool (takesB f rd rs1 rs2 v)) ∧ Below w.heap.size w w' := by
  by_cases hf0 : f = 0
  · subst hf0
    go_enter Tryz.func54, Tryz.ntmps54
    go_wp2
    go_ret
    exact ⟨rfl, (Below.refl _ _).alloc (Nat.le_refl _) _⟩
  obtain ⟨s0, s1, s2, s3, s4⟩ := hs f (by omega)
  have hz : ((f : Int) == 0) = false := by simpa using hf0
  have hg : 1 < w.heap.size := World.block_lt_of_cell? w _ s0
  have hi0 : (0 : Int) ≤ (f : Int) := by omega
  have hi9 : (f : Int) < 9 := by omega
  have c1 := fillsReg_any (rdT f) rd hrd
  have c2 := fillsReg_any (rs1T f) rs1 hr1
  have c3 := fillsReg_any (rs2T f) rs2 hr2
  cases b1 : regB (rdT f) rd
  · rw [b1] at c1
    have HR := Lib.hid (show takesB f rd rs1 rs2 v = false by simp [takesB, b1])
    clear b1
    go_enter Tryz.func54, Tryz.ntmps54
    go_wp2_with (go_at_call 111; first | ((with_reducible refine (c1 _).mono ?_); rintro e w' ⟨rfl, rfl⟩))
    go_ret
    exact ⟨by rw [HR.out]; rfl, ((Below.refl _ _).alloc (Nat.le_refl _) _).alloc (by simp) _⟩
  rw [b1] at c1
  cases b2 : regB (rs1T f) rs1
  · rw [b2] at c2
    have HR := Lib.hid (show takesB f rd rs1 rs2 v = false by simp [takesB, b1, b2])
    clear b1 b2
    go_enter Tryz.func54, Tryz.ntmps54
    go_wp2_with (go_at_call 111; first | ((with_reducible refine (c1 _).mono ?_); rintro e w' ⟨rfl, rfl⟩) | ((with_reducible refine (c2 _).mono ?_); rintro e w' ⟨rfl, rfl⟩))
    go_ret
    exact ⟨by rw [HR.out]; rfl, ((Below.refl _ _).alloc (Nat.le_refl _) _).alloc (by simp) _⟩
  rw [b2] at c2
  cases b3 : regB (rs2T f) rs2
  · rw [b3] at c3
    have HR := Lib.hid (show takesB f rd rs1 rs2 v = false by simp [takesB, b1, b2, b3])
    clear b1 b2 b3
    go_enter Tryz.func54, Tryz.ntmps54
    go_wp2_with (go_at_call 111; first | ((with_reducible refine (c1 _).mono ?_); rintro e w' ⟨rfl, rfl⟩) | ((with_reducible refine (c2 _).mono ?_); rintro e w' ⟨rfl, rfl⟩) | ((with_reducible refine (c3 _).mono ?_); rintro e w' ⟨rfl, rfl⟩))
    go_ret
    exact ⟨by rw [HR.out]; rfl, ((Below.refl _ _).alloc (Nat.le_refl _) _).alloc (by simp) _⟩
  rw [b3] at c3
  have HR := Lib.hid (show takesB f rd rs1 rs2 v = immB f v by simp [takesB, b1, b2, b3, hf0])
  clear b1 b2 b3
  go_enter Tryz.func54, Tryz.ntmps54
  go_wp2_with (first | (go_at_call 111; first | ((with_reducible refine (c1 _).mono ?_); rintro e w' ⟨rfl, rfl⟩) | ((with_reducible refine (c2 _).mono ?_); rintro e w' ⟨rfl, rfl⟩) | ((with_reducible refine (c3 _).mono ?_); rintro e w' ⟨rfl, rfl⟩)) | (go_at_call 112; ((with_reducible refine (fillsImm_any f hf hf0 v h0 h1 _ ((hs.alloc _).alloc _)).mono ?_); rintro e w' ⟨rfl, hb⟩)))
  go_ret
  exact ⟨by rw [HR.out]; rfl, Below.trans (((Below.refl _ _).alloc (Nat.le_refl _) _).alloc (by simp) _) (hb.mono (by simp; omega))⟩
end Go.Proofs.YtcckgfablfgknaaGreatDoor
