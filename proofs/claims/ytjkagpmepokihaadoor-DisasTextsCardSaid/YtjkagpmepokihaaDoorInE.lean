/- Contracts of insn.fillsImm and insn.takes. -/
import Derived.Test.YtjkagpmepokihaaDoorInD
import Derived.Lib.Hide
namespace Go.Proofs.YtjkagpmepokihaaDoor
open Go.ChangeShapes Go.WideShapes Go.ChangeAt Go.RowKit
set_option linter.unusedVariables false
theorem tmod_zero (v : Int) (m : Int) : (v.tmod m == 0) = decide (v % m = 0) := by
  rw [Bool.eq_iff_iff, beq_iff_eq, decide_eq_true_eq, ← Int.dvd_iff_tmod_eq_zero, Int.dvd_iff_emod_eq_zero]
theorem fits12 (v : Int) (h0 : -9223372036854775808 ≤ v) (h1 : v < 9223372036854775808) (w : World) :
    Calls Tryd.prog 56 #[.int .i64 v, .int .i64 12] w fun e w' => e = .returned (.bool (fitB v 12)) ∧ w = w' := fits_int v 12 h0 h1 (by omega) w
theorem fits13 (v : Int) (h0 : -9223372036854775808 ≤ v) (h1 : v < 9223372036854775808) (w : World) :
    Calls Tryd.prog 56 #[.int .i64 v, .int .i64 13] w fun e w' => e = .returned (.bool (fitB v 13)) ∧ w = w' := fits_int v 13 h0 h1 (by omega) w
theorem fits21 (v : Int) (h0 : -9223372036854775808 ≤ v) (h1 : v < 9223372036854775808) (w : World) :
    Calls Tryd.prog 56 #[.int .i64 v, .int .i64 21] w fun e w' => e = .returned (.bool (fitB v 21)) ∧ w = w' := fits_int v 21 h0 h1 (by omega) w
theorem fits32 (v : Int) (h0 : -9223372036854775808 ≤ v) (h1 : v < 9223372036854775808) (w : World) :
    Calls Tryd.prog 56 #[.int .i64 v, .int .i64 32] w fun e w' => e = .returned (.bool (fitB v 32)) ∧ w = w' := fits_int v 32 h0 h1 (by omega) w
set_option maxHeartbeats 800000 in
theorem fillsImm_1 (v : Int) (h0 : -9223372036854775808 ≤ v) (h1 : v < 9223372036854775808) (w : World) (hs : ShapesOk w) :
    Calls Tryd.prog 42 #[.int .u8 1, .int .i64 v] w fun e w' => e = .returned (.bool (immB 1 v)) ∧ Below w.heap.size w w' := by
  have s0 : w.cell? ⟨3, 5, none⟩ = some (.bool true) := (hs 1 (by omega)).1
  have s1 : w.cell? ⟨3, 6, none⟩ = some (.bool true) := (hs 1 (by omega)).2.1
  have s2 : w.cell? ⟨3, 7, none⟩ = some (.bool true) := (hs 1 (by omega)).2.2.1
  have s3 : w.cell? ⟨3, 8, none⟩ = some (.int .i64 0) := (hs 1 (by omega)).2.2.2.1
  have s4 : w.cell? ⟨3, 9, none⟩ = some (.int .i64 0) := (hs 1 (by omega)).2.2.2.2
  clear hs
  go_enter Tryd.func42, Tryd.ntmps42
  go_wp2
  go_ret
  exact ⟨ret_bool (by unfold immB; rw [Bool.eq_iff_iff]; simp), (Below.refl _ _).alloc (Nat.le_refl _) _⟩
set_option maxHeartbeats 800000 in
theorem fillsImm_2 (v : Int) (h0 : -9223372036854775808 ≤ v) (h1 : v < 9223372036854775808) (w : World) (hs : ShapesOk w) :
    Calls Tryd.prog 42 #[.int .u8 2, .int .i64 v] w fun e w' => e = .returned (.bool (immB 2 v)) ∧ Below w.heap.size w w' := by
  have s0 : w.cell? ⟨3, 10, none⟩ = some (.bool true) := (hs 2 (by omega)).1
  have s1 : w.cell? ⟨3, 11, none⟩ = some (.bool true) := (hs 2 (by omega)).2.1
  have s2 : w.cell? ⟨3, 12, none⟩ = some (.bool false) := (hs 2 (by omega)).2.2.1
  have s3 : w.cell? ⟨3, 13, none⟩ = some (.int .i64 12) := (hs 2 (by omega)).2.2.2.1
  have s4 : w.cell? ⟨3, 14, none⟩ = some (.int .i64 1) := (hs 2 (by omega)).2.2.2.2
  clear hs
  have hc := fits12 v h0 h1
  cases hb : fitB v 12
  · rw [hb] at hc
    have hr : immB 2 v = false := by simp [immB, hb]
    have HR := Lib.hid hr
    clear hb hr
    go_enter Tryd.func42, Tryd.ntmps42
    go_wp2_with (go_at_call 56; (with_reducible refine (hc _).mono ?_); rintro e w' ⟨rfl, rfl⟩)
    go_ret
    exact ⟨by rw [HR.out]; rfl, (Below.refl _ _).alloc (Nat.le_refl _) _⟩
  · rw [hb] at hc
    have hr : immB 2 v = true := by simp [immB, hb]
    have HR := Lib.hid hr
    clear hb hr
    go_enter Tryd.func42, Tryd.ntmps42
    go_wp2_with (go_at_call 56; (with_reducible refine (hc _).mono ?_); rintro e w' ⟨rfl, rfl⟩)
    go_ret
    first | exact ⟨by rw [HR.out]; rfl, (Below.refl _ _).alloc (Nat.le_refl _) _⟩ | exact ⟨ret_bool (by rw [HR.out]; first | exact tmod_zero v _ | simp), (Below.refl _ _).alloc (Nat.le_refl _) _⟩
set_option maxHeartbeats 800000 in
theorem fillsImm_3 (v : Int) (h0 : -9223372036854775808 ≤ v) (h1 : v < 9223372036854775808) (w : World) (hs : ShapesOk w) :
    Calls Tryd.prog 42 #[.int .u8 3, .int .i64 v] w fun e w' => e = .returned (.bool (immB 3 v)) ∧ Below w.heap.size w w' := by
  have s0 : w.cell? ⟨3, 15, none⟩ = some (.bool true) := (hs 3 (by omega)).1
  have s1 : w.cell? ⟨3, 16, none⟩ = some (.bool true) := (hs 3 (by omega)).2.1
  have s2 : w.cell? ⟨3, 17, none⟩ = some (.bool false) := (hs 3 (by omega)).2.2.1
  have s3 : w.cell? ⟨3, 18, none⟩ = some (.int .i64 6) := (hs 3 (by omega)).2.2.2.1
  have s4 : w.cell? ⟨3, 19, none⟩ = some (.int .i64 1) := (hs 3 (by omega)).2.2.2.2
  clear hs
  by_cases ha : 0 ≤ v
  · go_enter Tryd.func42, Tryd.ntmps42
    go_wp2
    go_ret
    exact ⟨ret_bool (by unfold immB; simp [ha]), (Below.refl _ _).alloc (Nat.le_refl _) _⟩
  · go_enter Tryd.func42, Tryd.ntmps42
    go_wp2
    go_ret
    exact ⟨ret_bool (by unfold immB; simp; omega), (Below.refl _ _).alloc (Nat.le_refl _) _⟩
set_option maxHeartbeats 800000 in
theorem fillsImm_4 (v : Int) (h0 : -9223372036854775808 ≤ v) (h1 : v < 9223372036854775808) (w : World) (hs : ShapesOk w) :
    Calls Tryd.prog 42 #[.int .u8 4, .int .i64 v] w fun e w' => e = .returned (.bool (immB 4 v)) ∧ Below w.heap.size w w' := by
  have s0 : w.cell? ⟨3, 20, none⟩ = some (.bool true) := (hs 4 (by omega)).1
  have s1 : w.cell? ⟨3, 21, none⟩ = some (.bool false) := (hs 4 (by omega)).2.1
  have s2 : w.cell? ⟨3, 22, none⟩ = some (.bool false) := (hs 4 (by omega)).2.2.1
  have s3 : w.cell? ⟨3, 23, none⟩ = some (.int .i64 32) := (hs 4 (by omega)).2.2.2.1
  have s4 : w.cell? ⟨3, 24, none⟩ = some (.int .i64 4096) := (hs 4 (by omega)).2.2.2.2
  clear hs
  have hc := fits32 v h0 h1
  cases hb : fitB v 32
  · rw [hb] at hc
    have hr : immB 4 v = false := by simp [immB, hb]
    have HR := Lib.hid hr
    clear hb hr
    go_enter Tryd.func42, Tryd.ntmps42
    go_wp2_with (go_at_call 56; (with_reducible refine (hc _).mono ?_); rintro e w' ⟨rfl, rfl⟩)
    go_ret
    exact ⟨by rw [HR.out]; rfl, (Below.refl _ _).alloc (Nat.le_refl _) _⟩
  · rw [hb] at hc
    have hr : immB 4 v = decide (v % 4096 = 0) := by simp [immB, hb]
    have HR := Lib.hid hr
    clear hb hr
    go_enter Tryd.func42, Tryd.ntmps42
    go_wp2_with (go_at_call 56; (with_reducible refine (hc _).mono ?_); rintro e w' ⟨rfl, rfl⟩)
    go_ret
    first | exact ⟨by rw [HR.out]; rfl, (Below.refl _ _).alloc (Nat.le_refl _) _⟩ | exact ⟨ret_bool (by rw [HR.out]; first | exact tmod_zero v _ | simp), (Below.refl _ _).alloc (Nat.le_refl _) _⟩
set_option maxHeartbeats 800000 in
theorem fillsImm_5 (v : Int) (h0 : -9223372036854775808 ≤ v) (h1 : v < 9223372036854775808) (w : World) (hs : ShapesOk w) :
    Calls Tryd.prog 42 #[.int .u8 5, .int .i64 v] w fun e w' => e = .returned (.bool (immB 5 v)) ∧ Below w.heap.size w w' := by
  have s0 : w.cell? ⟨3, 25, none⟩ = some (.bool false) := (hs 5 (by omega)).1
  have s1 : w.cell? ⟨3, 26, none⟩ = some (.bool true) := (hs 5 (by omega)).2.1
  have s2 : w.cell? ⟨3, 27, none⟩ = some (.bool true) := (hs 5 (by omega)).2.2.1
  have s3 : w.cell? ⟨3, 28, none⟩ = some (.int .i64 12) := (hs 5 (by omega)).2.2.2.1
  have s4 : w.cell? ⟨3, 29, none⟩ = some (.int .i64 1) := (hs 5 (by omega)).2.2.2.2
  clear hs
  have hc := fits12 v h0 h1
  cases hb : fitB v 12
  · rw [hb] at hc
    have hr : immB 5 v = false := by simp [immB, hb]
    have HR := Lib.hid hr
    clear hb hr
    go_enter Tryd.func42, Tryd.ntmps42
    go_wp2_with (go_at_call 56; (with_reducible refine (hc _).mono ?_); rintro e w' ⟨rfl, rfl⟩)
    go_ret
    exact ⟨by rw [HR.out]; rfl, (Below.refl _ _).alloc (Nat.le_refl _) _⟩
  · rw [hb] at hc
    have hr : immB 5 v = true := by simp [immB, hb]
    have HR := Lib.hid hr
    clear hb hr
    go_enter Tryd.func42, Tryd.ntmps42
    go_wp2_with (go_at_call 56; (with_reducible refine (hc _).mono ?_); rintro e w' ⟨rfl, rfl⟩)
    go_ret
    first | exact ⟨by rw [HR.out]; rfl, (Below.refl _ _).alloc (Nat.le_refl _) _⟩ | exact ⟨ret_bool (by rw [HR.out]; first | exact tmod_zero v _ | simp), (Below.refl _ _).alloc (Nat.le_refl _) _⟩
set_option maxHeartbeats 800000 in
theorem fillsImm_6 (v : Int) (h0 : -9223372036854775808 ≤ v) (h1 : v < 9223372036854775808) (w : World) (hs : ShapesOk w) :
    Calls Tryd.prog 42 #[.int .u8 6, .int .i64 v] w fun e w' => e = .returned (.bool (immB 6 v)) ∧ Below w.heap.size w w' := by
  have s0 : w.cell? ⟨3, 30, none⟩ = some (.bool false) := (hs 6 (by omega)).1
  have s1 : w.cell? ⟨3, 31, none⟩ = some (.bool true) := (hs 6 (by omega)).2.1
  have s2 : w.cell? ⟨3, 32, none⟩ = some (.bool true) := (hs 6 (by omega)).2.2.1
  have s3 : w.cell? ⟨3, 33, none⟩ = some (.int .i64 13) := (hs 6 (by omega)).2.2.2.1
  have s4 : w.cell? ⟨3, 34, none⟩ = some (.int .i64 2) := (hs 6 (by omega)).2.2.2.2
  clear hs
  have hc := fits13 v h0 h1
  cases hb : fitB v 13
  · rw [hb] at hc
    have hr : immB 6 v = false := by simp [immB, hb]
    have HR := Lib.hid hr
    clear hb hr
    go_enter Tryd.func42, Tryd.ntmps42
    go_wp2_with (go_at_call 56; (with_reducible refine (hc _).mono ?_); rintro e w' ⟨rfl, rfl⟩)
    go_ret
    exact ⟨by rw [HR.out]; rfl, (Below.refl _ _).alloc (Nat.le_refl _) _⟩
  · rw [hb] at hc
    have hr : immB 6 v = decide (v % 2 = 0) := by simp [immB, hb]
    have HR := Lib.hid hr
    clear hb hr
    go_enter Tryd.func42, Tryd.ntmps42
    go_wp2_with (go_at_call 56; (with_reducible refine (hc _).mono ?_); rintro e w' ⟨rfl, rfl⟩)
    go_ret
    first | exact ⟨by rw [HR.out]; rfl, (Below.refl _ _).alloc (Nat.le_refl _) _⟩ | exact ⟨ret_bool (by rw [HR.out]; first | exact tmod_zero v _ | simp), (Below.refl _ _).alloc (Nat.le_refl _) _⟩
set_option maxHeartbeats 800000 in
theorem fillsImm_7 (v : Int) (h0 : -9223372036854775808 ≤ v) (h1 : v < 9223372036854775808) (w : World) (hs : ShapesOk w) :
    Calls Tryd.prog 42 #[.int .u8 7, .int .i64 v] w fun e w' => e = .returned (.bool (immB 7 v)) ∧ Below w.heap.size w w' := by
  have s0 : w.cell? ⟨3, 35, none⟩ = some (.bool true) := (hs 7 (by omega)).1
  have s1 : w.cell? ⟨3, 36, none⟩ = some (.bool false) := (hs 7 (by omega)).2.1
  have s2 : w.cell? ⟨3, 37, none⟩ = some (.bool false) := (hs 7 (by omega)).2.2.1
  have s3 : w.cell? ⟨3, 38, none⟩ = some (.int .i64 21) := (hs 7 (by omega)).2.2.2.1
  have s4 : w.cell? ⟨3, 39, none⟩ = some (.int .i64 2) := (hs 7 (by omega)).2.2.2.2
  clear hs
  have hc := fits21 v h0 h1
  cases hb : fitB v 21
  · rw [hb] at hc
    have hr : immB 7 v = false := by simp [immB, hb]
    have HR := Lib.hid hr
    clear hb hr
    go_enter Tryd.func42, Tryd.ntmps42
    go_wp2_with (go_at_call 56; (with_reducible refine (hc _).mono ?_); rintro e w' ⟨rfl, rfl⟩)
    go_ret
    exact ⟨by rw [HR.out]; rfl, (Below.refl _ _).alloc (Nat.le_refl _) _⟩
  · rw [hb] at hc
    have hr : immB 7 v = decide (v % 2 = 0) := by simp [immB, hb]
    have HR := Lib.hid hr
    clear hb hr
    go_enter Tryd.func42, Tryd.ntmps42
    go_wp2_with (go_at_call 56; (with_reducible refine (hc _).mono ?_); rintro e w' ⟨rfl, rfl⟩)
    go_ret
    first | exact ⟨by rw [HR.out]; rfl, (Below.refl _ _).alloc (Nat.le_refl _) _⟩ | exact ⟨ret_bool (by rw [HR.out]; first | exact tmod_zero v _ | simp), (Below.refl _ _).alloc (Nat.le_refl _) _⟩
set_option maxHeartbeats 800000 in
theorem fillsImm_8 (v : Int) (h0 : -9223372036854775808 ≤ v) (h1 : v < 9223372036854775808) (w : World) (hs : ShapesOk w) :
    Calls Tryd.prog 42 #[.int .u8 8, .int .i64 v] w fun e w' => e = .returned (.bool (immB 8 v)) ∧ Below w.heap.size w w' := by
  have s0 : w.cell? ⟨3, 40, none⟩ = some (.bool false) := (hs 8 (by omega)).1
  have s1 : w.cell? ⟨3, 41, none⟩ = some (.bool false) := (hs 8 (by omega)).2.1
  have s2 : w.cell? ⟨3, 42, none⟩ = some (.bool false) := (hs 8 (by omega)).2.2.1
  have s3 : w.cell? ⟨3, 43, none⟩ = some (.int .i64 0) := (hs 8 (by omega)).2.2.2.1
  have s4 : w.cell? ⟨3, 44, none⟩ = some (.int .i64 0) := (hs 8 (by omega)).2.2.2.2
  clear hs
  go_enter Tryd.func42, Tryd.ntmps42
  go_wp2
  go_ret
  exact ⟨ret_bool (by unfold immB; rw [Bool.eq_iff_iff]; simp), (Below.refl _ _).alloc (Nat.le_refl _) _⟩
end Go.Proofs.YtjkagpmepokihaaDoor
