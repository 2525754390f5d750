/- Contract of the document's own answer named of layer 2. -/
import Derived.Test.YtfaacmcnefbgcaaGreatDoorJb
import Derived.Test.YtfaacmcnefbgcaaGreatDoorQy
import Derived.Test.YtfaacmcnefbgcaaGreatDoorR2A
import Derived.Test.YtfaacmcnefbgcaaGreatDoorQp
import Derived.Deep.QuietTactic
import Derived.BigQuiet
namespace Go.Proofs.YtfaacmcnefbgcaaGreatDoor
open Go.ChangeShapes Go.WideShapes Go.ChangeAt Go.RowKit
set_option linter.unusedVariables false
theorem rfits_int (v : Int) (n : Nat) (h0 : -9223372036854775808 ≤ v) (h1 : v < 9223372036854775808) (hn : n = 12 ∨ n = 13 ∨ n = 21 ∨ n = 32) (w : World) :
    Calls Tryz.prog 112 #[.int .i64 v, .int .i64 n] w fun e w' => e = .returned (.bool (fitB v n)) ∧ w = w' := by
  have h := rfits_any (v % 18446744073709551616).toNat n (by omega) (by omega) (by omega) w
  have e : wrap64 (((v % 18446744073709551616).toNat : Nat) : Int) = v := by unfold wrap64; omega
  rw [e, fit_val v h0 h1 n hn] at h
  exact h
theorem rfits12 (v : Int) (h0 : -9223372036854775808 ≤ v) (h1 : v < 9223372036854775808) (w : World) :
    Calls Tryz.prog 112 #[.int .i64 v, .int .i64 12] w fun e w' => e = .returned (.bool (fitB v 12)) ∧ w = w' := rfits_int v 12 h0 h1 (by omega) w
theorem rfits13 (v : Int) (h0 : -9223372036854775808 ≤ v) (h1 : v < 9223372036854775808) (w : World) :
    Calls Tryz.prog 112 #[.int .i64 v, .int .i64 13] w fun e w' => e = .returned (.bool (fitB v 13)) ∧ w = w' := rfits_int v 13 h0 h1 (by omega) w
theorem rfits21 (v : Int) (h0 : -9223372036854775808 ≤ v) (h1 : v < 9223372036854775808) (w : World) :
    Calls Tryz.prog 112 #[.int .i64 v, .int .i64 21] w fun e w' => e = .returned (.bool (fitB v 21)) ∧ w = w' := rfits_int v 21 h0 h1 (by omega) w
theorem rfits32 (v : Int) (h0 : -9223372036854775808 ≤ v) (h1 : v < 9223372036854775808) (w : World) :
    Calls Tryz.prog 112 #[.int .i64 v, .int .i64 32] w fun e w' => e = .returned (.bool (fitB v 32)) ∧ w = w' := rfits_int v 32 h0 h1 (by omega) w
theorem bad_t0 (f rd rs1 rs2 : Nat) (v : Int) (hT : rdT f = true) (h : 31 < rd) : takesB f rd rs1 rs2 v = false := by
  have : regB (rdT f) rd = false := by rw [hT]; simp [regB]; omega
  simp [takesB, this]
theorem bad_t1 (f rd rs1 rs2 : Nat) (v : Int) (hT : rs1T f = true) (h : 31 < rs1) : takesB f rd rs1 rs2 v = false := by
  have : regB (rs1T f) rs1 = false := by rw [hT]; simp [regB]; omega
  simp [takesB, this]
theorem bad_t2 (f rd rs1 rs2 : Nat) (v : Int) (hT : rs2T f = true) (h : 31 < rs2) : takesB f rd rs1 rs2 v = false := by
  have : regB (rs2T f) rs2 = false := by rw [hT]; simp [regB]; omega
  simp [takesB, this]
theorem bad_f0 (f rd rs1 rs2 : Nat) (v : Int) (hT : rdT f = false) (h : ¬ rd = 0) : takesB f rd rs1 rs2 v = false := by
  have : regB (rdT f) rd = false := by rw [hT]; simp [regB, h]
  simp [takesB, this]
theorem bad_f1 (f rd rs1 rs2 : Nat) (v : Int) (hT : rs1T f = false) (h : ¬ rs1 = 0) : takesB f rd rs1 rs2 v = false := by
  have : regB (rs1T f) rs1 = false := by rw [hT]; simp [regB, h]
  simp [takesB, this]
theorem bad_f2 (f rd rs1 rs2 : Nat) (v : Int) (hT : rs2T f = false) (h : ¬ rs2 = 0) : takesB f rd rs1 rs2 v = false := by
  have : regB (rs2T f) rs2 = false := by rw [hT]; simp [regB, h]
  simp [takesB, this]
theorem good (f rd rs1 rs2 : Nat) (v : Int) (hf : f ≠ 0) (h1 : regB (rdT f) rd = true) (h2 : regB (rs1T f) rs1 = true) (h3 : regB (rs2T f) rs2 = true) : takesB f rd rs1 rs2 v = immB f v := by
  simp [takesB, h1, h2, h3, hf]
set_option maxHeartbeats 2000000 in
set_option maxRecDepth 100000 in
theorem rnamed_1 (op rd rs1 rs2 : Nat) (v : Int) (hop : op < 256) (hrd : rd < 256) (hr1 : rs1 < 256) (hr2 : rs2 < 256) (h0 : -9223372036854775808 ≤ v) (h1 : v < 9223372036854775808) (w : World) :
    Calls Tryz.prog 86 #[.int .i64 1, .agg #[.int .u8 op, .int .u8 rd, .int .u8 rs1, .int .u8 rs2, .int .i64 v]] w fun e w' => e = .returned (.bool (takesB 1 rd rs1 rs2 v)) ∧ Below w.heap.size w w' := by
  by_cases k0 : 31 < rd
  · have HR := Lib.hid (show takesB 1 rd rs1 rs2 v = false from bad_t0 1 rd rs1 rs2 v rfl k0)
    go_enter Tryz.func86, Tryz.ntmps86
    go_wp2
    go_ret
    exact ⟨by rw [HR.out]; rfl, (Below.refl _ _).alloc (Nat.le_refl _) _⟩
  by_cases k1 : 31 < rs1
  · have HR := Lib.hid (show takesB 1 rd rs1 rs2 v = false from bad_t1 1 rd rs1 rs2 v rfl k1)
    go_enter Tryz.func86, Tryz.ntmps86
    go_wp2
    go_ret
    exact ⟨by rw [HR.out]; rfl, (Below.refl _ _).alloc (Nat.le_refl _) _⟩
  by_cases k2 : 31 < rs2
  · have HR := Lib.hid (show takesB 1 rd rs1 rs2 v = false from bad_t2 1 rd rs1 rs2 v rfl k2)
    go_enter Tryz.func86, Tryz.ntmps86
    go_wp2
    go_ret
    exact ⟨by rw [HR.out]; rfl, (Below.refl _ _).alloc (Nat.le_refl _) _⟩
  have HI := Lib.hid (show takesB 1 rd rs1 rs2 v = immB 1 v from good 1 rd rs1 rs2 v (by omega) (by simp [regB, rdT]; omega) (by simp [regB, rs1T]; omega) (by simp [regB, rs2T]; omega))
  go_enter Tryz.func86, Tryz.ntmps86
  go_wp2
  go_ret
  exact ⟨ret_bool (by rw [HI.out]; unfold immB; rw [Bool.eq_iff_iff]; simp), (Below.refl _ _).alloc (Nat.le_refl _) _⟩
set_option maxHeartbeats 2000000 in
set_option maxRecDepth 100000 in
theorem rnamed_2 (op rd rs1 rs2 : Nat) (v : Int) (hop : op < 256) (hrd : rd < 256) (hr1 : rs1 < 256) (hr2 : rs2 < 256) (h0 : -9223372036854775808 ≤ v) (h1 : v < 9223372036854775808) (w : World) :
    Calls Tryz.prog 86 #[.int .i64 2, .agg #[.int .u8 op, .int .u8 rd, .int .u8 rs1, .int .u8 rs2, .int .i64 v]] w fun e w' => e = .returned (.bool (takesB 2 rd rs1 rs2 v)) ∧ Below w.heap.size w w' := by
  by_cases k2 : rs2 = 0
  rotate_left
  · have HR := Lib.hid (show takesB 2 rd rs1 rs2 v = false from bad_f2 2 rd rs1 rs2 v rfl k2)
    have e1 : ((rs2 : Int) != 0) = true := by rw [bne_iff_ne]; omega
    have e2 : ((rs2 : Int) == 0) = false := by rw [beq_eq_false_iff_ne]; omega
    go_enter Tryz.func86, Tryz.ntmps86
    go_wp2
    go_ret
    exact ⟨by rw [HR.out]; rfl, (Below.refl _ _).alloc (Nat.le_refl _) _⟩
  subst k2
  by_cases k0 : 31 < rd
  · have HR := Lib.hid (show takesB 2 rd rs1 0 v = false from bad_t0 2 rd rs1 0 v rfl k0)
    go_enter Tryz.func86, Tryz.ntmps86
    go_wp2
    go_ret
    exact ⟨by rw [HR.out]; rfl, (Below.refl _ _).alloc (Nat.le_refl _) _⟩
  by_cases k1 : 31 < rs1
  · have HR := Lib.hid (show takesB 2 rd rs1 0 v = false from bad_t1 2 rd rs1 0 v rfl k1)
    go_enter Tryz.func86, Tryz.ntmps86
    go_wp2
    go_ret
    exact ⟨by rw [HR.out]; rfl, (Below.refl _ _).alloc (Nat.le_refl _) _⟩
  have HI := Lib.hid (show takesB 2 rd rs1 0 v = immB 2 v from good 2 rd rs1 0 v (by omega) (by simp [regB, rdT]; omega) (by simp [regB, rs1T]; omega) (by simp [regB, rs2T]))
  have HR := Lib.hid (show immB 2 v = fitB v 12 by simp [immB])
  have hc := rfits12 v h0 h1
  go_enter Tryz.func86, Tryz.ntmps86
  go_wp2_with (go_at_call 112; (with_reducible refine (hc _).mono ?_); rintro e w' ⟨rfl, rfl⟩)
  go_ret
  exact ⟨by rw [HI.out, HR.out]; rfl, (Below.refl _ _).alloc (Nat.le_refl _) _⟩
set_option maxHeartbeats 2000000 in
set_option maxRecDepth 100000 in
theorem rnamed_3 (op rd rs1 rs2 : Nat) (v : Int) (hop : op < 256) (hrd : rd < 256) (hr1 : rs1 < 256) (hr2 : rs2 < 256) (h0 : -9223372036854775808 ≤ v) (h1 : v < 9223372036854775808) (w : World) :
    Calls Tryz.prog 86 #[.int .i64 3, .agg #[.int .u8 op, .int .u8 rd, .int .u8 rs1, .int .u8 rs2, .int .i64 v]] w fun e w' => e = .returned (.bool (takesB 3 rd rs1 rs2 v)) ∧ Below w.heap.size w w' := by
  by_cases k2 : rs2 = 0
  rotate_left
  · have HR := Lib.hid (show takesB 3 rd rs1 rs2 v = false from bad_f2 3 rd rs1 rs2 v rfl k2)
    have e1 : ((rs2 : Int) != 0) = true := by rw [bne_iff_ne]; omega
    have e2 : ((rs2 : Int) == 0) = false := by rw [beq_eq_false_iff_ne]; omega
    go_enter Tryz.func86, Tryz.ntmps86
    go_wp2
    go_ret
    exact ⟨by rw [HR.out]; rfl, (Below.refl _ _).alloc (Nat.le_refl _) _⟩
  subst k2
  by_cases k0 : 31 < rd
  · have HR := Lib.hid (show takesB 3 rd rs1 0 v = false from bad_t0 3 rd rs1 0 v rfl k0)
    go_enter Tryz.func86, Tryz.ntmps86
    go_wp2
    go_ret
    exact ⟨by rw [HR.out]; rfl, (Below.refl _ _).alloc (Nat.le_refl _) _⟩
  by_cases k1 : 31 < rs1
  · have HR := Lib.hid (show takesB 3 rd rs1 0 v = false from bad_t1 3 rd rs1 0 v rfl k1)
    go_enter Tryz.func86, Tryz.ntmps86
    go_wp2
    go_ret
    exact ⟨by rw [HR.out]; rfl, (Below.refl _ _).alloc (Nat.le_refl _) _⟩
  have HI := Lib.hid (show takesB 3 rd rs1 0 v = immB 3 v from good 3 rd rs1 0 v (by omega) (by simp [regB, rdT]; omega) (by simp [regB, rs1T]; omega) (by simp [regB, rs2T]))
  by_cases ha : 0 ≤ v
  · go_enter Tryz.func86, Tryz.ntmps86
    go_wp2
    go_ret
    exact ⟨ret_bool (by rw [HI.out]; unfold immB; rw [Bool.eq_iff_iff]; simp; omega), (Below.refl _ _).alloc (Nat.le_refl _) _⟩
  · go_enter Tryz.func86, Tryz.ntmps86
    go_wp2
    go_ret
    exact ⟨ret_bool (by rw [HI.out]; unfold immB; rw [Bool.eq_iff_iff]; simp; omega), (Below.refl _ _).alloc (Nat.le_refl _) _⟩
set_option maxHeartbeats 2000000 in
set_option maxRecDepth 100000 in
theorem rnamed_4 (op rd rs1 rs2 : Nat) (v : Int) (hop : op < 256) (hrd : rd < 256) (hr1 : rs1 < 256) (hr2 : rs2 < 256) (h0 : -9223372036854775808 ≤ v) (h1 : v < 9223372036854775808) (w : World) :
    Calls Tryz.prog 86 #[.int .i64 4, .agg #[.int .u8 op, .int .u8 rd, .int .u8 rs1, .int .u8 rs2, .int .i64 v]] w fun e w' => e = .returned (.bool (takesB 4 rd rs1 rs2 v)) ∧ Below w.heap.size w w' := by
  by_cases k1 : rs1 = 0
  rotate_left
  · have HR := Lib.hid (show takesB 4 rd rs1 rs2 v = false from bad_f1 4 rd rs1 rs2 v rfl k1)
    have e1 : ((rs1 : Int) != 0) = true := by rw [bne_iff_ne]; omega
    have e2 : ((rs1 : Int) == 0) = false := by rw [beq_eq_false_iff_ne]; omega
    go_enter Tryz.func86, Tryz.ntmps86
    go_wp2
    go_ret
    exact ⟨by rw [HR.out]; rfl, (Below.refl _ _).alloc (Nat.le_refl _) _⟩
  subst k1
  by_cases k2 : rs2 = 0
  rotate_left
  · have HR := Lib.hid (show takesB 4 rd 0 rs2 v = false from bad_f2 4 rd 0 rs2 v rfl k2)
    have e1 : ((rs2 : Int) != 0) = true := by rw [bne_iff_ne]; omega
    have e2 : ((rs2 : Int) == 0) = false := by rw [beq_eq_false_iff_ne]; omega
    go_enter Tryz.func86, Tryz.ntmps86
    go_wp2
    go_ret
    exact ⟨by rw [HR.out]; rfl, (Below.refl _ _).alloc (Nat.le_refl _) _⟩
  subst k2
  by_cases k0 : 31 < rd
  · have HR := Lib.hid (show takesB 4 rd 0 0 v = false from bad_t0 4 rd 0 0 v rfl k0)
    go_enter Tryz.func86, Tryz.ntmps86
    go_wp2
    go_ret
    exact ⟨by rw [HR.out]; rfl, (Below.refl _ _).alloc (Nat.le_refl _) _⟩
  have HI := Lib.hid (show takesB 4 rd 0 0 v = immB 4 v from good 4 rd 0 0 v (by omega) (by simp [regB, rdT]; omega) (by simp [regB, rs1T]) (by simp [regB, rs2T]))
  have hc := rfits32 v h0 h1
  cases hb : fitB v 32
  · rw [hb] at hc
    have HR := Lib.hid (show immB 4 v = false by simp [immB, hb])
    clear hb
    go_enter Tryz.func86, Tryz.ntmps86
    go_wp2_with (go_at_call 112; (with_reducible refine (hc _).mono ?_); rintro e w' ⟨rfl, rfl⟩)
    go_ret
    exact ⟨by rw [HI.out, HR.out]; rfl, (Below.refl _ _).alloc (Nat.le_refl _) _⟩
  · rw [hb] at hc
    have HR := Lib.hid (show immB 4 v = decide (v % 4096 = 0) by simp [immB, hb])
    clear hb
    go_enter Tryz.func86, Tryz.ntmps86
    go_wp2_with (go_at_call 112; (with_reducible refine (hc _).mono ?_); rintro e w' ⟨rfl, rfl⟩)
    go_ret
    exact ⟨ret_bool (by rw [HI.out, HR.out]; exact tmod_zero v _), (Below.refl _ _).alloc (Nat.le_refl _) _⟩
set_option maxHeartbeats 2000000 in
set_option maxRecDepth 100000 in
theorem rnamed_5 (op rd rs1 rs2 : Nat) (v : Int) (hop : op < 256) (hrd : rd < 256) (hr1 : rs1 < 256) (hr2 : rs2 < 256) (h0 : -9223372036854775808 ≤ v) (h1 : v < 9223372036854775808) (w : World) :
    Calls Tryz.prog 86 #[.int .i64 5, .agg #[.int .u8 op, .int .u8 rd, .int .u8 rs1, .int .u8 rs2, .int .i64 v]] w fun e w' => e = .returned (.bool (takesB 5 rd rs1 rs2 v)) ∧ Below w.heap.size w w' := by
  by_cases k0 : rd = 0
  rotate_left
  · have HR := Lib.hid (show takesB 5 rd rs1 rs2 v = false from bad_f0 5 rd rs1 rs2 v rfl k0)
    have e1 : ((rd : Int) != 0) = true := by rw [bne_iff_ne]; omega
    have e2 : ((rd : Int) == 0) = false := by rw [beq_eq_false_iff_ne]; omega
    go_enter Tryz.func86, Tryz.ntmps86
    go_wp2
    go_ret
    exact ⟨by rw [HR.out]; rfl, (Below.refl _ _).alloc (Nat.le_refl _) _⟩
  subst k0
  by_cases k1 : 31 < rs1
  · have HR := Lib.hid (show takesB 5 0 rs1 rs2 v = false from bad_t1 5 0 rs1 rs2 v rfl k1)
    go_enter Tryz.func86, Tryz.ntmps86
    go_wp2
    go_ret
    exact ⟨by rw [HR.out]; rfl, (Below.refl _ _).alloc (Nat.le_refl _) _⟩
  by_cases k2 : 31 < rs2
  · have HR := Lib.hid (show takesB 5 0 rs1 rs2 v = false from bad_t2 5 0 rs1 rs2 v rfl k2)
    go_enter Tryz.func86, Tryz.ntmps86
    go_wp2
    go_ret
    exact ⟨by rw [HR.out]; rfl, (Below.refl _ _).alloc (Nat.le_refl _) _⟩
  have HI := Lib.hid (show takesB 5 0 rs1 rs2 v = immB 5 v from good 5 0 rs1 rs2 v (by omega) (by simp [regB, rdT]) (by simp [regB, rs1T]; omega) (by simp [regB, rs2T]; omega))
  have HR := Lib.hid (show immB 5 v = fitB v 12 by simp [immB])
  have hc := rfits12 v h0 h1
  go_enter Tryz.func86, Tryz.ntmps86
  go_wp2_with (go_at_call 112; (with_reducible refine (hc _).mono ?_); rintro e w' ⟨rfl, rfl⟩)
  go_ret
  exact ⟨by rw [HI.out, HR.out]; rfl, (Below.refl _ _).alloc (Nat.le_refl _) _⟩
set_option maxHeartbeats 2000000 in
set_option maxRecDepth 100000 in
theorem rnamed_6 (op rd rs1 rs2 : Nat) (v : Int) (hop : op < 256) (hrd : rd < 256) (hr1 : rs1 < 256) (hr2 : rs2 < 256) (h0 : -9223372036854775808 ≤ v) (h1 : v < 9223372036854775808) (w : World) :
    Calls Tryz.prog 86 #[.int .i64 6, .agg #[.int .u8 op, .int .u8 rd, .int .u8 rs1, .int .u8 rs2, .int .i64 v]] w fun e w' => e = .returned (.bool (takesB 6 rd rs1 rs2 v)) ∧ Below w.heap.size w w' := by
  by_cases k0 : rd = 0
  rotate_left
  · have HR := Lib.hid (show takesB 6 rd rs1 rs2 v = false from bad_f0 6 rd rs1 rs2 v rfl k0)
    have e1 : ((rd : Int) != 0) = true := by rw [bne_iff_ne]; omega
    have e2 : ((rd : Int) == 0) = false := by rw [beq_eq_false_iff_ne]; omega
    go_enter Tryz.func86, Tryz.ntmps86
    go_wp2
    go_ret
    exact ⟨by rw [HR.out]; rfl, (Below.refl _ _).alloc (Nat.le_refl _) _⟩
  subst k0
  by_cases k1 : 31 < rs1
  · have HR := Lib.hid (show takesB 6 0 rs1 rs2 v = false from bad_t1 6 0 rs1 rs2 v rfl k1)
    go_enter Tryz.func86, Tryz.ntmps86
    go_wp2
    go_ret
    exact ⟨by rw [HR.out]; rfl, (Below.refl _ _).alloc (Nat.le_refl _) _⟩
  by_cases k2 : 31 < rs2
  · have HR := Lib.hid (show takesB 6 0 rs1 rs2 v = false from bad_t2 6 0 rs1 rs2 v rfl k2)
    go_enter Tryz.func86, Tryz.ntmps86
    go_wp2
    go_ret
    exact ⟨by rw [HR.out]; rfl, (Below.refl _ _).alloc (Nat.le_refl _) _⟩
  have HI := Lib.hid (show takesB 6 0 rs1 rs2 v = immB 6 v from good 6 0 rs1 rs2 v (by omega) (by simp [regB, rdT]) (by simp [regB, rs1T]; omega) (by simp [regB, rs2T]; omega))
  have hc := rfits13 v h0 h1
  cases hb : fitB v 13
  · rw [hb] at hc
    have HR := Lib.hid (show immB 6 v = false by simp [immB, hb])
    clear hb
    go_enter Tryz.func86, Tryz.ntmps86
    go_wp2_with (go_at_call 112; (with_reducible refine (hc _).mono ?_); rintro e w' ⟨rfl, rfl⟩)
    go_ret
    exact ⟨by rw [HI.out, HR.out]; rfl, (Below.refl _ _).alloc (Nat.le_refl _) _⟩
  · rw [hb] at hc
    have HR := Lib.hid (show immB 6 v = decide (v % 2 = 0) by simp [immB, hb])
    clear hb
    go_enter Tryz.func86, Tryz.ntmps86
    go_wp2_with (go_at_call 112; (with_reducible refine (hc _).mono ?_); rintro e w' ⟨rfl, rfl⟩)
    go_ret
    exact ⟨ret_bool (by rw [HI.out, HR.out]; exact tmod_zero v _), (Below.refl _ _).alloc (Nat.le_refl _) _⟩
set_option maxHeartbeats 2000000 in
set_option maxRecDepth 100000 in
theorem rnamed_7 (op rd rs1 rs2 : Nat) (v : Int) (hop : op < 256) (hrd : rd < 256) (hr1 : rs1 < 256) (hr2 : rs2 < 256) (h0 : -9223372036854775808 ≤ v) (h1 : v < 9223372036854775808) (w : World) :
    Calls Tryz.prog 86 #[.int .i64 7, .agg #[.int .u8 op, .int .u8 rd, .int .u8 rs1, .int .u8 rs2, .int .i64 v]] w fun e w' => e = .returned (.bool (takesB 7 rd rs1 rs2 v)) ∧ Below w.heap.size w w' := by
  by_cases k1 : rs1 = 0
  rotate_left
  · have HR := Lib.hid (show takesB 7 rd rs1 rs2 v = false from bad_f1 7 rd rs1 rs2 v rfl k1)
    have e1 : ((rs1 : Int) != 0) = true := by rw [bne_iff_ne]; omega
    have e2 : ((rs1 : Int) == 0) = false := by rw [beq_eq_false_iff_ne]; omega
    go_enter Tryz.func86, Tryz.ntmps86
    go_wp2
    go_ret
    exact ⟨by rw [HR.out]; rfl, (Below.refl _ _).alloc (Nat.le_refl _) _⟩
  subst k1
  by_cases k2 : rs2 = 0
  rotate_left
  · have HR := Lib.hid (show takesB 7 rd 0 rs2 v = false from bad_f2 7 rd 0 rs2 v rfl k2)
    have e1 : ((rs2 : Int) != 0) = true := by rw [bne_iff_ne]; omega
    have e2 : ((rs2 : Int) == 0) = false := by rw [beq_eq_false_iff_ne]; omega
    go_enter Tryz.func86, Tryz.ntmps86
    go_wp2
    go_ret
    exact ⟨by rw [HR.out]; rfl, (Below.refl _ _).alloc (Nat.le_refl _) _⟩
  subst k2
  by_cases k0 : 31 < rd
  · have HR := Lib.hid (show takesB 7 rd 0 0 v = false from bad_t0 7 rd 0 0 v rfl k0)
    go_enter Tryz.func86, Tryz.ntmps86
    go_wp2
    go_ret
    exact ⟨by rw [HR.out]; rfl, (Below.refl _ _).alloc (Nat.le_refl _) _⟩
  have HI := Lib.hid (show takesB 7 rd 0 0 v = immB 7 v from good 7 rd 0 0 v (by omega) (by simp [regB, rdT]; omega) (by simp [regB, rs1T]) (by simp [regB, rs2T]))
  have hc := rfits21 v h0 h1
  cases hb : fitB v 21
  · rw [hb] at hc
    have HR := Lib.hid (show immB 7 v = false by simp [immB, hb])
    clear hb
    go_enter Tryz.func86, Tryz.ntmps86
    go_wp2_with (go_at_call 112; (with_reducible refine (hc _).mono ?_); rintro e w' ⟨rfl, rfl⟩)
    go_ret
    exact ⟨by rw [HI.out, HR.out]; rfl, (Below.refl _ _).alloc (Nat.le_refl _) _⟩
  · rw [hb] at hc
    have HR := Lib.hid (show immB 7 v = decide (v % 2 = 0) by simp [immB, hb])
    clear hb
    go_enter Tryz.func86, Tryz.ntmps86
    go_wp2_with (go_at_call 112; (with_reducible refine (hc _).mono ?_); rintro e w' ⟨rfl, rfl⟩)
    go_ret
    exact ⟨ret_bool (by rw [HI.out, HR.out]; exact tmod_zero v _), (Below.refl _ _).alloc (Nat.le_refl _) _⟩
set_option maxHeartbeats 2000000 in
set_option maxRecDepth 100000 in
theorem rnamed_8 (op rd rs1 rs2 : Nat) (v : Int) (hop : op < 256) (hrd : rd < 256) (hr1 : rs1 < 256) (hr2 : rs2 < 256) (h0 : -9223372036854775808 ≤ v) (h1 : v < 9223372036854775808) (w : World) :
    Calls Tryz.prog 86 #[.int .i64 8, .agg #[.int .u8 op, .int .u8 rd, .int .u8 rs1, .int .u8 rs2, .int .i64 v]] w fun e w' => e = .returned (.bool (takesB 8 rd rs1 rs2 v)) ∧ Below w.heap.size w w' := by
  by_cases k0 : rd = 0
  rotate_left
  · have HR := Lib.hid (show takesB 8 rd rs1 rs2 v = false from bad_f0 8 rd rs1 rs2 v rfl k0)
    have e1 : ((rd : Int) != 0) = true := by rw [bne_iff_ne]; omega
    have e2 : ((rd : Int) == 0) = false := by rw [beq_eq_false_iff_ne]; omega
    go_enter Tryz.func86, Tryz.ntmps86
    go_wp2
    go_ret
    exact ⟨by rw [HR.out]; rfl, (Below.refl _ _).alloc (Nat.le_refl _) _⟩
  subst k0
  by_cases k1 : rs1 = 0
  rotate_left
  · have HR := Lib.hid (show takesB 8 0 rs1 rs2 v = false from bad_f1 8 0 rs1 rs2 v rfl k1)
    have e1 : ((rs1 : Int) != 0) = true := by rw [bne_iff_ne]; omega
    have e2 : ((rs1 : Int) == 0) = false := by rw [beq_eq_false_iff_ne]; omega
    go_enter Tryz.func86, Tryz.ntmps86
    go_wp2
    go_ret
    exact ⟨by rw [HR.out]; rfl, (Below.refl _ _).alloc (Nat.le_refl _) _⟩
  subst k1
  by_cases k2 : rs2 = 0
  rotate_left
  · have HR := Lib.hid (show takesB 8 0 0 rs2 v = false from bad_f2 8 0 0 rs2 v rfl k2)
    have e1 : ((rs2 : Int) != 0) = true := by rw [bne_iff_ne]; omega
    have e2 : ((rs2 : Int) == 0) = false := by rw [beq_eq_false_iff_ne]; omega
    go_enter Tryz.func86, Tryz.ntmps86
    go_wp2
    go_ret
    exact ⟨by rw [HR.out]; rfl, (Below.refl _ _).alloc (Nat.le_refl _) _⟩
  subst k2
  have HI := Lib.hid (show takesB 8 0 0 0 v = immB 8 v from good 8 0 0 0 v (by omega) (by simp [regB, rdT]) (by simp [regB, rs1T]) (by simp [regB, rs2T]))
  go_enter Tryz.func86, Tryz.ntmps86
  go_wp2
  go_ret
  exact ⟨ret_bool (by rw [HI.out]; unfold immB; rw [Bool.eq_iff_iff]; simp), (Below.refl _ _).alloc (Nat.le_refl _) _⟩
theorem rnamed_any (f op rd rs1 rs2 : Nat) (hf : f ≤ 8) (hf0 : f ≠ 0) (v : Int) (hop : op < 256) (hrd : rd < 256) (hr1 : rs1 < 256) (hr2 : rs2 < 256) (h0 : -9223372036854775808 ≤ v) (h1 : v < 9223372036854775808) (w : World) :
    Calls Tryz.prog 86 #[.int .i64 f, .agg #[.int .u8 op, .int .u8 rd, .int .u8 rs1, .int .u8 rs2, .int .i64 v]] w fun e w' => e = .returned (.bool (takesB f rd rs1 rs2 v)) ∧ Below w.heap.size w w' := by
  rcases form_cases hf hf0 with rfl | rfl | rfl | rfl | rfl | rfl | rfl | rfl
  · exact rnamed_1 op rd rs1 rs2 v hop hrd hr1 hr2 h0 h1 w
  · exact rnamed_2 op rd rs1 rs2 v hop hrd hr1 hr2 h0 h1 w
  · exact rnamed_3 op rd rs1 rs2 v hop hrd hr1 hr2 h0 h1 w
  · exact rnamed_4 op rd rs1 rs2 v hop hrd hr1 hr2 h0 h1 w
  · exact rnamed_5 op rd rs1 rs2 v hop hrd hr1 hr2 h0 h1 w
  · exact rnamed_6 op rd rs1 rs2 v hop hrd hr1 hr2 h0 h1 w
  · exact rnamed_7 op rd rs1 rs2 v hop hrd hr1 hr2 h0 h1 w
  · exact rnamed_8 op rd rs1 rs2 v hop hrd hr1 hr2 h0 h1 w
end Go.Proofs.YtfaacmcnefbgcaaGreatDoor

/- Contract of the document's own answer Encode of layer 2: for any instruction. -/
namespace Go.Proofs.YtfaacmcnefbgcaaGreatDoor
open Go.ChangeShapes Go.WideShapes Go.ChangeAt Go.RowKit
set_option linter.unusedVariables false
theorem num_any (f : Nat) (hf : f ≤ 8) (hf0 : f ≠ 0) (v : Int) (h0 : -9223372036854775808 ≤ v) (h1 : v < 9223372036854775808) (w : World) :
    Calls Tryz.prog 87 #[.int .i64 f, .int .i64 v] w fun e w' => e = .returned (.int .u32 (numv f v : Nat)) ∧ w' = w := by
  have sw : ∀ {e : Ending} {w' : World} {x : Ending}, (e = x ∧ w = w') → (e = x ∧ w' = w) := fun h => ⟨h.1, h.2.symm⟩
  rcases form_cases hf hf0 with rfl | rfl | rfl | rfl | rfl | rfl | rfl | rfl
  · exact (num_1 v h0 h1 w).mono fun _ _ h => sw h
  · exact (num_2 v h0 h1 w).mono fun _ _ h => sw h
  · exact (num_3 v h0 h1 w).mono fun _ _ h => sw h
  · exact (num_4 v h0 h1 w).mono fun _ _ h => sw h
  · exact (num_5 v h0 h1 w).mono fun _ _ h => sw h
  · exact (num_6 v h0 h1 w).mono fun _ _ h => sw h
  · exact (num_7 v h0 h1 w).mono fun _ _ h => sw h
  · exact (num_8 v h0 h1 w).mono fun _ _ h => sw h
theorem rof_any (k : Nat) (h1 : 1 ≤ k) (h2 : k ≤ 34) (w : World) : Calls Tryz.prog 76 #[.int .u8 k] w fun e w' => e = .returned (.tuple #[.agg #[.int .u32 (codeT k : Nat), .int .u32 (f3T k : Nat), .int .u32 (f7T k : Nat), .int .i64 (formT k : Nat)], .bool true]) ∧ Below w.heap.size w w' := by
  have hc : k = 1 ∨ k = 2 ∨ k = 3 ∨ k = 4 ∨ k = 5 ∨ k = 6 ∨ k = 7 ∨ k = 8 ∨ k = 9 ∨ k = 10 ∨ k = 11 ∨ k = 12 ∨ k = 13 ∨ k = 14 ∨ k = 15 ∨ k = 16 ∨ k = 17 ∨ k = 18 ∨ k = 19 ∨ k = 20 ∨ k = 21 ∨ k = 22 ∨ k = 23 ∨ k = 24 ∨ k = 25 ∨ k = 26 ∨ k = 27 ∨ k = 28 ∨ k = 29 ∨ k = 30 ∨ k = 31 ∨ k = 32 ∨ k = 33 ∨ k = 34 := by omega
  clear h1 h2
  rcases hc with rfl | rfl | rfl | rfl | rfl | rfl | rfl | rfl | rfl | rfl | rfl | rfl | rfl | rfl | rfl | rfl | rfl | rfl | rfl | rfl | rfl | rfl | rfl | rfl | rfl | rfl | rfl | rfl | rfl | rfl | rfl | rfl | rfl | rfl
  · exact rof_1 w
  · exact rof_2 w
  · exact rof_3 w
  · exact rof_4 w
  · exact rof_5 w
  · exact rof_6 w
  · exact rof_7 w
  · exact rof_8 w
  · exact rof_9 w
  · exact rof_10 w
  · exact rof_11 w
  · exact rof_12 w
  · exact rof_13 w
  · exact rof_14 w
  · exact rof_15 w
  · exact rof_16 w
  · exact rof_17 w
  · exact rof_18 w
  · exact rof_19 w
  · exact rof_20 w
  · exact rof_21 w
  · exact rof_22 w
  · exact rof_23 w
  · exact rof_24 w
  · exact rof_25 w
  · exact rof_26 w
  · exact rof_27 w
  · exact rof_28 w
  · exact rof_29 w
  · exact rof_30 w
  · exact rof_31 w
  · exact rof_32 w
  · exact rof_33 w
  · exact rof_34 w
theorem fld_cut (v : Int) (a n : Nat) (h : n ≤ 32) : fld v a n = cutN v a % 2 ^ n := by
  have h1 := fld_cast v a n
  have h2 := cutN_eq v a
  apply Int.ofNat.inj
  show ((fld v a n : Nat) : Int) = ((cutN v a % 2 ^ n : Nat) : Int)
  rw [h1, Int.natCast_emod, h2, Int.natCast_pow]
  have hd : (2 : Int) ^ n ∣ 4294967296 := ⟨2 ^ (32 - n), by rw [← Int.pow_add, show n + (32 - n) = 32 by omega]; rfl⟩
  exact (Int.emod_emod_of_dvd (v / 2 ^ a) hd).symm
theorem sum_1 (c f3 f7 rd rs1 rs2 : Nat) (v : Int) (hc : c < 128) (hf3 : f3 < 8) (hf7 : f7 < 128) (h0 : rd < 32) (h1 : rs1 < 32) (h2 : rs2 < 32) :
    (((c : Int) + (rd : Int) * 128 + (f3 : Int) * 4096 + (rs1 : Int) * 32768 + (rs2 : Int) * 1048576 + (f7 : Int) * 33554432) % 4294967296 + ((numv 1 v : Nat) : Int)) % 4294967296 = ((layv (piecesv 1 c f3 f7 rd rs1 rs2 v) : Nat) : Int) := by
  rw [lay1]
  rw [show numv 1 v = 0 from rfl]
  omega
theorem sum_2 (c f3 f7 rd rs1 rs2 : Nat) (v : Int) (hc : c < 128) (hf3 : f3 < 8) (hf7 : f7 = 0) (h0 : rd < 32) (h1 : rs1 < 32) (h2 : rs2 = 0) :
    (((c : Int) + (rd : Int) * 128 + (f3 : Int) * 4096 + (rs1 : Int) * 32768 + (rs2 : Int) * 1048576 + (f7 : Int) * 33554432) % 4294967296 + ((numv 2 v : Nat) : Int)) % 4294967296 = ((layv (piecesv 2 c f3 f7 rd rs1 rs2 v) : Nat) : Int) := by
  rw [lay2]
  rw [show numv 2 v = fld v 0 12 * 1048576 from rfl]
  rw [fld_cut v 0 12 (by omega)]
  simp only [Nat.reducePow]
  omega
theorem sum_3 (c f3 f7 rd rs1 rs2 : Nat) (v : Int) (hc : c < 128) (hf3 : f3 < 8) (hf7 : f7 < 128 ∧ f7 % 2 = 0) (h0 : rd < 32) (h1 : rs1 < 32) (h2 : rs2 = 0) :
    (((c : Int) + (rd : Int) * 128 + (f3 : Int) * 4096 + (rs1 : Int) * 32768 + (rs2 : Int) * 1048576 + (f7 : Int) * 33554432) % 4294967296 + ((numv 3 v : Nat) : Int)) % 4294967296 = ((layv (piecesv 3 c f3 f7 rd rs1 rs2 v) : Nat) : Int) := by
  rw [lay3]
  rw [show numv 3 v = fld v 0 6 * 1048576 from rfl]
  rw [fld_cut v 0 6 (by omega)]
  simp only [Nat.reducePow]
  omega
theorem sum_4 (c f3 f7 rd rs1 rs2 : Nat) (v : Int) (hc : c < 128) (hf3 : f3 = 0) (hf7 : f7 = 0) (h0 : rd < 32) (h1 : rs1 = 0) (h2 : rs2 = 0) :
    (((c : Int) + (rd : Int) * 128 + (f3 : Int) * 4096 + (rs1 : Int) * 32768 + (rs2 : Int) * 1048576 + (f7 : Int) * 33554432) % 4294967296 + ((numv 4 v : Nat) : Int)) % 4294967296 = ((layv (piecesv 4 c f3 f7 rd rs1 rs2 v) : Nat) : Int) := by
  rw [lay4]
  rw [show numv 4 v = fld v 12 20 * 4096 from rfl]
  rw [fld_cut v 12 20 (by omega)]
  simp only [Nat.reducePow]
  omega
theorem sum_5 (c f3 f7 rd rs1 rs2 : Nat) (v : Int) (hc : c < 128) (hf3 : f3 < 8) (hf7 : f7 = 0) (h0 : rd = 0) (h1 : rs1 < 32) (h2 : rs2 < 32) :
    (((c : Int) + (rd : Int) * 128 + (f3 : Int) * 4096 + (rs1 : Int) * 32768 + (rs2 : Int) * 1048576 + (f7 : Int) * 33554432) % 4294967296 + ((numv 5 v : Nat) : Int)) % 4294967296 = ((layv (piecesv 5 c f3 f7 rd rs1 rs2 v) : Nat) : Int) := by
  rw [lay5]
  rw [show numv 5 v = fld v 0 5 * 128 + fld v 5 7 * 33554432 from rfl]
  rw [fld_cut v 0 5 (by omega), fld_cut v 5 7 (by omega)]
  simp only [Nat.reducePow]
  omega
theorem sum_6 (c f3 f7 rd rs1 rs2 : Nat) (v : Int) (hc : c < 128) (hf3 : f3 < 8) (hf7 : f7 = 0) (h0 : rd = 0) (h1 : rs1 < 32) (h2 : rs2 < 32) :
    (((c : Int) + (rd : Int) * 128 + (f3 : Int) * 4096 + (rs1 : Int) * 32768 + (rs2 : Int) * 1048576 + (f7 : Int) * 33554432) % 4294967296 + ((numv 6 v : Nat) : Int)) % 4294967296 = ((layv (piecesv 6 c f3 f7 rd rs1 rs2 v) : Nat) : Int) := by
  rw [lay6]
  rw [show numv 6 v = fld v 11 1 * 128 + fld v 1 4 * 256 + fld v 5 6 * 33554432 + fld v 12 1 * 2147483648 from rfl]
  rw [fld_cut v 11 1 (by omega), fld_cut v 1 4 (by omega), fld_cut v 5 6 (by omega), fld_cut v 12 1 (by omega)]
  simp only [Nat.reducePow]
  omega
theorem sum_7 (c f3 f7 rd rs1 rs2 : Nat) (v : Int) (hc : c < 128) (hf3 : f3 = 0) (hf7 : f7 = 0) (h0 : rd < 32) (h1 : rs1 = 0) (h2 : rs2 = 0) :
    (((c : Int) + (rd : Int) * 128 + (f3 : Int) * 4096 + (rs1 : Int) * 32768 + (rs2 : Int) * 1048576 + (f7 : Int) * 33554432) % 4294967296 + ((numv 7 v : Nat) : Int)) % 4294967296 = ((layv (piecesv 7 c f3 f7 rd rs1 rs2 v) : Nat) : Int) := by
  rw [lay7]
  rw [show numv 7 v = fld v 12 8 * 4096 + fld v 11 1 * 1048576 + fld v 1 10 * 2097152 + fld v 20 1 * 2147483648 from rfl]
  rw [fld_cut v 12 8 (by omega), fld_cut v 11 1 (by omega), fld_cut v 1 10 (by omega), fld_cut v 20 1 (by omega)]
  simp only [Nat.reducePow]
  omega
theorem sum_8 (c f3 f7 rd rs1 rs2 : Nat) (v : Int) (hc : c < 128) (hf3 : f3 = 0) (hf7 : f7 = 0) (h0 : rd = 0) (h1 : rs1 = 0) (h2 : rs2 = 0) :
    (((c : Int) + (rd : Int) * 128 + (f3 : Int) * 4096 + (rs1 : Int) * 32768 + (rs2 : Int) * 1048576 + (f7 : Int) * 33554432) % 4294967296 + ((numv 8 v : Nat) : Int)) % 4294967296 = ((layv (piecesv 8 c f3 f7 rd rs1 rs2 v) : Nat) : Int) := by
  rw [lay8]
  rw [show numv 8 v = 0 from rfl]
  omega
theorem word_sum (op rd rs1 rs2 : Nat) (v : Int) (hop : op < 35) (hf0 : formT op ≠ 0) (h : takesB (formT op) rd rs1 rs2 v = true) :
    (((codeT op : Int) + (rd : Int) * 128 + (f3T op : Int) * 4096 + (rs1 : Int) * 32768 + (rs2 : Int) * 1048576 + (f7T op : Int) * 33554432) % 4294967296 + ((numv (formT op) v : Nat) : Int)) % 4294967296 = ((layv (piecesv (formT op) (codeT op) (f3T op) (f7T op) rd rs1 rs2 v) : Nat) : Int) := by
  have ho : okB op rd rs1 rs2 v = true := by simp [okB, hop, h]
  obtain ⟨k1, k2, k3, k4, k5, k6⟩ := ok_parts ho
  obtain ⟨t1, t2, t3, t4, t5, t6⟩ := tabs op k1 k2
  have u := (by decide +kernel : ∀ k < 35, (formT k = 1 ∨ formT k = 3 ∨ f7T k = 0) ∧ (formT k ≠ 3 ∨ f7T k % 2 = 0) ∧ ((formT k ≠ 4 ∧ formT k ≠ 7 ∧ formT k ≠ 8) ∨ f3T k = 0)) op k1
  obtain ⟨u1, u2, u3⟩ := u
  clear h ho k6
  generalize codeT op = c at *
  generalize f3T op = f3 at *
  generalize f7T op = f7 at *
  generalize formT op = fm at *
  rcases form_cases t5 hf0 with rfl | rfl | rfl | rfl | rfl | rfl | rfl | rfl
  · exact sum_1 c f3 f7 rd rs1 rs2 v t2 (by omega) (by omega) ((reg_t _).1 k3) ((reg_t _).1 k4) ((reg_t _).1 k5)
  · exact sum_2 c f3 f7 rd rs1 rs2 v t2 (by omega) (by omega) ((reg_t _).1 k3) ((reg_t _).1 k4) ((reg_f _).1 k5)
  · exact sum_3 c f3 f7 rd rs1 rs2 v t2 (by omega) (by omega) ((reg_t _).1 k3) ((reg_t _).1 k4) ((reg_f _).1 k5)
  · exact sum_4 c f3 f7 rd rs1 rs2 v t2 (by omega) (by omega) ((reg_t _).1 k3) ((reg_f _).1 k4) ((reg_f _).1 k5)
  · exact sum_5 c f3 f7 rd rs1 rs2 v t2 (by omega) (by omega) ((reg_f _).1 k3) ((reg_t _).1 k4) ((reg_t _).1 k5)
  · exact sum_6 c f3 f7 rd rs1 rs2 v t2 (by omega) (by omega) ((reg_f _).1 k3) ((reg_t _).1 k4) ((reg_t _).1 k5)
  · exact sum_7 c f3 f7 rd rs1 rs2 v t2 (by omega) (by omega) ((reg_t _).1 k3) ((reg_f _).1 k4) ((reg_f _).1 k5)
  · exact sum_8 c f3 f7 rd rs1 rs2 v t2 (by omega) (by omega) ((reg_f _).1 k3) ((reg_f _).1 k4) ((reg_f _).1 k5)
theorem fin2 {w w1 w2 : World} {o o' : Obj} (h1 : Below (w.alloc o).heap.size (w.alloc o) w1) (h2 : Below (w1.alloc o').heap.size (w1.alloc o') w2) : Below w.heap.size w w2 := by
  have h0 : Below w.heap.size w w1 := ((Below.refl _ _).alloc (Nat.le_refl _) _).trans (h1.mono (by simp))
  exact btl h0 (o := o') |>.trans (h2.mono (btl h0 (o := o')).size)
theorem ok_none (op rd rs1 rs2 : Nat) (v : Int) (h : op = 0 ∨ 34 < op) : okB op rd rs1 rs2 v = false := by
  rcases h with rfl | h
  · simp [okB, takesB, show formT 0 = 0 from rfl]
  · simp [okB]; omega
set_option maxHeartbeats 2000000 in
set_option maxRecDepth 100000 in
theorem renc_any (op rd rs1 rs2 : Nat) (v : Int) (hop : op < 256) (hrd : rd < 256) (hr1 : rs1 < 256) (hr2 : rs2 < 256) (h0 : -9223372036854775808 ≤ v) (h1 : v < 9223372036854775808) (w : World) :
    Calls Tryz.prog 46 #[.agg #[.int .u8 op, .int .u8 rd, .int .u8 rs1, .int .u8 rs2, .int .i64 v]] w fun e w' => e = .returned (.tuple #[.int .u32 (encW op rd rs1 rs2 v : Nat), .int .i64 (encE op rd rs1 rs2 v)]) ∧ Below w.heap.size w w' := by
  by_cases hlt : 1 ≤ op ∧ op ≤ 34
  · obtain ⟨g1, g2⟩ := hlt
    have hT := tabs op (by omega) ((by decide +kernel : ∀ k < 35, 1 ≤ k → formT k ≠ 0) op (by omega) g1)
    have hf0 : formT op ≠ 0 := (by decide +kernel : ∀ k < 35, 1 ≤ k → formT k ≠ 0) op (by omega) g1
    obtain ⟨t1, t2, t3, t4, t5, t6⟩ := hT
    have ht := rnamed_any (formT op) op rd rs1 rs2 t5 hf0 v hop hrd hr1 hr2 h0 h1
    have ho := rof_any op g1 g2
    cases hb : takesB (formT op) rd rs1 rs2 v
    · rw [hb] at ht
      have HW := Lib.hid (show encW op rd rs1 rs2 v = 0 by simp [encW, okB, hb])
      have HE := Lib.hid (show encE op rd rs1 rs2 v = 2 by simp [encE, okB, hb])
      clear hb
      go_enter Tryz.func46, Tryz.ntmps46
      go_wp2_with (first | (go_at_call 76; ((with_reducible refine (ho _).mono ?_); (rintro e w1 ⟨rfl, hb1⟩); obtain ⟨hc1, hf1⟩ := bcell hb1; have hz1 : w.heap.size < w1.heap.size := (by have := hb1.size; simp at this; omega))) | (go_at_call 86; ((with_reducible refine (ht _).mono ?_); (rintro e w2 ⟨rfl, hb2⟩))))
      go_ret2
      exact ⟨by rw [HW.out, HE.out]; rfl, fin2 hb1 hb2⟩
    · rw [hb] at ht
      have hn := num_any (formT op) t5 hf0 v h0 h1
      have HW := Lib.hid (show encW op rd rs1 rs2 v = layv (piecesv (formT op) (codeT op) (f3T op) (f7T op) rd rs1 rs2 v) by simp [encW, okB, hb, wordN]; omega)
      have HE := Lib.hid (show encE op rd rs1 rs2 v = 0 by simp [encE, okB, hb]; omega)
      have HB := Lib.hid hb
      clear hb
      go_enter Tryz.func46, Tryz.ntmps46
      go_wp2_with (first | (go_at_call 76; ((with_reducible refine (ho _).mono ?_); (rintro e w1 ⟨rfl, hb1⟩); obtain ⟨hc1, hf1⟩ := bcell hb1; have hz1 : w.heap.size < w1.heap.size := (by have := hb1.size; simp at this; omega); have hz3 : w.heap.size < w1.heap.size + 1 := (by omega))) | (go_at_call 86; ((with_reducible refine (ht _).mono ?_); (rintro e w2 ⟨rfl, hb2⟩); obtain ⟨hc2, hf2⟩ := bcell hb2)))
      go_quiet ((go_at_call 87; exact Calls.quiet_of_same (hn _)))
      go_wp2
      go_ret2
      have hs := word_sum op rd rs1 rs2 v (by omega) hf0 HB.out
      exact ⟨by rw [HW.out, HE.out, ← hs]; rfl, bdN (fin2 hb1 hb2) _⟩
  · have hc0 := rof_no op hop (by omega)
    have HW := Lib.hid (show encW op rd rs1 rs2 v = 0 by simp [encW, ok_none op rd rs1 rs2 v (by omega)])
    have HE := Lib.hid (show encE op rd rs1 rs2 v = 2 by simp [encE, ok_none op rd rs1 rs2 v (by omega)])
    clear hlt
    go_enter Tryz.func46, Tryz.ntmps46
    go_wp2_with (go_at_call 76; ((with_reducible refine (hc0 _).mono ?_); (rintro e w1 ⟨rfl, hb1⟩)))
    go_ret2
    exact ⟨by rw [HW.out, HE.out]; rfl, (((Below.refl _ _).alloc (Nat.le_refl _) _).trans (hb1.mono (by simp))).alloc (by have := hb1.size; simp at this; omega) _⟩
end Go.Proofs.YtfaacmcnefbgcaaGreatDoor
