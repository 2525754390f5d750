/- Contract of the document's own answer named of layer 2. -/
import Derived.Test.YtcckgfablfgknaaGreatDoorQo
import Derived.Test.YtcckgfablfgknaaGreatDoorQy
namespace Go.Proofs.YtcckgfablfgknaaGreatDoor
open Go.ChangeShapes Go.WideShapes Go.ChangeAt Go.RowKit
set_option linter.unusedVariables false
theorem rfits_int (v : Int) (n : Nat) (h0 : -9223372036854775808 ≤ v) (h1 : v < 9223372036854775808) (hn : n = 12 ∨ n = 13 ∨ n = 21 ∨ n = 32) (w : World) :
    Calls Tryz.prog 146 #[.int .i64 v, .int .i64 n] w fun e w' => e = .returned (.bool (fitB v n)) ∧ w = w' := by
  have h := rfits_any (v % 18446744073709551616).toNat n (by omega) (by omega) (by omega) w
  have e : wrap64 (((v % 18446744073709551616).toNat : Nat) : Int) = v := by unfold wrap64; omega
  rw [e, fit_val v h0 h1 n hn] at h
  exact h
theorem rfits12 (v : Int) (h0 : -9223372036854775808 ≤ v) (h1 : v < 9223372036854775808) (w : World) :
    Calls Tryz.prog 146 #[.int .i64 v, .int .i64 12] w fun e w' => e = .returned (.bool (fitB v 12)) ∧ w = w' := rfits_int v 12 h0 h1 (by omega) w
theorem rfits13 (v : Int) (h0 : -9223372036854775808 ≤ v) (h1 : v < 9223372036854775808) (w : World) :
    Calls Tryz.prog 146 #[.int .i64 v, .int .i64 13] w fun e w' => e = .returned (.bool (fitB v 13)) ∧ w = w' := rfits_int v 13 h0 h1 (by omega) w
theorem rfits21 (v : Int) (h0 : -9223372036854775808 ≤ v) (h1 : v < 9223372036854775808) (w : World) :
    Calls Tryz.prog 146 #[.int .i64 v, .int .i64 21] w fun e w' => e = .returned (.bool (fitB v 21)) ∧ w = w' := rfits_int v 21 h0 h1 (by omega) w
theorem rfits32 (v : Int) (h0 : -9223372036854775808 ≤ v) (h1 : v < 9223372036854775808) (w : World) :
    Calls Tryz.prog 146 #[.int .i64 v, .int .i64 32] w fun e w' => e = .returned (.bool (fitB v 32)) ∧ w = w' := rfits_int v 32 h0 h1 (by omega) w
theorem bad_t0 (f rd rs1 rs2 : Nat) (v : Int) (hT : rdT f = true) (h : 31 < rd) : takesB f rd rs1 rs2 v = false := by
  have : regB (rdT f) rd = false := by rw [hT]; simp [regB]; omega
  simp [takesB, this]
theorem bad_t1 (f rd rs1 rs2 : Nat) (v : Int) (hT : rs1T f = true) (h : 31 < rs1) : takesB f rd rs1 rs2 v = false := by
  have : regB (rs1T f) rs1 = false := by rw [hT]; simp [regB]; omega
  simp [takesB, this]
theorem bad_t2 (f rd rs1 rs2 : Nat) (v : Int) (hT : rs2T f = true) (h : 31 < rs2) : takesB f rd rs1 rs2 v = false := by
  have : regB (rs2T f) rs2 = false := by rw [hT]; simp [regB]; omega
  simp [takesB, this]
theorem bad_f0 (f rd rs1 rs2 : Nat) (v : Int) (hT : rdT f = false) (h : ¬ rd = 0) : takesB f rd rs1 rs2 v = false := by
  have : regB (rdT f) rd = false := by rw [hT]; simp [regB, h]
  simp [takesB, this]
theorem bad_f1 (f rd rs1 rs2 : Nat) (v : Int) (hT : rs1T f = false) (h : ¬ rs1 = 0) : takesB f rd rs1 rs2 v = false := by
  have : regB (rs1T f) rs1 = false := by rw [hT]; simp [regB, h]
  simp [takesB, this]
theorem bad_f2 (f rd rs1 rs2 : Nat) (v : Int) (hT : rs2T f = false) (h : ¬ rs2 = 0) : takesB f rd rs1 rs2 v = false := by
  have : regB (rs2T f) rs2 = false := by rw [hT]; simp [regB, h]
  simp [takesB, this]
theorem good (f rd rs1 rs2 : Nat) (v : Int) (hf : f ≠ 0) (h1 : regB (rdT f) rd = true) (h2 : regB (rs1T f) rs1 = true) (h3 : regB (rs2T f) rs2 = true) : takesB f rd rs1 rs2 v = immB f v := by
  simp [takesB, h1, h2, h3, hf]
set_option maxHeartbeats 2000000 in
set_option maxRecDepth 100000 in
theorem rnamed_1 (op rd rs1 rs2 : Nat) (v : Int) (hop : op < 256) (hrd : rd < 256) (hr1 : rs1 < 256) (hr2 : rs2 < 256) (h0 : -9223372036854775808 ≤ v) (h1 : v < 9223372036854775808) (w : World) :
    Calls Tryz.prog 119 #[.int .i64 1, .agg #[.int .u8 op, .int .u8 rd, .int .u8 rs1, .int .u8 rs2, .int .i64 v]] w fun e w' => e = .returned (.bool (takesB 1 rd rs1 rs2 v)) ∧ Below w.heap.size w w' := by
  by_cases k0 : 31 < rd
  · have HR := Lib.hid (show takesB 1 rd rs1 rs2 v = false from bad_t0 1 rd rs1 rs2 v rfl k0)
    go_enter Tryz.func119, Tryz.ntmps119
    go_wp2
    go_ret
    exact ⟨by rw [HR.out]; rfl, (Below.refl _ _).alloc (Nat.le_refl _) _⟩
  by_cases k1 : 31 < rs1
  · have HR := Lib.hid (show takesB 1 rd rs1 rs2 v = false from bad_t1 1 rd rs1 rs2 v rfl k1)
    go_enter Tryz.func119, Tryz.ntmps119
    go_wp2
    go_ret
    exact ⟨by rw [HR.out]; rfl, (Below.refl _ _).alloc (Nat.le_refl _) _⟩
  by_cases k2 : 31 < rs2
  · have HR := Lib.hid (show takesB 1 rd rs1 rs2 v = false from bad_t2 1 rd rs1 rs2 v rfl k2)
    go_enter Tryz.func119, Tryz.ntmps119
    go_wp2
    go_ret
    exact ⟨by rw [HR.out]; rfl, (Below.refl _ _).alloc (Nat.le_refl _) _⟩
  have HI := Lib.hid (show takesB 1 rd rs1 rs2 v = immB 1 v from good 1 rd rs1 rs2 v (by omega) (by simp [regB, rdT]; omega) (by simp [regB, rs1T]; omega) (by simp [regB, rs2T]; omega))
  go_enter Tryz.func119, Tryz.ntmps119
  go_wp2
  go_ret
  exact ⟨ret_bool (by rw [HI.out]; unfold immB; rw [Bool.eq_iff_iff]; simp), (Below.refl _ _).alloc (Nat.le_refl _) _⟩
set_option maxHeartbeats 2000000 in
set_option maxRecDepth 100000 in
theorem rnamed_2 (op rd rs1 rs2 : Nat) (v : Int) (hop : op < 256) (hrd : rd < 256) (hr1 : rs1 < 256) (hr2 : rs2 < 256) (h0 : -9223372036854775808 ≤ v) (h1 : v < 9223372036854775808) (w : World) :
    Calls Tryz.prog 119 #[.int .i64 2, .agg #[.int .u8 op, .int .u8 rd, .int .u8 rs1, .int .u8 rs2, .int .i64 v]] w fun e w' => e = .returned (.bool (takesB 2 rd rs1 rs2 v)) ∧ Below w.heap.size w w' := by
  by_cases k2 : rs2 = 0
  rotate_left
  · have HR := Lib.hid (show takesB 2 rd rs1 rs2 v = false from bad_f2 2 rd rs1 rs2 v rfl k2)
    have e1 : ((rs2 : Int) != 0) = true := by rw [bne_iff_ne]; omega
    have e2 : ((rs2 : Int) == 0) = false := by rw [beq_eq_false_iff_ne]; omega
    go_enter Tryz.func119, Tryz.ntmps119
    go_wp2
    go_ret
    exact ⟨by rw [HR.out]; rfl, (Below.refl _ _).alloc (Nat.le_refl _) _⟩
  subst k2
  by_cases k0 : 31 < rd
  · have HR := Lib.hid (show takesB 2 rd rs1 0 v = false from bad_t0 2 rd rs1 0 v rfl k0)
    go_enter Tryz.func119, Tryz.ntmps119
    go_wp2
    go_ret
    exact ⟨by rw [HR.out]; rfl, (Below.refl _ _).alloc (Nat.le_refl _) _⟩
  by_cases k1 : 31 < rs1
  · have HR := Lib.hid (show takesB 2 rd rs1 0 v = false from bad_t1 2 rd rs1 0 v rfl k1)
    go_enter Tryz.func119, Tryz.ntmps119
    go_wp2
    go_ret
    exact ⟨by rw [HR.out]; rfl, (Below.refl _ _).alloc (Nat.le_refl _) _⟩
  have HI := Lib.hid (show takesB 2 rd rs1 0 v = immB 2 v from good 2 rd rs1 0 v (by omega) (by simp [regB, rdT]; omega) (by simp [regB, rs1T]; omega) (by simp [regB, rs2T]))
  have HR := Lib.hid (show immB 2 v = fitB v 12 by simp [immB])
  have hc := rfits12 v h0 h1
  go_enter Tryz.func119, Tryz.ntmps119
  go_wp2_with (go_at_call 146; (with_reducible refine (hc _).mono ?_); rintro e w' ⟨rfl, rfl⟩)
  go_ret
  exact ⟨by rw [HI.out, HR.out]; rfl, (Below.refl _ _).alloc (Nat.le_refl _) _⟩
set_option maxHeartbeats 2000000 in
set_option maxRecDepth 100000 in
theorem rnamed_3 (op rd rs1 rs2 : Nat) (v : Int) (hop : op < 256) (hrd : rd < 256) (hr1 : rs1 < 256) (hr2 : rs2 < 256) (h0 : -9223372036854775808 ≤ v) (h1 : v < 9223372036854775808) (w : World) :
    Calls Tryz.prog 119 #[.int .i64 3, .agg #[.int .u8 op, .int .u8 rd, .int .u8 rs1, .int .u8 rs2, .int .i64 v]] w fun e w' => e = .returned (.bool (takesB 3 rd rs1 rs2 v)) ∧ Below w.heap.size w w' := by
  by_cases k2 : rs2 = 0
  rotate_left
  · have HR := Lib.hid (show takesB 3 rd rs1 rs2 v = false from bad_f2 3 rd rs1 rs2 v rfl k2)
    have e1 : ((rs2 : Int) != 0) = true := by rw [bne_iff_ne]; omega
    have e2 : ((rs2 : Int) == 0) = false := by rw [beq_eq_false_iff_ne]; omega
    go_enter Tryz.func119, Tryz.ntmps119
    go_wp2
    go_ret
    exact ⟨by rw [HR.out]; rfl, (Below.refl _ _).alloc (Nat.le_refl _) _⟩
  subst k2
  by_cases k0 : 31 < rd
  · have HR := Lib.hid (show takesB 3 rd rs1 0 v = false from bad_t0 3 rd rs1 0 v rfl k0)
    go_enter Tryz.func119, Tryz.ntmps119
    go_wp2
    go_ret
    exact ⟨by rw [HR.out]; rfl, (Below.refl _ _).alloc (Nat.le_refl _) _⟩
  by_cases k1 : 31 < rs1
  · have HR := Lib.hid (show takesB 3 rd rs1 0 v = false from bad_t1 3 rd rs1 0 v rfl k1)
    go_enter Tryz.func119, Tryz.ntmps119
    go_wp2
    go_ret
    exact ⟨by rw [HR.out]; rfl, (Below.refl _ _).alloc (Nat.le_refl _) _⟩
  have HI := Lib.hid (show takesB 3 rd rs1 0 v = immB 3 v from good 3 rd rs1 0 v (by omega) (by simp [regB, rdT]; omega) (by simp [regB, rs1T]; omega) (by simp [regB, rs2T]))
  by_cases ha : 0 ≤ v
  · go_enter Tryz.func119, Tryz.ntmps119
    go_wp2
    go_ret
    exact ⟨ret_bool (by rw [HI.out]; unfold immB; rw [Bool.eq_iff_iff]; simp; omega), (Below.refl _ _).alloc (Nat.le_refl _) _⟩
  · go_enter Tryz.func119, Tryz.ntmps119
    go_wp2
    go_ret
    exact ⟨ret_bool (by rw [HI.out]; unfold immB; rw [Bool.eq_iff_iff]; simp; omega), (Below.refl _ _).alloc (Nat.le_refl _) _⟩
set_option maxHeartbeats 2000000 in
set_option maxRecDepth 100000 in
theorem rnamed_4 (op rd rs1 rs2 : Nat) (v : Int) (hop : op < 256) (hrd : rd < 256) (hr1 : rs1 < 256) (hr2 : rs2 < 256) (h0 : -9223372036854775808 ≤ v) (h1 : v < 9223372036854775808) (w : World) :
    Calls Tryz.prog 119 #[.int .i64 4, .agg #[.int .u8 op, .int .u8 rd, .int .u8 rs1, .int .u8 rs2, .int .i64 v]] w fun e w' => e = .returned (.bool (takesB 4 rd rs1 rs2 v)) ∧ Below w.heap.size w w' := by
  by_cases k1 : rs1 = 0
  rotate_left
  · have HR := Lib.hid (show takesB 4 rd rs1 rs2 v = false from bad_f1 4 rd rs1 rs2 v rfl k1)
    have e1 : ((rs1 : Int) != 0) = true := by rw [bne_iff_ne]; omega
    have e2 : ((rs1 : Int) == 0) = false := by rw [beq_eq_false_iff_ne]; omega
    go_enter Tryz.func119, Tryz.ntmps119
    go_wp2
    go_ret
    exact ⟨by rw [HR.out]; rfl, (Below.refl _ _).alloc (Nat.le_refl _) _⟩
  subst k1
  by_cases k2 : rs2 = 0
  rotate_left
  · have HR := Lib.hid (show takesB 4 rd 0 rs2 v = false from bad_f2 4 rd 0 rs2 v rfl k2)
    have e1 : ((rs2 : Int) != 0) = true := by rw [bne_iff_ne]; omega
    have e2 : ((rs2 : Int) == 0) = false := by rw [beq_eq_false_iff_ne]; omega
    go_enter Tryz.func119, Tryz.ntmps119
    go_wp2
    go_ret
    exact ⟨by rw [HR.out]; rfl, (Below.refl _ _).alloc (Nat.le_refl _) _⟩
  subst k2
  by_cases k0 : 31 < rd
  · have HR := Lib.hid (show takesB 4 rd 0 0 v = false from bad_t0 4 rd 0 0 v rfl k0)
    go_enter Tryz.func119, Tryz.ntmps119
    go_wp2
    go_ret
    exact ⟨by rw [HR.out]; rfl, (Below.refl _ _).alloc (Nat.le_refl _) _⟩
  have HI := Lib.hid (show takesB 4 rd 0 0 v = immB 4 v from good 4 rd 0 0 v (by omega) (by simp [regB, rdT]; omega) (by simp [regB, rs1T]) (by simp [regB, rs2T]))
  have hc := rfits32 v h0 h1
  cases hb : fitB v 32
  · rw [hb] at hc
    have HR := Lib.hid (show immB 4 v = false by simp [immB, hb])
    clear hb
    go_enter Tryz.func119, Tryz.ntmps119
    go_wp2_with (go_at_call 146; (with_reducible refine (hc _).mono ?_); rintro e w' ⟨rfl, rfl⟩)
    go_ret
    exact ⟨by rw [HI.out, HR.out]; rfl, (Below.refl _ _).alloc (Nat.le_refl _) _⟩
  · rw [hb] at hc
    have HR := Lib.hid (show immB 4 v = decide (v % 4096 = 0) by simp [immB, hb])
    clear hb
    go_enter Tryz.func119, Tryz.ntmps119
    go_wp2_with (go_at_call 146; (with_reducible refine (hc _).mono ?_); rintro e w' ⟨rfl, rfl⟩)
    go_ret
    exact ⟨ret_bool (by rw [HI.out, HR.out]; exact tmod_zero v _), (Below.refl _ _).alloc (Nat.le_refl _) _⟩
set_option maxHeartbeats 2000000 in
set_option maxRecDepth 100000 in
theorem rnamed_5 (op rd rs1 rs2 : Nat) (v : Int) (hop : op < 256) (hrd : rd < 256) (hr1 : rs1 < 256) (hr2 : rs2 < 256) (h0 : -9223372036854775808 ≤ v) (h1 : v < 9223372036854775808) (w : World) :
    Calls Tryz.prog 119 #[.int .i64 5, .agg #[.int .u8 op, .int .u8 rd, .int .u8 rs1, .int .u8 rs2, .int .i64 v]] w fun e w' => e = .returned (.bool (takesB 5 rd rs1 rs2 v)) ∧ Below w.heap.size w w' := by
  by_cases k0 : rd = 0
  rotate_left
  · have HR := Lib.hid (show takesB 5 rd rs1 rs2 v = false from bad_f0 5 rd rs1 rs2 v rfl k0)
    have e1 : ((rd : Int) != 0) = true := by rw [bne_iff_ne]; omega
    have e2 : ((rd : Int) == 0) = false := by rw [beq_eq_false_iff_ne]; omega
    go_enter Tryz.func119, Tryz.ntmps119
    go_wp2
    go_ret
    exact ⟨by rw [HR.out]; rfl, (Below.refl _ _).alloc (Nat.le_refl _) _⟩
  subst k0
  by_cases k1 : 31 < rs1
  · have HR := Lib.hid (show takesB 5 0 rs1 rs2 v = false from bad_t1 5 0 rs1 rs2 v rfl k1)
    go_enter Tryz.func119, Tryz.ntmps119
    go_wp2
    go_ret
    exact ⟨by rw [HR.out]; rfl, (Below.refl _ _).alloc (Nat.le_refl _) _⟩
  by_cases k2 : 31 < rs2
  · have HR := Lib.hid (show takesB 5 0 rs1 rs2 v = false from bad_t2 5 0 rs1 rs2 v rfl k2)
    go_enter Tryz.func119, Tryz.ntmps119
    go_wp2
    go_ret
    exact ⟨by rw [HR.out]; rfl, (Below.refl _ _).alloc (Nat.le_refl _) _⟩
  have HI := Lib.hid (show takesB 5 0 rs1 rs2 v = immB 5 v from good 5 0 rs1 rs2 v (by omega) (by simp [regB, rdT]) (by simp [regB, rs1T]; omega) (by simp [regB, rs2T]; omega))
  have HR := Lib.hid (show immB 5 v = fitB v 12 by simp [immB])
  have hc := rfits12 v h0 h1
  go_enter Tryz.func119, Tryz.ntmps119
  go_wp2_with (go_at_call 146; (with_reducible refine (hc _).mono ?_); rintro e w' ⟨rfl, rfl⟩)
  go_ret
  exact ⟨by rw [HI.out, HR.out]; rfl, (Below.refl _ _).alloc (Nat.le_refl _) _⟩
set_option maxHeartbeats 2000000 in
set_option maxRecDepth 100000 in
theorem rnamed_6 (op rd rs1 rs2 : Nat) (v : Int) (hop : op < 256) (hrd : rd < 256) (hr1 : rs1 < 256) (hr2 : rs2 < 256) (h0 : -9223372036854775808 ≤ v) (h1 : v < 9223372036854775808) (w : World) :
    Calls Tryz.prog 119 #[.int .i64 6, .agg #[.int .u8 op, .int .u8 rd, .int .u8 rs1, .int .u8 rs2, .int .i64 v]] w fun e w' => e = .returned (.bool (takesB 6 rd rs1 rs2 v)) ∧ Below w.heap.size w w' := by
  by_cases k0 : rd = 0
  rotate_left
  · have HR := Lib.hid (show takesB 6 rd rs1 rs2 v = false from bad_f0 6 rd rs1 rs2 v rfl k0)
    have e1 : ((rd : Int) != 0) = true := by rw [bne_iff_ne]; omega
    have e2 : ((rd : Int) == 0) = false := by rw [beq_eq_false_iff_ne]; omega
    go_enter Tryz.func119, Tryz.ntmps119
    go_wp2
    go_ret
    exact ⟨by rw [HR.out]; rfl, (Below.refl _ _).alloc (Nat.le_refl _) _⟩
  subst k0
  by_cases k1 : 31 < rs1
  · have HR := Lib.hid (show takesB 6 0 rs1 rs2 v = false from bad_t1 6 0 rs1 rs2 v rfl k1)
    go_enter Tryz.func119, Tryz.ntmps119
    go_wp2
    go_ret
    exact ⟨by rw [HR.out]; rfl, (Below.refl _ _).alloc (Nat.le_refl _) _⟩
  by_cases k2 : 31 < rs2
  · have HR := Lib.hid (show takesB 6 0 rs1 rs2 v = false from bad_t2 6 0 rs1 rs2 v rfl k2)
    go_enter Tryz.func119, Tryz.ntmps119
    go_wp2
    go_ret
    exact ⟨by rw [HR.out]; rfl, (Below.refl _ _).alloc (Nat.le_refl _) _⟩
  have HI := Lib.hid (show takesB 6 0 rs1 rs2 v = immB 6 v from good 6 0 rs1 rs2 v (by omega) (by simp [regB, rdT]) (by simp [regB, rs1T]; omega) (by simp [regB, rs2T]; omega))
  have hc := rfits13 v h0 h1
  cases hb : fitB v 13
  · rw [hb] at hc
    have HR := Lib.hid (show immB 6 v = false by simp [immB, hb])
    clear hb
    go_enter Tryz.func119, Tryz.ntmps119
    go_wp2_with (go_at_call 146; (with_reducible refine (hc _).mono ?_); rintro e w' ⟨rfl, rfl⟩)
    go_ret
    exact ⟨by rw [HI.out, HR.out]; rfl, (Below.refl _ _).alloc (Nat.le_refl _) _⟩
  · rw [hb] at hc
    have HR := Lib.hid (show immB 6 v = decide (v % 2 = 0) by simp [immB, hb])
    clear hb
    go_enter Tryz.func119, Tryz.ntmps119
    go_wp2_with (go_at_call 146; (with_reducible refine (hc _).mono ?_); rintro e w' ⟨rfl, rfl⟩)
    go_ret
    exact ⟨ret_bool (by rw [HI.out, HR.out]; exact tmod_zero v _), (Below.refl _ _).alloc (Nat.le_refl _) _⟩
set_option maxHeartbeats 2000000 in
set_option maxRecDepth 100000 in
theorem rnamed_7 (op rd rs1 rs2 : Nat) (v : Int) (hop : op < 256) (hrd : rd < 256) (hr1 : rs1 < 256) (hr2 : rs2 < 256) (h0 : -9223372036854775808 ≤ v) (h1 : v < 9223372036854775808) (w : World) :
    Calls Tryz.prog 119 #[.int .i64 7, .agg #[.int .u8 op, .int .u8 rd, .int .u8 rs1, .int .u8 rs2, .int .i64 v]] w fun e w' => e = .returned (.bool (takesB 7 rd rs1 rs2 v)) ∧ Below w.heap.size w w' := by
  by_cases k1 : rs1 = 0
  rotate_left
  · have HR := Lib.hid (show takesB 7 rd rs1 rs2 v = false from bad_f1 7 rd rs1 rs2 v rfl k1)
    have e1 : ((rs1 : Int) != 0) = true := by rw [bne_iff_ne]; omega
    have e2 : ((rs1 : Int) == 0) = false := by rw [beq_eq_false_iff_ne]; omega
    go_enter Tryz.func119, Tryz.ntmps119
    go_wp2
    go_ret
    exact ⟨by rw [HR.out]; rfl, (Below.refl _ _).alloc (Nat.le_refl _) _⟩
  subst k1
  by_cases k2 : rs2 = 0
  rotate_left
  · have HR := Lib.hid (show takesB 7 rd 0 rs2 v = false from bad_f2 7 rd 0 rs2 v rfl k2)
    have e1 : ((rs2 : Int) != 0) = true := by rw [bne_iff_ne]; omega
    have e2 : ((rs2 : Int) == 0) = false := by rw [beq_eq_false_iff_ne]; omega
    go_enter Tryz.func119, Tryz.ntmps119
    go_wp2
    go_ret
    exact ⟨by rw [HR.out]; rfl, (Below.refl _ _).alloc (Nat.le_refl _) _⟩
  subst k2
  by_cases k0 : 31 < rd
  · have HR := Lib.hid (show takesB 7 rd 0 0 v = false from bad_t0 7 rd 0 0 v rfl k0)
    go_enter Tryz.func119, Tryz.ntmps119
    go_wp2
    go_ret
    exact ⟨by rw [HR.out]; rfl, (Below.refl _ _).alloc (Nat.le_refl _) _⟩
  have HI := Lib.hid (show takesB 7 rd 0 0 v = immB 7 v from good 7 rd 0 0 v (by omega) (by simp [regB, rdT]; omega) (by simp [regB, rs1T]) (by simp [regB, rs2T]))
  have hc := rfits21 v h0 h1
  cases hb : fitB v 21
  · rw [hb] at hc
    have HR := Lib.hid (show immB 7 v = false by simp [immB, hb])
    clear hb
    go_enter Tryz.func119, Tryz.ntmps119
    go_wp2_with (go_at_call 146; (with_reducible refine (hc _).mono ?_); rintro e w' ⟨rfl, rfl⟩)
    go_ret
    exact ⟨by rw [HI.out, HR.out]; rfl, (Below.refl _ _).alloc (Nat.le_refl _) _⟩
  · rw [hb] at hc
    have HR := Lib.hid (show immB 7 v = decide (v % 2 = 0) by simp [immB, hb])
    clear hb
    go_enter Tryz.func119, Tryz.ntmps119
    go_wp2_with (go_at_call 146; (with_reducible refine (hc _).mono ?_); rintro e w' ⟨rfl, rfl⟩)
    go_ret
    exact ⟨ret_bool (by rw [HI.out, HR.out]; exact tmod_zero v _), (Below.refl _ _).alloc (Nat.le_refl _) _⟩
set_option maxHeartbeats 2000000 in
set_option maxRecDepth 100000 in
theorem rnamed_8 (op rd rs1 rs2 : Nat) (v : Int) (hop : op < 256) (hrd : rd < 256) (hr1 : rs1 < 256) (hr2 : rs2 < 256) (h0 : -9223372036854775808 ≤ v) (h1 : v < 9223372036854775808) (w : World) :
    Calls Tryz.prog 119 #[.int .i64 8, .agg #[.int .u8 op, .int .u8 rd, .int .u8 rs1, .int .u8 rs2, .int .i64 v]] w fun e w' => e = .returned (.bool (takesB 8 rd rs1 rs2 v)) ∧ Below w.heap.size w w' := by
  by_cases k0 : rd = 0
  rotate_left
  · have HR := Lib.hid (show takesB 8 rd rs1 rs2 v = false from bad_f0 8 rd rs1 rs2 v rfl k0)
    have e1 : ((rd : Int) != 0) = true := by rw [bne_iff_ne]; omega
    have e2 : ((rd : Int) == 0) = false := by rw [beq_eq_false_iff_ne]; omega
    go_enter Tryz.func119, Tryz.ntmps119
    go_wp2
    go_ret
    exact ⟨by rw [HR.out]; rfl, (Below.refl _ _).alloc (Nat.le_refl _) _⟩
  subst k0
  by_cases k1 : rs1 = 0
  rotate_left
  · have HR := Lib.hid (show takesB 8 0 rs1 rs2 v = false from bad_f1 8 0 rs1 rs2 v rfl k1)
    have e1 : ((rs1 : Int) != 0) = true := by rw [bne_iff_ne]; omega
    have e2 : ((rs1 : Int) == 0) = false := by rw [beq_eq_false_iff_ne]; omega
    go_enter Tryz.func119, Tryz.ntmps119
    go_wp2
    go_ret
    exact ⟨by rw [HR.out]; rfl, (Below.refl _ _).alloc (Nat.le_refl _) _⟩
  subst k1
  by_cases k2 : rs2 = 0
  rotate_left
  · have HR := Lib.hid (show takesB 8 0 0 rs2 v = false from bad_f2 8 0 0 rs2 v rfl k2)
    have e1 : ((rs2 : Int) != 0) = true := by rw [bne_iff_ne]; omega
    have e2 : ((rs2 : Int) == 0) = false := by rw [beq_eq_false_iff_ne]; omega
    go_enter Tryz.func119, Tryz.ntmps119
    go_wp2
    go_ret
    exact ⟨by rw [HR.out]; rfl, (Below.refl _ _).alloc (Nat.le_refl _) _⟩
  subst k2
  have HI := Lib.hid (show takesB 8 0 0 0 v = immB 8 v from good 8 0 0 0 v (by omega) (by simp [regB, rdT]) (by simp [regB, rs1T]) (by simp [regB, rs2T]))
  go_enter Tryz.func119, Tryz.ntmps119
  go_wp2
  go_ret
  exact ⟨ret_bool (by rw [HI.out]; unfold immB; rw [Bool.eq_iff_iff]; simp), (Below.refl _ _).alloc (Nat.le_refl _) _⟩
theorem rnamed_any (f op rd rs1 rs2 : Nat) (hf : f ≤ 8) (hf0 : f ≠ 0) (v : Int) (hop : op < 256) (hrd : rd < 256) (hr1 : rs1 < 256) (hr2 : rs2 < 256) (h0 : -9223372036854775808 ≤ v) (h1 : v < 9223372036854775808) (w : World) :
    Calls Tryz.prog 119 #[.int .i64 f, .agg #[.int .u8 op, .int .u8 rd, .int .u8 rs1, .int .u8 rs2, .int .i64 v]] w fun e w' => e = .returned (.bool (takesB f rd rs1 rs2 v)) ∧ Below w.heap.size w w' := by
  rcases form_cases hf hf0 with rfl | rfl | rfl | rfl | rfl | rfl | rfl | rfl
  · exact rnamed_1 op rd rs1 rs2 v hop hrd hr1 hr2 h0 h1 w
  · exact rnamed_2 op rd rs1 rs2 v hop hrd hr1 hr2 h0 h1 w
  · exact rnamed_3 op rd rs1 rs2 v hop hrd hr1 hr2 h0 h1 w
  · exact rnamed_4 op rd rs1 rs2 v hop hrd hr1 hr2 h0 h1 w
  · exact rnamed_5 op rd rs1 rs2 v hop hrd hr1 hr2 h0 h1 w
  · exact rnamed_6 op rd rs1 rs2 v hop hrd hr1 hr2 h0 h1 w
  · exact rnamed_7 op rd rs1 rs2 v hop hrd hr1 hr2 h0 h1 w
  · exact rnamed_8 op rd rs1 rs2 v hop hrd hr1 hr2 h0 h1 w
end Go.Proofs.YtcckgfablfgknaaGreatDoor
