/- Contracts of the small functions of package disas: bits, formOf. -/
import Derived.Test.YtjkagpmepokihaaDoorDeP
import Derived.Test.YtjkagpmepokihaaDoorInC
import Derived.Deep.QuietTactic
import Derived.BigQuiet
import Derived.Lib.Hide
namespace Go.Proofs.YtjkagpmepokihaaDoor
open Go.ChangeShapes Go.WideShapes Go.ChangeAt Go.RowKit
set_option linter.unusedVariables false
theorem mask_and (v n : Nat) (hv : v < 4294967296) (hn : n < 32) : bits .and .u32 (v : Int) ((2 ^ n - 1) % 4294967296) = ((v % 2 ^ n : Nat) : Int) := by
  have hs := pow_le32 (n := n) (by omega)
  have hp : 0 < 2 ^ n := Nat.pow_pos (by omega)
  have e1 : (((2 : Int) ^ n - 1) % 4294967296) = ((2 ^ n - 1 : Nat) : Int) := by
    have : ((2 ^ n : Nat) : Int) = (2 : Int) ^ n := by simp
    rw [← this]; omega
  rw [e1, u32_and_nat _ _ hv (by omega), Nat.and_two_pow_sub_one_eq_mod]
set_option maxHeartbeats 1000000 in
theorem dbits_any (v a n : Nat) (hv : v < 4294967296) (ha : a < 32) (hn : n < 32) (w : World) :
    Calls Tryd.prog 38 #[.int .u32 v, .int .i64 a, .int .i64 n] w fun e w' => e = .returned (.int .u32 (v / 2 ^ a % 2 ^ n : Nat)) ∧ ∃ k, w' = w.drewN k := by
  have hd : v / 2 ^ a < 4294967296 := Nat.lt_of_le_of_lt (Nat.div_le_self _ _) hv
  have hm := mask_and (v / 2 ^ a) n hd hn
  have hc : ((v / 2 ^ a : Nat) : Int) = (v : Int) / 2 ^ a := by simp
  rw [hc] at hm
  have HM := Lib.hid hm
  clear hm hc
  go_enter Tryd.func38, Tryd.ntmps38
  go_wp2
  go_quiet (fail)
  go_wp2
  go_ret
  exact ⟨by rw [← HM.out]; rfl, _, rfl⟩
theorem below_drewN' (w : World) (k : Nat) : Below w.heap.size w (w.drewN k) := bdN (Below.refl _ _) k
theorem dbits_b (v a n : Nat) (hv : v < 4294967296) (ha : a < 32) (hn : n < 32) (w : World) :
    Calls Tryd.prog 38 #[.int .u32 v, .int .i64 a, .int .i64 n] w fun e w' => e = .returned (.int .u32 (v / 2 ^ a % 2 ^ n : Nat)) ∧ Below w.heap.size w w' :=
  (dbits_any v a n hv ha hn w).mono fun _ _ ⟨h, k, hk⟩ => ⟨h, by rw [hk]; exact below_drewN' w k⟩
theorem formOf_any (v : Nat) (hv : v < 4294967296) (w : World) :
    Calls Tryd.prog 21 #[.int .u32 v] w fun e w' => e = .returned (.int .u8 (formW v : Nat)) ∧ Below w.heap.size w w' := by
  have b1 : ∀ w, Calls Tryd.prog 38 #[.int .u32 v, .int .i64 0, .int .i64 7] w fun e w' => e = .returned (.int .u32 (v % 128 : Nat)) ∧ Below w.heap.size w w' := fun w => by
    have h := dbits_b v 0 7 hv (by omega) (by omega) w
    rw [show v / 2 ^ 0 % 2 ^ 7 = v % 128 by simp] at h; exact h
  have b2 : ∀ w, Calls Tryd.prog 38 #[.int .u32 v, .int .i64 12, .int .i64 2] w fun e w' => e = .returned (.int .u32 (v / 4096 % 4 : Nat)) ∧ Below w.heap.size w w' := fun w => by
    have h := dbits_b v 12 2 hv (by omega) (by omega) w
    rw [show v / 2 ^ 12 % 2 ^ 2 = v / 4096 % 4 by simp] at h; exact h
  have hc : v % 128 < 128 := by omega
  have hq : v / 4096 % 4 < 4 := by omega
  unfold formW
  generalize v % 128 = c at *
  generalize v / 4096 % 4 = q at *
  have b12 : ∀ {w' : World}, Below w.heap.size w w' → ∀ {w'' : World}, Below w'.heap.size w' w'' → Below w.heap.size w w'' := fun h _ k => below_trans' h (Nat.le_refl _) k
  by_cases h51 : c = 51
  · subst h51
    go_enter Tryd.func21, Tryd.ntmps21
    go_wp2_with (go_at_call 38; first | ((with_reducible refine (b1 _).mono ?_); rintro e w1 ⟨rfl, hb1⟩) | ((with_reducible refine (b2 _).mono ?_); rintro e w2 ⟨rfl, hb2⟩))
    go_ret
    exact ⟨rfl, hb1⟩
  by_cases h19 : c = 19
  · subst h19
    by_cases hq1 : q = 1
    · subst hq1
      go_enter Tryd.func21, Tryd.ntmps21
      go_wp2_with (go_at_call 38; first | ((with_reducible refine (b1 _).mono ?_); rintro e w1 ⟨rfl, hb1⟩) | ((with_reducible refine (b2 _).mono ?_); rintro e w2 ⟨rfl, hb2⟩))
      go_ret
      exact ⟨rfl, b12 hb1 hb2⟩
    · have hq2 : ((q : Int) == 1) = false := by simp only [beq_eq_false_iff_ne]; omega
      have hf : formCF 19 q = 2 := by unfold formCF; simp [hq1]
      rw [hf]
      go_enter Tryd.func21, Tryd.ntmps21
      go_wp2_with (go_at_call 38; first | ((with_reducible refine (b1 _).mono ?_); rintro e w1 ⟨rfl, hb1⟩) | ((with_reducible refine (b2 _).mono ?_); rintro e w2 ⟨rfl, hb2⟩))
      go_ret
      exact ⟨rfl, b12 hb1 hb2⟩
  by_cases h3 : c = 3
  · subst h3
    go_enter Tryd.func21, Tryd.ntmps21
    go_wp2_with (go_at_call 38; first | ((with_reducible refine (b1 _).mono ?_); rintro e w1 ⟨rfl, hb1⟩) | ((with_reducible refine (b2 _).mono ?_); rintro e w2 ⟨rfl, hb2⟩))
    go_ret
    exact ⟨rfl, hb1⟩
  by_cases h103 : c = 103
  · subst h103
    go_enter Tryd.func21, Tryd.ntmps21
    go_wp2_with (go_at_call 38; first | ((with_reducible refine (b1 _).mono ?_); rintro e w1 ⟨rfl, hb1⟩) | ((with_reducible refine (b2 _).mono ?_); rintro e w2 ⟨rfl, hb2⟩))
    go_ret
    exact ⟨rfl, hb1⟩
  by_cases h55 : c = 55
  · subst h55
    go_enter Tryd.func21, Tryd.ntmps21
    go_wp2_with (go_at_call 38; first | ((with_reducible refine (b1 _).mono ?_); rintro e w1 ⟨rfl, hb1⟩) | ((with_reducible refine (b2 _).mono ?_); rintro e w2 ⟨rfl, hb2⟩))
    go_ret
    exact ⟨rfl, hb1⟩
  by_cases h35 : c = 35
  · subst h35
    go_enter Tryd.func21, Tryd.ntmps21
    go_wp2_with (go_at_call 38; first | ((with_reducible refine (b1 _).mono ?_); rintro e w1 ⟨rfl, hb1⟩) | ((with_reducible refine (b2 _).mono ?_); rintro e w2 ⟨rfl, hb2⟩))
    go_ret
    exact ⟨rfl, hb1⟩
  by_cases h99 : c = 99
  · subst h99
    go_enter Tryd.func21, Tryd.ntmps21
    go_wp2_with (go_at_call 38; first | ((with_reducible refine (b1 _).mono ?_); rintro e w1 ⟨rfl, hb1⟩) | ((with_reducible refine (b2 _).mono ?_); rintro e w2 ⟨rfl, hb2⟩))
    go_ret
    exact ⟨rfl, hb1⟩
  by_cases h111 : c = 111
  · subst h111
    go_enter Tryd.func21, Tryd.ntmps21
    go_wp2_with (go_at_call 38; first | ((with_reducible refine (b1 _).mono ?_); rintro e w1 ⟨rfl, hb1⟩) | ((with_reducible refine (b2 _).mono ?_); rintro e w2 ⟨rfl, hb2⟩))
    go_ret
    exact ⟨rfl, hb1⟩
  by_cases h115 : c = 115
  · subst h115
    go_enter Tryd.func21, Tryd.ntmps21
    go_wp2_with (go_at_call 38; first | ((with_reducible refine (b1 _).mono ?_); rintro e w1 ⟨rfl, hb1⟩) | ((with_reducible refine (b2 _).mono ?_); rintro e w2 ⟨rfl, hb2⟩))
    go_ret
    exact ⟨rfl, hb1⟩
  have hf : formCF c q = 0 := by unfold formCF; simp [*]
  rw [hf]
  have n51 : ((c : Int) == 51) = false := by simp only [beq_eq_false_iff_ne]; omega
  have n19 : ((c : Int) == 19) = false := by simp only [beq_eq_false_iff_ne]; omega
  have n3 : ((c : Int) == 3) = false := by simp only [beq_eq_false_iff_ne]; omega
  have n103 : ((c : Int) == 103) = false := by simp only [beq_eq_false_iff_ne]; omega
  have n55 : ((c : Int) == 55) = false := by simp only [beq_eq_false_iff_ne]; omega
  have n35 : ((c : Int) == 35) = false := by simp only [beq_eq_false_iff_ne]; omega
  have n99 : ((c : Int) == 99) = false := by simp only [beq_eq_false_iff_ne]; omega
  have n111 : ((c : Int) == 111) = false := by simp only [beq_eq_false_iff_ne]; omega
  have n115 : ((c : Int) == 115) = false := by simp only [beq_eq_false_iff_ne]; omega
  go_enter Tryd.func21, Tryd.ntmps21
  go_wp2_with (go_at_call 38; first | ((with_reducible refine (b1 _).mono ?_); rintro e w1 ⟨rfl, hb1⟩) | ((with_reducible refine (b2 _).mono ?_); rintro e w2 ⟨rfl, hb2⟩))
  go_ret
  exact ⟨rfl, hb1⟩
end Go.Proofs.YtjkagpmepokihaaDoor
