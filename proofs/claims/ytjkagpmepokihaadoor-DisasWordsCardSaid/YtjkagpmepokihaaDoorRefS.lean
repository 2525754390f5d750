/- Contracts of the document's own answers Sign and Fits of layer 1. -/
import Derived.Test.YtjkagpmepokihaaDoorRefP
import Derived.Test.YtjkagpmepokihaaDoorPl3
import Derived.Lib.Hide
namespace Go.Proofs.YtjkagpmepokihaaDoor
open Go.ChangeShapes Go.WideShapes Go.ChangeAt Go.RowKit
set_option linter.unusedVariables false
theorem rsign_bad (v : Nat) (n : Int) (h : n < 1 ∨ 64 < n) (w : World) :
    Calls Tryd.prog 48 #[.int .u64 v, .int .i64 n] w fun e w' => e = .returned (.tuple #[.int .u64 0, .int .i64 2]) ∧ w = w' := by
  by_cases h1 : n < 1
  · clear h
    go_enter Tryd.func48, Tryd.ntmps48
    go_wp2
    go_ret2
    exact ⟨rfl, rfl⟩
  · have h2 : 64 < n := by omega
    clear h
    go_enter Tryd.func48, Tryd.ntmps48
    go_wp2
    go_ret2
    exact ⟨rfl, rfl⟩
set_option maxHeartbeats 1000000 in
theorem rsign_any (v n : Nat) (hv : v < 18446744073709551616) (h1 : 1 ≤ n) (h2 : n ≤ 64) (w : World) :
    Calls Tryd.prog 48 #[.int .u64 v, .int .i64 n] w fun e w' => e = .returned (.tuple #[.int .u64 (signv v n : Nat), .int .i64 0]) ∧ w = w' := by
  have h3 : ¬ ((n : Int) < 1) := by omega
  have h4 : ¬ (64 < (n : Int)) := by omega
  go_enter Tryd.func48, Tryd.ntmps48
  go_wp2
  go_loop [6, 7] (fun o i => ∃ k : Nat, k ≤ 64 ∧ i = .int .i64 ((k : Int) - 1) ∧ o = .int .u64 (signv v n / 2 ^ k : Nat)) (fun _ i => (intOf i + 1).toNat)
  case atStart => exact ⟨64, by omega, rfl, by rw [top_pow _ (signv_lt v n)]; rfl⟩
  case round =>
    obtain ⟨k, hk, rfl, rfl⟩ := hrel
    rcases Nat.eq_zero_or_pos k with h0 | h0
    · subst h0
      go_wp2
      go_ret2
      exact ⟨ret_u64i64 (by first | (with_reducible rfl) | simp), rfl⟩
    · obtain ⟨j, rfl⟩ : ∃ j, k = j + 1 := ⟨k - 1, by omega⟩
      have hh := half_pow (signv v n) j
      have hb := signv_bit v n j h1 h2 (by omega)
      have e0 : ((j + 1 : Nat) : Int) - 1 = (j : Int) := by omega
      rw [e0]
      clear e0
      have hA : signv v n / 2 ^ (j + 1) < 9223372036854775808 := by
        have : signv v n / 2 ^ (j + 1) ≤ signv v n / 2 := by rw [Nat.pow_succ, Nat.mul_comm, ← Nat.div_div_eq_div_mul]; exact Nat.div_le_self _ _
        have := signv_lt v n
        omega
      rw [hb] at hh
      generalize signv v n / 2 ^ (j + 1) = o at *
      have HH := Lib.hid hh
      clear hh hb
      by_cases hm : j ≤ n - 1
      · rw [Nat.min_eq_left hm] at HH
        have htm := tmod_two v j
        have ht : v / 2 ^ j % 2 ≤ 1 := by omega
        generalize v / 2 ^ j % 2 = t at *
        have m1 : (j : Int) ≤ (n : Int) - 1 := by omega
        go_wp2
        go_round
        case rel => exact ⟨j, by omega, rfl, by rw [HH.out]; go_num⟩
        case measure => first | (simp [intOf]; done) | (simp [intOf]; omega)
      · rw [Nat.min_eq_right (by omega)] at HH
        have htm := tmod_two v (n - 1)
        have ht : v / 2 ^ (n - 1) % 2 ≤ 1 := by omega
        generalize v / 2 ^ (n - 1) % 2 = t at *
        have m1 : ¬ ((j : Int) ≤ (n : Int) - 1) := by omega
        go_wp2
        go_round
        case rel => exact ⟨j, by omega, rfl, by rw [HH.out]; go_num⟩
        case measure => first | (simp [intOf]; done) | (simp [intOf]; omega)
theorem rfits_bad (u : Nat) (hu : u < 18446744073709551616) (n : Int) (h : n < 1 ∨ 64 < n) (w : World) :
    Calls Tryd.prog 49 #[.int .i64 (wrap64 (u : Int)), .int .i64 n] w fun e w' => e = .returned (.bool false) ∧ w = w' := by
  have hb := wrap64_back u hu
  go_enter Tryd.func49, Tryd.ntmps49
  go_wp2_with (go_at_call 48; refine (rsign_bad u n h _).mono ?_; rintro e w' ⟨rfl, rfl⟩)
  go_ret
  exact ⟨rfl, rfl⟩
theorem rfits_any (u n : Nat) (hu : u < 18446744073709551616) (h1 : 1 ≤ n) (h2 : n ≤ 64) (w : World) :
    Calls Tryd.prog 49 #[.int .i64 (wrap64 (u : Int)), .int .i64 n] w fun e w' => e = .returned (.bool (decide (signv u n = u))) ∧ w = w' := by
  have hb := wrap64_back u hu
  have hi : (((signv u n : Nat) : Int) == ((u : Nat) : Int)) = decide (signv u n = u) := by
    rw [Bool.eq_iff_iff]; simp only [beq_iff_eq, decide_eq_true_eq]; omega
  go_enter Tryd.func49, Tryd.ntmps49
  go_wp2_with (go_at_call 48; refine (rsign_any u n hu h1 h2 _).mono ?_; rintro e w' ⟨rfl, rfl⟩)
  go_ret
  exact ⟨rfl, rfl⟩
end Go.Proofs.YtjkagpmepokihaaDoor
