/- Contracts of word.Sign and word.Fits. -/
import Derived.Test.YtcckgfablfgknaaGreatDoorPl1
import Derived.ProofKit
import Derived.OpenShut
import Derived.Handy
namespace Go.Proofs.YtcckgfablfgknaaGreatDoor
open Go.ChangeShapes Go.WideShapes Go.ChangeAt Go.RowKit
set_option linter.unusedVariables false

/-- What Sign answers, for n from 1 to 64. -/
def signv (v n : Nat) : Nat := srax (v * 2 ^ (64 - n) % 18446744073709551616) (64 - n)
theorem signv_lt (v n : Nat) : signv v n < 18446744073709551616 := srax_lt _ _ (Nat.mod_lt _ (by omega))
theorem signv_eq (v n : Nat) : IntKind.u64.wrap (wrap64 (IntKind.u64.wrap ((v : Int) * 2 ^ (64 - n))) / 2 ^ (64 - n)) = ((signv v n : Nat) : Int) := by
  rw [IntKind.wrap_u64 ((v : Int) * 2 ^ (64 - n)), ← cast_mul_pow]
  exact srax_eq _ _ (Nat.mod_lt _ (by omega))
theorem ret_u64i64 {a b c : Int} (h : a = b) : Ending.returned (.tuple #[.int .u64 a, .int .i64 c]) = .returned (.tuple #[.int .u64 b, .int .i64 c]) := by rw [h]

theorem sign_bad (v : Nat) (n : Int) (h : n < 1 ∨ 64 < n) (w : World) :
    Calls Tryz.prog 158 #[.int .u64 v, .int .i64 n] w fun e w' => e = .returned (.tuple #[.int .u64 0, .int .i64 2]) ∧ w = w' := by
  by_cases h1 : n < 1
  · clear h
    go_enter Tryz.func158, Tryz.ntmps158
    go_wp2
    go_ret2
    exact ⟨rfl, rfl⟩
  · have h2 : 64 < n := by omega
    clear h
    go_enter Tryz.func158, Tryz.ntmps158
    go_wp2
    go_ret2
    exact ⟨rfl, rfl⟩
theorem sign_any (v n : Nat) (hv : v < 18446744073709551616) (h1 : 1 ≤ n) (h2 : n ≤ 64) (w : World) :
    Calls Tryz.prog 158 #[.int .u64 v, .int .i64 n] w fun e w' => e = .returned (.tuple #[.int .u64 (signv v n : Nat), .int .i64 0]) ∧ w = w' := by
  have h3 : ¬ ((n : Int) < 1) := by omega
  have h4 : ¬ (64 < (n : Int)) := by omega
  go_enter Tryz.func158, Tryz.ntmps158
  go_wp2
  go_ret2
  exact ⟨ret_u64i64 (by exact signv_eq v n), rfl⟩
theorem wrap64_back (u : Nat) (hu : u < 18446744073709551616) : IntKind.u64.wrap (wrap64 (u : Int)) = (u : Int) := by
  rw [IntKind.wrap_u64]; unfold wrap64; omega
theorem wrap64_inj (x u : Nat) (hx : x < 18446744073709551616) (hu : u < 18446744073709551616) : (wrap64 (x : Int) == wrap64 (u : Int)) = decide (x = u) := by
  rw [wrap64_nat x hx, wrap64_nat u hu, Bool.eq_iff_iff]
  simp only [beq_iff_eq, decide_eq_true_eq]
  split <;> split <;> omega
theorem fits_bad (u : Nat) (hu : u < 18446744073709551616) (n : Int) (h : n < 1 ∨ 64 < n) (w : World) :
    Calls Tryz.prog 145 #[.int .i64 (wrap64 (u : Int)), .int .i64 n] w fun e w' => e = .returned (.bool false) ∧ w = w' := by
  have hb := wrap64_back u hu
  go_enter Tryz.func145, Tryz.ntmps145
  go_wp2_with (go_at_call 158; refine (sign_bad u n h _).mono ?_; rintro e w' ⟨rfl, rfl⟩)
  go_ret
  exact ⟨rfl, rfl⟩
theorem fits_any (u n : Nat) (hu : u < 18446744073709551616) (h1 : 1 ≤ n) (h2 : n ≤ 64) (w : World) :
    Calls Tryz.prog 145 #[.int .i64 (wrap64 (u : Int)), .int .i64 n] w fun e w' => e = .returned (.bool (decide (signv u n = u))) ∧ w = w' := by
  have hb := wrap64_back u hu
  have hi := wrap64_inj (signv u n) u (signv_lt u n) hu
  go_enter Tryz.func145, Tryz.ntmps145
  go_wp2_with (go_at_call 158; refine (sign_any u n hu h1 h2 _).mono ?_; rintro e w' ⟨rfl, rfl⟩)
  go_ret
  exact ⟨rfl, rfl⟩
end Go.Proofs.YtcckgfablfgknaaGreatDoor

/- Plain lemmas on words with their sign. -/
namespace Go.Proofs.YtcckgfablfgknaaGreatDoor
open Go.RowKit
set_option linter.unusedVariables false
theorem pow_split' (n : Nat) (h : n ≤ 64) : 2 ^ n * 2 ^ (64 - n) = 18446744073709551616 := by
  rw [← Nat.pow_add, show n + (64 - n) = 64 by omega]
/-- The word with its sign, in plain numbers. -/
theorem signv_val (v n : Nat) (h1 : 1 ≤ n) (h2 : n ≤ 64) : signv v n = if v % 2 ^ n < 2 ^ (n - 1) then v % 2 ^ n else 18446744073709551616 - (2 ^ n - v % 2 ^ n) := by
  have hp := pow_split' n h2
  have hh : 2 ^ (n - 1) * 2 ^ (64 - n) = 9223372036854775808 := by
    rw [← Nat.pow_add, show n - 1 + (64 - n) = 63 by omega]
  unfold signv srax
  have hq : 0 < 2 ^ (64 - n) := Nat.pow_pos (by omega)
  have hlow : v * 2 ^ (64 - n) % 18446744073709551616 = v % 2 ^ n * 2 ^ (64 - n) := by
    rw [← hp, Nat.mul_mod_mul_right]
  have hlt : v % 2 ^ n < 2 ^ n := Nat.mod_lt _ (Nat.pow_pos (by omega))
  rw [hlow]
  generalize v % 2 ^ n = l at *
  generalize 2 ^ (64 - n) = q at *
  generalize 2 ^ (n - 1) = h at *
  generalize 2 ^ n = p at *
  by_cases c : l < h
  · rw [if_pos c, if_pos (by rw [← hh]; exact Nat.mul_lt_mul_of_pos_right c hq), Nat.mul_div_cancel _ hq]
  · rw [if_neg c, if_neg (by rw [← hh]; exact Nat.not_lt.mpr (Nat.mul_le_mul_right _ (Nat.not_lt.mp c)))]
    have hd : (18446744073709551615 - l * q) / q = p - l - 1 := by
      have e : 18446744073709551615 - l * q = (q - 1) + q * (p - l - 1) := by
        have a1 : q * (p - l - 1) = q * p - q * l - q := by rw [Nat.mul_sub, Nat.mul_sub, Nat.mul_one]
        have a2 : q * p = 18446744073709551616 := by rw [Nat.mul_comm]; exact hp
        have a3 : l * q + q ≤ p * q := by rw [← Nat.succ_mul]; exact Nat.mul_le_mul_right _ hlt
        rw [a1, a2, Nat.mul_comm q l]
        omega
      rw [e, Nat.add_mul_div_left _ _ hq, Nat.div_eq_of_lt (by omega), Nat.zero_add]
    rw [hd]
    omega
/-- Bit j of the word with its sign is the bit of v at the lesser of j and n - 1. -/
theorem signv_bit (v n j : Nat) (h1 : 1 ≤ n) (h2 : n ≤ 64) (hj : j < 64) : signv v n / 2 ^ j % 2 = v / 2 ^ (min j (n - 1)) % 2 := by
  rw [signv_val v n h1 h2]
  have hp2 : 2 ^ n = 2 * 2 ^ (n - 1) := by rw [Nat.mul_comm, ← Nat.pow_succ]; congr 1; omega
  have hl := Nat.mod_lt v (Nat.pow_pos (n := n) (show 0 < 2 by omega))
  by_cases hjn : j ≤ n - 1
  · rw [Nat.min_eq_left hjn]
    have ev : v / 2 ^ j % 2 = v % 2 ^ n / 2 ^ j % 2 := by
      have t := Nat.testBit_mod_two_pow v n j
      rw [Nat.testBit_eq_decide_div_mod_eq, Nat.testBit_eq_decide_div_mod_eq, decide_eq_true (show j < n by omega), Bool.true_and, decide_eq_decide] at t
      omega
    rw [ev]
    split
    · rfl
    · have e : 18446744073709551616 - (2 ^ n - v % 2 ^ n) = v % 2 ^ n + 2 ^ j * (2 * (2 ^ (n - 1 - j) * (2 ^ (64 - n) - 1))) := by
        have hp := pow_split' n h2
        have e2 : 2 ^ j * (2 * (2 ^ (n - 1 - j) * (2 ^ (64 - n) - 1))) = 2 ^ n * 2 ^ (64 - n) - 2 ^ n := by
          have e3 : 2 ^ n = 2 ^ j * (2 * 2 ^ (n - 1 - j)) := by
            rw [Nat.mul_left_comm, ← Nat.pow_add, show j + (n - 1 - j) = n - 1 by omega]; exact hp2
          rw [show 2 ^ n * 2 ^ (64 - n) - 2 ^ n = 2 ^ n * (2 ^ (64 - n) - 1) by rw [Nat.mul_sub, Nat.mul_one], e3, Nat.mul_assoc, Nat.mul_assoc]
        rw [e2, hp]
        have : 2 ^ n ≤ 18446744073709551616 := by rw [← hp]; exact Nat.le_mul_of_pos_right _ (Nat.pow_pos (by omega))
        omega
      rw [e, Nat.add_mul_div_left _ _ (Nat.pow_pos (by omega)), Nat.add_mul_mod_self_left]
  · rw [Nat.min_eq_right (by omega)]
    have hle : 2 ^ (n - 1) ≤ 2 ^ j := Nat.pow_le_pow_right (by omega) (by omega)
    have hpos : 0 < 2 ^ (n - 1) := Nat.pow_pos (by omega)
    have ev : v / 2 ^ (n - 1) % 2 = v % 2 ^ n / 2 ^ (n - 1) := by
      rw [hp2, Nat.mul_comm 2, Nat.mod_mul_right_div_self]
    rw [ev]
    split
    · rename_i c
      rw [Nat.div_eq_of_lt c, Nat.div_eq_of_lt (by omega)]
    · rename_i c
      have e1 : v % 2 ^ n / 2 ^ (n - 1) = 1 := by
        have e4 : v % 2 ^ n = (v % 2 ^ n - 2 ^ (n - 1)) + 2 ^ (n - 1) * 1 := by omega
        rw [e4, Nat.add_mul_div_left _ _ hpos, Nat.div_eq_of_lt (by omega)]
      rw [e1]
      have hpj : 2 ^ j * 2 ^ (64 - j) = 18446744073709551616 := pow_split' j (by omega)
      have hx1 : 0 < 2 ^ n - v % 2 ^ n := by omega
      have hx2 : 2 ^ n - v % 2 ^ n ≤ 2 ^ j := by omega
      generalize 2 ^ n - v % 2 ^ n = x at *
      have e5 : 18446744073709551616 - x = (2 ^ j - x) + 2 ^ j * (2 ^ (64 - j) - 1) := by
        rw [Nat.mul_sub, Nat.mul_one, hpj]
        have : 2 ^ j ≤ 18446744073709551616 := by rw [← hpj]; exact Nat.le_mul_of_pos_right _ (Nat.pow_pos (by omega))
        omega
      rw [e5, Nat.add_mul_div_left _ _ (Nat.pow_pos (by omega)), Nat.div_eq_of_lt (by omega), Nat.zero_add]
      have e6 : 2 ^ (64 - j) = 2 * 2 ^ (63 - j) := by rw [Nat.mul_comm, ← Nat.pow_succ]; congr 1; omega
      rw [e6]
      have : 0 < 2 ^ (63 - j) := Nat.pow_pos (by omega)
      omega
end Go.Proofs.YtcckgfablfgknaaGreatDoor
