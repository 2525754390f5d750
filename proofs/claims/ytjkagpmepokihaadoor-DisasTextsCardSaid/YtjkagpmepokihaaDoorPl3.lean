/- Plain lemmas on words with their sign. -/
import Derived.Test.YtjkagpmepokihaaDoorWordC
namespace Go.Proofs.YtjkagpmepokihaaDoor
open Go.RowKit
set_option linter.unusedVariables false
theorem pow_split' (n : Nat) (h : n ≤ 64) : 2 ^ n * 2 ^ (64 - n) = 18446744073709551616 := by
  rw [← Nat.pow_add, show n + (64 - n) = 64 by omega]
/-- The word with its sign, in plain numbers. -/
theorem signv_val (v n : Nat) (h1 : 1 ≤ n) (h2 : n ≤ 64) : signv v n = if v % 2 ^ n < 2 ^ (n - 1) then v % 2 ^ n else 18446744073709551616 - (2 ^ n - v % 2 ^ n) := by
  have hp := pow_split' n h2
  have hh : 2 ^ (n - 1) * 2 ^ (64 - n) = 9223372036854775808 := by
    rw [← Nat.pow_add, show n - 1 + (64 - n) = 63 by omega]
  unfold signv srax
  have hq : 0 < 2 ^ (64 - n) := Nat.pow_pos (by omega)
  have hlow : v * 2 ^ (64 - n) % 18446744073709551616 = v % 2 ^ n * 2 ^ (64 - n) := by
    rw [← hp, Nat.mul_mod_mul_right]
  have hlt : v % 2 ^ n < 2 ^ n := Nat.mod_lt _ (Nat.pow_pos (by omega))
  rw [hlow]
  generalize v % 2 ^ n = l at *
  generalize 2 ^ (64 - n) = q at *
  generalize 2 ^ (n - 1) = h at *
  generalize 2 ^ n = p at *
  by_cases c : l < h
  · rw [if_pos c, if_pos (by rw [← hh]; exact Nat.mul_lt_mul_of_pos_right c hq), Nat.mul_div_cancel _ hq]
  · rw [if_neg c, if_neg (by rw [← hh]; exact Nat.not_lt.mpr (Nat.mul_le_mul_right _ (Nat.not_lt.mp c)))]
    have hd : (18446744073709551615 - l * q) / q = p - l - 1 := by
      have e : 18446744073709551615 - l * q = (q - 1) + q * (p - l - 1) := by
        have a1 : q * (p - l - 1) = q * p - q * l - q := by rw [Nat.mul_sub, Nat.mul_sub, Nat.mul_one]
        have a2 : q * p = 18446744073709551616 := by rw [Nat.mul_comm]; exact hp
        have a3 : l * q + q ≤ p * q := by rw [← Nat.succ_mul]; exact Nat.mul_le_mul_right _ hlt
        rw [a1, a2, Nat.mul_comm q l]
        omega
      rw [e, Nat.add_mul_div_left _ _ hq, Nat.div_eq_of_lt (by omega), Nat.zero_add]
    rw [hd]
    omega
/-- Bit j of the word with its sign is the bit of v at the lesser of j and n - 1. -/
theorem signv_bit (v n j : Nat) (h1 : 1 ≤ n) (h2 : n ≤ 64) (hj : j < 64) : signv v n / 2 ^ j % 2 = v / 2 ^ (min j (n - 1)) % 2 := by
  rw [signv_val v n h1 h2]
  have hp2 : 2 ^ n = 2 * 2 ^ (n - 1) := by rw [Nat.mul_comm, ← Nat.pow_succ]; congr 1; omega
  have hl := Nat.mod_lt v (Nat.pow_pos (n := n) (show 0 < 2 by omega))
  by_cases hjn : j ≤ n - 1
  · rw [Nat.min_eq_left hjn]
    have ev : v / 2 ^ j % 2 = v % 2 ^ n / 2 ^ j % 2 := by
      have t := Nat.testBit_mod_two_pow v n j
      rw [Nat.testBit_eq_decide_div_mod_eq, Nat.testBit_eq_decide_div_mod_eq, decide_eq_true (show j < n by omega), Bool.true_and, decide_eq_decide] at t
      omega
    rw [ev]
    split
    · rfl
    · have e : 18446744073709551616 - (2 ^ n - v % 2 ^ n) = v % 2 ^ n + 2 ^ j * (2 * (2 ^ (n - 1 - j) * (2 ^ (64 - n) - 1))) := by
        have hp := pow_split' n h2
        have e2 : 2 ^ j * (2 * (2 ^ (n - 1 - j) * (2 ^ (64 - n) - 1))) = 2 ^ n * 2 ^ (64 - n) - 2 ^ n := by
          have e3 : 2 ^ n = 2 ^ j * (2 * 2 ^ (n - 1 - j)) := by
            rw [Nat.mul_left_comm, ← Nat.pow_add, show j + (n - 1 - j) = n - 1 by omega]; exact hp2
          rw [show 2 ^ n * 2 ^ (64 - n) - 2 ^ n = 2 ^ n * (2 ^ (64 - n) - 1) by rw [Nat.mul_sub, Nat.mul_one], e3, Nat.mul_assoc, Nat.mul_assoc]
        rw [e2, hp]
        have : 2 ^ n ≤ 18446744073709551616 := by rw [← hp]; exact Nat.le_mul_of_pos_right _ (Nat.pow_pos (by omega))
        omega
      rw [e, Nat.add_mul_div_left _ _ (Nat.pow_pos (by omega)), Nat.add_mul_mod_self_left]
  · rw [Nat.min_eq_right (by omega)]
    have hle : 2 ^ (n - 1) ≤ 2 ^ j := Nat.pow_le_pow_right (by omega) (by omega)
    have hpos : 0 < 2 ^ (n - 1) := Nat.pow_pos (by omega)
    have ev : v / 2 ^ (n - 1) % 2 = v % 2 ^ n / 2 ^ (n - 1) := by
      rw [hp2, Nat.mul_comm 2, Nat.mod_mul_right_div_self]
    rw [ev]
    split
    · rename_i c
      rw [Nat.div_eq_of_lt c, Nat.div_eq_of_lt (by omega)]
    · rename_i c
      have e1 : v % 2 ^ n / 2 ^ (n - 1) = 1 := by
        have e4 : v % 2 ^ n = (v % 2 ^ n - 2 ^ (n - 1)) + 2 ^ (n - 1) * 1 := by omega
        rw [e4, Nat.add_mul_div_left _ _ hpos, Nat.div_eq_of_lt (by omega)]
      rw [e1]
      have hpj : 2 ^ j * 2 ^ (64 - j) = 18446744073709551616 := pow_split' j (by omega)
      have hx1 : 0 < 2 ^ n - v % 2 ^ n := by omega
      have hx2 : 2 ^ n - v % 2 ^ n ≤ 2 ^ j := by omega
      generalize 2 ^ n - v % 2 ^ n = x at *
      have e5 : 18446744073709551616 - x = (2 ^ j - x) + 2 ^ j * (2 ^ (64 - j) - 1) := by
        rw [Nat.mul_sub, Nat.mul_one, hpj]
        have : 2 ^ j ≤ 18446744073709551616 := by rw [← hpj]; exact Nat.le_mul_of_pos_right _ (Nat.pow_pos (by omega))
        omega
      rw [e5, Nat.add_mul_div_left _ _ (Nat.pow_pos (by omega)), Nat.div_eq_of_lt (by omega), Nat.zero_add]
      have e6 : 2 ^ (64 - j) = 2 * 2 ^ (63 - j) := by rw [Nat.mul_comm, ← Nat.pow_succ]; congr 1; omega
      rw [e6]
      have : 0 < 2 ^ (63 - j) := Nat.pow_pos (by omega)
      omega
end Go.Proofs.YtjkagpmepokihaaDoor
