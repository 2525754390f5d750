/- Plain laws of words: sums, products of both halves, quotients and rests, shifts, bits. No conditions beyond the ranges. -/
import Derived.Test.YtodhldhaijhdgaaPl1
namespace Go.Proofs.Ytodhldhaijhdgaa
open Go.RowKit
set_option linter.unusedVariables false
theorem or_and (a : Nat) : ∀ b : Nat, (a ||| b) + (a &&& b) = a + b := by
  induction a using Nat.strongRecOn with
  | ind a ih =>
    intro b
    by_cases h : a = 0
    · subst h; simp
    · have i := ih (a / 2) (by omega) (b / 2)
      have e1 : (a ||| b) / 2 = a / 2 ||| b / 2 := Nat.or_div_two
      have e2 : (a &&& b) / 2 = a / 2 &&& b / 2 := Nat.and_div_two
      have f1 : (a ||| b) % 2 = (a % 2) ||| (b % 2) := by rw [Nat.or_mod_two_pow (n := 1)]
      have f2 : (a &&& b) % 2 = (a % 2) &&& (b % 2) := by rw [Nat.and_mod_two_pow (n := 1)]
      rw [← e1, ← e2] at i
      clear e1 e2 ih
      generalize a ||| b = x at *
      generalize a &&& b = y at *
      rcases Nat.mod_two_eq_zero_or_one a with ha | ha <;> rcases Nat.mod_two_eq_zero_or_one b with hb | hb <;> rw [ha, hb] at f1 f2 <;> simp at f1 f2 <;> omega
theorem xor_and (a : Nat) : ∀ b : Nat, (a ^^^ b) + 2 * (a &&& b) = a + b := by
  induction a using Nat.strongRecOn with
  | ind a ih =>
    intro b
    by_cases h : a = 0
    · subst h; simp
    · have i := ih (a / 2) (by omega) (b / 2)
      have e1 : (a ^^^ b) / 2 = a / 2 ^^^ b / 2 := Nat.xor_div_two
      have e2 : (a &&& b) / 2 = a / 2 &&& b / 2 := Nat.and_div_two
      have f1 : (a ^^^ b) % 2 = (a % 2) ^^^ (b % 2) := by rw [Nat.xor_mod_two_pow (n := 1)]
      have f2 : (a &&& b) % 2 = (a % 2) &&& (b % 2) := by rw [Nat.and_mod_two_pow (n := 1)]
      rw [← e1, ← e2] at i
      clear e1 e2 ih
      generalize a ^^^ b = x at *
      generalize a &&& b = y at *
      rcases Nat.mod_two_eq_zero_or_one a with ha | ha <;> rcases Nat.mod_two_eq_zero_or_one b with hb | hb <;> rw [ha, hb] at f1 f2 <;> simp at f1 f2 <;> omega
theorem and_flip (a : Nat) : a &&& 9223372036854775808 = a / 9223372036854775808 % 2 * 9223372036854775808 := by
  have e1 : (a &&& 9223372036854775808) / 9223372036854775808 = a / 9223372036854775808 &&& 1 := Nat.and_div_two_pow (n := 63)
  have e2 : (a &&& 9223372036854775808) % 9223372036854775808 = a % 9223372036854775808 &&& 0 := Nat.and_mod_two_pow (n := 63)
  rw [Nat.and_one_is_mod] at e1
  rw [Nat.and_zero] at e2
  generalize a &&& 9223372036854775808 = x at *
  omega
theorem xor_flip (a : Nat) (ha : a < 18446744073709551616) : a ^^^ 9223372036854775808 = (a + 9223372036854775808) % 18446744073709551616 := by
  have h := xor_and a 9223372036854775808
  rw [and_flip] at h
  generalize a ^^^ 9223372036854775808 = x at *
  omega
theorem law1 (a b : Nat) (ha : a < 18446744073709551616) (hb : b < 18446744073709551616) : opv 2 (opv 1 a b) b = a := by
  rw [opv_2, opv_1]; omega
theorem law2 (a b : Nat) : opv 11 b a = opv 11 a b := by rw [opv_11, opv_11, Nat.mul_comm]
theorem law3 (a b : Nat) : opv 12 b a = opv 12 a b := by rw [opv_12, opv_12, Nat.mul_comm]
theorem law4 (a b c : Nat) : opv 11 a (opv 1 b c) = opv 1 (opv 11 a b) (opv 11 a c) := by
  rw [opv_11, opv_11, opv_11, opv_1, opv_1, Nat.mul_mod, Nat.mod_mod, ← Nat.mul_mod, Nat.mul_add, Nat.add_mod]
theorem law5 (a b : Nat) (ha : a < 18446744073709551616) (hb : b < 18446744073709551616) : opv 1 (opv 11 (opv 13 a b) b) (opv 14 a b) = a := by
  rw [opv_1, opv_11, opv_13, opv_14]
  by_cases h : b = 0
  · subst h; simp; omega
  · rw [if_neg h, if_neg h]
    have h1 := Nat.div_add_mod a b
    have h2 : a / b * b ≤ a := Nat.div_mul_le_self a b
    rw [Nat.mul_comm] at h1
    generalize a / b * b = x at *
    generalize a % b = y at *
    omega
theorem law6 (a b : Nat) (hb : ¬ b = 0) : opv 14 a b < b := by
  rw [opv_14, if_neg hb]; exact Nat.mod_lt _ (by omega)
theorem law7 (a b : Nat) (ha : a < 18446744073709551616) (hb : ¬ b = 0) : opv 12 (opv 13 a b) b = 0 := by
  rw [opv_12, opv_13, if_neg hb]
  have h2 : a / b * b ≤ a := Nat.div_mul_le_self a b
  exact Nat.div_eq_of_lt (by omega)
theorem two_lt (c : Nat) : 2 ^ (c % 64) < 18446744073709551616 :=
  Nat.lt_of_lt_of_le (Nat.pow_lt_pow_right (a := 2) (by omega) (Nat.mod_lt c (by omega))) (by omega)
theorem law8 (a c : Nat) : opv 3 a c = opv 11 a (2 ^ (c % 64)) := by rw [opv_3, opv_11]
theorem law9 (a c : Nat) : opv 7 a c = opv 13 a (2 ^ (c % 64)) := by
  rw [opv_7, opv_13, if_neg (by have := Nat.pow_pos (n := c % 64) (show 0 < 2 by omega); omega)]
theorem law10 (a b : Nat) (h : a < b) : opv 5 a b = 1 := by rw [opv_5]; unfold sltuv; rw [decide_eq_true h]; rfl
theorem law11 (a b : Nat) (h : ¬ a < b) : opv 5 a b = 0 := by rw [opv_5]; unfold sltuv; rw [decide_eq_false h]; rfl
theorem law12 (a b : Nat) (ha : a < 18446744073709551616) (hb : b < 18446744073709551616) : opv 4 a b = opv 5 (a ^^^ 9223372036854775808) (b ^^^ 9223372036854775808) := by
  rw [opv_4, opv_5, xor_flip a ha, xor_flip b hb]
  unfold sltv sltuv
  rw [decide_eq_decide.mpr (wrap64_lt a b ha hb)]
theorem law13 (a b : Nat) (ha : a < 18446744073709551616) (hb : b < 18446744073709551616) : opv 6 a b = opv 2 (opv 9 a b) (opv 10 a b) := by
  rw [opv_6, opv_2, opv_9, opv_10]
  have h1 := or_and a b
  have h2 := xor_and a b
  have h3 : a ^^^ b < 18446744073709551616 := Nat.xor_lt_two_pow (n := 64) ha hb
  generalize a ^^^ b = x at *
  generalize a ||| b = y at *
  generalize a &&& b = z at *
  omega
theorem law14 (a b : Nat) : opv 1 (opv 9 a b) (opv 10 a b) = opv 1 a b := by
  rw [opv_1, opv_1, opv_9, opv_10, or_and]
end Go.Proofs.Ytodhldhaijhdgaa
