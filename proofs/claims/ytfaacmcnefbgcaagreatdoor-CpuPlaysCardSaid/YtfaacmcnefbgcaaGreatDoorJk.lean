/- Plain laws of words: sums, products of both halves, quotients and rests, shifts, bits. No conditions beyond the ranges. -/
import Derived.Test.YtfaacmcnefbgcaaGreatDoorJa
import Derived.Test.YtfaacmcnefbgcaaGreatDoorQn
import Derived.Lib.Hide
import Derived.Test.YtfaacmcnefbgcaaGreatDoorQy
namespace Go.Proofs.YtfaacmcnefbgcaaGreatDoor
open Go.RowKit
set_option linter.unusedVariables false
theorem or_and (a : Nat) : ∀ b : Nat, (a ||| b) + (a &&& b) = a + b := by
  induction a using Nat.strongRecOn with
  | ind a ih =>
    intro b
    by_cases h : a = 0
    · subst h; simp
    · have i := ih (a / 2) (by omega) (b / 2)
      have e1 : (a ||| b) / 2 = a / 2 ||| b / 2 := Nat.or_div_two
      have e2 : (a &&& b) / 2 = a / 2 &&& b / 2 := Nat.and_div_two
      have f1 : (a ||| b) % 2 = (a % 2) ||| (b % 2) := by rw [Nat.or_mod_two_pow (n := 1)]
      have f2 : (a &&& b) % 2 = (a % 2) &&& (b % 2) := by rw [Nat.and_mod_two_pow (n := 1)]
      rw [← e1, ← e2] at i
      clear e1 e2 ih
      generalize a ||| b = x at *
      generalize a &&& b = y at *
      rcases Nat.mod_two_eq_zero_or_one a with ha | ha <;> rcases Nat.mod_two_eq_zero_or_one b with hb | hb <;> rw [ha, hb] at f1 f2 <;> simp at f1 f2 <;> omega
theorem xor_and (a : Nat) : ∀ b : Nat, (a ^^^ b) + 2 * (a &&& b) = a + b := by
  induction a using Nat.strongRecOn with
  | ind a ih =>
    intro b
    by_cases h : a = 0
    · subst h; simp
    · have i := ih (a / 2) (by omega) (b / 2)
      have e1 : (a ^^^ b) / 2 = a / 2 ^^^ b / 2 := Nat.xor_div_two
      have e2 : (a &&& b) / 2 = a / 2 &&& b / 2 := Nat.and_div_two
      have f1 : (a ^^^ b) % 2 = (a % 2) ^^^ (b % 2) := by rw [Nat.xor_mod_two_pow (n := 1)]
      have f2 : (a &&& b) % 2 = (a % 2) &&& (b % 2) := by rw [Nat.and_mod_two_pow (n := 1)]
      rw [← e1, ← e2] at i
      clear e1 e2 ih
      generalize a ^^^ b = x at *
      generalize a &&& b = y at *
      rcases Nat.mod_two_eq_zero_or_one a with ha | ha <;> rcases Nat.mod_two_eq_zero_or_one b with hb | hb <;> rw [ha, hb] at f1 f2 <;> simp at f1 f2 <;> omega
theorem and_flip (a : Nat) : a &&& 9223372036854775808 = a / 9223372036854775808 % 2 * 9223372036854775808 := by
  have e1 : (a &&& 9223372036854775808) / 9223372036854775808 = a / 9223372036854775808 &&& 1 := Nat.and_div_two_pow (n := 63)
  have e2 : (a &&& 9223372036854775808) % 9223372036854775808 = a % 9223372036854775808 &&& 0 := Nat.and_mod_two_pow (n := 63)
  rw [Nat.and_one_is_mod] at e1
  rw [Nat.and_zero] at e2
  generalize a &&& 9223372036854775808 = x at *
  omega
theorem xor_flip (a : Nat) (ha : a < 18446744073709551616) : a ^^^ 9223372036854775808 = (a + 9223372036854775808) % 18446744073709551616 := by
  have h := xor_and a 9223372036854775808
  rw [and_flip] at h
  generalize a ^^^ 9223372036854775808 = x at *
  omega
theorem law1 (a b : Nat) (ha : a < 18446744073709551616) (hb : b < 18446744073709551616) : opv 2 (opv 1 a b) b = a := by
  rw [opv_2, opv_1]; omega
theorem law2 (a b : Nat) : opv 11 b a = opv 11 a b := by rw [opv_11, opv_11, Nat.mul_comm]
theorem law3 (a b : Nat) : opv 12 b a = opv 12 a b := by rw [opv_12, opv_12, Nat.mul_comm]
theorem law4 (a b c : Nat) : opv 11 a (opv 1 b c) = opv 1 (opv 11 a b) (opv 11 a c) := by
  rw [opv_11, opv_11, opv_11, opv_1, opv_1, Nat.mul_mod, Nat.mod_mod, ← Nat.mul_mod, Nat.mul_add, Nat.add_mod]
theorem law5 (a b : Nat) (ha : a < 18446744073709551616) (hb : b < 18446744073709551616) : opv 1 (opv 11 (opv 13 a b) b) (opv 14 a b) = a := by
  rw [opv_1, opv_11, opv_13, opv_14]
  by_cases h : b = 0
  · subst h; simp; omega
  · rw [if_neg h, if_neg h]
    have h1 := Nat.div_add_mod a b
    have h2 : a / b * b ≤ a := Nat.div_mul_le_self a b
    rw [Nat.mul_comm] at h1
    generalize a / b * b = x at *
    generalize a % b = y at *
    omega
theorem law6 (a b : Nat) (hb : ¬ b = 0) : opv 14 a b < b := by
  rw [opv_14, if_neg hb]; exact Nat.mod_lt _ (by omega)
theorem law7 (a b : Nat) (ha : a < 18446744073709551616) (hb : ¬ b = 0) : opv 12 (opv 13 a b) b = 0 := by
  rw [opv_12, opv_13, if_neg hb]
  have h2 : a / b * b ≤ a := Nat.div_mul_le_self a b
  exact Nat.div_eq_of_lt (by omega)
theorem two_lt (c : Nat) : 2 ^ (c % 64) < 18446744073709551616 :=
  Nat.lt_of_lt_of_le (Nat.pow_lt_pow_right (a := 2) (by omega) (Nat.mod_lt c (by omega))) (by omega)
theorem law8 (a c : Nat) : opv 3 a c = opv 11 a (2 ^ (c % 64)) := by rw [opv_3, opv_11]
theorem law9 (a c : Nat) : opv 7 a c = opv 13 a (2 ^ (c % 64)) := by
  rw [opv_7, opv_13, if_neg (by have := Nat.pow_pos (n := c % 64) (show 0 < 2 by omega); omega)]
theorem law10 (a b : Nat) (h : a < b) : opv 5 a b = 1 := by rw [opv_5]; unfold sltuv; rw [decide_eq_true h]; rfl
theorem law11 (a b : Nat) (h : ¬ a < b) : opv 5 a b = 0 := by rw [opv_5]; unfold sltuv; rw [decide_eq_false h]; rfl
theorem law12 (a b : Nat) (ha : a < 18446744073709551616) (hb : b < 18446744073709551616) : opv 4 a b = opv 5 (a ^^^ 9223372036854775808) (b ^^^ 9223372036854775808) := by
  rw [opv_4, opv_5, xor_flip a ha, xor_flip b hb]
  unfold sltv sltuv
  rw [decide_eq_decide.mpr (wrap64_lt a b ha hb)]
theorem law13 (a b : Nat) (ha : a < 18446744073709551616) (hb : b < 18446744073709551616) : opv 6 a b = opv 2 (opv 9 a b) (opv 10 a b) := by
  rw [opv_6, opv_2, opv_9, opv_10]
  have h1 := or_and a b
  have h2 := xor_and a b
  have h3 : a ^^^ b < 18446744073709551616 := Nat.xor_lt_two_pow (n := 64) ha hb
  generalize a ^^^ b = x at *
  generalize a ||| b = y at *
  generalize a &&& b = z at *
  omega
theorem law14 (a b : Nat) : opv 1 (opv 9 a b) (opv 10 a b) = opv 1 a b := by
  rw [opv_1, opv_1, opv_9, opv_10, or_and]
end Go.Proofs.YtfaacmcnefbgcaaGreatDoor

/- Contracts of the document's own answers for products and quotients, by doubling and bit by bit: for all words. -/
namespace Go.Proofs.YtfaacmcnefbgcaaGreatDoor
open Go.ChangeShapes Go.WideShapes Go.ChangeAt Go.RowKit
set_option linter.unusedVariables false

theorem rnd1 (P h l : Nat) (eh : P / 18446744073709551616 = h) (el : P % 18446744073709551616 = l) : (h : Int) * 2 + (l : Int) / 9223372036854775808 = ((2 * P / 18446744073709551616 : Nat) : Int) := by omega
theorem rnd2 (P l : Nat) (el : P % 18446744073709551616 = l) : IntKind.u64.wrap ((l : Int) * 2) = ((2 * P % 18446744073709551616 : Nat) : Int) := by
  rw [IntKind.wrap_u64]; omega
theorem rnd3 (P a h l : Nat) (ha : a < 18446744073709551616) (hu : 2 * P + a < 340282366920938463463374607431768211456) (eh : P / 18446744073709551616 = h) (el : P % 18446744073709551616 = l)
    (ht : IntKind.u64.wrap (IntKind.u64.wrap ((l : Int) * 2) + (a : Int)) < IntKind.u64.wrap ((l : Int) * 2)) :
    IntKind.u64.wrap ((h : Int) * 2 + (l : Int) / 9223372036854775808 + 1) = (((2 * P + a) / 18446744073709551616 : Nat) : Int) := by
  simp only [IntKind.wrap_u64] at *; omega
theorem rnd4 (P a h l : Nat) (ha : a < 18446744073709551616) (eh : P / 18446744073709551616 = h) (el : P % 18446744073709551616 = l)
    (ht : IntKind.u64.wrap ((l : Int) * 2) ≤ IntKind.u64.wrap (IntKind.u64.wrap ((l : Int) * 2) + (a : Int))) :
    (h : Int) * 2 + (l : Int) / 9223372036854775808 = (((2 * P + a) / 18446744073709551616 : Nat) : Int) := by
  simp only [IntKind.wrap_u64] at *; omega
theorem rnd5 (P a l : Nat) (el : P % 18446744073709551616 = l) : IntKind.u64.wrap (IntKind.u64.wrap ((l : Int) * 2) + (a : Int)) = (((2 * P + a) % 18446744073709551616 : Nat) : Int) := by
  simp only [IntKind.wrap_u64] at *; omega
theorem val_u64 {a b : Int} (h : a = b) : Value.int .u64 a = Value.int .u64 b := by rw [h]

set_option maxHeartbeats 1000000 in
theorem product_any (a b : Nat) (ha : a < 18446744073709551616) (hb : b < 18446744073709551616) (w : World) :
    Calls Tryz.prog 124 #[.int .u64 a, .int .u64 b] w fun e w' => e = .returned (.tuple #[.int .u64 (opv 12 a b : Nat), .int .u64 (opv 11 a b : Nat)]) ∧ w = w' := by
  go_enter Tryz.func124, Tryz.ntmps124
  go_wp2
  go_loop [6, 7, 8] (fun h l i => ∃ k : Nat, k ≤ 64 ∧ i = .int .i64 ((k : Int) - 1) ∧ h = .int .u64 (a * (b / 2 ^ k) / 18446744073709551616 : Nat) ∧ l = .int .u64 (a * (b / 2 ^ k) % 18446744073709551616 : Nat)) (fun _ _ i => (intOf i + 1).toNat)
  case atStart => exact ⟨64, by omega, rfl, by rw [top_pow b hb]; simp, by rw [top_pow b hb]; simp⟩
  case round =>
    obtain ⟨k, hk, rfl, rfl, rfl⟩ := hrel
    rcases Nat.eq_zero_or_pos k with h0 | h0
    · subst h0
      go_wp2
      go_ret2
      exact ⟨ret_u64u64 (by rw [opv_12]; simp) (by rw [opv_11]; simp), rfl⟩
    · obtain ⟨j, rfl⟩ : ∃ j, k = j + 1 := ⟨k - 1, by omega⟩
      have hb1 := prod_bound a b j ha hb
      have hh := half_pow b j
      have hbit := bit_int b j
      have e0 : ((j + 1 : Nat) : Int) - 1 = (j : Int) := by omega
      rw [e0]
      clear e0
      have hP : a * (b / 2 ^ j) = 2 * (a * (b / 2 ^ (j + 1))) + a * (b / 2 ^ j % 2) := by
        rw [hh, Nat.mul_add, Nat.mul_left_comm]
        rw [← hh]
      rcases Nat.mod_two_eq_zero_or_one (b / 2 ^ j) with hz | hz
      · have hb0 : (((b : Int) / 2 ^ j).tmod 2 == 1) = false := by rw [hbit, hz]; rfl
        rw [hz, Nat.mul_zero, Nat.add_zero] at hP
        clear hbit hz hh
        generalize a * (b / 2 ^ (j + 1)) = P at *
        have HP := Lib.hid hP
        clear hP
        have hu : P / 18446744073709551616 < 9223372036854775808 := by omega
        have hl : P % 18446744073709551616 < 18446744073709551616 := by omega
        generalize eh : P / 18446744073709551616 = h at *
        generalize el : P % 18446744073709551616 = l at *
        have EH := Lib.hid eh
        have EL := Lib.hid el
        clear eh el hb1
        go_wp2
        go_round
        case rel => exact ⟨j, by omega, rfl, by rw [HP.out]; exact val_u64 (rnd1 P h l EH.out EL.out), by rw [HP.out]; exact val_u64 (rnd2 P l EL.out)⟩
        case measure => first | (simp [intOf]; done) | (simp [intOf]; omega)
      · have hb0 : (((b : Int) / 2 ^ j).tmod 2 == 1) = true := by rw [hbit, hz]; rfl
        rw [hz, Nat.mul_one] at hP
        have hq : a * (b / 2 ^ j) < 18446744073709551616 * 18446744073709551616 := Nat.mul_lt_mul'' ha (Nat.lt_of_le_of_lt (Nat.div_le_self _ _) hb)
        rw [hP] at hq
        clear hbit hz hh
        generalize a * (b / 2 ^ (j + 1)) = P at *
        have HP := Lib.hid hP
        clear hP
        have hu : P / 18446744073709551616 < 9223372036854775808 := by omega
        have hl : P % 18446744073709551616 < 18446744073709551616 := by omega
        generalize eh : P / 18446744073709551616 = h at *
        generalize el : P % 18446744073709551616 = l at *
        have EH := Lib.hid eh
        have EL := Lib.hid el
        have HQ := Lib.hid (show 2 * P + a < 340282366920938463463374607431768211456 by omega)
        clear eh el hb1 hq
        go_wp2
        all_goals
          go_round
          case rel => exact ⟨j, by omega, rfl, by rw [HP.out]; first | exact val_u64 (rnd3 P a h l ha HQ.out EH.out EL.out (by assumption)) | exact val_u64 (rnd4 P a h l ha EH.out EL.out (by assumption)), by rw [HP.out]; exact val_u64 (rnd5 P a l EL.out)⟩
          case measure => first | (simp [intOf]; done) | (simp [intOf]; omega)

theorem div_round (A b t : Nat) (hb : 0 < b) (ht : t ≤ 1) : (2 * A + t) / b = 2 * (A / b) + (if b ≤ 2 * (A % b) + t then 1 else 0) ∧ (2 * A + t) % b = 2 * (A % b) + t - (if b ≤ 2 * (A % b) + t then b else 0) := by
  have h := Nat.div_add_mod A b
  have hr := Nat.mod_lt A hb
  generalize A / b = q at *
  generalize A % b = r at *
  have e : 2 * A + t = (2 * r + t) + b * (2 * q) := by
    rw [← h, Nat.mul_add, Nat.mul_left_comm]; omega
  rw [e, Nat.add_mul_div_left _ _ hb, Nat.add_mul_mod_self_left]
  by_cases c : b ≤ 2 * r + t
  · rw [if_pos c, if_pos c]
    have e2 : 2 * r + t = (2 * r + t - b) + b * 1 := by omega
    have e3 : (2 * r + t) / b = 1 := by rw [e2, Nat.add_mul_div_left _ _ hb, Nat.div_eq_of_lt (by omega)]
    have e4 : (2 * r + t) % b = 2 * r + t - b := by
      have e5 : (2 * r + t - b + b * 1) % b = (2 * r + t - b) % b := Nat.add_mul_mod_self_left _ _ _
      rw [← e2] at e5
      rw [e5, Nat.mod_eq_of_lt (by omega)]
    rw [e3, e4]
    exact ⟨by omega, rfl⟩
  · rw [if_neg c, if_neg c, Nat.div_eq_of_lt (by omega), Nat.mod_eq_of_lt (by omega)]
    exact ⟨by omega, rfl⟩
theorem rnd6 (b r t : Nat) (hb : b < 18446744073709551616) (hr : r < b) (ht : t ≤ 1) (hT : b ≤ 2 * r + t) :
    IntKind.u64.wrap (IntKind.u64.wrap (IntKind.u64.wrap ((r : Int) * 2) + (t : Int)) - (b : Int)) = ((2 * r + t - b : Nat) : Int) := by
  simp only [IntKind.wrap_u64]; omega
set_option maxHeartbeats 1000000 in
theorem divide_any (a b : Nat) (ha : a < 18446744073709551616) (hb : b < 18446744073709551616) (w : World) :
    Calls Tryz.prog 125 #[.int .u64 a, .int .u64 b] w fun e w' => e = .returned (.tuple #[.int .u64 (opv 13 a b : Nat), .int .u64 (opv 14 a b : Nat)]) ∧ w = w' := by
  by_cases hb0 : b = 0
  · subst hb0
    rw [opv_13, opv_14, if_pos rfl, if_pos rfl]
    go_enter Tryz.func125, Tryz.ntmps125
    go_wp2
    go_ret2
    exact ⟨rfl, rfl⟩
  have hb1 : ((b : Int) == 0) = false := by simpa using hb0
  have hbp : 0 < b := by omega
  rw [opv_13, opv_14, if_neg hb0, if_neg hb0]
  clear hb0
  go_enter Tryz.func125, Tryz.ntmps125
  go_wp2
  go_loop [6, 7, 8] (fun q r i => ∃ k : Nat, k ≤ 64 ∧ i = .int .i64 ((k : Int) - 1) ∧ q = .int .u64 (a / 2 ^ k / b : Nat) ∧ r = .int .u64 (a / 2 ^ k % b : Nat)) (fun _ _ i => (intOf i + 1).toNat)
  case atStart => exact ⟨64, by omega, rfl, by rw [top_pow a ha, Nat.zero_div]; rfl, by rw [top_pow a ha, Nat.zero_mod]; rfl⟩
  case round =>
    obtain ⟨k, hk, rfl, rfl, rfl⟩ := hrel
    rcases Nat.eq_zero_or_pos k with h0 | h0
    · subst h0
      go_wp2
      go_ret2
      exact ⟨ret_u64u64 (by first | (with_reducible rfl) | simp) (by first | (with_reducible rfl) | simp), rfl⟩
    · obtain ⟨j, rfl⟩ : ∃ j, k = j + 1 := ⟨k - 1, by omega⟩
      have hh := half_pow a j
      have htm := tmod_two a j
      have e0 : ((j + 1 : Nat) : Int) - 1 = (j : Int) := by omega
      rw [e0]
      clear e0
      have ht : a / 2 ^ j % 2 ≤ 1 := by omega
      have hA : a / 2 ^ (j + 1) < 9223372036854775808 := by
        have : a / 2 ^ (j + 1) ≤ a / 2 := by rw [Nat.pow_succ, Nat.mul_comm, ← Nat.div_div_eq_div_mul]; exact Nat.div_le_self _ _
        omega
      generalize a / 2 ^ j % 2 = t at *
      have hd := div_round (a / 2 ^ (j + 1)) b t hbp ht
      rw [← hh] at hd
      have HD := Lib.hid hd
      have hr := Nat.mod_lt (a / 2 ^ (j + 1)) hbp
      have hq : a / 2 ^ (j + 1) / b < 9223372036854775808 := Nat.lt_of_le_of_lt (Nat.div_le_self _ _) hA
      clear hd hh hA
      generalize a / 2 ^ (j + 1) / b = q at *
      generalize a / 2 ^ (j + 1) % b = r at *
      by_cases hT : b ≤ 2 * r + t
      · have HD1 : Hid (a / 2 ^ j / b = 2 * q + 1 ∧ a / 2 ^ j % b = 2 * r + t - b) := Lib.hid (by have h := HD.out; rw [if_pos hT, if_pos hT] at h; exact h)
        clear HD
        by_cases ho : r < 9223372036854775808
        · have h1 : ((r : Int) / 9223372036854775808 == 1) = false := by rw [Bool.eq_false_iff]; simp only [ne_eq, beq_iff_eq]; omega
          have h2 : (b : Int) ≤ (r : Int) * 2 + (t : Int) := by omega
          go_wp2
          go_round
          case rel => exact ⟨j, by omega, rfl, by rw [HD1.out.1]; go_num, by rw [HD1.out.2]; go_num⟩
          case measure => first | (simp [intOf]; done) | (simp [intOf]; omega)
        · have h1 : ((r : Int) / 9223372036854775808 == 1) = true := by simp only [beq_iff_eq]; omega
          go_wp2
          go_round
          case rel => exact ⟨j, by omega, rfl, by rw [HD1.out.1]; go_num, by rw [HD1.out.2]; exact val_u64 (rnd6 b r t hb hr ht hT)⟩
          case measure => first | (simp [intOf]; done) | (simp [intOf]; omega)
      · have HD1 : Hid (a / 2 ^ j / b = 2 * q + 0 ∧ a / 2 ^ j % b = 2 * r + t - 0) := Lib.hid (by have h := HD.out; rw [if_neg hT, if_neg hT] at h; exact h)
        clear HD
        have ho : r < 9223372036854775808 := by omega
        have h1 : ((r : Int) / 9223372036854775808 == 1) = false := by rw [Bool.eq_false_iff]; simp only [ne_eq, beq_iff_eq]; omega
        have h2 : ¬ ((b : Int) ≤ (r : Int) * 2 + (t : Int)) := by omega
        go_wp2
        go_round
        case rel => exact ⟨j, by omega, rfl, by rw [HD1.out.1]; go_num, by rw [HD1.out.2]; go_num⟩
        case measure => first | (simp [intOf]; done) | (simp [intOf]; omega)
end Go.Proofs.YtfaacmcnefbgcaaGreatDoor

/- Contracts of the document's own answer Op of layer 1: for all words. -/
namespace Go.Proofs.YtfaacmcnefbgcaaGreatDoor
open Go.ChangeShapes Go.WideShapes Go.ChangeAt Go.RowKit
set_option linter.unusedVariables false
theorem one_any (b : Bool) (w : World) : Calls Tryz.prog 126 #[.bool b] w fun e w' => e = .returned (.int .u64 ((tru b : Nat) : Int)) ∧ w = w' := by
  cases b
  all_goals
    go_enter Tryz.func126, Tryz.ntmps126
    go_wp2
    go_ret
    exact ⟨rfl, rfl⟩
theorem r_flip (a : Nat) (ha : a < 18446744073709551616) : bits .xor .u64 (a : Int) 9223372036854775808 = ((a ^^^ 9223372036854775808 : Nat) : Int) := bits_xor_u64_nat a 9223372036854775808 ha (by omega)
set_option maxRecDepth 100000 in
set_option maxHeartbeats 1000000 in
theorem rop_1 (a b : Nat) (ha : a < 18446744073709551616) (hb : b < 18446744073709551616) (w : World) :
    Calls Tryz.prog 107 #[.int .u8 1, .int .u64 a, .int .u64 b] w fun e w' => e = .returned (.tuple #[.int .u64 (opv 1 a b : Nat), .int .i64 0]) ∧ w = w' := by
  go_enter Tryz.func107, Tryz.ntmps107
  go_wp2_with (first | (go_at_call 124; (with_reducible refine (product_any a b ha hb _).mono ?_); rintro e w' ⟨rfl, rfl⟩) | (go_at_call 125; (with_reducible refine (divide_any a b ha hb _).mono ?_); rintro e w' ⟨rfl, rfl⟩) | (go_at_call 126; (with_reducible refine (one_any _ _).mono ?_); rintro e w' ⟨rfl, rfl⟩))
  go_ret2
  exact ⟨ret_u64i64 (by exact add_eq a b), rfl⟩
set_option maxRecDepth 100000 in
set_option maxHeartbeats 1000000 in
theorem rop_2 (a b : Nat) (ha : a < 18446744073709551616) (hb : b < 18446744073709551616) (w : World) :
    Calls Tryz.prog 107 #[.int .u8 2, .int .u64 a, .int .u64 b] w fun e w' => e = .returned (.tuple #[.int .u64 (opv 2 a b : Nat), .int .i64 0]) ∧ w = w' := by
  go_enter Tryz.func107, Tryz.ntmps107
  go_wp2_with (first | (go_at_call 124; (with_reducible refine (product_any a b ha hb _).mono ?_); rintro e w' ⟨rfl, rfl⟩) | (go_at_call 125; (with_reducible refine (divide_any a b ha hb _).mono ?_); rintro e w' ⟨rfl, rfl⟩) | (go_at_call 126; (with_reducible refine (one_any _ _).mono ?_); rintro e w' ⟨rfl, rfl⟩))
  go_ret2
  exact ⟨ret_u64i64 (by exact sub_eq a b ha hb), rfl⟩
set_option maxRecDepth 100000 in
set_option maxHeartbeats 1000000 in
theorem rop_3 (a b : Nat) (ha : a < 18446744073709551616) (hb : b < 18446744073709551616) (w : World) :
    Calls Tryz.prog 107 #[.int .u8 3, .int .u64 a, .int .u64 b] w fun e w' => e = .returned (.tuple #[.int .u64 (opv 3 a b : Nat), .int .i64 0]) ∧ w = w' := by
  go_enter Tryz.func107, Tryz.ntmps107
  go_wp2_with (first | (go_at_call 124; (with_reducible refine (product_any a b ha hb _).mono ?_); rintro e w' ⟨rfl, rfl⟩) | (go_at_call 125; (with_reducible refine (divide_any a b ha hb _).mono ?_); rintro e w' ⟨rfl, rfl⟩) | (go_at_call 126; (with_reducible refine (one_any _ _).mono ?_); rintro e w' ⟨rfl, rfl⟩))
  go_ret2
  exact ⟨ret_u64i64 (by exact sll_eq a b), rfl⟩
set_option maxRecDepth 100000 in
set_option maxHeartbeats 1000000 in
theorem rop_4 (a b : Nat) (ha : a < 18446744073709551616) (hb : b < 18446744073709551616) (w : World) :
    Calls Tryz.prog 107 #[.int .u8 4, .int .u64 a, .int .u64 b] w fun e w' => e = .returned (.tuple #[.int .u64 (opv 4 a b : Nat), .int .i64 0]) ∧ w = w' := by
  have q1 := r_flip a ha
  have q2 := r_flip b hb
  go_enter Tryz.func107, Tryz.ntmps107
  go_wp2_with (first | (go_at_call 124; (with_reducible refine (product_any a b ha hb _).mono ?_); rintro e w' ⟨rfl, rfl⟩) | (go_at_call 125; (with_reducible refine (divide_any a b ha hb _).mono ?_); rintro e w' ⟨rfl, rfl⟩) | (go_at_call 126; (with_reducible refine (one_any _ _).mono ?_); rintro e w' ⟨rfl, rfl⟩))
  go_ret2
  exact ⟨ret_u64i64 (by rw [law12 a b ha hb]; first | exact sltu_eq _ _ | exact sltu_eq' _ _), rfl⟩
set_option maxRecDepth 100000 in
set_option maxHeartbeats 1000000 in
theorem rop_5 (a b : Nat) (ha : a < 18446744073709551616) (hb : b < 18446744073709551616) (w : World) :
    Calls Tryz.prog 107 #[.int .u8 5, .int .u64 a, .int .u64 b] w fun e w' => e = .returned (.tuple #[.int .u64 (opv 5 a b : Nat), .int .i64 0]) ∧ w = w' := by
  go_enter Tryz.func107, Tryz.ntmps107
  go_wp2_with (first | (go_at_call 124; (with_reducible refine (product_any a b ha hb _).mono ?_); rintro e w' ⟨rfl, rfl⟩) | (go_at_call 125; (with_reducible refine (divide_any a b ha hb _).mono ?_); rintro e w' ⟨rfl, rfl⟩) | (go_at_call 126; (with_reducible refine (one_any _ _).mono ?_); rintro e w' ⟨rfl, rfl⟩))
  go_ret2
  exact ⟨ret_u64i64 (by first | exact sltu_eq a b | exact sltu_eq' a b), rfl⟩
set_option maxRecDepth 100000 in
set_option maxHeartbeats 1000000 in
theorem rop_6 (a b : Nat) (ha : a < 18446744073709551616) (hb : b < 18446744073709551616) (w : World) :
    Calls Tryz.prog 107 #[.int .u8 6, .int .u64 a, .int .u64 b] w fun e w' => e = .returned (.tuple #[.int .u64 (opv 6 a b : Nat), .int .i64 0]) ∧ w = w' := by
  go_enter Tryz.func107, Tryz.ntmps107
  go_wp2_with (first | (go_at_call 124; (with_reducible refine (product_any a b ha hb _).mono ?_); rintro e w' ⟨rfl, rfl⟩) | (go_at_call 125; (with_reducible refine (divide_any a b ha hb _).mono ?_); rintro e w' ⟨rfl, rfl⟩) | (go_at_call 126; (with_reducible refine (one_any _ _).mono ?_); rintro e w' ⟨rfl, rfl⟩))
  go_ret2
  exact ⟨ret_u64i64 (by rw [opv_6]; exact bits_xor_u64_nat a b ha hb), rfl⟩
set_option maxRecDepth 100000 in
set_option maxHeartbeats 1000000 in
theorem rop_7 (a b : Nat) (ha : a < 18446744073709551616) (hb : b < 18446744073709551616) (w : World) :
    Calls Tryz.prog 107 #[.int .u8 7, .int .u64 a, .int .u64 b] w fun e w' => e = .returned (.tuple #[.int .u64 (opv 7 a b : Nat), .int .i64 0]) ∧ w = w' := by
  go_enter Tryz.func107, Tryz.ntmps107
  go_wp2_with (first | (go_at_call 124; (with_reducible refine (product_any a b ha hb _).mono ?_); rintro e w' ⟨rfl, rfl⟩) | (go_at_call 125; (with_reducible refine (divide_any a b ha hb _).mono ?_); rintro e w' ⟨rfl, rfl⟩) | (go_at_call 126; (with_reducible refine (one_any _ _).mono ?_); rintro e w' ⟨rfl, rfl⟩))
  go_ret2
  exact ⟨ret_u64i64 (by exact srl_eq a b), rfl⟩
theorem not_u64 (n m : Nat) (h : n + m = 18446744073709551615) : bits .xor .u64 (if IntKind.u64.signed = true then -1 else IntKind.u64.max) (n : Int) = (m : Int) := by
  have e : (if IntKind.u64.signed = true then -1 else IntKind.u64.max) = 18446744073709551615 := by decide
  rw [e]
  have := bits_xor_u64_nat 18446744073709551615 n (by omega) (by omega)
  rw [show ((18446744073709551615 : Nat) : Int) = 18446744073709551615 from rfl] at this
  rw [this]
  have hx := xor_and 18446744073709551615 n
  have hn : 18446744073709551615 &&& n = n := by
    rw [Nat.and_comm, show (18446744073709551615 : Nat) = 2 ^ 64 - 1 from rfl, Nat.and_two_pow_sub_one_eq_mod]
    exact Nat.mod_eq_of_lt (by omega)
  rw [hn] at hx
  congr 1
  omega
theorem sra_neg (a b n m : Nat) (h : ¬ a < 9223372036854775808) (h1 : a + n = 18446744073709551615) (h2 : n / 2 ^ (b % 64) + m = 18446744073709551615) : opv 8 a b = m := by
  rw [opv_8]; unfold srav srax
  rw [if_neg h, show 18446744073709551615 - a = n by omega]
  omega
theorem sra_pos (a b : Nat) (h : a < 9223372036854775808) : (a : Int) / 2 ^ (b % 64) = ((opv 8 a b : Nat) : Int) := by
  rw [opv_8]; unfold srav srax; rw [if_pos h, cast_pow_div]
set_option maxRecDepth 1000000 in
set_option maxHeartbeats 1000000 in
theorem rop_8n (a b : Nat) (ha : a < 18446744073709551616) (hb : b < 18446744073709551616) (w : World) (hs1 : decide ((a : Int) < 9223372036854775808) = false) :
    Calls Tryz.prog 107 #[.int .u8 8, .int .u64 a, .int .u64 b] w fun e w' => e = .returned (.tuple #[.int .u64 (opv 8 a b : Nat), .int .i64 0]) ∧ w = w' := by


  have hs2 : ¬ a < 9223372036854775808 := by have := of_decide_eq_false hs1; omega
  obtain ⟨n, hn⟩ : ∃ n, a + n = 18446744073709551615 := ⟨18446744073709551615 - a, by omega⟩
  have hd := Nat.div_le_self n (2 ^ (b % 64))
  obtain ⟨m, hm⟩ : ∃ m, n / 2 ^ (b % 64) + m = 18446744073709551615 := ⟨18446744073709551615 - n / 2 ^ (b % 64), by omega⟩
  have u1 := not_u64 a n hn
  have u2 := not_u64 _ m hm
  rw [cast_pow_div] at u2
  have hr := sra_neg a b n m hs2 hn hm
  rw [hr]
  clear hr hs2 hn hm hd
  go_enter Tryz.func107, Tryz.ntmps107
  go_wp2_with (first | (go_at_call 124; (with_reducible refine (product_any a b ha hb _).mono ?_); rintro e w' ⟨rfl, rfl⟩) | (go_at_call 125; (with_reducible refine (divide_any a b ha hb _).mono ?_); rintro e w' ⟨rfl, rfl⟩) | (go_at_call 126; (with_reducible refine (one_any _ _).mono ?_); rintro e w' ⟨rfl, rfl⟩))
  go_ret2
  exact ⟨rfl, rfl⟩
set_option maxRecDepth 100000 in
set_option maxHeartbeats 1000000 in
theorem rop_8 (a b : Nat) (ha : a < 18446744073709551616) (hb : b < 18446744073709551616) (w : World) :
    Calls Tryz.prog 107 #[.int .u8 8, .int .u64 a, .int .u64 b] w fun e w' => e = .returned (.tuple #[.int .u64 (opv 8 a b : Nat), .int .i64 0]) ∧ w = w' := by
  by_cases hs : a < 9223372036854775808
  · have hs1 : (a : Int) < 9223372036854775808 := by omega
    go_enter Tryz.func107, Tryz.ntmps107
    go_wp2_with (first | (go_at_call 124; (with_reducible refine (product_any a b ha hb _).mono ?_); rintro e w' ⟨rfl, rfl⟩) | (go_at_call 125; (with_reducible refine (divide_any a b ha hb _).mono ?_); rintro e w' ⟨rfl, rfl⟩) | (go_at_call 126; (with_reducible refine (one_any _ _).mono ?_); rintro e w' ⟨rfl, rfl⟩))
    go_ret2
    exact ⟨ret_u64i64 (by exact sra_pos a b hs), rfl⟩
  · exact rop_8n a b ha hb w (decide_eq_false (by omega))
set_option maxRecDepth 100000 in
set_option maxHeartbeats 1000000 in
theorem rop_9 (a b : Nat) (ha : a < 18446744073709551616) (hb : b < 18446744073709551616) (w : World) :
    Calls Tryz.prog 107 #[.int .u8 9, .int .u64 a, .int .u64 b] w fun e w' => e = .returned (.tuple #[.int .u64 (opv 9 a b : Nat), .int .i64 0]) ∧ w = w' := by
  go_enter Tryz.func107, Tryz.ntmps107
  go_wp2_with (first | (go_at_call 124; (with_reducible refine (product_any a b ha hb _).mono ?_); rintro e w' ⟨rfl, rfl⟩) | (go_at_call 125; (with_reducible refine (divide_any a b ha hb _).mono ?_); rintro e w' ⟨rfl, rfl⟩) | (go_at_call 126; (with_reducible refine (one_any _ _).mono ?_); rintro e w' ⟨rfl, rfl⟩))
  go_ret2
  exact ⟨ret_u64i64 (by rw [opv_9]; exact bits_or_nat a b ha hb), rfl⟩
set_option maxRecDepth 100000 in
set_option maxHeartbeats 1000000 in
theorem rop_10 (a b : Nat) (ha : a < 18446744073709551616) (hb : b < 18446744073709551616) (w : World) :
    Calls Tryz.prog 107 #[.int .u8 10, .int .u64 a, .int .u64 b] w fun e w' => e = .returned (.tuple #[.int .u64 (opv 10 a b : Nat), .int .i64 0]) ∧ w = w' := by
  go_enter Tryz.func107, Tryz.ntmps107
  go_wp2_with (first | (go_at_call 124; (with_reducible refine (product_any a b ha hb _).mono ?_); rintro e w' ⟨rfl, rfl⟩) | (go_at_call 125; (with_reducible refine (divide_any a b ha hb _).mono ?_); rintro e w' ⟨rfl, rfl⟩) | (go_at_call 126; (with_reducible refine (one_any _ _).mono ?_); rintro e w' ⟨rfl, rfl⟩))
  go_ret2
  exact ⟨ret_u64i64 (by rw [opv_10]; exact bits_and_nat a b ha hb), rfl⟩
set_option maxRecDepth 100000 in
set_option maxHeartbeats 1000000 in
theorem rop_11 (a b : Nat) (ha : a < 18446744073709551616) (hb : b < 18446744073709551616) (w : World) :
    Calls Tryz.prog 107 #[.int .u8 11, .int .u64 a, .int .u64 b] w fun e w' => e = .returned (.tuple #[.int .u64 (opv 11 a b : Nat), .int .i64 0]) ∧ w = w' := by
  go_enter Tryz.func107, Tryz.ntmps107
  go_wp2_with (first | (go_at_call 124; (with_reducible refine (product_any a b ha hb _).mono ?_); rintro e w' ⟨rfl, rfl⟩) | (go_at_call 125; (with_reducible refine (divide_any a b ha hb _).mono ?_); rintro e w' ⟨rfl, rfl⟩) | (go_at_call 126; (with_reducible refine (one_any _ _).mono ?_); rintro e w' ⟨rfl, rfl⟩))
  go_ret2
  exact ⟨ret_u64i64 (by rfl), rfl⟩
set_option maxRecDepth 100000 in
set_option maxHeartbeats 1000000 in
theorem rop_12 (a b : Nat) (ha : a < 18446744073709551616) (hb : b < 18446744073709551616) (w : World) :
    Calls Tryz.prog 107 #[.int .u8 12, .int .u64 a, .int .u64 b] w fun e w' => e = .returned (.tuple #[.int .u64 (opv 12 a b : Nat), .int .i64 0]) ∧ w = w' := by
  go_enter Tryz.func107, Tryz.ntmps107
  go_wp2_with (first | (go_at_call 124; (with_reducible refine (product_any a b ha hb _).mono ?_); rintro e w' ⟨rfl, rfl⟩) | (go_at_call 125; (with_reducible refine (divide_any a b ha hb _).mono ?_); rintro e w' ⟨rfl, rfl⟩) | (go_at_call 126; (with_reducible refine (one_any _ _).mono ?_); rintro e w' ⟨rfl, rfl⟩))
  go_ret2
  exact ⟨ret_u64i64 (by rfl), rfl⟩
set_option maxRecDepth 100000 in
set_option maxHeartbeats 1000000 in
theorem rop_13 (a b : Nat) (ha : a < 18446744073709551616) (hb : b < 18446744073709551616) (w : World) :
    Calls Tryz.prog 107 #[.int .u8 13, .int .u64 a, .int .u64 b] w fun e w' => e = .returned (.tuple #[.int .u64 (opv 13 a b : Nat), .int .i64 0]) ∧ w = w' := by
  go_enter Tryz.func107, Tryz.ntmps107
  go_wp2_with (first | (go_at_call 124; (with_reducible refine (product_any a b ha hb _).mono ?_); rintro e w' ⟨rfl, rfl⟩) | (go_at_call 125; (with_reducible refine (divide_any a b ha hb _).mono ?_); rintro e w' ⟨rfl, rfl⟩) | (go_at_call 126; (with_reducible refine (one_any _ _).mono ?_); rintro e w' ⟨rfl, rfl⟩))
  go_ret2
  exact ⟨ret_u64i64 (by rfl), rfl⟩
set_option maxRecDepth 100000 in
set_option maxHeartbeats 1000000 in
theorem rop_14 (a b : Nat) (ha : a < 18446744073709551616) (hb : b < 18446744073709551616) (w : World) :
    Calls Tryz.prog 107 #[.int .u8 14, .int .u64 a, .int .u64 b] w fun e w' => e = .returned (.tuple #[.int .u64 (opv 14 a b : Nat), .int .i64 0]) ∧ w = w' := by
  go_enter Tryz.func107, Tryz.ntmps107
  go_wp2_with (first | (go_at_call 124; (with_reducible refine (product_any a b ha hb _).mono ?_); rintro e w' ⟨rfl, rfl⟩) | (go_at_call 125; (with_reducible refine (divide_any a b ha hb _).mono ?_); rintro e w' ⟨rfl, rfl⟩) | (go_at_call 126; (with_reducible refine (one_any _ _).mono ?_); rintro e w' ⟨rfl, rfl⟩))
  go_ret2
  exact ⟨ret_u64i64 (by rfl), rfl⟩
set_option maxRecDepth 100000 in
set_option maxHeartbeats 1000000 in
theorem rop_none (k a b : Nat) (hk : k < 256) (hn : ¬ (1 ≤ k ∧ k ≤ 14)) (ha : a < 18446744073709551616) (hb : b < 18446744073709551616) (w : World) :
    Calls Tryz.prog 107 #[.int .u8 k, .int .u64 a, .int .u64 b] w fun e w' => e = .returned (.tuple #[.int .u64 0, .int .i64 2]) ∧ w = w' := by
  have n1 : ((k : Int) == 1) = false := by rw [Bool.eq_false_iff]; simp only [ne_eq, beq_iff_eq]; omega
  have n2 : ((k : Int) == 2) = false := by rw [Bool.eq_false_iff]; simp only [ne_eq, beq_iff_eq]; omega
  have n3 : ((k : Int) == 3) = false := by rw [Bool.eq_false_iff]; simp only [ne_eq, beq_iff_eq]; omega
  have n4 : ((k : Int) == 4) = false := by rw [Bool.eq_false_iff]; simp only [ne_eq, beq_iff_eq]; omega
  have n5 : ((k : Int) == 5) = false := by rw [Bool.eq_false_iff]; simp only [ne_eq, beq_iff_eq]; omega
  have n6 : ((k : Int) == 6) = false := by rw [Bool.eq_false_iff]; simp only [ne_eq, beq_iff_eq]; omega
  have n7 : ((k : Int) == 7) = false := by rw [Bool.eq_false_iff]; simp only [ne_eq, beq_iff_eq]; omega
  have n8 : ((k : Int) == 8) = false := by rw [Bool.eq_false_iff]; simp only [ne_eq, beq_iff_eq]; omega
  have n9 : ((k : Int) == 9) = false := by rw [Bool.eq_false_iff]; simp only [ne_eq, beq_iff_eq]; omega
  have n10 : ((k : Int) == 10) = false := by rw [Bool.eq_false_iff]; simp only [ne_eq, beq_iff_eq]; omega
  have n11 : ((k : Int) == 11) = false := by rw [Bool.eq_false_iff]; simp only [ne_eq, beq_iff_eq]; omega
  have n12 : ((k : Int) == 12) = false := by rw [Bool.eq_false_iff]; simp only [ne_eq, beq_iff_eq]; omega
  have n13 : ((k : Int) == 13) = false := by rw [Bool.eq_false_iff]; simp only [ne_eq, beq_iff_eq]; omega
  have n14 : ((k : Int) == 14) = false := by rw [Bool.eq_false_iff]; simp only [ne_eq, beq_iff_eq]; omega
  clear hn
  go_enter Tryz.func107, Tryz.ntmps107
  go_wp2_with (first | (go_at_call 124; (with_reducible refine (product_any a b ha hb _).mono ?_); rintro e w' ⟨rfl, rfl⟩) | (go_at_call 125; (with_reducible refine (divide_any a b ha hb _).mono ?_); rintro e w' ⟨rfl, rfl⟩) | (go_at_call 126; (with_reducible refine (one_any _ _).mono ?_); rintro e w' ⟨rfl, rfl⟩))
  go_ret2
  exact ⟨rfl, rfl⟩
theorem rop_any (k a b : Nat) (hk : k < 256) (ha : a < 18446744073709551616) (hb : b < 18446744073709551616) (w : World) :
    Calls Tryz.prog 107 #[.int .u8 k, .int .u64 a, .int .u64 b] w fun e w' => e = .returned (.tuple #[.int .u64 (opv k a b : Nat), .int .i64 (ope k : Nat)]) ∧ w = w' := by
  by_cases h : 1 ≤ k ∧ k ≤ 14
  · rw [show ope k = 0 from if_pos h]
    have hc := u8_cases h
    rcases hc with rfl | rfl | rfl | rfl | rfl | rfl | rfl | rfl | rfl | rfl | rfl | rfl | rfl | rfl
    · exact rop_1 a b ha hb w
    · exact rop_2 a b ha hb w
    · exact rop_3 a b ha hb w
    · exact rop_4 a b ha hb w
    · exact rop_5 a b ha hb w
    · exact rop_6 a b ha hb w
    · exact rop_7 a b ha hb w
    · exact rop_8 a b ha hb w
    · exact rop_9 a b ha hb w
    · exact rop_10 a b ha hb w
    · exact rop_11 a b ha hb w
    · exact rop_12 a b ha hb w
    · exact rop_13 a b ha hb w
    · exact rop_14 a b ha hb w
  · rw [opv_none k a b h, show ope k = 2 from if_neg h]
    exact rop_none k a b hk h ha hb w
end Go.Proofs.YtfaacmcnefbgcaaGreatDoor
