/- Contracts of the document's own answers for products and quotients, by doubling and bit by bit: for all words. -/
import Derived.Test.YtodhldhaijhdgaaWordE
import Derived.Test.YtodhldhaijhdgaaPl2
namespace Go.Proofs.Ytodhldhaijhdgaa
open Go.ChangeShapes Go.WideShapes Go.ChangeAt Go.RowKit
set_option linter.unusedVariables false

theorem half_pow (b j : Nat) : b / 2 ^ j = 2 * (b / 2 ^ (j + 1)) + b / 2 ^ j % 2 := by
  have : b / 2 ^ (j + 1) = b / 2 ^ j / 2 := by rw [Nat.pow_succ, Nat.div_div_eq_div_mul]
  omega
theorem top_pow (b : Nat) (hb : b < 18446744073709551616) : b / 2 ^ 64 = 0 := Nat.div_eq_of_lt hb
theorem prod_bound (a b j : Nat) (ha : a < 18446744073709551616) (hb : b < 18446744073709551616) : a * (b / 2 ^ (j + 1)) < 18446744073709551616 * 9223372036854775808 := by
  have h1 : b / 2 ^ (j + 1) ≤ b / 2 := by
    rw [Nat.pow_succ, Nat.mul_comm, ← Nat.div_div_eq_div_mul]; exact Nat.div_le_self _ _
  have h2 : b / 2 ^ (j + 1) < 9223372036854775808 := by omega
  exact Nat.mul_lt_mul'' ha h2
theorem tmod_two (b j : Nat) : ((b : Int) / 2 ^ j).tmod 2 = ((b / 2 ^ j % 2 : Nat) : Int) := by
  rw [← cast_pow_div, Int.tmod_eq_emod_of_nonneg (Int.natCast_nonneg _)]; rfl
theorem bit_int (b j : Nat) : (((b : Int) / 2 ^ j).tmod 2 == 1) = decide (b / 2 ^ j % 2 = 1) := by
  rw [tmod_two, Bool.eq_iff_iff]; simp only [beq_iff_eq, decide_eq_true_eq]; omega
theorem rnd1 (P h l : Nat) (eh : P / 18446744073709551616 = h) (el : P % 18446744073709551616 = l) : (h : Int) * 2 + (l : Int) / 9223372036854775808 = ((2 * P / 18446744073709551616 : Nat) : Int) := by omega
theorem rnd2 (P l : Nat) (el : P % 18446744073709551616 = l) : IntKind.u64.wrap ((l : Int) * 2) = ((2 * P % 18446744073709551616 : Nat) : Int) := by
  rw [IntKind.wrap_u64]; omega
theorem rnd3 (P a h l : Nat) (ha : a < 18446744073709551616) (hu : 2 * P + a < 340282366920938463463374607431768211456) (eh : P / 18446744073709551616 = h) (el : P % 18446744073709551616 = l)
    (ht : IntKind.u64.wrap (IntKind.u64.wrap ((l : Int) * 2) + (a : Int)) < IntKind.u64.wrap ((l : Int) * 2)) :
    IntKind.u64.wrap ((h : Int) * 2 + (l : Int) / 9223372036854775808 + 1) = (((2 * P + a) / 18446744073709551616 : Nat) : Int) := by
  simp only [IntKind.wrap_u64] at *; omega
theorem rnd4 (P a h l : Nat) (ha : a < 18446744073709551616) (eh : P / 18446744073709551616 = h) (el : P % 18446744073709551616 = l)
    (ht : IntKind.u64.wrap ((l : Int) * 2) ≤ IntKind.u64.wrap (IntKind.u64.wrap ((l : Int) * 2) + (a : Int))) :
    (h : Int) * 2 + (l : Int) / 9223372036854775808 = (((2 * P + a) / 18446744073709551616 : Nat) : Int) := by
  simp only [IntKind.wrap_u64] at *; omega
theorem rnd5 (P a l : Nat) (el : P % 18446744073709551616 = l) : IntKind.u64.wrap (IntKind.u64.wrap ((l : Int) * 2) + (a : Int)) = (((2 * P + a) % 18446744073709551616 : Nat) : Int) := by
  simp only [IntKind.wrap_u64] at *; omega
theorem val_u64 {a b : Int} (h : a = b) : Value.int .u64 a = Value.int .u64 b := by rw [h]

set_option maxHeartbeats 1000000 in
theorem product_any (a b : Nat) (ha : a < 18446744073709551616) (hb : b < 18446744073709551616) (w : World) :
    Calls Try.prog 20 #[.int .u64 a, .int .u64 b] w fun e w' => e = .returned (.tuple #[.int .u64 (opv 12 a b : Nat), .int .u64 (opv 11 a b : Nat)]) ∧ w = w' := by
  go_enter Try.func20, Try.ntmps20
  go_wp2
  go_loop [6, 7, 8] (fun h l i => ∃ k : Nat, k ≤ 64 ∧ i = .int .i64 ((k : Int) - 1) ∧ h = .int .u64 (a * (b / 2 ^ k) / 18446744073709551616 : Nat) ∧ l = .int .u64 (a * (b / 2 ^ k) % 18446744073709551616 : Nat)) (fun _ _ i => (intOf i + 1).toNat)
  case atStart => exact ⟨64, by omega, rfl, by rw [top_pow b hb]; simp, by rw [top_pow b hb]; simp⟩
  case round =>
    obtain ⟨k, hk, rfl, rfl, rfl⟩ := hrel
    rcases Nat.eq_zero_or_pos k with h0 | h0
    · subst h0
      go_wp2
      go_ret2
      exact ⟨ret_u64u64 (by rw [opv_12]; simp) (by rw [opv_11]; simp), rfl⟩
    · obtain ⟨j, rfl⟩ : ∃ j, k = j + 1 := ⟨k - 1, by omega⟩
      have hb1 := prod_bound a b j ha hb
      have hh := half_pow b j
      have hbit := bit_int b j
      have e0 : ((j + 1 : Nat) : Int) - 1 = (j : Int) := by omega
      rw [e0]
      clear e0
      have hP : a * (b / 2 ^ j) = 2 * (a * (b / 2 ^ (j + 1))) + a * (b / 2 ^ j % 2) := by
        rw [hh, Nat.mul_add, Nat.mul_left_comm]
        rw [← hh]
      rcases Nat.mod_two_eq_zero_or_one (b / 2 ^ j) with hz | hz
      · have hb0 : (((b : Int) / 2 ^ j).tmod 2 == 1) = false := by rw [hbit, hz]; rfl
        rw [hz, Nat.mul_zero, Nat.add_zero] at hP
        clear hbit hz hh
        generalize a * (b / 2 ^ (j + 1)) = P at *
        have HP := Lib.hid hP
        clear hP
        have hu : P / 18446744073709551616 < 9223372036854775808 := by omega
        have hl : P % 18446744073709551616 < 18446744073709551616 := by omega
        generalize eh : P / 18446744073709551616 = h at *
        generalize el : P % 18446744073709551616 = l at *
        have EH := Lib.hid eh
        have EL := Lib.hid el
        clear eh el hb1
        go_wp2
        go_round
        case rel => exact ⟨j, by omega, rfl, by rw [HP.out]; exact val_u64 (rnd1 P h l EH.out EL.out), by rw [HP.out]; exact val_u64 (rnd2 P l EL.out)⟩
        case measure => first | (simp [intOf]; done) | (simp [intOf]; omega)
      · have hb0 : (((b : Int) / 2 ^ j).tmod 2 == 1) = true := by rw [hbit, hz]; rfl
        rw [hz, Nat.mul_one] at hP
        have hq : a * (b / 2 ^ j) < 18446744073709551616 * 18446744073709551616 := Nat.mul_lt_mul'' ha (Nat.lt_of_le_of_lt (Nat.div_le_self _ _) hb)
        rw [hP] at hq
        clear hbit hz hh
        generalize a * (b / 2 ^ (j + 1)) = P at *
        have HP := Lib.hid hP
        clear hP
        have hu : P / 18446744073709551616 < 9223372036854775808 := by omega
        have hl : P % 18446744073709551616 < 18446744073709551616 := by omega
        generalize eh : P / 18446744073709551616 = h at *
        generalize el : P % 18446744073709551616 = l at *
        have EH := Lib.hid eh
        have EL := Lib.hid el
        have HQ := Lib.hid (show 2 * P + a < 340282366920938463463374607431768211456 by omega)
        clear eh el hb1 hq
        go_wp2
        all_goals
          go_round
          case rel => exact ⟨j, by omega, rfl, by rw [HP.out]; first | exact val_u64 (rnd3 P a h l ha HQ.out EH.out EL.out (by assumption)) | exact val_u64 (rnd4 P a h l ha EH.out EL.out (by assumption)), by rw [HP.out]; exact val_u64 (rnd5 P a l EL.out)⟩
          case measure => first | (simp [intOf]; done) | (simp [intOf]; omega)

theorem div_round (A b t : Nat) (hb : 0 < b) (ht : t ≤ 1) : (2 * A + t) / b = 2 * (A / b) + (if b ≤ 2 * (A % b) + t then 1 else 0) ∧ (2 * A + t) % b = 2 * (A % b) + t - (if b ≤ 2 * (A % b) + t then b else 0) := by
  have h := Nat.div_add_mod A b
  have hr := Nat.mod_lt A hb
  generalize A / b = q at *
  generalize A % b = r at *
  have e : 2 * A + t = (2 * r + t) + b * (2 * q) := by
    rw [← h, Nat.mul_add, Nat.mul_left_comm]; omega
  rw [e, Nat.add_mul_div_left _ _ hb, Nat.add_mul_mod_self_left]
  by_cases c : b ≤ 2 * r + t
  · rw [if_pos c, if_pos c]
    have e2 : 2 * r + t = (2 * r + t - b) + b * 1 := by omega
    have e3 : (2 * r + t) / b = 1 := by rw [e2, Nat.add_mul_div_left _ _ hb, Nat.div_eq_of_lt (by omega)]
    have e4 : (2 * r + t) % b = 2 * r + t - b := by
      have e5 : (2 * r + t - b + b * 1) % b = (2 * r + t - b) % b := Nat.add_mul_mod_self_left _ _ _
      rw [← e2] at e5
      rw [e5, Nat.mod_eq_of_lt (by omega)]
    rw [e3, e4]
    exact ⟨by omega, rfl⟩
  · rw [if_neg c, if_neg c, Nat.div_eq_of_lt (by omega), Nat.mod_eq_of_lt (by omega)]
    exact ⟨by omega, rfl⟩
theorem rnd6 (b r t : Nat) (hb : b < 18446744073709551616) (hr : r < b) (ht : t ≤ 1) (hT : b ≤ 2 * r + t) :
    IntKind.u64.wrap (IntKind.u64.wrap (IntKind.u64.wrap ((r : Int) * 2) + (t : Int)) - (b : Int)) = ((2 * r + t - b : Nat) : Int) := by
  simp only [IntKind.wrap_u64]; omega
set_option maxHeartbeats 1000000 in
theorem divide_any (a b : Nat) (ha : a < 18446744073709551616) (hb : b < 18446744073709551616) (w : World) :
    Calls Try.prog 21 #[.int .u64 a, .int .u64 b] w fun e w' => e = .returned (.tuple #[.int .u64 (opv 13 a b : Nat), .int .u64 (opv 14 a b : Nat)]) ∧ w = w' := by
  by_cases hb0 : b = 0
  · subst hb0
    rw [opv_13, opv_14, if_pos rfl, if_pos rfl]
    go_enter Try.func21, Try.ntmps21
    go_wp2
    go_ret2
    exact ⟨rfl, rfl⟩
  have hb1 : ((b : Int) == 0) = false := by simpa using hb0
  have hbp : 0 < b := by omega
  rw [opv_13, opv_14, if_neg hb0, if_neg hb0]
  clear hb0
  go_enter Try.func21, Try.ntmps21
  go_wp2
  go_loop [6, 7, 8] (fun q r i => ∃ k : Nat, k ≤ 64 ∧ i = .int .i64 ((k : Int) - 1) ∧ q = .int .u64 (a / 2 ^ k / b : Nat) ∧ r = .int .u64 (a / 2 ^ k % b : Nat)) (fun _ _ i => (intOf i + 1).toNat)
  case atStart => exact ⟨64, by omega, rfl, by rw [top_pow a ha, Nat.zero_div]; rfl, by rw [top_pow a ha, Nat.zero_mod]; rfl⟩
  case round =>
    obtain ⟨k, hk, rfl, rfl, rfl⟩ := hrel
    rcases Nat.eq_zero_or_pos k with h0 | h0
    · subst h0
      go_wp2
      go_ret2
      exact ⟨ret_u64u64 (by first | (with_reducible rfl) | simp) (by first | (with_reducible rfl) | simp), rfl⟩
    · obtain ⟨j, rfl⟩ : ∃ j, k = j + 1 := ⟨k - 1, by omega⟩
      have hh := half_pow a j
      have htm := tmod_two a j
      have e0 : ((j + 1 : Nat) : Int) - 1 = (j : Int) := by omega
      rw [e0]
      clear e0
      have ht : a / 2 ^ j % 2 ≤ 1 := by omega
      have hA : a / 2 ^ (j + 1) < 9223372036854775808 := by
        have : a / 2 ^ (j + 1) ≤ a / 2 := by rw [Nat.pow_succ, Nat.mul_comm, ← Nat.div_div_eq_div_mul]; exact Nat.div_le_self _ _
        omega
      generalize a / 2 ^ j % 2 = t at *
      have hd := div_round (a / 2 ^ (j + 1)) b t hbp ht
      rw [← hh] at hd
      have HD := Lib.hid hd
      have hr := Nat.mod_lt (a / 2 ^ (j + 1)) hbp
      have hq : a / 2 ^ (j + 1) / b < 9223372036854775808 := Nat.lt_of_le_of_lt (Nat.div_le_self _ _) hA
      clear hd hh hA
      generalize a / 2 ^ (j + 1) / b = q at *
      generalize a / 2 ^ (j + 1) % b = r at *
      by_cases hT : b ≤ 2 * r + t
      · have HD1 : Hid (a / 2 ^ j / b = 2 * q + 1 ∧ a / 2 ^ j % b = 2 * r + t - b) := Lib.hid (by have h := HD.out; rw [if_pos hT, if_pos hT] at h; exact h)
        clear HD
        by_cases ho : r < 9223372036854775808
        · have h1 : ((r : Int) / 9223372036854775808 == 1) = false := by rw [Bool.eq_false_iff]; simp only [ne_eq, beq_iff_eq]; omega
          have h2 : (b : Int) ≤ (r : Int) * 2 + (t : Int) := by omega
          go_wp2
          go_round
          case rel => exact ⟨j, by omega, rfl, by rw [HD1.out.1]; go_num, by rw [HD1.out.2]; go_num⟩
          case measure => first | (simp [intOf]; done) | (simp [intOf]; omega)
        · have h1 : ((r : Int) / 9223372036854775808 == 1) = true := by simp only [beq_iff_eq]; omega
          go_wp2
          go_round
          case rel => exact ⟨j, by omega, rfl, by rw [HD1.out.1]; go_num, by rw [HD1.out.2]; exact val_u64 (rnd6 b r t hb hr ht hT)⟩
          case measure => first | (simp [intOf]; done) | (simp [intOf]; omega)
      · have HD1 : Hid (a / 2 ^ j / b = 2 * q + 0 ∧ a / 2 ^ j % b = 2 * r + t - 0) := Lib.hid (by have h := HD.out; rw [if_neg hT, if_neg hT] at h; exact h)
        clear HD
        have ho : r < 9223372036854775808 := by omega
        have h1 : ((r : Int) / 9223372036854775808 == 1) = false := by rw [Bool.eq_false_iff]; simp only [ne_eq, beq_iff_eq]; omega
        have h2 : ¬ ((b : Int) ≤ (r : Int) * 2 + (t : Int)) := by omega
        go_wp2
        go_round
        case rel => exact ⟨j, by omega, rfl, by rw [HD1.out.1]; go_num, by rw [HD1.out.2]; go_num⟩
        case measure => first | (simp [intOf]; done) | (simp [intOf]; omega)
end Go.Proofs.Ytodhldhaijhdgaa
