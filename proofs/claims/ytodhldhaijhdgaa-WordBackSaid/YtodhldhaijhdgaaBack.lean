/- What is proved: WordBack returns true for any word and any count (its own statement, whole). Conditions: none beyond the row's own. -/
import Derived.Test.YtodhldhaijhdgaaWordE
import Derived.Test.YtodhldhaijhdgaaPl2
namespace Go.Proofs.Ytodhldhaijhdgaa.wordBack
open Go.ChangeShapes Go.WideShapes Go.ChangeAt Go.RowKit
set_option linter.unusedVariables false

theorem own : ownKnob Try.prog.godebug = none := by kernel_rfl

/-! Bytes lead back to what their word leaves. -/
theorem byte_nat (x : Int) (n : Nat) (h : x = n) (hn : n < 256) : (UInt8.ofNat x.toNat).toNat = n := by
  subst h; simp; omega
theorem dig (v m : Nat) : v % 256 + 256 * (v / 256 % m) = v % (256 * m) := (Nat.mod_mul).symm
theorem word_bytes (v n : Nat) (hv : v < 18446744073709551616) (h1 : 1 ≤ n) (h2 : n ≤ 8) : wordv (strOfNums (bl v n)).data.toList = if n < 8 then v % 2 ^ (8 * n) else v := by
  rw [strOfNums_data]
  have h8 : n = 1 ∨ n = 2 ∨ n = 3 ∨ n = 4 ∨ n = 5 ∨ n = 6 ∨ n = 7 ∨ n = 8 := by omega
  have e0 := byte_nat ((v : Int) % 256) (v % 256) (by omega) (by omega)
  have e1 := byte_nat ((v : Int) / 256 % 256) (v / 256 % 256) (by omega) (by omega)
  have e2 := byte_nat ((v : Int) / 65536 % 256) (v / 256 / 256 % 256) (by omega) (by omega)
  have e3 := byte_nat ((v : Int) / 16777216 % 256) (v / 256 / 256 / 256 % 256) (by omega) (by omega)
  have e4 := byte_nat ((v : Int) / 4294967296 % 256) (v / 256 / 256 / 256 / 256 % 256) (by omega) (by omega)
  have e5 := byte_nat ((v : Int) / 1099511627776 % 256) (v / 256 / 256 / 256 / 256 / 256 % 256) (by omega) (by omega)
  have e6 := byte_nat ((v : Int) / 281474976710656 % 256) (v / 256 / 256 / 256 / 256 / 256 / 256 % 256) (by omega) (by omega)
  have e7 := byte_nat ((v : Int) / 72057594037927936) (v / 256 / 256 / 256 / 256 / 256 / 256 / 256 % 256) (by omega) (by omega)
  have hm : v % 18446744073709551616 = v := Nat.mod_eq_of_lt hv
  rcases h8 with rfl | rfl | rfl | rfl | rfl | rfl | rfl | rfl <;>
    simp only [bl, List.take_succ_cons, List.take_zero, List.map_cons, List.map_nil, wordv, e0, e1, e2, e3, e4, e5, e6, e7, Nat.mul_zero, Nat.add_zero, dig, Nat.reduceMul, Nat.reducePow, Nat.reduceLT, if_true, if_false]
  exact hm
theorem size_bytes (v n : Nat) (h2 : n ≤ 8) : (strOfNums (bl v n)).size = n := by
  rw [strOfNums_size]; unfold bl; rw [List.length_take]; simp; omega

/-! Signs. -/
theorem pow_split (n : Nat) (h : n ≤ 64) : 2 ^ n * 2 ^ (64 - n) = 18446744073709551616 := by
  rw [← Nat.pow_add, show n + (64 - n) = 64 by omega]
theorem signv_shift (v n : Nat) (h1 : 1 ≤ n) (h2 : n ≤ 64) : signv v n * 2 ^ (64 - n) % 18446744073709551616 = v * 2 ^ (64 - n) % 18446744073709551616 := by
  have hp := pow_split n h2
  unfold signv srax
  have hq : 0 < 2 ^ (64 - n) := Nat.pow_pos (by omega)
  have hlow : v * 2 ^ (64 - n) % 18446744073709551616 = v % 2 ^ n * 2 ^ (64 - n) := by
    rw [← hp, Nat.mul_mod_mul_right]
  have hlt : v % 2 ^ n < 2 ^ n := Nat.mod_lt _ (Nat.pow_pos (by omega))
  rw [hlow]
  generalize v % 2 ^ n = l at *
  generalize 2 ^ (64 - n) = q at *
  generalize 2 ^ n = p at *
  split
  · rw [Nat.mul_div_cancel _ hq]
    exact Nat.mod_eq_of_lt (by rw [← hp]; exact Nat.mul_lt_mul_of_pos_right hlt hq)
  · have hd : (18446744073709551615 - l * q) / q = p - l - 1 := by
      have e : 18446744073709551615 - l * q = (q - 1) + q * (p - l - 1) := by
        have a1 : q * (p - l - 1) = q * p - q * l - q := by rw [Nat.mul_sub, Nat.mul_sub, Nat.mul_one]
        have a2 : q * p = 18446744073709551616 := by rw [Nat.mul_comm]; exact hp
        have a3 : l * q + q ≤ p * q := by rw [← Nat.succ_mul]; exact Nat.mul_le_mul_right _ hlt
        rw [a1, a2, Nat.mul_comm q l]
        omega
      rw [e, Nat.add_mul_div_left _ _ hq, Nat.div_eq_of_lt (by omega), Nat.zero_add]
    rw [hd]
    have a3 : l * q + q ≤ p * q := by rw [← Nat.succ_mul]; exact Nat.mul_le_mul_right _ hlt
    have a4 : p ≤ 18446744073709551616 := by rw [← hp]; exact Nat.le_mul_of_pos_right _ hq
    have e : 18446744073709551615 - (p - l - 1) = (18446744073709551616 - p) + l := by omega
    rw [e, Nat.add_mul, Nat.sub_mul]
    have a5 : p * q = 18446744073709551616 := hp
    rw [a5]
    have a6 : 18446744073709551616 * q - 18446744073709551616 = 18446744073709551616 * (q - 1) := by rw [Nat.mul_sub, Nat.mul_one]
    rw [a6, Nat.mul_add_mod]
    exact Nat.mod_eq_of_lt (by omega)
theorem signv_again (v n : Nat) (h1 : 1 ≤ n) (h2 : n ≤ 64) : signv (signv v n) n = signv v n := by
  show srax (signv v n * 2 ^ (64 - n) % 18446744073709551616) (64 - n) = srax (v * 2 ^ (64 - n) % 18446744073709551616) (64 - n)
  rw [signv_shift v n h1 h2]

theorem s1 (v m : Nat) (hv : v < 18446744073709551616) (hm : m < 64) (w : World) :
    Calls Try.prog 10 #[.int .u64 v, .int .i64 (1 + (m : Int))] w fun e w' => e = .returned (.tuple #[.int .u64 (signv v (1 + m) : Nat), .int .i64 0]) ∧ w = w' := by
  have h := sign_any v (1 + m) hv (by omega) (by omega) w
  rw [show ((1 + m : Nat) : Int) = 1 + (m : Int) by omega] at h
  exact h
theorem f1 (u m : Nat) (hu : u < 18446744073709551616) (hm : m < 64) (w : World) :
    Calls Try.prog 16 #[.int .i64 (wrap64 (u : Int)), .int .i64 (1 + (m : Int))] w fun e w' => e = .returned (.bool (decide (signv u (1 + m) = u))) ∧ w = w' := by
  have h := fits_any u (1 + m) hu (by omega) (by omega) w
  rw [show ((1 + m : Nat) : Int) = 1 + (m : Int) by omega] at h
  exact h
theorem wb (v n : Nat) (hv : v < 18446744073709551616) (h1 : 1 ≤ n) (h2 : n ≤ 8) (w : World) :
    Calls Try.prog 14 #[.string (strOfNums (bl v n))] w fun e w' => e = .returned (.tuple #[.int .u64 ((if n < 8 then v % 2 ^ (8 * n) else v : Nat) : Int), .int .i64 0]) ∧ w = w' := by
  have h := word_any (strOfNums (bl v n)) (by rw [size_bytes v n h2]; exact h1) (by rw [size_bytes v n h2]; exact h2) w
  rw [word_bytes v n hv h1 h2] at h
  exact h
theorem shift_eq (v m : Nat) (hm : m < 64) : IntKind.u64.wrap (((signv v (1 + m) : Nat) : Int) * 2 ^ (64 - (1 + m))) = IntKind.u64.wrap ((v : Int) * 2 ^ (64 - (1 + m))) := by
  rw [IntKind.wrap_u64, IntKind.wrap_u64, ← cast_mul_pow, ← cast_mul_pow, signv_shift v (1 + m) (by omega) (by omega)]
set_option maxHeartbeats 1000000 in
set_option maxRecDepth 100000 in
theorem walk0 (v n m : Nat) (hv : v < 18446744073709551616) (hn : n < 256) (hm : m < 64) (r8 : (n : Int) % 8 = 0) (r64 : (n : Int) % 64 = m) (w : World) :
    Calls Try.prog 6 #[.int .u64 v, .int .u8 n] w fun e w' => e = .returned (.bool true) ∧ Grown w w' := by
  have z1 := size_bytes v 1 (by omega)
  have hx := signv_lt v (1 + m)
  have rs := shift_eq v m hm
  have ra := signv_again v (1 + m) (by omega) (by omega)
  by_cases hc : signv v (1 + m) = v
  · rw [hc] at ra rs hx
    have e1 : ((signv v (1 + m) : Nat) : Int) = (v : Int) := by rw [hc]
    go_enter Try.func6, Try.ntmps6
    go_wp2_with (first | (go_at_call 12; (with_reducible refine (bytes_1 v hv _).mono ?_); rintro e w' ⟨rfl, hg⟩) | (go_at_call 14; (with_reducible refine (wb v 1 hv (by omega) (by omega) _).mono ?_); rintro e w' ⟨rfl, rfl⟩) | (go_at_call 10; (with_reducible refine (s1 _ m (by assumption) hm _).mono ?_); rintro e w' ⟨rfl, rfl⟩) | (go_at_call 16; (with_reducible refine (f1 _ m (by assumption) hm _).mono ?_); rintro e w' ⟨rfl, rfl⟩) | (go_at_call 9; (with_reducible refine (alive_any _).mono ?_); rintro e w' ⟨rfl, hg⟩))
    go_ret
    exact ⟨rfl, by repeat (first | assumption | refine grown_trans ?_ (by assumption))⟩
  · have e1 : (((signv v (1 + m) : Nat) : Int) == (v : Int)) = false := by simpa using by omega
    have e2 : decide (signv v (1 + m) = v) = false := decide_eq_false hc
    go_enter Try.func6, Try.ntmps6
    go_wp2_with (first | (go_at_call 12; (with_reducible refine (bytes_1 v hv _).mono ?_); rintro e w' ⟨rfl, hg⟩) | (go_at_call 14; (with_reducible refine (wb v 1 hv (by omega) (by omega) _).mono ?_); rintro e w' ⟨rfl, rfl⟩) | (go_at_call 10; (with_reducible refine (s1 _ m (by assumption) hm _).mono ?_); rintro e w' ⟨rfl, rfl⟩) | (go_at_call 16; (with_reducible refine (f1 _ m (by assumption) hm _).mono ?_); rintro e w' ⟨rfl, rfl⟩) | (go_at_call 9; (with_reducible refine (alive_any _).mono ?_); rintro e w' ⟨rfl, hg⟩))
    go_ret
    exact ⟨rfl, by repeat (first | assumption | refine grown_trans ?_ (by assumption))⟩
set_option maxHeartbeats 1000000 in
set_option maxRecDepth 100000 in
theorem walk1 (v n m : Nat) (hv : v < 18446744073709551616) (hn : n < 256) (hm : m < 64) (r8 : (n : Int) % 8 = 1) (r64 : (n : Int) % 64 = m) (w : World) :
    Calls Try.prog 6 #[.int .u64 v, .int .u8 n] w fun e w' => e = .returned (.bool true) ∧ Grown w w' := by
  have z1 := size_bytes v 2 (by omega)
  have hx := signv_lt v (1 + m)
  have rs := shift_eq v m hm
  have ra := signv_again v (1 + m) (by omega) (by omega)
  by_cases hc : signv v (1 + m) = v
  · rw [hc] at ra rs hx
    have e1 : ((signv v (1 + m) : Nat) : Int) = (v : Int) := by rw [hc]
    go_enter Try.func6, Try.ntmps6
    go_wp2_with (first | (go_at_call 12; (with_reducible refine (bytes_2 v hv _).mono ?_); rintro e w' ⟨rfl, hg⟩) | (go_at_call 14; (with_reducible refine (wb v 2 hv (by omega) (by omega) _).mono ?_); rintro e w' ⟨rfl, rfl⟩) | (go_at_call 10; (with_reducible refine (s1 _ m (by assumption) hm _).mono ?_); rintro e w' ⟨rfl, rfl⟩) | (go_at_call 16; (with_reducible refine (f1 _ m (by assumption) hm _).mono ?_); rintro e w' ⟨rfl, rfl⟩) | (go_at_call 9; (with_reducible refine (alive_any _).mono ?_); rintro e w' ⟨rfl, hg⟩))
    go_ret
    exact ⟨rfl, by repeat (first | assumption | refine grown_trans ?_ (by assumption))⟩
  · have e1 : (((signv v (1 + m) : Nat) : Int) == (v : Int)) = false := by simpa using by omega
    have e2 : decide (signv v (1 + m) = v) = false := decide_eq_false hc
    go_enter Try.func6, Try.ntmps6
    go_wp2_with (first | (go_at_call 12; (with_reducible refine (bytes_2 v hv _).mono ?_); rintro e w' ⟨rfl, hg⟩) | (go_at_call 14; (with_reducible refine (wb v 2 hv (by omega) (by omega) _).mono ?_); rintro e w' ⟨rfl, rfl⟩) | (go_at_call 10; (with_reducible refine (s1 _ m (by assumption) hm _).mono ?_); rintro e w' ⟨rfl, rfl⟩) | (go_at_call 16; (with_reducible refine (f1 _ m (by assumption) hm _).mono ?_); rintro e w' ⟨rfl, rfl⟩) | (go_at_call 9; (with_reducible refine (alive_any _).mono ?_); rintro e w' ⟨rfl, hg⟩))
    go_ret
    exact ⟨rfl, by repeat (first | assumption | refine grown_trans ?_ (by assumption))⟩
set_option maxHeartbeats 1000000 in
set_option maxRecDepth 100000 in
theorem walk2 (v n m : Nat) (hv : v < 18446744073709551616) (hn : n < 256) (hm : m < 64) (r8 : (n : Int) % 8 = 2) (r64 : (n : Int) % 64 = m) (w : World) :
    Calls Try.prog 6 #[.int .u64 v, .int .u8 n] w fun e w' => e = .returned (.bool true) ∧ Grown w w' := by
  have z1 := size_bytes v 3 (by omega)
  have hx := signv_lt v (1 + m)
  have rs := shift_eq v m hm
  have ra := signv_again v (1 + m) (by omega) (by omega)
  by_cases hc : signv v (1 + m) = v
  · rw [hc] at ra rs hx
    have e1 : ((signv v (1 + m) : Nat) : Int) = (v : Int) := by rw [hc]
    go_enter Try.func6, Try.ntmps6
    go_wp2_with (first | (go_at_call 12; (with_reducible refine (bytes_3 v hv _).mono ?_); rintro e w' ⟨rfl, hg⟩) | (go_at_call 14; (with_reducible refine (wb v 3 hv (by omega) (by omega) _).mono ?_); rintro e w' ⟨rfl, rfl⟩) | (go_at_call 10; (with_reducible refine (s1 _ m (by assumption) hm _).mono ?_); rintro e w' ⟨rfl, rfl⟩) | (go_at_call 16; (with_reducible refine (f1 _ m (by assumption) hm _).mono ?_); rintro e w' ⟨rfl, rfl⟩) | (go_at_call 9; (with_reducible refine (alive_any _).mono ?_); rintro e w' ⟨rfl, hg⟩))
    go_ret
    exact ⟨rfl, by repeat (first | assumption | refine grown_trans ?_ (by assumption))⟩
  · have e1 : (((signv v (1 + m) : Nat) : Int) == (v : Int)) = false := by simpa using by omega
    have e2 : decide (signv v (1 + m) = v) = false := decide_eq_false hc
    go_enter Try.func6, Try.ntmps6
    go_wp2_with (first | (go_at_call 12; (with_reducible refine (bytes_3 v hv _).mono ?_); rintro e w' ⟨rfl, hg⟩) | (go_at_call 14; (with_reducible refine (wb v 3 hv (by omega) (by omega) _).mono ?_); rintro e w' ⟨rfl, rfl⟩) | (go_at_call 10; (with_reducible refine (s1 _ m (by assumption) hm _).mono ?_); rintro e w' ⟨rfl, rfl⟩) | (go_at_call 16; (with_reducible refine (f1 _ m (by assumption) hm _).mono ?_); rintro e w' ⟨rfl, rfl⟩) | (go_at_call 9; (with_reducible refine (alive_any _).mono ?_); rintro e w' ⟨rfl, hg⟩))
    go_ret
    exact ⟨rfl, by repeat (first | assumption | refine grown_trans ?_ (by assumption))⟩
set_option maxHeartbeats 1000000 in
set_option maxRecDepth 100000 in
theorem walk3 (v n m : Nat) (hv : v < 18446744073709551616) (hn : n < 256) (hm : m < 64) (r8 : (n : Int) % 8 = 3) (r64 : (n : Int) % 64 = m) (w : World) :
    Calls Try.prog 6 #[.int .u64 v, .int .u8 n] w fun e w' => e = .returned (.bool true) ∧ Grown w w' := by
  have z1 := size_bytes v 4 (by omega)
  have hx := signv_lt v (1 + m)
  have rs := shift_eq v m hm
  have ra := signv_again v (1 + m) (by omega) (by omega)
  by_cases hc : signv v (1 + m) = v
  · rw [hc] at ra rs hx
    have e1 : ((signv v (1 + m) : Nat) : Int) = (v : Int) := by rw [hc]
    go_enter Try.func6, Try.ntmps6
    go_wp2_with (first | (go_at_call 12; (with_reducible refine (bytes_4 v hv _).mono ?_); rintro e w' ⟨rfl, hg⟩) | (go_at_call 14; (with_reducible refine (wb v 4 hv (by omega) (by omega) _).mono ?_); rintro e w' ⟨rfl, rfl⟩) | (go_at_call 10; (with_reducible refine (s1 _ m (by assumption) hm _).mono ?_); rintro e w' ⟨rfl, rfl⟩) | (go_at_call 16; (with_reducible refine (f1 _ m (by assumption) hm _).mono ?_); rintro e w' ⟨rfl, rfl⟩) | (go_at_call 9; (with_reducible refine (alive_any _).mono ?_); rintro e w' ⟨rfl, hg⟩))
    go_ret
    exact ⟨rfl, by repeat (first | assumption | refine grown_trans ?_ (by assumption))⟩
  · have e1 : (((signv v (1 + m) : Nat) : Int) == (v : Int)) = false := by simpa using by omega
    have e2 : decide (signv v (1 + m) = v) = false := decide_eq_false hc
    go_enter Try.func6, Try.ntmps6
    go_wp2_with (first | (go_at_call 12; (with_reducible refine (bytes_4 v hv _).mono ?_); rintro e w' ⟨rfl, hg⟩) | (go_at_call 14; (with_reducible refine (wb v 4 hv (by omega) (by omega) _).mono ?_); rintro e w' ⟨rfl, rfl⟩) | (go_at_call 10; (with_reducible refine (s1 _ m (by assumption) hm _).mono ?_); rintro e w' ⟨rfl, rfl⟩) | (go_at_call 16; (with_reducible refine (f1 _ m (by assumption) hm _).mono ?_); rintro e w' ⟨rfl, rfl⟩) | (go_at_call 9; (with_reducible refine (alive_any _).mono ?_); rintro e w' ⟨rfl, hg⟩))
    go_ret
    exact ⟨rfl, by repeat (first | assumption | refine grown_trans ?_ (by assumption))⟩
set_option maxHeartbeats 1000000 in
set_option maxRecDepth 100000 in
theorem walk4 (v n m : Nat) (hv : v < 18446744073709551616) (hn : n < 256) (hm : m < 64) (r8 : (n : Int) % 8 = 4) (r64 : (n : Int) % 64 = m) (w : World) :
    Calls Try.prog 6 #[.int .u64 v, .int .u8 n] w fun e w' => e = .returned (.bool true) ∧ Grown w w' := by
  have z1 := size_bytes v 5 (by omega)
  have hx := signv_lt v (1 + m)
  have rs := shift_eq v m hm
  have ra := signv_again v (1 + m) (by omega) (by omega)
  by_cases hc : signv v (1 + m) = v
  · rw [hc] at ra rs hx
    have e1 : ((signv v (1 + m) : Nat) : Int) = (v : Int) := by rw [hc]
    go_enter Try.func6, Try.ntmps6
    go_wp2_with (first | (go_at_call 12; (with_reducible refine (bytes_5 v hv _).mono ?_); rintro e w' ⟨rfl, hg⟩) | (go_at_call 14; (with_reducible refine (wb v 5 hv (by omega) (by omega) _).mono ?_); rintro e w' ⟨rfl, rfl⟩) | (go_at_call 10; (with_reducible refine (s1 _ m (by assumption) hm _).mono ?_); rintro e w' ⟨rfl, rfl⟩) | (go_at_call 16; (with_reducible refine (f1 _ m (by assumption) hm _).mono ?_); rintro e w' ⟨rfl, rfl⟩) | (go_at_call 9; (with_reducible refine (alive_any _).mono ?_); rintro e w' ⟨rfl, hg⟩))
    go_ret
    exact ⟨rfl, by repeat (first | assumption | refine grown_trans ?_ (by assumption))⟩
  · have e1 : (((signv v (1 + m) : Nat) : Int) == (v : Int)) = false := by simpa using by omega
    have e2 : decide (signv v (1 + m) = v) = false := decide_eq_false hc
    go_enter Try.func6, Try.ntmps6
    go_wp2_with (first | (go_at_call 12; (with_reducible refine (bytes_5 v hv _).mono ?_); rintro e w' ⟨rfl, hg⟩) | (go_at_call 14; (with_reducible refine (wb v 5 hv (by omega) (by omega) _).mono ?_); rintro e w' ⟨rfl, rfl⟩) | (go_at_call 10; (with_reducible refine (s1 _ m (by assumption) hm _).mono ?_); rintro e w' ⟨rfl, rfl⟩) | (go_at_call 16; (with_reducible refine (f1 _ m (by assumption) hm _).mono ?_); rintro e w' ⟨rfl, rfl⟩) | (go_at_call 9; (with_reducible refine (alive_any _).mono ?_); rintro e w' ⟨rfl, hg⟩))
    go_ret
    exact ⟨rfl, by repeat (first | assumption | refine grown_trans ?_ (by assumption))⟩
set_option maxHeartbeats 1000000 in
set_option maxRecDepth 100000 in
theorem walk5 (v n m : Nat) (hv : v < 18446744073709551616) (hn : n < 256) (hm : m < 64) (r8 : (n : Int) % 8 = 5) (r64 : (n : Int) % 64 = m) (w : World) :
    Calls Try.prog 6 #[.int .u64 v, .int .u8 n] w fun e w' => e = .returned (.bool true) ∧ Grown w w' := by
  have z1 := size_bytes v 6 (by omega)
  have hx := signv_lt v (1 + m)
  have rs := shift_eq v m hm
  have ra := signv_again v (1 + m) (by omega) (by omega)
  by_cases hc : signv v (1 + m) = v
  · rw [hc] at ra rs hx
    have e1 : ((signv v (1 + m) : Nat) : Int) = (v : Int) := by rw [hc]
    go_enter Try.func6, Try.ntmps6
    go_wp2_with (first | (go_at_call 12; (with_reducible refine (bytes_6 v hv _).mono ?_); rintro e w' ⟨rfl, hg⟩) | (go_at_call 14; (with_reducible refine (wb v 6 hv (by omega) (by omega) _).mono ?_); rintro e w' ⟨rfl, rfl⟩) | (go_at_call 10; (with_reducible refine (s1 _ m (by assumption) hm _).mono ?_); rintro e w' ⟨rfl, rfl⟩) | (go_at_call 16; (with_reducible refine (f1 _ m (by assumption) hm _).mono ?_); rintro e w' ⟨rfl, rfl⟩) | (go_at_call 9; (with_reducible refine (alive_any _).mono ?_); rintro e w' ⟨rfl, hg⟩))
    go_ret
    exact ⟨rfl, by repeat (first | assumption | refine grown_trans ?_ (by assumption))⟩
  · have e1 : (((signv v (1 + m) : Nat) : Int) == (v : Int)) = false := by simpa using by omega
    have e2 : decide (signv v (1 + m) = v) = false := decide_eq_false hc
    go_enter Try.func6, Try.ntmps6
    go_wp2_with (first | (go_at_call 12; (with_reducible refine (bytes_6 v hv _).mono ?_); rintro e w' ⟨rfl, hg⟩) | (go_at_call 14; (with_reducible refine (wb v 6 hv (by omega) (by omega) _).mono ?_); rintro e w' ⟨rfl, rfl⟩) | (go_at_call 10; (with_reducible refine (s1 _ m (by assumption) hm _).mono ?_); rintro e w' ⟨rfl, rfl⟩) | (go_at_call 16; (with_reducible refine (f1 _ m (by assumption) hm _).mono ?_); rintro e w' ⟨rfl, rfl⟩) | (go_at_call 9; (with_reducible refine (alive_any _).mono ?_); rintro e w' ⟨rfl, hg⟩))
    go_ret
    exact ⟨rfl, by repeat (first | assumption | refine grown_trans ?_ (by assumption))⟩
set_option maxHeartbeats 1000000 in
set_option maxRecDepth 100000 in
theorem walk6 (v n m : Nat) (hv : v < 18446744073709551616) (hn : n < 256) (hm : m < 64) (r8 : (n : Int) % 8 = 6) (r64 : (n : Int) % 64 = m) (w : World) :
    Calls Try.prog 6 #[.int .u64 v, .int .u8 n] w fun e w' => e = .returned (.bool true) ∧ Grown w w' := by
  have z1 := size_bytes v 7 (by omega)
  have hx := signv_lt v (1 + m)
  have rs := shift_eq v m hm
  have ra := signv_again v (1 + m) (by omega) (by omega)
  by_cases hc : signv v (1 + m) = v
  · rw [hc] at ra rs hx
    have e1 : ((signv v (1 + m) : Nat) : Int) = (v : Int) := by rw [hc]
    go_enter Try.func6, Try.ntmps6
    go_wp2_with (first | (go_at_call 12; (with_reducible refine (bytes_7 v hv _).mono ?_); rintro e w' ⟨rfl, hg⟩) | (go_at_call 14; (with_reducible refine (wb v 7 hv (by omega) (by omega) _).mono ?_); rintro e w' ⟨rfl, rfl⟩) | (go_at_call 10; (with_reducible refine (s1 _ m (by assumption) hm _).mono ?_); rintro e w' ⟨rfl, rfl⟩) | (go_at_call 16; (with_reducible refine (f1 _ m (by assumption) hm _).mono ?_); rintro e w' ⟨rfl, rfl⟩) | (go_at_call 9; (with_reducible refine (alive_any _).mono ?_); rintro e w' ⟨rfl, hg⟩))
    go_ret
    exact ⟨rfl, by repeat (first | assumption | refine grown_trans ?_ (by assumption))⟩
  · have e1 : (((signv v (1 + m) : Nat) : Int) == (v : Int)) = false := by simpa using by omega
    have e2 : decide (signv v (1 + m) = v) = false := decide_eq_false hc
    go_enter Try.func6, Try.ntmps6
    go_wp2_with (first | (go_at_call 12; (with_reducible refine (bytes_7 v hv _).mono ?_); rintro e w' ⟨rfl, hg⟩) | (go_at_call 14; (with_reducible refine (wb v 7 hv (by omega) (by omega) _).mono ?_); rintro e w' ⟨rfl, rfl⟩) | (go_at_call 10; (with_reducible refine (s1 _ m (by assumption) hm _).mono ?_); rintro e w' ⟨rfl, rfl⟩) | (go_at_call 16; (with_reducible refine (f1 _ m (by assumption) hm _).mono ?_); rintro e w' ⟨rfl, rfl⟩) | (go_at_call 9; (with_reducible refine (alive_any _).mono ?_); rintro e w' ⟨rfl, hg⟩))
    go_ret
    exact ⟨rfl, by repeat (first | assumption | refine grown_trans ?_ (by assumption))⟩
set_option maxHeartbeats 1000000 in
set_option maxRecDepth 100000 in
theorem walk7 (v n m : Nat) (hv : v < 18446744073709551616) (hn : n < 256) (hm : m < 64) (r8 : (n : Int) % 8 = 7) (r64 : (n : Int) % 64 = m) (w : World) :
    Calls Try.prog 6 #[.int .u64 v, .int .u8 n] w fun e w' => e = .returned (.bool true) ∧ Grown w w' := by
  have z1 := size_bytes v 8 (by omega)
  have hx := signv_lt v (1 + m)
  have rs := shift_eq v m hm
  have ra := signv_again v (1 + m) (by omega) (by omega)
  by_cases hc : signv v (1 + m) = v
  · rw [hc] at ra rs hx
    have e1 : ((signv v (1 + m) : Nat) : Int) = (v : Int) := by rw [hc]
    go_enter Try.func6, Try.ntmps6
    go_wp2_with (first | (go_at_call 12; (with_reducible refine (bytes_8 v hv _).mono ?_); rintro e w' ⟨rfl, hg⟩) | (go_at_call 14; (with_reducible refine (wb v 8 hv (by omega) (by omega) _).mono ?_); rintro e w' ⟨rfl, rfl⟩) | (go_at_call 10; (with_reducible refine (s1 _ m (by assumption) hm _).mono ?_); rintro e w' ⟨rfl, rfl⟩) | (go_at_call 16; (with_reducible refine (f1 _ m (by assumption) hm _).mono ?_); rintro e w' ⟨rfl, rfl⟩) | (go_at_call 9; (with_reducible refine (alive_any _).mono ?_); rintro e w' ⟨rfl, hg⟩))
    go_ret
    exact ⟨rfl, by repeat (first | assumption | refine grown_trans ?_ (by assumption))⟩
  · have e1 : (((signv v (1 + m) : Nat) : Int) == (v : Int)) = false := by simpa using by omega
    have e2 : decide (signv v (1 + m) = v) = false := decide_eq_false hc
    go_enter Try.func6, Try.ntmps6
    go_wp2_with (first | (go_at_call 12; (with_reducible refine (bytes_8 v hv _).mono ?_); rintro e w' ⟨rfl, hg⟩) | (go_at_call 14; (with_reducible refine (wb v 8 hv (by omega) (by omega) _).mono ?_); rintro e w' ⟨rfl, rfl⟩) | (go_at_call 10; (with_reducible refine (s1 _ m (by assumption) hm _).mono ?_); rintro e w' ⟨rfl, rfl⟩) | (go_at_call 16; (with_reducible refine (f1 _ m (by assumption) hm _).mono ?_); rintro e w' ⟨rfl, rfl⟩) | (go_at_call 9; (with_reducible refine (alive_any _).mono ?_); rintro e w' ⟨rfl, hg⟩))
    go_ret
    exact ⟨rfl, by repeat (first | assumption | refine grown_trans ?_ (by assumption))⟩
theorem walk (a0 : Int) (a1 : Int) (w0 : (Lit.int .u64 a0).wf = true) (w1 : (Lit.int .u8 a1).wf = true) (w : World) :
    Calls Try.prog 6 #[.int .u64 a0, .int .u8 a1] w fun e w' => e = .returned (.bool true) ∧ Grown w w' := by
  have d0 := bounds_u64 w0
  have d1 := bounds_u8 w1
  obtain ⟨v, rfl⟩ := Int.eq_ofNat_of_zero_le d0.1
  obtain ⟨n, rfl⟩ := Int.eq_ofNat_of_zero_le d1.1
  have hv : v < 18446744073709551616 := by omega
  have hn : n < 256 := by omega
  have hm : n % 64 < 64 := by omega
  have r : (n : Int) % 64 = ((n % 64 : Nat) : Int) := by omega
  generalize n % 64 = m at hm r
  have hc : (n : Int) % 8 = 0 ∨ (n : Int) % 8 = 1 ∨ (n : Int) % 8 = 2 ∨ (n : Int) % 8 = 3 ∨ (n : Int) % 8 = 4 ∨ (n : Int) % 8 = 5 ∨ (n : Int) % 8 = 6 ∨ (n : Int) % 8 = 7 := by omega
  rcases hc with h | h | h | h | h | h | h | h
  · exact walk0 v n m hv hn hm h r w
  · exact walk1 v n m hv hn hm h r w
  · exact walk2 v n m hv hn hm h r w
  · exact walk3 v n m hv hn hm h r w
  · exact walk4 v n m hv hn hm h r w
  · exact walk5 v n m hv hn hm h r w
  · exact walk6 v n m hv hn hm h r w
  · exact walk7 v n m hv hn hm h r w
/-! ### THE ROW's STEP: WRITTEN OUT: LEAVE IT -/
set_option maxRecDepth 100000 in
theorem lifted (os : Os) (started : os.Started) (H : Type) (enc : TypeId × Value → H) :
    ReturnsInHanded {} Try.checked os 6 .any (Rows.wordBackSpec.pre6 enc Try.prog Try.f6 Rows.wordBackRow.domain false) (Rows.wordBackSpec.post enc Try.prog Try.f6 false true false false) := by
  refine returnsInHanded_of_change (C := Try.checked) own started (by kernel_rfl) Try.func6
    (ChangeSpec.witness6 (enc := enc) (C := Try.checked) false ⟨#[], #[.int .u64 0, .int .u8 0], []⟩ 8 (by kernel_rfl) (by kernel_rfl) (by kernel_rfl) (by kernel_rfl)) ?_
  intro W base args ds gs before hval0 hW hcnd _
  have hval : ∀ (j : Nat) t v, Try.f6.params[j]? = some t → args[j]? = some v → Value.okWide Try.prog W .any base t v := hval0
  have hW' := hW
  obtain ⟨p, q, hA0, hV, rfl, hfz, hnd⟩ := hW
  have hA : DataW.TrodAll enc Try.prog W 0 (fun _ => true) true Try.f6.params.toList args.toList ds p := hA0
  rw [Try.params6] at hA hval
  obtain ⟨v0, vs0, d0, ds0, p0, q0, hargs, rfl, rfl, h0, r0⟩ := trodAll_cons hA
  obtain ⟨v1, vs1, d1, ds1, p1, q1, rfl, rfl, rfl, h1, r1⟩ := trodAll_cons r0
  obtain ⟨rfl, rfl, rfl⟩ := trodAll_nil r1
  obtain rfl : args = #[v0, v1] := by cases args; simp_all
  obtain ⟨rfl, rfl⟩ := trodVars_none hV
  obtain ⟨a0, rfl, rfl, rfl, w0⟩ := open_int Try.underlying22 (hval 0 22 v0 rfl rfl) h0
  obtain ⟨a1, rfl, rfl, rfl, w1⟩ := open_int Try.underlying5 (hval 1 5 v1 rfl rfl) h1
  clear hA0 hval0
  simp only [List.append_nil] at hW'
  refine (walk a0 a1 w0 w1 W).mono fun e W' ⟨he, hg⟩ => ?_
  subst he
  exact ⟨_, rfl, post_of_same (pa := []) (pv := []) hW' (fun _ _ _ => (trodAll_cons_mk (shut_bool Try.underlying4 _) trodAll_mk0)) (fun sp _ => (trodAll_cons_mk (shut_int Try.underlying22 w0) (trodAll_cons_mk (shut_int Try.underlying5 w1) trodAll_mk0))) (fun _ _ => rfl) rfl
    (hg.frame _) hg.2.1 (ok_one (by kernel_rfl) rfl (okWide_bool_mk Try.underlying4 _))⟩

theorem over : Rows.wordBackRow.holds Try.pinned (OpenSpec.ofChange Rows.wordBackSpec) :=
  OpenClaim.holds_of_wide 6 Try.f6 rfl rfl rfl rfl rfl rfl rfl ⟨rfl, rfl, rfl, rfl, rfl⟩ rfl rfl rfl rfl rfl (by kernel_rfl) Try.func6 (by kernel_rfl)
    (of_decide_eq_true (by kernel_rfl)) (by unfold Func.isWrapper; first | (rw [if_pos (by decide +kernel)]; kernel_rfl) | (rw [if_neg (by decide +kernel)]; exact ⟨rfl, rfl⟩))
    (fun os started H enc _ => lifted os started H enc)

/-- ████ THE STATEMENT ████ -/
theorem proved : Rows.WordBackSaid :=
  over
end Go.Proofs.Ytodhldhaijhdgaa.wordBack
