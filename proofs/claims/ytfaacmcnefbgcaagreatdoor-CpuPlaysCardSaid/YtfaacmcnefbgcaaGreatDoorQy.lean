/- Plain numbers for the document's own answers: halves and bits. -/
import Derived.Test.YtfaacmcnefbgcaaGreatDoorJa
import Derived.Lib.Hide
import Derived.Deep.QuietTactic
import Derived.BigQuiet
import Derived.Handy
namespace Go.Proofs.YtfaacmcnefbgcaaGreatDoor
open Go Go.RowKit
set_option linter.unusedVariables false
theorem half_pow (b j : Nat) : b / 2 ^ j = 2 * (b / 2 ^ (j + 1)) + b / 2 ^ j % 2 := by
  have : b / 2 ^ (j + 1) = b / 2 ^ j / 2 := by rw [Nat.pow_succ, Nat.div_div_eq_div_mul]
  omega
theorem top_pow (b : Nat) (hb : b < 18446744073709551616) : b / 2 ^ 64 = 0 := Nat.div_eq_of_lt hb
theorem prod_bound (a b j : Nat) (ha : a < 18446744073709551616) (hb : b < 18446744073709551616) : a * (b / 2 ^ (j + 1)) < 18446744073709551616 * 9223372036854775808 := by
  have h1 : b / 2 ^ (j + 1) ≤ b / 2 := by
    rw [Nat.pow_succ, Nat.mul_comm, ← Nat.div_div_eq_div_mul]; exact Nat.div_le_self _ _
  have h2 : b / 2 ^ (j + 1) < 9223372036854775808 := by omega
  exact Nat.mul_lt_mul'' ha h2
theorem tmod_two (b j : Nat) : ((b : Int) / 2 ^ j).tmod 2 = ((b / 2 ^ j % 2 : Nat) : Int) := by
  rw [← cast_pow_div, Int.tmod_eq_emod_of_nonneg (Int.natCast_nonneg _)]; rfl
theorem bit_int (b j : Nat) : (((b : Int) / 2 ^ j).tmod 2 == 1) = decide (b / 2 ^ j % 2 = 1) := by
  rw [tmod_two, Bool.eq_iff_iff]; simp only [beq_iff_eq, decide_eq_true_eq]; omega
end Go.Proofs.YtfaacmcnefbgcaaGreatDoor

/- Contracts of the document's own answers Sign and Fits of layer 1. -/
namespace Go.Proofs.YtfaacmcnefbgcaaGreatDoor
open Go.ChangeShapes Go.WideShapes Go.ChangeAt Go.RowKit
set_option linter.unusedVariables false
theorem rsign_bad (v : Nat) (n : Int) (h : n < 1 ∨ 64 < n) (w : World) :
    Calls Tryz.prog 123 #[.int .u64 v, .int .i64 n] w fun e w' => e = .returned (.tuple #[.int .u64 0, .int .i64 2]) ∧ w = w' := by
  by_cases h1 : n < 1
  · clear h
    go_enter Tryz.func123, Tryz.ntmps123
    go_wp2
    go_ret2
    exact ⟨rfl, rfl⟩
  · have h2 : 64 < n := by omega
    clear h
    go_enter Tryz.func123, Tryz.ntmps123
    go_wp2
    go_ret2
    exact ⟨rfl, rfl⟩
set_option maxHeartbeats 1000000 in
theorem rsign_any (v n : Nat) (hv : v < 18446744073709551616) (h1 : 1 ≤ n) (h2 : n ≤ 64) (w : World) :
    Calls Tryz.prog 123 #[.int .u64 v, .int .i64 n] w fun e w' => e = .returned (.tuple #[.int .u64 (signv v n : Nat), .int .i64 0]) ∧ w = w' := by
  have h3 : ¬ ((n : Int) < 1) := by omega
  have h4 : ¬ (64 < (n : Int)) := by omega
  go_enter Tryz.func123, Tryz.ntmps123
  go_wp2
  go_loop [6, 7] (fun o i => ∃ k : Nat, k ≤ 64 ∧ i = .int .i64 ((k : Int) - 1) ∧ o = .int .u64 (signv v n / 2 ^ k : Nat)) (fun _ i => (intOf i + 1).toNat)
  case atStart => exact ⟨64, by omega, rfl, by rw [top_pow _ (signv_lt v n)]; rfl⟩
  case round =>
    obtain ⟨k, hk, rfl, rfl⟩ := hrel
    rcases Nat.eq_zero_or_pos k with h0 | h0
    · subst h0
      go_wp2
      go_ret2
      exact ⟨ret_u64i64 (by first | (with_reducible rfl) | simp), rfl⟩
    · obtain ⟨j, rfl⟩ : ∃ j, k = j + 1 := ⟨k - 1, by omega⟩
      have hh := half_pow (signv v n) j
      have hb := signv_bit v n j h1 h2 (by omega)
      have e0 : ((j + 1 : Nat) : Int) - 1 = (j : Int) := by omega
      rw [e0]
      clear e0
      have hA : signv v n / 2 ^ (j + 1) < 9223372036854775808 := by
        have : signv v n / 2 ^ (j + 1) ≤ signv v n / 2 := by rw [Nat.pow_succ, Nat.mul_comm, ← Nat.div_div_eq_div_mul]; exact Nat.div_le_self _ _
        have := signv_lt v n
        omega
      rw [hb] at hh
      generalize signv v n / 2 ^ (j + 1) = o at *
      have HH := Lib.hid hh
      clear hh hb
      by_cases hm : j ≤ n - 1
      · rw [Nat.min_eq_left hm] at HH
        have htm := tmod_two v j
        have ht : v / 2 ^ j % 2 ≤ 1 := by omega
        generalize v / 2 ^ j % 2 = t at *
        have m1 : (j : Int) ≤ (n : Int) - 1 := by omega
        go_wp2
        go_round
        case rel => exact ⟨j, by omega, rfl, by rw [HH.out]; go_num⟩
        case measure => first | (simp [intOf]; done) | (simp [intOf]; omega)
      · rw [Nat.min_eq_right (by omega)] at HH
        have htm := tmod_two v (n - 1)
        have ht : v / 2 ^ (n - 1) % 2 ≤ 1 := by omega
        generalize v / 2 ^ (n - 1) % 2 = t at *
        have m1 : ¬ ((j : Int) ≤ (n : Int) - 1) := by omega
        go_wp2
        go_round
        case rel => exact ⟨j, by omega, rfl, by rw [HH.out]; go_num⟩
        case measure => first | (simp [intOf]; done) | (simp [intOf]; omega)
theorem rfits_bad (u : Nat) (hu : u < 18446744073709551616) (n : Int) (h : n < 1 ∨ 64 < n) (w : World) :
    Calls Tryz.prog 112 #[.int .i64 (wrap64 (u : Int)), .int .i64 n] w fun e w' => e = .returned (.bool false) ∧ w = w' := by
  have hb := wrap64_back u hu
  go_enter Tryz.func112, Tryz.ntmps112
  go_wp2_with (go_at_call 123; refine (rsign_bad u n h _).mono ?_; rintro e w' ⟨rfl, rfl⟩)
  go_ret
  exact ⟨rfl, rfl⟩
theorem rfits_any (u n : Nat) (hu : u < 18446744073709551616) (h1 : 1 ≤ n) (h2 : n ≤ 64) (w : World) :
    Calls Tryz.prog 112 #[.int .i64 (wrap64 (u : Int)), .int .i64 n] w fun e w' => e = .returned (.bool (decide (signv u n = u))) ∧ w = w' := by
  have hb := wrap64_back u hu
  have hi : (((signv u n : Nat) : Int) == ((u : Nat) : Int)) = decide (signv u n = u) := by
    rw [Bool.eq_iff_iff]; simp only [beq_iff_eq, decide_eq_true_eq]; omega
  go_enter Tryz.func112, Tryz.ntmps112
  go_wp2_with (go_at_call 123; refine (rsign_any u n hu h1 h2 _).mono ?_; rintro e w' ⟨rfl, rfl⟩)
  go_ret
  exact ⟨rfl, rfl⟩
end Go.Proofs.YtfaacmcnefbgcaaGreatDoor

/- Contracts of the document's own answers bits and number of layer 2. -/
namespace Go.Proofs.YtfaacmcnefbgcaaGreatDoor
open Go.ChangeShapes Go.WideShapes Go.ChangeAt Go.RowKit
set_option linter.unusedVariables false
/-- n bits of a number from a place on. -/
def fld (v : Int) (a n : Nat) : Nat := (v / 2 ^ a % 2 ^ n).toNat
theorem fld_zero (v : Int) (a : Nat) : fld v a 0 = 0 := by unfold fld; simp
theorem fld_cast (v : Int) (a n : Nat) : ((fld v a n : Nat) : Int) = v / 2 ^ a % 2 ^ n := by
  unfold fld
  have : (0 : Int) < 2 ^ n := Int.pow_pos (by omega)
  exact Int.toNat_of_nonneg (Int.emod_nonneg _ (by omega))
theorem fld_lt (v : Int) (a n : Nat) : fld v a n < 2 ^ n := by
  have h := fld_cast v a n
  have p : (0 : Int) < 2 ^ n := Int.pow_pos (by omega)
  have := Int.emod_lt_of_pos (v / 2 ^ a) p
  have e : ((2 ^ n : Nat) : Int) = (2 : Int) ^ n := by simp
  omega
theorem emod_two (x m : Int) (hm : 0 < m) : x % (m * 2) = x % m + m * (x / m % 2) := by
  have h2 : (0 : Int) < m * 2 := by omega
  have a1 := Int.emod_nonneg x (show m ≠ 0 by omega)
  have a2 := Int.emod_lt_of_pos x hm
  have e1 := Int.mul_ediv_add_emod x m
  have e2 := Int.mul_ediv_add_emod (x / m) 2
  have b : x / m % 2 = 0 ∨ x / m % 2 = 1 := by omega
  have e3 : x % m + m * (x / m % 2) + m * 2 * (x / m / 2) = x := by
    have : m * (2 * (x / m / 2) + x / m % 2) + x % m = x := by rw [e2]; exact e1
    rw [Int.mul_add, ← Int.mul_assoc] at this
    omega
  refine ((Int.ediv_emod_unique h2).2 ⟨e3, ?_, ?_⟩).2
  · rcases b with b | b <;> rw [b] <;> simp <;> omega
  · rcases b with b | b <;> rw [b] <;> simp <;> omega
theorem fld_succ (v : Int) (a n : Nat) : fld v a (n + 1) = fld v a n + 2 ^ n * (v / 2 ^ (a + n) % 2).toNat := by
  have h1 := fld_cast v a (n + 1)
  have h2 := fld_cast v a n
  have p : (0 : Int) < 2 ^ n := Int.pow_pos (by omega)
  have e1 : v / 2 ^ (a + n) = v / 2 ^ a / 2 ^ n := by rw [Int.pow_add, Int.ediv_ediv_of_nonneg (Int.le_of_lt (Int.pow_pos (by omega)))]
  have e2 : (2 : Int) ^ (n + 1) = 2 ^ n * 2 := by rw [Int.pow_succ]
  have e3 : v / 2 ^ a % (2 ^ n * 2) = v / 2 ^ a % 2 ^ n + 2 ^ n * (v / 2 ^ a / 2 ^ n % 2) := emod_two (v / 2 ^ a) (2 ^ n) p
  rw [e2, e3] at h1
  rw [← e1] at h1
  have h3 : ((v / 2 ^ (a + n) % 2).toNat : Int) = v / 2 ^ (a + n) % 2 := Int.toNat_of_nonneg (Int.emod_nonneg _ (by omega))
  apply Int.ofNat.inj
  show ((fld v a (n + 1) : Nat) : Int) = ((fld v a n + 2 ^ n * (v / 2 ^ (a + n) % 2).toNat : Nat) : Int)
  rw [h1, Int.natCast_add, h2, Int.natCast_mul, h3]
  simp
theorem wrap_bit (v : Int) (k : Nat) (hk : k ≤ 63) : v % 18446744073709551616 / 2 ^ k % 2 = v / 2 ^ k % 2 := by
  have p : (0 : Int) < 2 ^ k := Int.pow_pos (by omega)
  obtain ⟨q, hq⟩ : ∃ q : Int, v = v % 18446744073709551616 + (q * 2 ^ (63 - k) * 2) * 2 ^ k := by
    refine ⟨v / 18446744073709551616, ?_⟩
    have e : (2 : Int) ^ (63 - k) * 2 * 2 ^ k = 18446744073709551616 := by
      rw [show (2 : Int) ^ (63 - k) * 2 = 2 ^ (63 - k + 1) from (Int.pow_succ _ _).symm, ← Int.pow_add, show 63 - k + 1 + k = 64 by omega]; rfl
    have := Int.emod_add_mul_ediv v 18446744073709551616
    rw [Int.mul_assoc, Int.mul_assoc, ← Int.mul_assoc (2 ^ (63 - k)), e, Int.mul_comm (v / 18446744073709551616)]
    omega
  generalize v % 18446744073709551616 = r at *
  rw [hq, Int.add_mul_ediv_right _ _ (by omega)]
  omega
theorem bit_round (v : Int) (a j p : Nat) (h : p + j ≤ 31) (hk : a + j ≤ 63) :
    (((fld v a j * 2 ^ p : Nat) : Int) + (IntKind.u64.wrap v / 2 ^ (a + j)).tmod 2 % 4294967296 * 2 ^ (p + (a + j) - a) % 4294967296) % 4294967296 = ((fld v a (j + 1) * 2 ^ p : Nat) : Int) := by
  have w : IntKind.u64.wrap v = v % 18446744073709551616 := IntKind.wrap_u64 v
  have n0 : 0 ≤ v % 18446744073709551616 / 2 ^ (a + j) := Int.ediv_nonneg (by omega) (Int.le_of_lt (Int.pow_pos (by omega)))
  rw [w, Int.tmod_eq_emod_of_nonneg n0, wrap_bit v (a + j) hk, show p + (a + j) - a = p + j by omega, fld_succ]
  obtain ⟨b, hb, hb2⟩ : ∃ b : Nat, (b : Int) = v / 2 ^ (a + j) % 2 ∧ b < 2 := ⟨(v / 2 ^ (a + j) % 2).toNat, by omega, by omega⟩
  rw [← hb, Int.toNat_natCast]
  have hl := fld_lt v a j
  have hs : 2 ^ (p + j + 1) ≤ 4294967296 := Nat.pow_le_pow_right (n := 2) (by omega) (show p + j + 1 ≤ 32 by omega)
  have e1 : b * 2 ^ (p + j) ≤ 2 ^ (p + j) := by
    have : b = 0 ∨ b = 1 := by omega
    rcases this with rfl | rfl <;> simp
  have e2 : fld v a j * 2 ^ p < 2 ^ (p + j) := by
    rw [Nat.pow_add, Nat.mul_comm (2 ^ p)]
    exact Nat.mul_lt_mul_of_pos_right hl (Nat.pow_pos (by omega))
  have e3 : 2 ^ (p + j + 1) = 2 ^ (p + j) * 2 := Nat.pow_succ _ _
  have e4 : ((b : Int) % 4294967296 * 2 ^ (p + j)) = ((b * 2 ^ (p + j) : Nat) : Int) := by rw [Int.natCast_mul, show (b : Int) % 4294967296 = b by omega]; simp
  have e5 : (fld v a j + 2 ^ j * b) * 2 ^ p = fld v a j * 2 ^ p + b * 2 ^ (p + j) := by
    rw [Nat.add_mul, Nat.pow_add, Nat.mul_comm (2 ^ j) b, Nat.mul_assoc, Nat.mul_comm (2 ^ j)]
  rw [e4, e5]
  omega
set_option maxHeartbeats 1000000 in
theorem bits_any (v : Int) (a c p : Nat) (h0 : -9223372036854775808 ≤ v) (h1 : v < 9223372036854775808) (hac : a ≤ c) (hc : c ≤ 31) (hp : p + (c - a) ≤ 31) (w : World) :
    Calls Tryz.prog 113 #[.int .i64 v, .int .i64 a, .int .i64 c, .int .i64 p] w fun e w' => e = .returned (.int .u32 (fld v a (c + 1 - a) * 2 ^ p : Nat)) ∧ w = w' := by
  go_enter Tryz.func113, Tryz.ntmps113
  go_wp2
  go_loop [9, 10] (fun x i => ∃ j : Nat, j ≤ c + 1 - a ∧ i = .int .i64 ((a + j : Nat) : Int) ∧ x = .int .u32 (fld v a j * 2 ^ p : Nat)) (fun _ i => c + 1 - (intOf i).toNat)
  case atStart => exact ⟨0, by omega, by simp, by rw [fld_zero]; simp⟩
  case round =>
    obtain ⟨j, hj, rfl, rfl⟩ := hrel
    by_cases hlt : a + j ≤ c
    · go_wp2
      go_round
      case rel => exact ⟨j + 1, by omega, by go_num, by rw [← bit_round v a j p (by omega) (by omega), Int.natCast_mul, Int.natCast_pow]; rfl⟩
      case measure => simp [intOf]; omega
    · obtain rfl : j = c + 1 - a := by omega
      go_wp2
      go_ret
      exact ⟨rfl, rfl⟩
/-- Where Imm stands, by the form. -/
def numv (f : Nat) (v : Int) : Nat :=
  if f = 2 then fld v 0 12 * 1048576 else if f = 3 then fld v 0 6 * 1048576 else if f = 4 then fld v 12 20 * 4096 else if f = 5 then fld v 0 5 * 128 + fld v 5 7 * 33554432
  else if f = 6 then fld v 11 1 * 128 + fld v 1 4 * 256 + fld v 5 6 * 33554432 + fld v 12 1 * 2147483648 else if f = 7 then fld v 12 8 * 4096 + fld v 11 1 * 1048576 + fld v 1 10 * 2097152 + fld v 20 1 * 2147483648 else 0
theorem bt_0_11_20 (v : Int) (h0 : -9223372036854775808 ≤ v) (h1 : v < 9223372036854775808) (w : World) :
    Calls Tryz.prog 113 #[.int .i64 v, .int .i64 0, .int .i64 11, .int .i64 20] w fun e w' => e = .returned (.int .u32 (fld v 0 12 * 1048576 : Nat)) ∧ w = w' := bits_any v 0 11 20 h0 h1 (by omega) (by omega) (by omega) w
theorem bt_0_5_20 (v : Int) (h0 : -9223372036854775808 ≤ v) (h1 : v < 9223372036854775808) (w : World) :
    Calls Tryz.prog 113 #[.int .i64 v, .int .i64 0, .int .i64 5, .int .i64 20] w fun e w' => e = .returned (.int .u32 (fld v 0 6 * 1048576 : Nat)) ∧ w = w' := bits_any v 0 5 20 h0 h1 (by omega) (by omega) (by omega) w
theorem bt_12_31_12 (v : Int) (h0 : -9223372036854775808 ≤ v) (h1 : v < 9223372036854775808) (w : World) :
    Calls Tryz.prog 113 #[.int .i64 v, .int .i64 12, .int .i64 31, .int .i64 12] w fun e w' => e = .returned (.int .u32 (fld v 12 20 * 4096 : Nat)) ∧ w = w' := bits_any v 12 31 12 h0 h1 (by omega) (by omega) (by omega) w
theorem bt_0_4_7 (v : Int) (h0 : -9223372036854775808 ≤ v) (h1 : v < 9223372036854775808) (w : World) :
    Calls Tryz.prog 113 #[.int .i64 v, .int .i64 0, .int .i64 4, .int .i64 7] w fun e w' => e = .returned (.int .u32 (fld v 0 5 * 128 : Nat)) ∧ w = w' := bits_any v 0 4 7 h0 h1 (by omega) (by omega) (by omega) w
theorem bt_5_11_25 (v : Int) (h0 : -9223372036854775808 ≤ v) (h1 : v < 9223372036854775808) (w : World) :
    Calls Tryz.prog 113 #[.int .i64 v, .int .i64 5, .int .i64 11, .int .i64 25] w fun e w' => e = .returned (.int .u32 (fld v 5 7 * 33554432 : Nat)) ∧ w = w' := bits_any v 5 11 25 h0 h1 (by omega) (by omega) (by omega) w
theorem bt_11_11_7 (v : Int) (h0 : -9223372036854775808 ≤ v) (h1 : v < 9223372036854775808) (w : World) :
    Calls Tryz.prog 113 #[.int .i64 v, .int .i64 11, .int .i64 11, .int .i64 7] w fun e w' => e = .returned (.int .u32 (fld v 11 1 * 128 : Nat)) ∧ w = w' := bits_any v 11 11 7 h0 h1 (by omega) (by omega) (by omega) w
theorem bt_1_4_8 (v : Int) (h0 : -9223372036854775808 ≤ v) (h1 : v < 9223372036854775808) (w : World) :
    Calls Tryz.prog 113 #[.int .i64 v, .int .i64 1, .int .i64 4, .int .i64 8] w fun e w' => e = .returned (.int .u32 (fld v 1 4 * 256 : Nat)) ∧ w = w' := bits_any v 1 4 8 h0 h1 (by omega) (by omega) (by omega) w
theorem bt_5_10_25 (v : Int) (h0 : -9223372036854775808 ≤ v) (h1 : v < 9223372036854775808) (w : World) :
    Calls Tryz.prog 113 #[.int .i64 v, .int .i64 5, .int .i64 10, .int .i64 25] w fun e w' => e = .returned (.int .u32 (fld v 5 6 * 33554432 : Nat)) ∧ w = w' := bits_any v 5 10 25 h0 h1 (by omega) (by omega) (by omega) w
theorem bt_12_12_31 (v : Int) (h0 : -9223372036854775808 ≤ v) (h1 : v < 9223372036854775808) (w : World) :
    Calls Tryz.prog 113 #[.int .i64 v, .int .i64 12, .int .i64 12, .int .i64 31] w fun e w' => e = .returned (.int .u32 (fld v 12 1 * 2147483648 : Nat)) ∧ w = w' := bits_any v 12 12 31 h0 h1 (by omega) (by omega) (by omega) w
theorem bt_12_19_12 (v : Int) (h0 : -9223372036854775808 ≤ v) (h1 : v < 9223372036854775808) (w : World) :
    Calls Tryz.prog 113 #[.int .i64 v, .int .i64 12, .int .i64 19, .int .i64 12] w fun e w' => e = .returned (.int .u32 (fld v 12 8 * 4096 : Nat)) ∧ w = w' := bits_any v 12 19 12 h0 h1 (by omega) (by omega) (by omega) w
theorem bt_11_11_20 (v : Int) (h0 : -9223372036854775808 ≤ v) (h1 : v < 9223372036854775808) (w : World) :
    Calls Tryz.prog 113 #[.int .i64 v, .int .i64 11, .int .i64 11, .int .i64 20] w fun e w' => e = .returned (.int .u32 (fld v 11 1 * 1048576 : Nat)) ∧ w = w' := bits_any v 11 11 20 h0 h1 (by omega) (by omega) (by omega) w
theorem bt_1_10_21 (v : Int) (h0 : -9223372036854775808 ≤ v) (h1 : v < 9223372036854775808) (w : World) :
    Calls Tryz.prog 113 #[.int .i64 v, .int .i64 1, .int .i64 10, .int .i64 21] w fun e w' => e = .returned (.int .u32 (fld v 1 10 * 2097152 : Nat)) ∧ w = w' := bits_any v 1 10 21 h0 h1 (by omega) (by omega) (by omega) w
theorem bt_20_20_31 (v : Int) (h0 : -9223372036854775808 ≤ v) (h1 : v < 9223372036854775808) (w : World) :
    Calls Tryz.prog 113 #[.int .i64 v, .int .i64 20, .int .i64 20, .int .i64 31] w fun e w' => e = .returned (.int .u32 (fld v 20 1 * 2147483648 : Nat)) ∧ w = w' := bits_any v 20 20 31 h0 h1 (by omega) (by omega) (by omega) w
theorem num_1 (v : Int) (h0 : -9223372036854775808 ≤ v) (h1 : v < 9223372036854775808) (w : World) :
    Calls Tryz.prog 87 #[.int .i64 1, .int .i64 v] w fun e w' => e = .returned (.int .u32 (numv 1 v : Nat)) ∧ w = w' := by
  go_enter Tryz.func87, Tryz.ntmps87
  go_wp2
  go_ret
  exact ⟨rfl, rfl⟩
theorem num_2 (v : Int) (h0 : -9223372036854775808 ≤ v) (h1 : v < 9223372036854775808) (w : World) :
    Calls Tryz.prog 87 #[.int .i64 2, .int .i64 v] w fun e w' => e = .returned (.int .u32 (numv 2 v : Nat)) ∧ w = w' := by
  have g0 := fld_lt v 0 12
  simp only [Nat.reducePow] at g0
  go_enter Tryz.func87, Tryz.ntmps87
  go_wp2_with (go_at_call 113; first | ((with_reducible refine (bt_0_11_20 v h0 h1 _).mono ?_); rintro e w' ⟨rfl, rfl⟩))
  go_ret
  exact ⟨rfl, rfl⟩
theorem num_3 (v : Int) (h0 : -9223372036854775808 ≤ v) (h1 : v < 9223372036854775808) (w : World) :
    Calls Tryz.prog 87 #[.int .i64 3, .int .i64 v] w fun e w' => e = .returned (.int .u32 (numv 3 v : Nat)) ∧ w = w' := by
  have g0 := fld_lt v 0 6
  simp only [Nat.reducePow] at g0
  go_enter Tryz.func87, Tryz.ntmps87
  go_wp2_with (go_at_call 113; first | ((with_reducible refine (bt_0_5_20 v h0 h1 _).mono ?_); rintro e w' ⟨rfl, rfl⟩))
  go_ret
  exact ⟨rfl, rfl⟩
theorem num_4 (v : Int) (h0 : -9223372036854775808 ≤ v) (h1 : v < 9223372036854775808) (w : World) :
    Calls Tryz.prog 87 #[.int .i64 4, .int .i64 v] w fun e w' => e = .returned (.int .u32 (numv 4 v : Nat)) ∧ w = w' := by
  have g0 := fld_lt v 12 20
  simp only [Nat.reducePow] at g0
  go_enter Tryz.func87, Tryz.ntmps87
  go_wp2_with (go_at_call 113; first | ((with_reducible refine (bt_12_31_12 v h0 h1 _).mono ?_); rintro e w' ⟨rfl, rfl⟩))
  go_ret
  exact ⟨rfl, rfl⟩
theorem num_5 (v : Int) (h0 : -9223372036854775808 ≤ v) (h1 : v < 9223372036854775808) (w : World) :
    Calls Tryz.prog 87 #[.int .i64 5, .int .i64 v] w fun e w' => e = .returned (.int .u32 (numv 5 v : Nat)) ∧ w = w' := by
  have g0 := fld_lt v 0 5
  have g1 := fld_lt v 5 7
  simp only [Nat.reducePow] at g0 g1
  go_enter Tryz.func87, Tryz.ntmps87
  go_wp2_with (go_at_call 113; first | ((with_reducible refine (bt_0_4_7 v h0 h1 _).mono ?_); rintro e w' ⟨rfl, rfl⟩) | ((with_reducible refine (bt_5_11_25 v h0 h1 _).mono ?_); rintro e w' ⟨rfl, rfl⟩))
  go_ret
  exact ⟨rfl, rfl⟩
theorem num_6 (v : Int) (h0 : -9223372036854775808 ≤ v) (h1 : v < 9223372036854775808) (w : World) :
    Calls Tryz.prog 87 #[.int .i64 6, .int .i64 v] w fun e w' => e = .returned (.int .u32 (numv 6 v : Nat)) ∧ w = w' := by
  have g0 := fld_lt v 11 1
  have g1 := fld_lt v 1 4
  have g2 := fld_lt v 5 6
  have g3 := fld_lt v 12 1
  simp only [Nat.reducePow] at g0 g1 g2 g3
  go_enter Tryz.func87, Tryz.ntmps87
  go_wp2_with (go_at_call 113; first | ((with_reducible refine (bt_11_11_7 v h0 h1 _).mono ?_); rintro e w' ⟨rfl, rfl⟩) | ((with_reducible refine (bt_1_4_8 v h0 h1 _).mono ?_); rintro e w' ⟨rfl, rfl⟩) | ((with_reducible refine (bt_5_10_25 v h0 h1 _).mono ?_); rintro e w' ⟨rfl, rfl⟩) | ((with_reducible refine (bt_12_12_31 v h0 h1 _).mono ?_); rintro e w' ⟨rfl, rfl⟩))
  go_ret
  exact ⟨rfl, rfl⟩
theorem num_7 (v : Int) (h0 : -9223372036854775808 ≤ v) (h1 : v < 9223372036854775808) (w : World) :
    Calls Tryz.prog 87 #[.int .i64 7, .int .i64 v] w fun e w' => e = .returned (.int .u32 (numv 7 v : Nat)) ∧ w = w' := by
  have g0 := fld_lt v 12 8
  have g1 := fld_lt v 11 1
  have g2 := fld_lt v 1 10
  have g3 := fld_lt v 20 1
  simp only [Nat.reducePow] at g0 g1 g2 g3
  go_enter Tryz.func87, Tryz.ntmps87
  go_wp2_with (go_at_call 113; first | ((with_reducible refine (bt_12_19_12 v h0 h1 _).mono ?_); rintro e w' ⟨rfl, rfl⟩) | ((with_reducible refine (bt_11_11_20 v h0 h1 _).mono ?_); rintro e w' ⟨rfl, rfl⟩) | ((with_reducible refine (bt_1_10_21 v h0 h1 _).mono ?_); rintro e w' ⟨rfl, rfl⟩) | ((with_reducible refine (bt_20_20_31 v h0 h1 _).mono ?_); rintro e w' ⟨rfl, rfl⟩))
  go_ret
  exact ⟨rfl, rfl⟩
theorem num_8 (v : Int) (h0 : -9223372036854775808 ≤ v) (h1 : v < 9223372036854775808) (w : World) :
    Calls Tryz.prog 87 #[.int .i64 8, .int .i64 v] w fun e w' => e = .returned (.int .u32 (numv 8 v : Nat)) ∧ w = w' := by
  go_enter Tryz.func87, Tryz.ntmps87
  go_wp2
  go_ret
  exact ⟨rfl, rfl⟩
end Go.Proofs.YtfaacmcnefbgcaaGreatDoor
