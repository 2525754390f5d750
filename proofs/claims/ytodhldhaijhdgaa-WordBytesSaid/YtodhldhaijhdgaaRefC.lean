/- Contracts of the document's own answers Sign, Fits, Word of layer 1: for all words and texts. -/
import Derived.Test.YtodhldhaijhdgaaRefA
import Derived.Test.YtodhldhaijhdgaaPl3
namespace Go.Proofs.Ytodhldhaijhdgaa
open Go.ChangeShapes Go.WideShapes Go.ChangeAt Go.RowKit
set_option linter.unusedVariables false

theorem rsign_bad (v : Nat) (n : Int) (h : n < 1 ∨ 64 < n) (w : World) :
    Calls Try.prog 11 #[.int .u64 v, .int .i64 n] w fun e w' => e = .returned (.tuple #[.int .u64 0, .int .i64 2]) ∧ w = w' := by
  by_cases h1 : n < 1
  · clear h
    go_enter Try.func11, Try.ntmps11
    go_wp2
    go_ret2
    exact ⟨rfl, rfl⟩
  · have h2 : 64 < n := by omega
    clear h
    go_enter Try.func11, Try.ntmps11
    go_wp2
    go_ret2
    exact ⟨rfl, rfl⟩
set_option maxHeartbeats 1000000 in
theorem rsign_any (v n : Nat) (hv : v < 18446744073709551616) (h1 : 1 ≤ n) (h2 : n ≤ 64) (w : World) :
    Calls Try.prog 11 #[.int .u64 v, .int .i64 n] w fun e w' => e = .returned (.tuple #[.int .u64 (signv v n : Nat), .int .i64 0]) ∧ w = w' := by
  have h3 : ¬ ((n : Int) < 1) := by omega
  have h4 : ¬ (64 < (n : Int)) := by omega
  go_enter Try.func11, Try.ntmps11
  go_wp2
  go_loop [6, 7] (fun o i => ∃ k : Nat, k ≤ 64 ∧ i = .int .i64 ((k : Int) - 1) ∧ o = .int .u64 (signv v n / 2 ^ k : Nat)) (fun _ i => (intOf i + 1).toNat)
  case atStart => exact ⟨64, by omega, rfl, by rw [top_pow _ (signv_lt v n)]; rfl⟩
  case round =>
    obtain ⟨k, hk, rfl, rfl⟩ := hrel
    rcases Nat.eq_zero_or_pos k with h0 | h0
    · subst h0
      go_wp2
      go_ret2
      exact ⟨ret_u64i64 (by first | (with_reducible rfl) | simp), rfl⟩
    · obtain ⟨j, rfl⟩ : ∃ j, k = j + 1 := ⟨k - 1, by omega⟩
      have hh := half_pow (signv v n) j
      have hb := signv_bit v n j h1 h2 (by omega)
      have e0 : ((j + 1 : Nat) : Int) - 1 = (j : Int) := by omega
      rw [e0]
      clear e0
      have hA : signv v n / 2 ^ (j + 1) < 9223372036854775808 := by
        have : signv v n / 2 ^ (j + 1) ≤ signv v n / 2 := by rw [Nat.pow_succ, Nat.mul_comm, ← Nat.div_div_eq_div_mul]; exact Nat.div_le_self _ _
        have := signv_lt v n
        omega
      rw [hb] at hh
      generalize signv v n / 2 ^ (j + 1) = o at *
      have HH := Lib.hid hh
      clear hh hb
      by_cases hm : j ≤ n - 1
      · rw [Nat.min_eq_left hm] at HH
        have htm := tmod_two v j
        have ht : v / 2 ^ j % 2 ≤ 1 := by omega
        generalize v / 2 ^ j % 2 = t at *
        have m1 : (j : Int) ≤ (n : Int) - 1 := by omega
        go_wp2
        go_round
        case rel => exact ⟨j, by omega, rfl, by rw [HH.out]; go_num⟩
        case measure => first | (simp [intOf]; done) | (simp [intOf]; omega)
      · rw [Nat.min_eq_right (by omega)] at HH
        have htm := tmod_two v (n - 1)
        have ht : v / 2 ^ (n - 1) % 2 ≤ 1 := by omega
        generalize v / 2 ^ (n - 1) % 2 = t at *
        have m1 : ¬ ((j : Int) ≤ (n : Int) - 1) := by omega
        go_wp2
        go_round
        case rel => exact ⟨j, by omega, rfl, by rw [HH.out]; go_num⟩
        case measure => first | (simp [intOf]; done) | (simp [intOf]; omega)
theorem rfits_bad (u : Nat) (hu : u < 18446744073709551616) (n : Int) (h : n < 1 ∨ 64 < n) (w : World) :
    Calls Try.prog 17 #[.int .i64 (wrap64 (u : Int)), .int .i64 n] w fun e w' => e = .returned (.bool false) ∧ w = w' := by
  have hb := wrap64_back u hu
  go_enter Try.func17, Try.ntmps17
  go_wp2_with (go_at_call 11; refine (rsign_bad u n h _).mono ?_; rintro e w' ⟨rfl, rfl⟩)
  go_ret
  exact ⟨rfl, rfl⟩
theorem rfits_any (u n : Nat) (hu : u < 18446744073709551616) (h1 : 1 ≤ n) (h2 : n ≤ 64) (w : World) :
    Calls Try.prog 17 #[.int .i64 (wrap64 (u : Int)), .int .i64 n] w fun e w' => e = .returned (.bool (decide (signv u n = u))) ∧ w = w' := by
  have hb := wrap64_back u hu
  have hi : (((signv u n : Nat) : Int) == ((u : Nat) : Int)) = decide (signv u n = u) := by
    rw [Bool.eq_iff_iff]; simp only [beq_iff_eq, decide_eq_true_eq]; omega
  go_enter Try.func17, Try.ntmps17
  go_wp2_with (go_at_call 11; refine (rsign_any u n hu h1 h2 _).mono ?_; rintro e w' ⟨rfl, rfl⟩)
  go_ret
  exact ⟨rfl, rfl⟩
theorem rword_bad (s : ByteArray) (h : s.size < 1 ∨ 8 < s.size) (hm : s.size ≤ maxLen) (w : World) :
    Calls Try.prog 15 #[.string s] w fun e w' => e = .returned (.tuple #[.int .u64 0, .int .i64 2]) ∧ w = w' := by
  unfold maxLen at hm
  by_cases h1 : s.size < 1
  · clear h
    go_enter Try.func15, Try.ntmps15
    go_wp2
    go_ret2
    exact ⟨rfl, rfl⟩
  · have h2 : 8 < s.size := by omega
    clear h
    go_enter Try.func15, Try.ntmps15
    go_wp2
    go_ret2
    exact ⟨rfl, rfl⟩
theorem drop_cons (s : ByteArray) (k : Nat) (h : k < s.size) : s.data.toList.drop k = s[k] :: s.data.toList.drop (k + 1) := by
  rw [List.drop_eq_getElem_cons (by simpa using h)]; rfl
theorem rword_any (s : ByteArray) (h1 : 1 ≤ s.size) (h2 : s.size ≤ 8) (w : World) :
    Calls Try.prog 15 #[.string s] w fun e w' => e = .returned (.tuple #[.int .u64 (wordv s.data.toList : Nat), .int .i64 0]) ∧ w = w' := by
  go_enter Try.func15, Try.ntmps15
  go_wp2
  go_loop [4, 5] (fun v i => ∃ k : Nat, k ≤ s.size ∧ i = .int .i64 ((k : Int) - 1) ∧ v = .int .u64 (wordv (s.data.toList.drop k) : Nat)) (fun _ i => (intOf i + 1).toNat)
  case atStart => exact ⟨s.size, Nat.le_refl _, rfl, by rw [List.drop_eq_nil_of_le (by have : s.data.toList.length = s.size := rfl; omega)]; rfl⟩
  case round =>
    obtain ⟨k, hk, rfl, rfl⟩ := hrel
    rcases Nat.eq_zero_or_pos k with h0 | h0
    · subst h0
      go_wp2
      go_ret2
      exact ⟨ret_u64i64 (by first | (with_reducible rfl) | rw [List.drop_zero]), rfl⟩
    · obtain ⟨j, rfl⟩ : ∃ j, k = j + 1 := ⟨k - 1, by omega⟩
      have hd := drop_cons s j (by omega)
      have hw : wordv (s.data.toList.drop j) = s[j].toNat + 256 * wordv (s.data.toList.drop (j + 1)) := by rw [hd]; rfl
      have hb := s[j].toNat_lt
      have hl : wordv (s.data.toList.drop (j + 1)) < 72057594037927936 := by
        have a1 := wordv_lt (s.data.toList.drop (j + 1))
        have a2 : (s.data.toList.drop (j + 1)).length ≤ 7 := by rw [List.length_drop]; have : s.data.toList.length = s.size := rfl; omega
        have a3 : 256 ^ (s.data.toList.drop (j + 1)).length ≤ 256 ^ 7 := Nat.pow_le_pow_right (by omega) a2
        omega
      have e0 : ((j + 1 : Nat) : Int) - 1 = (j : Int) := by omega
      rw [e0]
      clear e0 hd
      generalize wordv (s.data.toList.drop (j + 1)) = q at *
      have HW := Lib.hid hw
      clear hw
      go_wp2
      go_round
      case rel => exact ⟨j, by omega, rfl, by rw [HW.out]; refine val_u64 ?_; first | omega | (rw [wrap_nat s[j].toNat (by omega)]; omega)⟩
      case measure => first | (simp [intOf]; done) | (simp [intOf]; omega)
end Go.Proofs.Ytodhldhaijhdgaa
