/- Contract of word.Word. -/
import Derived.Test.YtkcgnpcfdfkpjaaWoY
namespace Go.Proofs.Ytkcgnpcfdfkpjaa
open Go.ChangeShapes Go.WideShapes Go.ChangeAt Go.RowKit
set_option linter.unusedVariables false

/-- The number of bytes, the lowest one first. -/
def wordv : List UInt8 → Nat
  | [] => 0
  | b :: r => b.toNat + 256 * wordv r
theorem wordv_append (l m : List UInt8) : wordv (l ++ m) = wordv l + 256 ^ l.length * wordv m := by
  induction l with
  | nil => simp [wordv]
  | cons b l ih => simp only [List.cons_append, wordv, ih, List.length_cons, Nat.pow_succ]; rw [Nat.mul_add, ← Nat.mul_assoc, Nat.mul_comm 256 (256 ^ l.length)]; omega
theorem wordv_lt (l : List UInt8) : wordv l < 256 ^ l.length := by
  induction l with
  | nil => simp [wordv]
  | cons b l ih =>
    simp only [wordv, List.length_cons, Nat.pow_succ]
    have := b.toNat_lt
    omega
theorem wordv_snoc (l : List UInt8) (b : UInt8) : wordv (l ++ [b]) = wordv l + b.toNat * 256 ^ l.length := by
  rw [wordv_append]; simp only [wordv, Nat.mul_zero, Nat.add_zero]; rw [Nat.mul_comm]
theorem pow8 (k : Nat) : 2 ^ (8 * k) = 256 ^ k := by rw [Nat.pow_mul]
theorem take_snoc (s : ByteArray) (k : Nat) (h : k < s.size) : s.data.toList.take (k + 1) = s.data.toList.take k ++ [s[k]] := by
  rw [List.take_succ_eq_append_getElem (by simpa using h)]; rfl
theorem wordv_lt64 (l : List UInt8) (h : l.length ≤ 8) : wordv l < 18446744073709551616 := by
  have h1 := wordv_lt l
  have h2 : 256 ^ l.length ≤ 256 ^ 8 := Nat.pow_le_pow_right (by omega) h
  omega
theorem or_round (s : ByteArray) (k : Nat) (h : k < s.size) (h8 : s.size ≤ 8) :
    bits .or .u64 ((wordv (s.data.toList.take k) : Nat) : Int) (IntKind.u64.wrap ((s[k].toNat : Int) * 2 ^ (8 * k))) = ((wordv (s.data.toList.take (k + 1)) : Nat) : Int) := by
  have hb := s[k].toNat_lt
  have hl : (s.data.toList.take k).length = k := by rw [List.length_take]; have : s.data.toList.length = s.size := rfl; omega
  have h1 : wordv (s.data.toList.take k) < 2 ^ (8 * k) := by rw [pow8]; have := wordv_lt (s.data.toList.take k); rw [hl] at this; exact this
  have h2 : wordv (s.data.toList.take k) < 18446744073709551616 := wordv_lt64 _ (by omega)
  have h3 : s[k].toNat * 2 ^ (8 * k) < 18446744073709551616 := by
    have : s[k].toNat * 2 ^ (8 * k) < 2 ^ 8 * 2 ^ (8 * k) := Nat.mul_lt_mul_of_pos_right (by omega) (Nat.pow_pos (by omega))
    rw [← Nat.pow_add] at this
    exact Nat.lt_of_lt_of_le this (Nat.pow_le_pow_right (n := 2) (by omega) (show 8 + 8 * k ≤ 64 by omega))
  have e : IntKind.u64.wrap ((s[k].toNat : Int) * 2 ^ (8 * k)) = ((s[k].toNat * 2 ^ (8 * k) : Nat) : Int) := by
    rw [IntKind.wrap_u64, ← cast_mul_pow, Nat.mod_eq_of_lt h3]
  rw [e, bits_or_nat _ _ h2 h3, take_snoc s k h, wordv_snoc, hl, ← pow8]
  have := Nat.shiftLeft_add_eq_or_of_lt h1 s[k].toNat
  rw [Nat.shiftLeft_eq] at this
  rw [Nat.or_comm, ← this, Nat.add_comm]
theorem word_bad (s : ByteArray) (h : s.size < 1 ∨ 8 < s.size) (hm : s.size ≤ maxLen) (w : World) :
    Calls Try.prog 37 #[.string s] w fun e w' => e = .returned (.tuple #[.int .u64 0, .int .i64 2]) ∧ w = w' := by
  unfold maxLen at hm
  by_cases h1 : s.size < 1
  · clear h
    go_enter Try.func37, Try.ntmps37
    go_wp2
    go_ret2
    exact ⟨rfl, rfl⟩
  · have h2 : 8 < s.size := by omega
    clear h
    go_enter Try.func37, Try.ntmps37
    go_wp2
    go_ret2
    exact ⟨rfl, rfl⟩
theorem word_any (s : ByteArray) (h1 : 1 ≤ s.size) (h2 : s.size ≤ 8) (w : World) :
    Calls Try.prog 37 #[.string s] w fun e w' => e = .returned (.tuple #[.int .u64 (wordv s.data.toList : Nat), .int .i64 0]) ∧ w = w' := by
  go_enter Try.func37, Try.ntmps37
  go_wp2
  go_loop [4, 16] (fun v i => ∃ k : Nat, k ≤ s.size ∧ i = .int .i64 k ∧ v = .int .u64 (wordv (s.data.toList.take k) : Nat)) (fun _ i => s.size - (intOf i).toNat)
  case atStart => exact ⟨0, Nat.zero_le _, rfl, rfl⟩
  case round =>
    obtain ⟨k, hk, rfl, rfl⟩ := hrel
    by_cases hlt : k < s.size
    · have hr := Lib.hid (or_round s k hlt h2)
      go_wp2
      go_round
      case rel => exact ⟨k + 1, by omega, by go_num, by rw [← hr.out, wrap_nat s[k].toNat (by have := s[k].toNat_lt; omega)]⟩
      case measure => simp [intOf]; omega
    · go_wp2
      go_ret2
      exact ⟨ret_u64i64 (by rw [List.take_of_length_le (by have : s.data.toList.length = s.size := rfl; omega)]), rfl⟩
end Go.Proofs.Ytkcgnpcfdfkpjaa
