/- Plain means for the contracts of package word. -/
import Derived.Test.YtcckgfablfgknaaGreatDoorPl1
import Derived.ProofKit
import Derived.OpenShut
import Derived.Handy
import Derived.Lib.Hide
namespace Go.Proofs.YtcckgfablfgknaaGreatDoor.m4
open Go.RowKit
set_option linter.unusedVariables false
theorem ret_u64i64 {a b c : Int} (h : a = b) : Ending.returned (.tuple #[.int .u64 a, .int .i64 c]) = .returned (.tuple #[.int .u64 b, .int .i64 c]) := by rw [h]
end Go.Proofs.YtcckgfablfgknaaGreatDoor.m4

/- Contract of word.Bytes. -/
namespace Go.Proofs.YtcckgfablfgknaaGreatDoor.m4
open Go.ChangeShapes Go.WideShapes Go.ChangeAt Go.RowKit
set_option linter.unusedVariables false

/-- The lowest n bytes of v, the lowest one first. -/
def bl (v n : Nat) : List Int := ([(v : Int) % 256, (v : Int) / 256 % 256, (v : Int) / 65536 % 256, (v : Int) / 16777216 % 256, (v : Int) / 4294967296 % 256, (v : Int) / 1099511627776 % 256, (v : Int) / 281474976710656 % 256, (v : Int) / 72057594037927936] : List Int).take n
/-- string(b[:n]) of a block of eight bytes. -/
theorem conv8 (n : Nat) (hn : n ≤ 8) (x0 x1 x2 x3 x4 x5 x6 x7 : Int) (w : World) :
    (convert 92 9 (.slice (some ⟨w.heap.size, 0, none⟩) n 8)).run Tryz.prog (w.alloc (.cells #[.int .u8 x0, .int .u8 x1, .int .u8 x2, .int .u8 x3, .int .u8 x4, .int .u8 x5, .int .u8 x6, .int .u8 x7] 216)) = .ok (.string (strOfNums ([x0, x1, x2, x3, x4, x5, x6, x7].take n))) (w.alloc (.cells #[.int .u8 x0, .int .u8 x1, .int .u8 x2, .int .u8 x3, .int .u8 x4, .int .u8 x5, .int .u8 x6, .int .u8 x7] 216)) := by
  refine run_convert_bytes_arg (P := Tryz.prog) _ 92 5 Tryz.underlying92 Tryz.underlying5 w.heap.size 0 n 8 _ (by simp; omega) ?_ 9 Tryz.underlying9
  intro i hi
  have h8 : i = 0 ∨ i = 1 ∨ i = 2 ∨ i = 3 ∨ i = 4 ∨ i = 5 ∨ i = 6 ∨ i = 7 := by omega
  rw [List.getD_eq_getElem?_getD, List.getElem?_take, if_pos hi]
  rcases h8 with rfl | rfl | rfl | rfl | rfl | rfl | rfl | rfl <;> simp [go_sem]

theorem bytes_bad (v : Nat) (n : Int) (h : n < 1 ∨ 8 < n) (w : World) :
    Calls Tryz.prog 165 #[.int .u64 v, .int .i64 n] w fun e w' => e = .returned (.tuple #[.string ByteArray.empty, .int .i64 2]) ∧ w = w' := by
  by_cases h1 : n < 1
  · clear h
    go_enter Tryz.func165, Tryz.ntmps165
    go_wp2
    go_ret2
    exact ⟨rfl, rfl⟩
  · have h2 : 8 < n := by omega
    clear h
    go_enter Tryz.func165, Tryz.ntmps165
    go_wp2
    go_ret2
    exact ⟨rfl, rfl⟩
theorem bytes_1 (v : Nat) (hv : v < 18446744073709551616) (w : World) :
    Calls Tryz.prog 165 #[.int .u64 v, .int .i64 1] w fun e w' => e = .returned (.tuple #[.string (strOfNums (bl v 1)), .int .i64 0]) ∧ Below w.heap.size w w' := by
  have hc := conv8 1 (by omega)
  go_enter Tryz.func165, Tryz.ntmps165
  go_wp2
  go_rounds 2
  go_ret2
  exact ⟨rfl, (Below.refl _ _).alloc (Nat.le_refl _) _⟩
theorem bytes_2 (v : Nat) (hv : v < 18446744073709551616) (w : World) :
    Calls Tryz.prog 165 #[.int .u64 v, .int .i64 2] w fun e w' => e = .returned (.tuple #[.string (strOfNums (bl v 2)), .int .i64 0]) ∧ Below w.heap.size w w' := by
  have hc := conv8 2 (by omega)
  go_enter Tryz.func165, Tryz.ntmps165
  go_wp2
  go_rounds 3
  go_ret2
  exact ⟨rfl, (Below.refl _ _).alloc (Nat.le_refl _) _⟩
theorem bytes_3 (v : Nat) (hv : v < 18446744073709551616) (w : World) :
    Calls Tryz.prog 165 #[.int .u64 v, .int .i64 3] w fun e w' => e = .returned (.tuple #[.string (strOfNums (bl v 3)), .int .i64 0]) ∧ Below w.heap.size w w' := by
  have hc := conv8 3 (by omega)
  go_enter Tryz.func165, Tryz.ntmps165
  go_wp2
  go_rounds 4
  go_ret2
  exact ⟨rfl, (Below.refl _ _).alloc (Nat.le_refl _) _⟩
theorem bytes_4 (v : Nat) (hv : v < 18446744073709551616) (w : World) :
    Calls Tryz.prog 165 #[.int .u64 v, .int .i64 4] w fun e w' => e = .returned (.tuple #[.string (strOfNums (bl v 4)), .int .i64 0]) ∧ Below w.heap.size w w' := by
  have hc := conv8 4 (by omega)
  go_enter Tryz.func165, Tryz.ntmps165
  go_wp2
  go_rounds 5
  go_ret2
  exact ⟨rfl, (Below.refl _ _).alloc (Nat.le_refl _) _⟩
theorem bytes_5 (v : Nat) (hv : v < 18446744073709551616) (w : World) :
    Calls Tryz.prog 165 #[.int .u64 v, .int .i64 5] w fun e w' => e = .returned (.tuple #[.string (strOfNums (bl v 5)), .int .i64 0]) ∧ Below w.heap.size w w' := by
  have hc := conv8 5 (by omega)
  go_enter Tryz.func165, Tryz.ntmps165
  go_wp2
  go_rounds 6
  go_ret2
  exact ⟨rfl, (Below.refl _ _).alloc (Nat.le_refl _) _⟩
theorem bytes_6 (v : Nat) (hv : v < 18446744073709551616) (w : World) :
    Calls Tryz.prog 165 #[.int .u64 v, .int .i64 6] w fun e w' => e = .returned (.tuple #[.string (strOfNums (bl v 6)), .int .i64 0]) ∧ Below w.heap.size w w' := by
  have hc := conv8 6 (by omega)
  go_enter Tryz.func165, Tryz.ntmps165
  go_wp2
  go_rounds 7
  go_ret2
  exact ⟨rfl, (Below.refl _ _).alloc (Nat.le_refl _) _⟩
theorem bytes_7 (v : Nat) (hv : v < 18446744073709551616) (w : World) :
    Calls Tryz.prog 165 #[.int .u64 v, .int .i64 7] w fun e w' => e = .returned (.tuple #[.string (strOfNums (bl v 7)), .int .i64 0]) ∧ Below w.heap.size w w' := by
  have hc := conv8 7 (by omega)
  go_enter Tryz.func165, Tryz.ntmps165
  go_wp2
  go_rounds 8
  go_ret2
  exact ⟨rfl, (Below.refl _ _).alloc (Nat.le_refl _) _⟩
theorem bytes_8 (v : Nat) (hv : v < 18446744073709551616) (w : World) :
    Calls Tryz.prog 165 #[.int .u64 v, .int .i64 8] w fun e w' => e = .returned (.tuple #[.string (strOfNums (bl v 8)), .int .i64 0]) ∧ Below w.heap.size w w' := by
  have hc := conv8 8 (by omega)
  go_enter Tryz.func165, Tryz.ntmps165
  go_wp2
  go_rounds 9
  go_ret2
  exact ⟨rfl, (Below.refl _ _).alloc (Nat.le_refl _) _⟩
theorem bytes_any (v n : Nat) (hv : v < 18446744073709551616) (h1 : 1 ≤ n) (h2 : n ≤ 8) (w : World) :
    Calls Tryz.prog 165 #[.int .u64 v, .int .i64 n] w fun e w' => e = .returned (.tuple #[.string (strOfNums (bl v n)), .int .i64 0]) ∧ Below w.heap.size w w' := by
  have h8 : n = 1 ∨ n = 2 ∨ n = 3 ∨ n = 4 ∨ n = 5 ∨ n = 6 ∨ n = 7 ∨ n = 8 := by omega
  rcases h8 with rfl | rfl | rfl | rfl | rfl | rfl | rfl | rfl
  · exact bytes_1 v hv w
  · exact bytes_2 v hv w
  · exact bytes_3 v hv w
  · exact bytes_4 v hv w
  · exact bytes_5 v hv w
  · exact bytes_6 v hv w
  · exact bytes_7 v hv w
  · exact bytes_8 v hv w
end Go.Proofs.YtcckgfablfgknaaGreatDoor.m4

/- Contract of word.Word. -/
namespace Go.Proofs.YtcckgfablfgknaaGreatDoor.m4
open Go.ChangeShapes Go.WideShapes Go.ChangeAt Go.RowKit
set_option linter.unusedVariables false

/-- The number of bytes, the lowest one first. -/
def wordv : List UInt8 → Nat
  | [] => 0
  | b :: r => b.toNat + 256 * wordv r
theorem wordv_append (l m : List UInt8) : wordv (l ++ m) = wordv l + 256 ^ l.length * wordv m := by
  induction l with
  | nil => simp [wordv]
  | cons b l ih => simp only [List.cons_append, wordv, ih, List.length_cons, Nat.pow_succ]; rw [Nat.mul_add, ← Nat.mul_assoc, Nat.mul_comm 256 (256 ^ l.length)]; omega
theorem wordv_lt (l : List UInt8) : wordv l < 256 ^ l.length := by
  induction l with
  | nil => simp [wordv]
  | cons b l ih =>
    simp only [wordv, List.length_cons, Nat.pow_succ]
    have := b.toNat_lt
    omega
theorem wordv_snoc (l : List UInt8) (b : UInt8) : wordv (l ++ [b]) = wordv l + b.toNat * 256 ^ l.length := by
  rw [wordv_append]; simp only [wordv, Nat.mul_zero, Nat.add_zero]; rw [Nat.mul_comm]
theorem pow8 (k : Nat) : 2 ^ (8 * k) = 256 ^ k := by rw [Nat.pow_mul]
theorem take_snoc (s : ByteArray) (k : Nat) (h : k < s.size) : s.data.toList.take (k + 1) = s.data.toList.take k ++ [s[k]] := by
  rw [List.take_succ_eq_append_getElem (by simpa using h)]; rfl
theorem wordv_lt64 (l : List UInt8) (h : l.length ≤ 8) : wordv l < 18446744073709551616 := by
  have h1 := wordv_lt l
  have h2 : 256 ^ l.length ≤ 256 ^ 8 := Nat.pow_le_pow_right (by omega) h
  omega
theorem or_round (s : ByteArray) (k : Nat) (h : k < s.size) (h8 : s.size ≤ 8) :
    bits .or .u64 ((wordv (s.data.toList.take k) : Nat) : Int) (IntKind.u64.wrap ((s[k].toNat : Int) * 2 ^ (8 * k))) = ((wordv (s.data.toList.take (k + 1)) : Nat) : Int) := by
  have hb := s[k].toNat_lt
  have hl : (s.data.toList.take k).length = k := by rw [List.length_take]; have : s.data.toList.length = s.size := rfl; omega
  have h1 : wordv (s.data.toList.take k) < 2 ^ (8 * k) := by rw [pow8]; have := wordv_lt (s.data.toList.take k); rw [hl] at this; exact this
  have h2 : wordv (s.data.toList.take k) < 18446744073709551616 := wordv_lt64 _ (by omega)
  have h3 : s[k].toNat * 2 ^ (8 * k) < 18446744073709551616 := by
    have : s[k].toNat * 2 ^ (8 * k) < 2 ^ 8 * 2 ^ (8 * k) := Nat.mul_lt_mul_of_pos_right (by omega) (Nat.pow_pos (by omega))
    rw [← Nat.pow_add] at this
    exact Nat.lt_of_lt_of_le this (Nat.pow_le_pow_right (n := 2) (by omega) (show 8 + 8 * k ≤ 64 by omega))
  have e : IntKind.u64.wrap ((s[k].toNat : Int) * 2 ^ (8 * k)) = ((s[k].toNat * 2 ^ (8 * k) : Nat) : Int) := by
    rw [IntKind.wrap_u64, ← cast_mul_pow, Nat.mod_eq_of_lt h3]
  rw [e, bits_or_nat _ _ h2 h3, take_snoc s k h, wordv_snoc, hl, ← pow8]
  have := Nat.shiftLeft_add_eq_or_of_lt h1 s[k].toNat
  rw [Nat.shiftLeft_eq] at this
  rw [Nat.or_comm, ← this, Nat.add_comm]
theorem word_bad (s : ByteArray) (h : s.size < 1 ∨ 8 < s.size) (hm : s.size ≤ maxLen) (w : World) :
    Calls Tryz.prog 122 #[.string s] w fun e w' => e = .returned (.tuple #[.int .u64 0, .int .i64 2]) ∧ w = w' := by
  unfold maxLen at hm
  by_cases h1 : s.size < 1
  · clear h
    go_enter Tryz.func122, Tryz.ntmps122
    go_wp2
    go_ret2
    exact ⟨rfl, rfl⟩
  · have h2 : 8 < s.size := by omega
    clear h
    go_enter Tryz.func122, Tryz.ntmps122
    go_wp2
    go_ret2
    exact ⟨rfl, rfl⟩
theorem word_any (s : ByteArray) (h1 : 1 ≤ s.size) (h2 : s.size ≤ 8) (w : World) :
    Calls Tryz.prog 122 #[.string s] w fun e w' => e = .returned (.tuple #[.int .u64 (wordv s.data.toList : Nat), .int .i64 0]) ∧ w = w' := by
  go_enter Tryz.func122, Tryz.ntmps122
  go_wp2
  go_loop [4, 16] (fun v i => ∃ k : Nat, k ≤ s.size ∧ i = .int .i64 k ∧ v = .int .u64 (wordv (s.data.toList.take k) : Nat)) (fun _ i => s.size - (intOf i).toNat)
  case atStart => exact ⟨0, Nat.zero_le _, rfl, rfl⟩
  case round =>
    obtain ⟨k, hk, rfl, rfl⟩ := hrel
    by_cases hlt : k < s.size
    · have hr := Lib.hid (or_round s k hlt h2)
      go_wp2
      go_round
      case rel => exact ⟨k + 1, by omega, by go_num, by rw [← hr.out, wrap_nat s[k].toNat (by have := s[k].toNat_lt; omega)]⟩
      case measure => simp [intOf]; omega
    · go_wp2
      go_ret2
      exact ⟨ret_u64i64 (by rw [List.take_of_length_le (by have : s.data.toList.length = s.size := rfl; omega)]), rfl⟩
end Go.Proofs.YtcckgfablfgknaaGreatDoor.m4
