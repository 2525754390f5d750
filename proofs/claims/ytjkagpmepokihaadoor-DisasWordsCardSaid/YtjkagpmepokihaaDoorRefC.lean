/- Contract of the document's own answer Word of layer 1. -/
import Derived.Test.YtjkagpmepokihaaDoorRefS
import Derived.Test.YtjkagpmepokihaaDoorWordW
namespace Go.Proofs.YtjkagpmepokihaaDoor
open Go.ChangeShapes Go.WideShapes Go.ChangeAt Go.RowKit
set_option linter.unusedVariables false
theorem rword_bad (s : ByteArray) (h : s.size < 1 ∨ 8 < s.size) (hm : s.size ≤ maxLen) (w : World) :
    Calls Tryd.prog 27 #[.string s] w fun e w' => e = .returned (.tuple #[.int .u64 0, .int .i64 2]) ∧ w = w' := by
  unfold maxLen at hm
  by_cases h1 : s.size < 1
  · clear h
    go_enter Tryd.func27, Tryd.ntmps27
    go_wp2
    go_ret2
    exact ⟨rfl, rfl⟩
  · have h2 : 8 < s.size := by omega
    clear h
    go_enter Tryd.func27, Tryd.ntmps27
    go_wp2
    go_ret2
    exact ⟨rfl, rfl⟩
theorem val_u64 {a b : Int} (h : a = b) : Value.int .u64 a = Value.int .u64 b := by rw [h]
theorem drop_cons (s : ByteArray) (k : Nat) (h : k < s.size) : s.data.toList.drop k = s[k] :: s.data.toList.drop (k + 1) := by
  rw [List.drop_eq_getElem_cons (by simpa using h)]; rfl
theorem rword_any (s : ByteArray) (h1 : 1 ≤ s.size) (h2 : s.size ≤ 8) (w : World) :
    Calls Tryd.prog 27 #[.string s] w fun e w' => e = .returned (.tuple #[.int .u64 (wordv s.data.toList : Nat), .int .i64 0]) ∧ w = w' := by
  go_enter Tryd.func27, Tryd.ntmps27
  go_wp2
  go_loop [4, 5] (fun v i => ∃ k : Nat, k ≤ s.size ∧ i = .int .i64 ((k : Int) - 1) ∧ v = .int .u64 (wordv (s.data.toList.drop k) : Nat)) (fun _ i => (intOf i + 1).toNat)
  case atStart => exact ⟨s.size, Nat.le_refl _, rfl, by rw [List.drop_eq_nil_of_le (by have : s.data.toList.length = s.size := rfl; omega)]; rfl⟩
  case round =>
    obtain ⟨k, hk, rfl, rfl⟩ := hrel
    rcases Nat.eq_zero_or_pos k with h0 | h0
    · subst h0
      go_wp2
      go_ret2
      exact ⟨ret_u64i64 (by first | (with_reducible rfl) | rw [List.drop_zero]), rfl⟩
    · obtain ⟨j, rfl⟩ : ∃ j, k = j + 1 := ⟨k - 1, by omega⟩
      have hd := drop_cons s j (by omega)
      have hw : wordv (s.data.toList.drop j) = s[j].toNat + 256 * wordv (s.data.toList.drop (j + 1)) := by rw [hd]; rfl
      have hb := s[j].toNat_lt
      have hl : wordv (s.data.toList.drop (j + 1)) < 72057594037927936 := by
        have a1 := wordv_lt (s.data.toList.drop (j + 1))
        have a2 : (s.data.toList.drop (j + 1)).length ≤ 7 := by rw [List.length_drop]; have : s.data.toList.length = s.size := rfl; omega
        have a3 : 256 ^ (s.data.toList.drop (j + 1)).length ≤ 256 ^ 7 := Nat.pow_le_pow_right (by omega) a2
        omega
      have e0 : ((j + 1 : Nat) : Int) - 1 = (j : Int) := by omega
      rw [e0]
      clear e0 hd
      generalize wordv (s.data.toList.drop (j + 1)) = q at *
      have HW := Lib.hid hw
      clear hw
      go_wp2
      go_round
      case rel => exact ⟨j, by omega, rfl, by rw [HW.out]; refine val_u64 ?_; first | omega | (rw [wrap_nat s[j].toNat (by omega)]; omega)⟩
      case measure => first | (simp [intOf]; done) | (simp [intOf]; omega)
end Go.Proofs.YtjkagpmepokihaaDoor
