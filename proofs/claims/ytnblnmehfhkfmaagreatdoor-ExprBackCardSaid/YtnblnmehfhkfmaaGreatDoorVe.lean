/- Contracts of the small functions of package lex: which bytes belong together, pieces, tokens. -/
import Derived.Test.YtnblnmehfhkfmaaGreatDoorVd
namespace Go.Proofs.YtnblnmehfhkfmaaGreatDoor
open Go.ChangeShapes Go.WideShapes Go.ChangeAt Go.RowKit
set_option linter.unusedVariables false
theorem ret_b {a b : Bool} (h : a = b) : Ending.returned (.bool a) = .returned (.bool b) := by rw [h]
theorem blank_any (c : UInt8) (w : World) : Calls Tryz.prog 47 #[.int .u8 (c.toNat : Int)] w fun e w' => e = .returned (.bool (isB c)) ∧ w = w' := by
  go_enter Tryz.func47, Tryz.ntmps47
  go_wp2
  all_goals
    go_ret
    refine ⟨ret_b ?_, rfl⟩
    unfold isB
    rw [Bool.eq_iff_iff]
    simp
    omega
theorem letter_any (c : UInt8) (w : World) : Calls Tryz.prog 48 #[.int .u8 (c.toNat : Int)] w fun e w' => e = .returned (.bool (isL c)) ∧ w = w' := by
  go_enter Tryz.func48, Tryz.ntmps48
  go_wp2
  all_goals
    go_ret
    refine ⟨ret_b ?_, rfl⟩
    unfold isL
    rw [Bool.eq_iff_iff]
    simp
    omega
theorem digit_any (c : UInt8) (w : World) : Calls Tryz.prog 51 #[.int .u8 (c.toNat : Int)] w fun e w' => e = .returned (.bool (isD c)) ∧ w = w' := by
  go_enter Tryz.func51, Tryz.ntmps51
  go_wp2
  all_goals
    go_ret
    refine ⟨ret_b ?_, rfl⟩
    unfold isD
    rw [Bool.eq_iff_iff]
    simp
    omega
theorem ld_any (c : UInt8) (w : World) : Calls Tryz.prog 49 #[.int .u8 (c.toNat : Int)] w fun e w' => e = .returned (.bool (isLD c)) ∧ w = w' := by
  have h1 := letter_any c
  have h2 := digit_any c
  have e : isLD c = (isL c || isD c) := rfl
  generalize isLD c = x at *
  generalize isL c = y at *
  generalize isD c = z at *
  subst e
  go_enter Tryz.func49, Tryz.ntmps49
  cases y
  all_goals
    go_wp2_with (first | (go_at_call 48; ((with_reducible refine (h1 _).mono ?_); rintro e w1 ⟨rfl, rfl⟩)) | (go_at_call 51; ((with_reducible refine (h2 _).mono ?_); rintro e w1 ⟨rfl, rfl⟩)))
    go_ret
    exact ⟨rfl, rfl⟩
/-! ### Pieces -/
theorem cut_run (s : ByteArray) (a k : Nat) (h : a + k ≤ s.size) (W : World) :
    (Instr.slice 9 (.string s) (some (.int .i64 (a : Int))) (some (.int .i64 ((a : Int) + (k : Int)))) none).run Tryz.prog W = .ok (.string (s.extract a (a + k))) W := by
  rw [run_slice_string (P := Tryz.prog) W 9 s .i64 .i64 (a : Int) ((a : Int) + (k : Int)) Tryz.underlying9 (by omega) (by omega) (by omega)]
  have e1 : ((a : Int)).toNat = a := by omega
  have e2 : ((a : Int) + (k : Int)).toNat = a + k := by omega
  rw [e1, e2]
def spanL (p : UInt8 → Bool) (s : ByteArray) (a : Nat) : Nat := ((s.data.toList.drop a).takeWhile p).length
theorem byte_at (s : ByteArray) (k : Nat) (h : k < s.size) : s.data.toList[k]? = some (s[k]'h) := by
  rw [Array.getElem?_toList]
  exact Array.getElem?_eq_getElem h
theorem drop_cons (s : ByteArray) (k : Nat) (h : k < s.size) : s.data.toList.drop k = s[k]'h :: s.data.toList.drop (k + 1) := by
  have h' : k < s.data.toList.length := by simpa using h
  rw [List.drop_eq_getElem_cons h']
  congr 1
theorem span_on (p : UInt8 → Bool) (s : ByteArray) (a k : Nat) (h : a + k < s.size) (hk : ∀ j, j < k → ∀ h : a + j < s.size, p (s[a + j]'h) = true) (hp : p (s[a + k]'h) = false) : spanL p s a = k := by
  unfold spanL
  induction k generalizing a with
  | zero => rw [drop_cons s a (by omega), List.takeWhile_cons]; simp only [Nat.add_zero] at hp; rw [hp]; rfl
  | succ k ih =>
    have h0 := hk 0 (by omega) (by omega)
    simp only [Nat.add_zero] at h0
    rw [drop_cons s a (by omega), List.takeWhile_cons, h0]
    simp only [if_true, List.length_cons]
    rw [ih (a + 1) (by omega) (fun j hj hh => by have := hk (j + 1) (by omega) (by omega); simpa [show a + (j + 1) = a + 1 + j by omega] using this) (by simpa [show a + (k + 1) = a + 1 + k by omega] using hp)]
theorem span_all (p : UInt8 → Bool) (s : ByteArray) (a : Nat) (ha : a ≤ s.size) (hk : ∀ j, ∀ h : a + j < s.size, p (s[a + j]'h) = true) : spanL p s a = s.size - a := by
  unfold spanL
  have : (s.data.toList.drop a).takeWhile p = s.data.toList.drop a := by
    have hall : ∀ x ∈ s.data.toList.drop a, p x = true := by
      intro x hx
      obtain ⟨i, hi, rfl⟩ := List.getElem_of_mem hx
      rw [List.getElem_drop]
      simp at hi
      have := hk i (by have : s.data.size = s.size := rfl; omega)
      exact this
    have := takeWhile_ext p _ [] hall (by simp)
    rwa [List.append_nil] at this
  rw [this]
  simp
theorem ext_list (s : ByteArray) (a b : Nat) (h : b ≤ s.size) : (s.extract a b).data.toList = (s.data.toList.drop a).take (b - a) := by
  rw [ByteArray.data_extract, Array.toList_extract, List.extract_eq_take_drop]
theorem take_span (p : UInt8 → Bool) (l : List UInt8) : l.take (l.takeWhile p).length = l.takeWhile p := by
  obtain ⟨r, h, _⟩ := takeWhile_pre p l
  generalize l.takeWhile p = m at h ⊢
  rw [h, List.take_left]
set_option maxRecDepth 100000 in
theorem tog_blank (s : ByteArray) (a ga gs : Nat) (w : World) (hs : s.size ≤ 16384) (ha : a ≤ s.size) (ca : w.cell? ⟨ga, 0, none⟩ = some (.int .i64 (a : Int))) (cs : w.cell? ⟨gs, 0, none⟩ = some (.string s)) :
    Calls Tryz.prog 46 #[.func (.func 47) #[] #[], .pointer (some ⟨ga, 0, none⟩), .pointer (some ⟨gs, 0, none⟩)] w fun e w' => e = .returned (.string (s.extract a (a + spanL isB s a))) ∧ w = w' := by
  have hga := World.block_lt_of_cell? w _ ca
  have hgs := World.block_lt_of_cell? w _ cs
  simp only at hga hgs
  go_enter Tryz.func46, Tryz.ntmps46
  go_wp2
  go_loop [5] (fun e => ∃ k : Nat, a + k ≤ s.size ∧ e = .int .i64 ((a + k : Nat) : Int) ∧ ∀ j, j < k → ∀ h : a + j < s.size, isB (s[a + j]'h) = true) (fun e => s.size - (intOf e).toNat)
  case atStart => exact ⟨0, by omega, rfl, fun j hj => by omega⟩
  case round =>
    obtain ⟨k, hk, rfl, hall⟩ := hrel
    have HA := Lib.hid hall
    clear hall
    by_cases hlt : a + k < s.size
    · have hB := blank_any (s[a + k]'hlt)
      have hcut := cut_run s a k hk
      cases hp : isB (s[a + k]'hlt)
      · rw [hp] at hB
        have HP := Lib.hid hp
        clear hp
        go_wp2_with (go_at_call 47; ((with_reducible refine (hB _).mono ?_); rintro e w1 ⟨rfl, rfl⟩))
        go_ret
        exact ⟨by rw [span_on isB s a k hlt HA.out HP.out]; rfl, rfl⟩
      · rw [hp] at hB
        have HP := Lib.hid hp
        clear hp
        go_wp2_with (go_at_call 47; ((with_reducible refine (hB _).mono ?_); rintro e w1 ⟨rfl, rfl⟩))
        go_round
        case rel => exact ⟨k + 1, by omega, by go_num, fun j hj h => by
          by_cases e : j = k
          · subst e; exact HP.out
          · exact HA.out j (by omega) h⟩
        case measure => simp [intOf]; omega
    · obtain ⟨k, rfl⟩ : ∃ m, m = k := ⟨_, rfl⟩
      have hk' : a + k = s.size := by omega
      have HE := Lib.hid (span_all isB s a ha (fun j h => HA.out j (by omega) h))
      have HK := Lib.hid hk'
      have hcut := cut_run s a k hk
      clear hk'
      go_wp2
      go_ret
      exact ⟨by rw [HE.out, show a + (s.size - a) = a + k by have := HK.out; omega]; rfl, rfl⟩
set_option maxRecDepth 100000 in
theorem tog_ld (s : ByteArray) (a ga gs : Nat) (w : World) (hs : s.size ≤ 16384) (ha : a ≤ s.size) (ca : w.cell? ⟨ga, 0, none⟩ = some (.int .i64 (a : Int))) (cs : w.cell? ⟨gs, 0, none⟩ = some (.string s)) :
    Calls Tryz.prog 46 #[.func (.func 49) #[] #[], .pointer (some ⟨ga, 0, none⟩), .pointer (some ⟨gs, 0, none⟩)] w fun e w' => e = .returned (.string (s.extract a (a + spanL isLD s a))) ∧ w = w' := by
  have hga := World.block_lt_of_cell? w _ ca
  have hgs := World.block_lt_of_cell? w _ cs
  simp only at hga hgs
  go_enter Tryz.func46, Tryz.ntmps46
  go_wp2
  go_loop [5] (fun e => ∃ k : Nat, a + k ≤ s.size ∧ e = .int .i64 ((a + k : Nat) : Int) ∧ ∀ j, j < k → ∀ h : a + j < s.size, isLD (s[a + j]'h) = true) (fun e => s.size - (intOf e).toNat)
  case atStart => exact ⟨0, by omega, rfl, fun j hj => by omega⟩
  case round =>
    obtain ⟨k, hk, rfl, hall⟩ := hrel
    have HA := Lib.hid hall
    clear hall
    by_cases hlt : a + k < s.size
    · have hB := ld_any (s[a + k]'hlt)
      have hcut := cut_run s a k hk
      cases hp : isLD (s[a + k]'hlt)
      · rw [hp] at hB
        have HP := Lib.hid hp
        clear hp
        go_wp2_with (go_at_call 49; ((with_reducible refine (hB _).mono ?_); rintro e w1 ⟨rfl, rfl⟩))
        go_ret
        exact ⟨by rw [span_on isLD s a k hlt HA.out HP.out]; rfl, rfl⟩
      · rw [hp] at hB
        have HP := Lib.hid hp
        clear hp
        go_wp2_with (go_at_call 49; ((with_reducible refine (hB _).mono ?_); rintro e w1 ⟨rfl, rfl⟩))
        go_round
        case rel => exact ⟨k + 1, by omega, by go_num, fun j hj h => by
          by_cases e : j = k
          · subst e; exact HP.out
          · exact HA.out j (by omega) h⟩
        case measure => simp [intOf]; omega
    · obtain ⟨k, rfl⟩ : ∃ m, m = k := ⟨_, rfl⟩
      have hk' : a + k = s.size := by omega
      have HE := Lib.hid (span_all isLD s a ha (fun j h => HA.out j (by omega) h))
      have HK := Lib.hid hk'
      have hcut := cut_run s a k hk
      clear hk'
      go_wp2
      go_ret
      exact ⟨by rw [HE.out, show a + (s.size - a) = a + k by have := HK.out; omega]; rfl, rfl⟩
set_option maxRecDepth 100000 in
theorem tog_digit (s : ByteArray) (a ga gs : Nat) (w : World) (hs : s.size ≤ 16384) (ha : a ≤ s.size) (ca : w.cell? ⟨ga, 0, none⟩ = some (.int .i64 (a : Int))) (cs : w.cell? ⟨gs, 0, none⟩ = some (.string s)) :
    Calls Tryz.prog 46 #[.func (.func 51) #[] #[], .pointer (some ⟨ga, 0, none⟩), .pointer (some ⟨gs, 0, none⟩)] w fun e w' => e = .returned (.string (s.extract a (a + spanL isD s a))) ∧ w = w' := by
  have hga := World.block_lt_of_cell? w _ ca
  have hgs := World.block_lt_of_cell? w _ cs
  simp only at hga hgs
  go_enter Tryz.func46, Tryz.ntmps46
  go_wp2
  go_loop [5] (fun e => ∃ k : Nat, a + k ≤ s.size ∧ e = .int .i64 ((a + k : Nat) : Int) ∧ ∀ j, j < k → ∀ h : a + j < s.size, isD (s[a + j]'h) = true) (fun e => s.size - (intOf e).toNat)
  case atStart => exact ⟨0, by omega, rfl, fun j hj => by omega⟩
  case round =>
    obtain ⟨k, hk, rfl, hall⟩ := hrel
    have HA := Lib.hid hall
    clear hall
    by_cases hlt : a + k < s.size
    · have hB := digit_any (s[a + k]'hlt)
      have hcut := cut_run s a k hk
      cases hp : isD (s[a + k]'hlt)
      · rw [hp] at hB
        have HP := Lib.hid hp
        clear hp
        go_wp2_with (go_at_call 51; ((with_reducible refine (hB _).mono ?_); rintro e w1 ⟨rfl, rfl⟩))
        go_ret
        exact ⟨by rw [span_on isD s a k hlt HA.out HP.out]; rfl, rfl⟩
      · rw [hp] at hB
        have HP := Lib.hid hp
        clear hp
        go_wp2_with (go_at_call 51; ((with_reducible refine (hB _).mono ?_); rintro e w1 ⟨rfl, rfl⟩))
        go_round
        case rel => exact ⟨k + 1, by omega, by go_num, fun j hj h => by
          by_cases e : j = k
          · subst e; exact HP.out
          · exact HA.out j (by omega) h⟩
        case measure => simp [intOf]; omega
    · obtain ⟨k, rfl⟩ : ∃ m, m = k := ⟨_, rfl⟩
      have hk' : a + k = s.size := by omega
      have HE := Lib.hid (span_all isD s a ha (fun j h => HA.out j (by omega) h))
      have HK := Lib.hid hk'
      have hcut := cut_run s a k hk
      clear hk'
      go_wp2
      go_ret
      exact ⟨by rw [HE.out, show a + (s.size - a) = a + k by have := HK.out; omega]; rfl, rfl⟩
end Go.Proofs.YtnblnmehfhkfmaaGreatDoor
