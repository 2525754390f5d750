/- Contracts of the document's own answers of layer 6: bytes, tables, numbers. -/
import Derived.Test.YtnblnmehfhkfmaaGreatDoorVm
import Derived.Test.YtnblnmehfhkfmaaGreatDoorVs
namespace Go.Proofs.YtnblnmehfhkfmaaGreatDoor
open Go.ChangeShapes Go.WideShapes Go.ChangeAt Go.RowKit
set_option linter.unusedVariables false
theorem rletter_any (c : UInt8) (w : World) : Calls Tryz.prog 70 #[.int .u8 (c.toNat : Int)] w fun e w' => e = .returned (.bool (isL c)) ∧ w = w' := by
  go_enter Tryz.func70, Tryz.ntmps70
  go_wp2
  all_goals
    go_ret
    refine ⟨ret_b ?_, rfl⟩
    unfold isL
    rw [Bool.eq_iff_iff]
    simp
    omega
theorem rdigit_any (c : UInt8) (w : World) : Calls Tryz.prog 72 #[.int .u8 (c.toNat : Int)] w fun e w' => e = .returned (.bool (isD c)) ∧ w = w' := by
  go_enter Tryz.func72, Tryz.ntmps72
  go_wp2
  all_goals
    go_ret
    refine ⟨ret_b ?_, rfl⟩
    unfold isD
    rw [Bool.eq_iff_iff]
    simp
    omega
/-- A row of texts. -/
def TxAt (w : World) (b : Nat) (L : List (List UInt8)) : Prop := ∀ j, j < L.length → w.cell? ⟨b, j, none⟩ = some (.string (str (L.getD j [])))
theorem txs_new (w : World) (L : List (List UInt8)) : TxAt (w.alloc (.cells ((L.map fun x => Value.string (str x)).toArray) 9)) w.heap.size L := fun j hj => by
  rw [new_cell]
  simp [List.getD_eq_getElem?_getD, hj]
theorem TxAt.of {w w' : World} {b : Nat} {L : List (List UInt8)} (h : TxAt w b L) (hb : Below w.heap.size w w') : TxAt w' b L := fun j hj => stay hb (h j hj)
def ctB (L : List (List UInt8)) (l : List UInt8) : Bool := L.contains l
set_option maxRecDepth 100000 in
theorem in_any (L : List (List UInt8)) (b : Nat) (s : ByteArray) (w : World) (hL : L.length ≤ 100) (h : TxAt w b L) (hbl : b < w.heap.size) :
    Calls Tryz.prog 80 #[.slice (some ⟨b, 0, none⟩) L.length L.length, .string s] w fun e w' => e = .returned (.bool (ctB L s.data.toList)) ∧ w = w' := by
  obtain ⟨n, hn⟩ : ∃ n, L.length = n := ⟨_, rfl⟩
  have HC := Lib.hid h
  have HN := Lib.hid hn
  rw [hn] at hL ⊢
  clear h hn
  go_enter Tryz.func80, Tryz.ntmps80
  go_wp2
  go_loop [5] (fun i => ∃ k : Nat, k ≤ n ∧ i = .int .i64 k ∧ ∀ j, j < k → L.getD j [] ≠ s.data.toList) (fun i => n - (intOf i).toNat)
  case atStart => exact ⟨0, by omega, rfl, fun j hj => by omega⟩
  case round =>
    obtain ⟨k, hk, rfl, hno⟩ := hrel
    have HO := Lib.hid hno
    clear hno
    by_cases hlt : k < n
    · have hc := HC.out k (by rw [HN.out]; exact hlt)
      have hq := str_eq_iff (L.getD k []) s
      generalize hz : str (L.getD k []) = z at hc hq
      have HZ := Lib.hid hz
      clear hz
      by_cases he : L.getD k [] = s.data.toList
      · rw [decide_eq_true he] at hq
        have HE := Lib.hid he
        clear he
        go_wp2
        go_ret
        refine ⟨ret_b (Eq.symm ?_), rfl⟩
        exact (mem_getD n HN.out).2 ⟨k, hlt, HE.out⟩
      · rw [decide_eq_false he] at hq
        go_wp2
        go_round
        case rel => exact ⟨k + 1, by omega, by go_num, fun j hj => by
          by_cases e : j = k
          · rw [e]; exact he
          · exact HO.out j (by omega)⟩
        case measure => simp [intOf]; omega
    · obtain rfl : k = n := by omega
      go_wp2
      go_ret
      refine ⟨ret_b (Eq.symm ?_), rfl⟩
      rw [Bool.eq_false_iff]
      intro h
      obtain ⟨j, hj, e⟩ := (mem_getD k HN.out).1 h
      exact HO.out j hj e
theorem words_any (w : World) : Calls Tryz.prog 81 #[] w fun e w' => e = .returned (.slice (some ⟨w.heap.size, 0, none⟩) 16 16) ∧ w' = w.alloc (.cells ((wordsL.map fun x => Value.string (str x)).toArray) 9) := by
  go_enter Tryz.func81, Tryz.ntmps81
  go_wp2
  go_ret
  exact ⟨rfl, rfl⟩
theorem word_any (s : ByteArray) (w : World) : Calls Tryz.prog 71 #[.string s] w fun e w' => e = .returned (.bool (isWd s.data.toList)) ∧ Below w.heap.size w w' := by
  have hI := in_any wordsL w.heap.size s (w.alloc (.cells ((wordsL.map fun x => Value.string (str x)).toArray) 9)) (by decide) (txs_new w wordsL) (by simp)
  have hl : wordsL.length = 16 := rfl
  rw [hl] at hI
  have hW := words_any w
  generalize hX : (w.alloc (.cells ((wordsL.map fun x => Value.string (str x)).toArray) 9)) = W1 at hI hW
  have hB : Below w.heap.size w W1 := by rw [← hX]; exact (Below.refl _ _).alloc (Nat.le_refl _) _
  clear hX hl
  have hct : ctB wordsL s.data.toList = isWd s.data.toList := rfl
  rw [hct] at hI
  go_enter Tryz.func71, Tryz.ntmps71
  go_wp2_with (first | (go_at_call 81; ((with_reducible refine hW.mono ?_); rintro e w1 ⟨rfl, rfl⟩)) | (go_at_call 80; ((with_reducible refine hI.mono ?_); rintro e w2 ⟨rfl, rfl⟩)))
  go_ret
  exact ⟨rfl, hB⟩
end Go.Proofs.YtnblnmehfhkfmaaGreatDoor
