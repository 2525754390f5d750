/- Contracts of the tables of package lex: isWord, longestSign. -/
import Derived.Test.YtnblnmehfhkfmaaGreatDoorVc
import Derived.Outline
import Derived.Deep.QuietTactic
import Derived.BigQuiet
import Derived.Lib.Hide
import Derived.Deep.MidRow
namespace Go.Proofs.YtnblnmehfhkfmaaGreatDoor
open Go.ChangeShapes Go.WideShapes Go.ChangeAt Go.RowKit
set_option linter.unusedVariables false
/-- An element of an array by value, its cells whatever. -/
theorem run_ix (ty n : Nat) (cs : List Value) (k : Nat) (s : ByteArray) (W : World) (hu : Tryz.prog.underlying ty = some (.array n 9)) (hk : k < n) (h : cs[k]? = some (.string s)) :
    (Instr.index ty (.agg cs.toArray) (.int .i64 (k : Int))).run Tryz.prog W = .ok (.string s) W := by
  have hs : (sizeOf 9).run Tryz.prog W = .ok 1 W := by kernel_rfl
  have hi : (0 : Int) ≤ (k : Int) ∧ (k : Int) < (n : Int) := by omega
  simp [Instr.index, run_underlying hu, asIntOf, hi, go_sem, hs, h]
  omega
theorem str_inj {s t : ByteArray} (h : s.data.toList = t.data.toList) : s = t := by rw [← str_of s, ← str_of t, h]
theorem str_eq_beq (s t : ByteArray) : (s.data.toList == t.data.toList) = decide (s = t) := by
  rw [Bool.eq_iff_iff]
  simp only [beq_iff_eq, decide_eq_true_eq]
  exact ⟨str_inj, fun h => by rw [h]⟩
theorem mem_getD {l : List (List UInt8)} {x : List UInt8} (n : Nat) (hn : l.length = n) : l.contains x = true ↔ ∃ j, j < n ∧ l.getD j [] = x := by
  subst hn
  rw [List.contains_iff_mem]
  constructor
  · intro h
    obtain ⟨j, hj, e⟩ := List.getElem_of_mem h
    exact ⟨j, hj, by rw [List.getD_eq_getElem?_getD, List.getElem?_eq_getElem hj]; exact e⟩
  · rintro ⟨j, hj, e⟩
    rw [← e, List.getD_eq_getElem?_getD, List.getElem?_eq_getElem hj]
    exact List.getElem_mem hj
theorem tab_list (V : Nat → ByteArray) (n : Nat) : ∃ cs : List Value, cs.length = n ∧ (∀ k < n, cs[k]? = some (.string (V k))) ∧ ∀ j v, cs[j]? = some v → j < n ∧ v = .string (V j) :=
  ⟨(List.range n).map fun j => .string (V j), by simp, fun k hk => by simp [hk], fun j v h => by
    rw [List.getElem?_map, Option.map_eq_some_iff] at h
    obtain ⟨i, hi, rfl⟩ := h
    obtain ⟨hj, rfl⟩ := List.getElem?_eq_some_iff.1 hi
    simp at hj ⊢
    exact hj⟩
theorem isWd_iff (l : List UInt8) : isWd l = true ↔ ∃ j, j < 16 ∧ wordsL.getD j [] = l := mem_getD 16 rfl
set_option maxRecDepth 100000 in
theorem isWord_any (s : ByteArray) (w : World) (hT : WordsOk w) : Calls Tryz.prog 65 #[.string s] w fun e w' => e = .returned (.bool (isWd s.data.toList)) ∧ w = w' := by
  obtain ⟨V, hVd, hV⟩ : ∃ V : Nat → ByteArray, (∀ j, V j = str (wordsL.getD j [])) ∧ ∀ j < 16, w.cell? ⟨3, j, none⟩ = some (.string (V j)) := ⟨fun j => str (wordsL.getD j []), fun _ => rfl, hT⟩
  have HD := Lib.hid hVd
  clear hVd hT
  obtain ⟨cs, hl, hg, hc⟩ := tab_list V 16
  have hR0 : w.rangeAt 3 0 cs := fun j v h => by obtain ⟨h1, rfl⟩ := hc j v h; rw [Nat.zero_add]; exact hV j h1
  have hI0 : (Tryz.prog.info? 121).map (·.size) = some cs.length := by rw [hl]; kernel_rfl
  have HR0 := Lib.hid hR0
  have HI0 := Lib.hid hI0
  clear hR0 hI0
  have HG := Lib.hid hg
  clear hV hg hc hl
  go_enter Tryz.func65, Tryz.ntmps65
  go_wp2_with (with_reducible refine wpList_load_mid rfl _ _ rfl 3 0 rfl cs _ HR0.out Tryz.underlying121 rfl HI0.out ?_)
  go_loop [6] (fun i => ∃ k : Nat, k ≤ 16 ∧ i = .int .i64 k ∧ ∀ j, j < k → V j ≠ s) (fun i => 16 - (intOf i).toNat)
  case atStart => exact ⟨0, by omega, rfl, fun j hj => by omega⟩
  case round =>
    obtain ⟨k, hk, rfl, hno⟩ := hrel
    have HN := Lib.hid hno
    clear hno
    by_cases hlt : k < 16
    · have hx := fun W => run_ix 121 16 cs k (V k) W Tryz.underlying121 hlt (HG.out k hlt)
      by_cases he : V k = s
      · subst he
        go_wp2
        go_ret
        refine ⟨congrArg (fun b => Ending.returned (Value.bool b)) (Eq.symm ?_), rfl⟩
        rw [isWd_iff]
        exact ⟨k, hlt, by rw [HD.out k, str_list]⟩
      · have hne : ((V k).toList == s.toList) = false := by
          rw [ByteArray.toList_eq, ByteArray.toList_eq, str_eq_beq]; simpa using he
        go_wp2
        go_round
        case rel => exact ⟨k + 1, by omega, by go_num, fun j hj => by
          by_cases e : j = k
          · rw [e]; exact he
          · exact HN.out j (by omega)⟩
        case measure => simp [intOf]; omega
    · obtain rfl : k = 16 := by omega
      go_wp2
      go_ret
      refine ⟨congrArg (fun b => Ending.returned (Value.bool b)) (Eq.symm ?_), rfl⟩
      rw [Bool.eq_false_iff]
      intro h
      rw [isWd_iff] at h
      obtain ⟨j, hj, e⟩ := h
      exact HN.out j hj (by rw [HD.out j, e, str_of])
theorem lsF_step (k : Nat) (hk : k < 25) (b l : List UInt8) : lsF (signsL.drop k) b l = lsF (signsL.drop (k + 1)) (if b.length < (signsL.getD k []).length ∧ (signsL.getD k []).isPrefixOf l = true then signsL.getD k [] else b) l := by
  have hk' : k < signsL.length := hk
  have e : signsL.drop k = signsL.getD k [] :: signsL.drop (k + 1) := by
    rw [List.drop_eq_getElem_cons hk', List.getD_eq_getElem?_getD, List.getElem?_eq_getElem hk']; rfl
  rw [e, lsF]
theorem ls_start (l : List UInt8) : lsF (signsL.drop 0) (⟨#[]⟩ : ByteArray).data.toList l = ls l := by rw [List.drop_zero]; unfold ls; rfl
theorem ls_stop (b l : List UInt8) : lsF (signsL.drop 25) b l = b := by rw [show signsL.drop 25 = [] by decide, lsF]
set_option maxRecDepth 100000 in
theorem longestSign_any (s : ByteArray) (w : World) (hT : SignsOk w) : Calls Tryz.prog 53 #[.string s] w fun e w' => e = .returned (.string (str (ls s.data.toList))) ∧ w = w' := by
  obtain ⟨V, hVd, hV⟩ : ∃ V : Nat → ByteArray, (∀ j, V j = str (signsL.getD j [])) ∧ ∀ j < 25, w.cell? ⟨2, j, none⟩ = some (.string (V j)) := ⟨fun j => str (signsL.getD j []), fun _ => rfl, hT⟩
  have HD := Lib.hid hVd
  clear hVd hT
  obtain ⟨cs, hl, hg, hc⟩ := tab_list V 25
  have hR0 : w.rangeAt 2 0 cs := fun j v h => by obtain ⟨h1, rfl⟩ := hc j v h; rw [Nat.zero_add]; exact hV j h1
  have hI0 : (Tryz.prog.info? 118).map (·.size) = some cs.length := by rw [hl]; kernel_rfl
  have HR0 := Lib.hid hR0
  have HI0 := Lib.hid hI0
  clear hR0 hI0
  have HG := Lib.hid hg
  clear hV hg hc hl
  obtain ⟨R, hR⟩ : ∃ R, R = ls s.data.toList := ⟨_, rfl⟩
  rw [← hR]
  have HR := Lib.hid hR
  clear hR
  go_enter Tryz.func53, Tryz.ntmps53
  go_wp2_with (with_reducible refine wpList_load_mid rfl _ _ rfl 2 0 rfl cs _ HR0.out Tryz.underlying118 rfl HI0.out ?_)
  go_loop [3, 7] (fun g i => ∃ (k : Nat) (B : ByteArray), k ≤ 25 ∧ i = .int .i64 k ∧ g = .string B ∧ Hid (lsF (signsL.drop k) B.data.toList s.data.toList = R)) (fun _ i => 25 - (intOf i).toNat)
  case atStart => exact ⟨0, ⟨#[]⟩, by omega, rfl, rfl, Lib.hid (by rw [HR.out]; exact ls_start _)⟩
  case round =>
    obtain ⟨k, B, hk, rfl, rfl, hB⟩ := hrel
    by_cases hlt : k < 25
    · have hx := fun W => run_ix 118 25 cs k (V k) W Tryz.underlying118 hlt (HG.out k hlt)
      have HS := Lib.hid (lsF_step k hlt B.data.toList s.data.toList)
      have e1 : (V k).data.toList = signsL.getD k [] := by rw [HD.out k, str_list]
      have HE := Lib.hid e1
      have hz : (signsL.getD k []).length = (V k).size := by rw [← e1]; rfl
      have HZ := Lib.hid hz
      clear e1 hz
      have hp := Lstrings_HasPrefix s (V k)
      by_cases hl : B.size < (V k).size
      · cases hq : (signsL.getD k []).isPrefixOf s.data.toList
        · rw [show Lib.hasPrefix s.data.toList (V k).data.toList = false by rw [HE.out]; exact hq] at hp
          have HQ := Lib.hid hq
          clear hq
          go_wp2_with (go_at_call 69; ((with_reducible refine (hp _).mono ?_); rintro e w1 ⟨rfl, rfl⟩))
          go_round
          case rel => exact ⟨k + 1, B, by omega, by go_num, rfl, Lib.hid (by rw [← hB.out, HS.out, if_neg (fun h => by rw [HQ.out] at h; simp at h)])⟩
          case measure => simp [intOf]; omega
        · rw [show Lib.hasPrefix s.data.toList (V k).data.toList = true by rw [HE.out]; exact hq] at hp
          have HQ := Lib.hid hq
          clear hq
          go_wp2_with (go_at_call 69; ((with_reducible refine (hp _).mono ?_); rintro e w1 ⟨rfl, rfl⟩))
          go_round
          case rel => exact ⟨k + 1, V k, by omega, by go_num, rfl, Lib.hid (by rw [← hB.out, HS.out, if_pos ⟨by rw [HZ.out]; exact hl, HQ.out⟩, HE.out])⟩
          case measure => simp [intOf]; omega
      · go_wp2_with (go_at_call 69; ((with_reducible refine (hp _).mono ?_); rintro e w1 ⟨rfl, rfl⟩))
        go_round
        case rel => exact ⟨k + 1, B, by omega, by go_num, rfl, Lib.hid (by rw [← hB.out, HS.out, if_neg (fun h => hl (by rw [← HZ.out]; exact h.1))])⟩
        case measure => simp [intOf]; omega
    · obtain rfl : k = 25 := by omega
      have e : B = str R := by have h := hB.out; rw [ls_stop] at h; rw [← h, str_of]
      subst e
      go_wp2
      go_ret
      exact ⟨rfl, rfl⟩
end Go.Proofs.YtnblnmehfhkfmaaGreatDoor
