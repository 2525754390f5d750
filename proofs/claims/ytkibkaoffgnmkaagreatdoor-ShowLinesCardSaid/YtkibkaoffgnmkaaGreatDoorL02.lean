/- Contracts of the tables of package lex: isWord, longestSign. -/
import Derived.Test.YtkibkaoffgnmkaaGreatDoorL01
import Derived.Outline
import Derived.Deep.QuietTactic
import Derived.BigQuiet
import Derived.Lib.Hide
import Derived.Deep.MidRow
namespace Go.Proofs.YtkibkaoffgnmkaaGreatDoor
set_option linter.unusedVariables false
set_option linter.unusedSimpArgs false
set_option maxRecDepth 100000
set_option maxHeartbeats 200000000
open Go.ChangeShapes Go.WideShapes Go.ChangeAt Go.RowKit
theorem run_ix (ty n : Nat) (cs : List Value) (k : Nat) (s : ByteArray) (W : World) (hu : Tryz.prog.underlying ty = some (.array n 9)) (hk : k < n) (h : cs[k]? = some (.string s)) :
  (Instr.index ty (.agg cs.toArray) (.int .i64 (k : Int))).run Tryz.prog W = .ok (.string s) W := by
 have hs : (sizeOf 9).run Tryz.prog W = .ok 1 W := by kernel_rfl
 have hi : (0 : Int) ≤ (k : Int) ∧ (k : Int) < (n : Int) := by omega
 simp [Instr.index, run_underlying hu, asIntOf, hi, go_sem, hs, h]
 omega
theorem str_inj {s t : ByteArray} (h : s.data.toList = t.data.toList) : s = t := by rw [← str_of s, ← str_of t, h]
theorem str_eq_beq (s t : ByteArray) : (s.data.toList == t.data.toList) = decide (s = t) := by
 rw [Bool.eq_iff_iff]
 simp only [beq_iff_eq, decide_eq_true_eq]
 exact ⟨str_inj, fun h => by rw [h]⟩
theorem mem_getD {l : List (List UInt8)} {x : List UInt8} (n : Nat) (hn : l.length = n) : l.contains x = true ↔ ∃ j, j < n ∧ l.getD j [] = x := by
 subst hn
 rw [List.contains_iff_mem]
 constructor
 ·intro h
  obtain ⟨j, hj, e⟩ := List.getElem_of_mem h
  exact ⟨j, hj, by rw [List.getD_eq_getElem?_getD, List.getElem?_eq_getElem hj]; exact e⟩
 ·rintro ⟨j, hj, e⟩
  rw [← e, List.getD_eq_getElem?_getD, List.getElem?_eq_getElem hj]
  exact List.getElem_mem hj
theorem tab_list (V : Nat → ByteArray) (n : Nat) : ∃ cs : List Value, cs.length = n ∧ (∀ k < n, cs[k]? = some (.string (V k))) ∧ ∀ j v, cs[j]? = some v → j < n ∧ v = .string (V j) :=
 ⟨(List.range n).map fun j => .string (V j), by simp, fun k hk => by simp [hk], fun j v h => by
  rw [List.getElem?_map, Option.map_eq_some_iff] at h
  obtain ⟨i, hi, rfl⟩ := h
  obtain ⟨hj, rfl⟩ := List.getElem?_eq_some_iff.1 hi
  simp at hj ⊢
  exact hj⟩
theorem isWd_iff (l : List UInt8) : isWd l = true ↔ ∃ j, j < 16 ∧ wordsL.getD j [] = l := mem_getD 16 rfl
theorem isWord_any (s : ByteArray) (w : World) (hT : WordsOk w) : Calls Tryz.prog 131 #[.string s] w fun e w' => e = .returned (.bool (isWd s.data.toList)) ∧ w = w' := by
 obtain ⟨V, hVd, hV⟩ : ∃ V : Nat → ByteArray, (∀ j, V j = str (wordsL.getD j [])) ∧ ∀ j < 16, w.cell? ⟨4, j, none⟩ = some (.string (V j)) := ⟨fun j => str (wordsL.getD j []), fun _ => rfl, hT⟩
 have HD := Lib.hid hVd
 clear hVd hT
 obtain ⟨cs, hl, hg, hc⟩ := tab_list V 16
 have hR0 : w.rangeAt 4 0 cs := fun j v h => by obtain ⟨h1, rfl⟩ := hc j v h; rw [Nat.zero_add]; exact hV j h1
 have hI0 : (Tryz.prog.info? 216).map (·.size) = some cs.length := by rw [hl]; kernel_rfl
 have HR0 := Lib.hid hR0
 have HI0 := Lib.hid hI0
 clear hR0 hI0
 have HG := Lib.hid hg
 clear hV hg hc hl
 go_enter Tryz.func131, Tryz.ntmps131
 go_wp2_with (with_reducible refine wpList_load_mid rfl _ _ rfl 4 0 rfl cs _ HR0.out Tryz.underlying216 rfl HI0.out ?_)
 go_loop [6] (fun i => ∃ k : Nat, k ≤ 16 ∧ i = .int .i64 k ∧ ∀ j, j < k → V j ≠ s) (fun i => 16 - (intOf i).toNat)
 case atStart => exact ⟨0, by omega, rfl, fun j hj => by omega⟩
 case round =>
  obtain ⟨k, hk, rfl, hno⟩ := hrel
  have HN := Lib.hid hno
  clear hno
  by_cases hlt : k < 16
  ·have hx := fun W => run_ix 216 16 cs k (V k) W Tryz.underlying216 hlt (HG.out k hlt)
   by_cases he : V k = s
   ·subst he
    go_wp2
    go_ret
    refine ⟨congrArg (fun b => Ending.returned (Value.bool b)) (Eq.symm ?_), rfl⟩
    rw [isWd_iff]
    exact ⟨k, hlt, by rw [HD.out k, str_list]⟩
   ·have hne : ((V k).toList == s.toList) = false := by
     rw [ByteArray.toList_eq, ByteArray.toList_eq, str_eq_beq]; simpa using he
    go_wp2
    go_round
    case rel => exact ⟨k + 1, by omega, by go_num, fun j hj => by
     by_cases e : j = k
     ·rw [e]; exact he
     ·exact HN.out j (by omega)⟩
    case measure => simp [intOf]; omega
  ·obtain rfl : k = 16 := by omega
   go_wp2
   go_ret
   refine ⟨congrArg (fun b => Ending.returned (Value.bool b)) (Eq.symm ?_), rfl⟩
   rw [Bool.eq_false_iff]
   intro h
   rw [isWd_iff] at h
   obtain ⟨j, hj, e⟩ := h
   exact HN.out j hj (by rw [HD.out j, e, str_of])
theorem lsF_step (k : Nat) (hk : k < 25) (b l : List UInt8) : lsF (signsL.drop k) b l = lsF (signsL.drop (k + 1)) (if b.length < (signsL.getD k []).length ∧ (signsL.getD k []).isPrefixOf l = true then signsL.getD k [] else b) l := by
 have hk' : k < signsL.length := hk
 have e : signsL.drop k = signsL.getD k [] :: signsL.drop (k + 1) := by
  rw [List.drop_eq_getElem_cons hk', List.getD_eq_getElem?_getD, List.getElem?_eq_getElem hk']; rfl
 rw [e, lsF]
theorem ls_start (l : List UInt8) : lsF (signsL.drop 0) (⟨#[]⟩ : ByteArray).data.toList l = ls l := by rw [List.drop_zero]; unfold ls; rfl
theorem ls_stop (b l : List UInt8) : lsF (signsL.drop 25) b l = b := by rw [show signsL.drop 25 = [] by decide, lsF]
theorem longestSign_any (s : ByteArray) (w : World) (hT : SignsOk w) : Calls Tryz.prog 95 #[.string s] w fun e w' => e = .returned (.string (str (ls s.data.toList))) ∧ w = w' := by
 obtain ⟨V, hVd, hV⟩ : ∃ V : Nat → ByteArray, (∀ j, V j = str (signsL.getD j [])) ∧ ∀ j < 25, w.cell? ⟨2, j, none⟩ = some (.string (V j)) := ⟨fun j => str (signsL.getD j []), fun _ => rfl, hT⟩
 have HD := Lib.hid hVd
 clear hVd hT
 obtain ⟨cs, hl, hg, hc⟩ := tab_list V 25
 have hR0 : w.rangeAt 2 0 cs := fun j v h => by obtain ⟨h1, rfl⟩ := hc j v h; rw [Nat.zero_add]; exact hV j h1
 have hI0 : (Tryz.prog.info? 180).map (·.size) = some cs.length := by rw [hl]; kernel_rfl
 have HR0 := Lib.hid hR0
 have HI0 := Lib.hid hI0
 clear hR0 hI0
 have HG := Lib.hid hg
 clear hV hg hc hl
 obtain ⟨R, hR⟩ : ∃ R, R = ls s.data.toList := ⟨_, rfl⟩
 rw [← hR]
 have HR := Lib.hid hR
 clear hR
 go_enter Tryz.func95, Tryz.ntmps95
 go_wp2_with (with_reducible refine wpList_load_mid rfl _ _ rfl 2 0 rfl cs _ HR0.out Tryz.underlying180 rfl HI0.out ?_)
 go_loop [3, 7] (fun g i => ∃ (k : Nat) (B : ByteArray), k ≤ 25 ∧ i = .int .i64 k ∧ g = .string B ∧ Hid (lsF (signsL.drop k) B.data.toList s.data.toList = R)) (fun _ i => 25 - (intOf i).toNat)
 case atStart => exact ⟨0, ⟨#[]⟩, by omega, rfl, rfl, Lib.hid (by rw [HR.out]; exact ls_start _)⟩
 case round =>
  obtain ⟨k, B, hk, rfl, rfl, hB⟩ := hrel
  by_cases hlt : k < 25
  ·have hx := fun W => run_ix 180 25 cs k (V k) W Tryz.underlying180 hlt (HG.out k hlt)
   have HS := Lib.hid (lsF_step k hlt B.data.toList s.data.toList)
   have e1 : (V k).data.toList = signsL.getD k [] := by rw [HD.out k, str_list]
   have HE := Lib.hid e1
   have hz : (signsL.getD k []).length = (V k).size := by rw [← e1]; rfl
   have HZ := Lib.hid hz
   clear e1 hz
   have hp := Lstrings_HasPrefix s (V k)
   by_cases hl : B.size < (V k).size
   ·cases hq : (signsL.getD k []).isPrefixOf s.data.toList
    ·rw [show Lib.hasPrefix s.data.toList (V k).data.toList = false by rw [HE.out]; exact hq] at hp
     have HQ := Lib.hid hq
     clear hq
     go_wp2_with (go_at_call 42; ((with_reducible refine (hp _).mono ?_); rintro e w1 ⟨rfl, rfl⟩))
     go_round
     case rel => exact ⟨k + 1, B, by omega, by go_num, rfl, Lib.hid (by rw [← hB.out, HS.out, if_neg (fun h => by rw [HQ.out] at h; simp at h)])⟩
     case measure => simp [intOf]; omega
    ·rw [show Lib.hasPrefix s.data.toList (V k).data.toList = true by rw [HE.out]; exact hq] at hp
     have HQ := Lib.hid hq
     clear hq
     go_wp2_with (go_at_call 42; ((with_reducible refine (hp _).mono ?_); rintro e w1 ⟨rfl, rfl⟩))
     go_round
     case rel => exact ⟨k + 1, V k, by omega, by go_num, rfl, Lib.hid (by rw [← hB.out, HS.out, if_pos ⟨by rw [HZ.out]; exact hl, HQ.out⟩, HE.out])⟩
     case measure => simp [intOf]; omega
   ·go_wp2_with (go_at_call 42; ((with_reducible refine (hp _).mono ?_); rintro e w1 ⟨rfl, rfl⟩))
    go_round
    case rel => exact ⟨k + 1, B, by omega, by go_num, rfl, Lib.hid (by rw [← hB.out, HS.out, if_neg (fun h => hl (by rw [← HZ.out]; exact h.1))])⟩
    case measure => simp [intOf]; omega
  ·obtain rfl : k = 25 := by omega
   have e : B = str R := by have h := hB.out; rw [ls_stop] at h; rw [← h, str_of]
   subst e
   go_wp2
   go_ret
   exact ⟨rfl, rfl⟩
theorem ret_b {a b : Bool} (h : a = b) : Ending.returned (.bool a) = .returned (.bool b) := by rw [h]
theorem blank_any (c : UInt8) (w : World) : Calls Tryz.prog 89 #[.int .u8 (c.toNat : Int)] w fun e w' => e = .returned (.bool (isB c)) ∧ w = w' := by
 go_enter Tryz.func89, Tryz.ntmps89
 go_wp2
 all_goals
  go_ret
  refine ⟨ret_b ?_, rfl⟩
  unfold isB
  rw [Bool.eq_iff_iff]
  simp
  omega
theorem letter_any (c : UInt8) (w : World) : Calls Tryz.prog 90 #[.int .u8 (c.toNat : Int)] w fun e w' => e = .returned (.bool (isL c)) ∧ w = w' := by
 go_enter Tryz.func90, Tryz.ntmps90
 go_wp2
 all_goals
  go_ret
  refine ⟨ret_b ?_, rfl⟩
  unfold isL
  rw [Bool.eq_iff_iff]
  simp
  omega
theorem digit_any (c : UInt8) (w : World) : Calls Tryz.prog 93 #[.int .u8 (c.toNat : Int)] w fun e w' => e = .returned (.bool (isD c)) ∧ w = w' := by
 go_enter Tryz.func93, Tryz.ntmps93
 go_wp2
 all_goals
  go_ret
  refine ⟨ret_b ?_, rfl⟩
  unfold isD
  rw [Bool.eq_iff_iff]
  simp
  omega
theorem ld_any (c : UInt8) (w : World) : Calls Tryz.prog 91 #[.int .u8 (c.toNat : Int)] w fun e w' => e = .returned (.bool (isLD c)) ∧ w = w' := by
 have h1 := letter_any c
 have h2 := digit_any c
 have e : isLD c = (isL c || isD c) := rfl
 generalize isLD c = x at *
 generalize isL c = y at *
 generalize isD c = z at *
 subst e
 go_enter Tryz.func91, Tryz.ntmps91
 cases y
 all_goals
  go_wp2_with (first | (go_at_call 90; ((with_reducible refine (h1 _).mono ?_); rintro e w1 ⟨rfl, rfl⟩)) | (go_at_call 93; ((with_reducible refine (h2 _).mono ?_); rintro e w1 ⟨rfl, rfl⟩)))
  go_ret
  exact ⟨rfl, rfl⟩
theorem cut_run (s : ByteArray) (a k : Nat) (h : a + k ≤ s.size) (W : World) :
  (Instr.slice 9 (.string s) (some (.int .i64 (a : Int))) (some (.int .i64 ((a : Int) + (k : Int)))) none).run Tryz.prog W = .ok (.string (s.extract a (a + k))) W := by
 rw [run_slice_string (P := Tryz.prog) W 9 s .i64 .i64 (a : Int) ((a : Int) + (k : Int)) Tryz.underlying9 (by omega) (by omega) (by omega)]
 have e1 : ((a : Int)).toNat = a := by omega
 have e2 : ((a : Int) + (k : Int)).toNat = a + k := by omega
 rw [e1, e2]
def spanL (p : UInt8 → Bool) (s : ByteArray) (a : Nat) : Nat := ((s.data.toList.drop a).takeWhile p).length
theorem byte_at (s : ByteArray) (k : Nat) (h : k < s.size) : s.data.toList[k]? = some (s[k]'h) := by
 rw [Array.getElem?_toList]
 exact Array.getElem?_eq_getElem h
theorem drop_cons (s : ByteArray) (k : Nat) (h : k < s.size) : s.data.toList.drop k = s[k]'h :: s.data.toList.drop (k + 1) := by
 have h' : k < s.data.toList.length := by simpa using h
 rw [List.drop_eq_getElem_cons h']
 congr 1
theorem span_on (p : UInt8 → Bool) (s : ByteArray) (a k : Nat) (h : a + k < s.size) (hk : ∀ j, j < k → ∀ h : a + j < s.size, p (s[a + j]'h) = true) (hp : p (s[a + k]'h) = false) : spanL p s a = k := by
 unfold spanL
 induction k generalizing a with
 | zero => rw [drop_cons s a (by omega), List.takeWhile_cons]; simp only [Nat.add_zero] at hp; rw [hp]; rfl
 | succ k ih =>
  have h0 := hk 0 (by omega) (by omega)
  simp only [Nat.add_zero] at h0
  rw [drop_cons s a (by omega), List.takeWhile_cons, h0]
  simp only [if_true, List.length_cons]
  rw [ih (a + 1) (by omega) (fun j hj hh => by have := hk (j + 1) (by omega) (by omega); simpa [show a + (j + 1) = a + 1 + j by omega] using this) (by simpa [show a + (k + 1) = a + 1 + k by omega] using hp)]
theorem span_all (p : UInt8 → Bool) (s : ByteArray) (a : Nat) (ha : a ≤ s.size) (hk : ∀ j, ∀ h : a + j < s.size, p (s[a + j]'h) = true) : spanL p s a = s.size - a := by
 unfold spanL
 have : (s.data.toList.drop a).takeWhile p = s.data.toList.drop a := by
  have hall : ∀ x ∈ s.data.toList.drop a, p x = true := by
   intro x hx
   obtain ⟨i, hi, rfl⟩ := List.getElem_of_mem hx
   rw [List.getElem_drop]
   simp at hi
   have := hk i (by have : s.data.size = s.size := rfl; omega)
   exact this
  have := takeWhile_ext p _ [] hall (by simp)
  rwa [List.append_nil] at this
 rw [this]
 simp
theorem ext_list (s : ByteArray) (a b : Nat) (h : b ≤ s.size) : (s.extract a b).data.toList = (s.data.toList.drop a).take (b - a) := by
 rw [ByteArray.data_extract, Array.toList_extract, List.extract_eq_take_drop]
theorem take_span (p : UInt8 → Bool) (l : List UInt8) : l.take (l.takeWhile p).length = l.takeWhile p := by
 obtain ⟨r, h, _⟩ := takeWhile_pre p l
 generalize l.takeWhile p = m at h ⊢
 rw [h, List.take_left]
theorem tog_blank (s : ByteArray) (a ga gs : Nat) (w : World) (hs : s.size ≤ 16384) (ha : a ≤ s.size) (ca : w.cell? ⟨ga, 0, none⟩ = some (.int .i64 (a : Int))) (cs : w.cell? ⟨gs, 0, none⟩ = some (.string s)) :
  Calls Tryz.prog 88 #[.func (.func 89) #[] #[], .pointer (some ⟨ga, 0, none⟩), .pointer (some ⟨gs, 0, none⟩)] w fun e w' => e = .returned (.string (s.extract a (a + spanL isB s a))) ∧ w = w' := by
 have hga := World.block_lt_of_cell? w _ ca
 have hgs := World.block_lt_of_cell? w _ cs
 simp only at hga hgs
 go_enter Tryz.func88, Tryz.ntmps88
 go_wp2
 go_loop [5] (fun e => ∃ k : Nat, a + k ≤ s.size ∧ e = .int .i64 ((a + k : Nat) : Int) ∧ ∀ j, j < k → ∀ h : a + j < s.size, isB (s[a + j]'h) = true) (fun e => s.size - (intOf e).toNat)
 case atStart => exact ⟨0, by omega, rfl, fun j hj => by omega⟩
 case round =>
  obtain ⟨k, hk, rfl, hall⟩ := hrel
  have HA := Lib.hid hall
  clear hall
  by_cases hlt : a + k < s.size
  ·have hB := blank_any (s[a + k]'hlt)
   have hcut := cut_run s a k hk
   cases hp : isB (s[a + k]'hlt)
   ·rw [hp] at hB
    have HP := Lib.hid hp
    clear hp
    go_wp2_with (go_at_call 89; ((with_reducible refine (hB _).mono ?_); rintro e w1 ⟨rfl, rfl⟩))
    go_ret
    exact ⟨by rw [span_on isB s a k hlt HA.out HP.out]; rfl, rfl⟩
   ·rw [hp] at hB
    have HP := Lib.hid hp
    clear hp
    go_wp2_with (go_at_call 89; ((with_reducible refine (hB _).mono ?_); rintro e w1 ⟨rfl, rfl⟩))
    go_round
    case rel => exact ⟨k + 1, by omega, by go_num, fun j hj h => by
     by_cases e : j = k
     ·subst e; exact HP.out
     ·exact HA.out j (by omega) h⟩
    case measure => simp [intOf]; omega
  ·obtain ⟨k, rfl⟩ : ∃ m, m = k := ⟨_, rfl⟩
   have hk' : a + k = s.size := by omega
   have HE := Lib.hid (span_all isB s a ha (fun j h => HA.out j (by omega) h))
   have HK := Lib.hid hk'
   have hcut := cut_run s a k hk
   clear hk'
   go_wp2
   go_ret
   exact ⟨by rw [HE.out, show a + (s.size - a) = a + k by have := HK.out; omega]; rfl, rfl⟩
theorem tog_ld (s : ByteArray) (a ga gs : Nat) (w : World) (hs : s.size ≤ 16384) (ha : a ≤ s.size) (ca : w.cell? ⟨ga, 0, none⟩ = some (.int .i64 (a : Int))) (cs : w.cell? ⟨gs, 0, none⟩ = some (.string s)) :
  Calls Tryz.prog 88 #[.func (.func 91) #[] #[], .pointer (some ⟨ga, 0, none⟩), .pointer (some ⟨gs, 0, none⟩)] w fun e w' => e = .returned (.string (s.extract a (a + spanL isLD s a))) ∧ w = w' := by
 have hga := World.block_lt_of_cell? w _ ca
 have hgs := World.block_lt_of_cell? w _ cs
 simp only at hga hgs
 go_enter Tryz.func88, Tryz.ntmps88
 go_wp2
 go_loop [5] (fun e => ∃ k : Nat, a + k ≤ s.size ∧ e = .int .i64 ((a + k : Nat) : Int) ∧ ∀ j, j < k → ∀ h : a + j < s.size, isLD (s[a + j]'h) = true) (fun e => s.size - (intOf e).toNat)
 case atStart => exact ⟨0, by omega, rfl, fun j hj => by omega⟩
 case round =>
  obtain ⟨k, hk, rfl, hall⟩ := hrel
  have HA := Lib.hid hall
  clear hall
  by_cases hlt : a + k < s.size
  ·have hB := ld_any (s[a + k]'hlt)
   have hcut := cut_run s a k hk
   cases hp : isLD (s[a + k]'hlt)
   ·rw [hp] at hB
    have HP := Lib.hid hp
    clear hp
    go_wp2_with (go_at_call 91; ((with_reducible refine (hB _).mono ?_); rintro e w1 ⟨rfl, rfl⟩))
    go_ret
    exact ⟨by rw [span_on isLD s a k hlt HA.out HP.out]; rfl, rfl⟩
   ·rw [hp] at hB
    have HP := Lib.hid hp
    clear hp
    go_wp2_with (go_at_call 91; ((with_reducible refine (hB _).mono ?_); rintro e w1 ⟨rfl, rfl⟩))
    go_round
    case rel => exact ⟨k + 1, by omega, by go_num, fun j hj h => by
     by_cases e : j = k
     ·subst e; exact HP.out
     ·exact HA.out j (by omega) h⟩
    case measure => simp [intOf]; omega
  ·obtain ⟨k, rfl⟩ : ∃ m, m = k := ⟨_, rfl⟩
   have hk' : a + k = s.size := by omega
   have HE := Lib.hid (span_all isLD s a ha (fun j h => HA.out j (by omega) h))
   have HK := Lib.hid hk'
   have hcut := cut_run s a k hk
   clear hk'
   go_wp2
   go_ret
   exact ⟨by rw [HE.out, show a + (s.size - a) = a + k by have := HK.out; omega]; rfl, rfl⟩
theorem tog_digit (s : ByteArray) (a ga gs : Nat) (w : World) (hs : s.size ≤ 16384) (ha : a ≤ s.size) (ca : w.cell? ⟨ga, 0, none⟩ = some (.int .i64 (a : Int))) (cs : w.cell? ⟨gs, 0, none⟩ = some (.string s)) :
  Calls Tryz.prog 88 #[.func (.func 93) #[] #[], .pointer (some ⟨ga, 0, none⟩), .pointer (some ⟨gs, 0, none⟩)] w fun e w' => e = .returned (.string (s.extract a (a + spanL isD s a))) ∧ w = w' := by
 have hga := World.block_lt_of_cell? w _ ca
 have hgs := World.block_lt_of_cell? w _ cs
 simp only at hga hgs
 go_enter Tryz.func88, Tryz.ntmps88
 go_wp2
 go_loop [5] (fun e => ∃ k : Nat, a + k ≤ s.size ∧ e = .int .i64 ((a + k : Nat) : Int) ∧ ∀ j, j < k → ∀ h : a + j < s.size, isD (s[a + j]'h) = true) (fun e => s.size - (intOf e).toNat)
 case atStart => exact ⟨0, by omega, rfl, fun j hj => by omega⟩
 case round =>
  obtain ⟨k, hk, rfl, hall⟩ := hrel
  have HA := Lib.hid hall
  clear hall
  by_cases hlt : a + k < s.size
  ·have hB := digit_any (s[a + k]'hlt)
   have hcut := cut_run s a k hk
   cases hp : isD (s[a + k]'hlt)
   ·rw [hp] at hB
    have HP := Lib.hid hp
    clear hp
    go_wp2_with (go_at_call 93; ((with_reducible refine (hB _).mono ?_); rintro e w1 ⟨rfl, rfl⟩))
    go_ret
    exact ⟨by rw [span_on isD s a k hlt HA.out HP.out]; rfl, rfl⟩
   ·rw [hp] at hB
    have HP := Lib.hid hp
    clear hp
    go_wp2_with (go_at_call 93; ((with_reducible refine (hB _).mono ?_); rintro e w1 ⟨rfl, rfl⟩))
    go_round
    case rel => exact ⟨k + 1, by omega, by go_num, fun j hj h => by
     by_cases e : j = k
     ·subst e; exact HP.out
     ·exact HA.out j (by omega) h⟩
    case measure => simp [intOf]; omega
  ·obtain ⟨k, rfl⟩ : ∃ m, m = k := ⟨_, rfl⟩
   have hk' : a + k = s.size := by omega
   have HE := Lib.hid (span_all isD s a ha (fun j h => HA.out j (by omega) h))
   have HK := Lib.hid hk'
   have hcut := cut_run s a k hk
   clear hk'
   go_wp2
   go_ret
   exact ⟨by rw [HE.out, show a + (s.size - a) = a + k by have := HK.out; omega]; rfl, rfl⟩
end Go.Proofs.YtkibkaoffgnmkaaGreatDoor
