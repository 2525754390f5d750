/- Contract of lex.Named; the chapter's examples: what each statement asks ahead of all else. -/
import Derived.Test.YtnblnmehfhkfmaaGreatDoorVl
namespace Go.Proofs.YtnblnmehfhkfmaaGreatDoor
open Go.ChangeShapes Go.WideShapes Go.ChangeAt Go.RowKit
set_option linter.unusedVariables false
theorem str_eq_iff (l : List UInt8) (s : ByteArray) : ((str l).toList == s.toList) = decide (l = s.data.toList) := by
  rw [ByteArray.toList_eq, ByteArray.toList_eq, str_list, Bool.eq_iff_iff]; simp
set_option maxRecDepth 100000 in
theorem nmd_any (s : ByteArray) (w : World) (hT : Tb w) : Calls Tryz.prog 55 #[.string s] w fun e w' => e = .returned (.bool (nmdB s.data.toList)) ∧ Below w.heap.size w w' := by
  cases hl : lexT s.data.toList with
  | er e0 a =>
    have hC := cut_er s e0 a w hT hl
    have hn : nmdB s.data.toList = false := by unfold nmdB; rw [hl]
    rw [hn]
    clear hn hl
    go_enter Tryz.func55, Tryz.ntmps55
    go_wp2_with (go_at_call 20; ((with_reducible refine hC.mono ?_); rintro e w1 ⟨rfl, hb⟩))
    go_ret
    exact ⟨rfl, hb⟩
  | ok T =>
    have hC := cut_ok s T w hT hl
    have hne : T ≠ [] := by
      unfold lexT at hl
      split at hl
      · cases hl
      · exact lex_ne hl
    obtain ⟨⟨⟨xk, xt, xn⟩, xa⟩, T', rfl⟩ := List.exists_cons_of_ne_nil hne
    have hn : nmdB s.data.toList = (decide (xk = 1) && decide (xt = s.data.toList)) := by unfold nmdB; rw [hl]
    rw [hn]
    clear hn hl
    have hC' : Calls Tryz.prog 20 #[.string s] w fun e w' => (∃ (b o n c : Nat), e = .returned (.tuple #[.slice (some ⟨b, o, none⟩) n c, .nilIface]) ∧ 0 < n ∧ b < w'.heap.size ∧ w'.cell? ⟨b, o, none⟩ = some (.int .u8 (xk : Int)) ∧ w'.cell? ⟨b, o + 1, none⟩ = some (.string (str xt))) ∧ Below w.heap.size w w' :=
      hC.mono fun e w' h => by
        obtain ⟨⟨v, he, hv⟩, hb⟩ := h
        obtain ⟨b, o, n, c, rfl, hn, hlt, hc⟩ := (hv.at (by simp)).row
        obtain ⟨c0, c1, _, _⟩ := hc 0 (by simp)
        exact ⟨⟨b, o, n, c, he, by rw [hn]; simp, hlt, by simpa using c0, by simpa using c1⟩, hb⟩
    clear hC
    have hte := str_eq_iff xt s
    go_enter Tryz.func55, Tryz.ntmps55
    by_cases hk : xk = 1
    · subst hk
      by_cases ht : xt = s.data.toList
      · rw [decide_eq_true ht] at hte
        have HTE := Lib.hid ht
        clear ht
        go_wp2_with (go_at_call 20; ((with_reducible refine hC'.mono ?_); rintro e w1 ⟨⟨b, o, n, c, rfl, hn0, hlt, c0, c1⟩, hb⟩))
        go_ret
        exact ⟨by rw [decide_eq_true HTE.out]; rfl, hb⟩
      · rw [decide_eq_false ht] at hte
        go_wp2_with (go_at_call 20; ((with_reducible refine hC'.mono ?_); rintro e w1 ⟨⟨b, o, n, c, rfl, hn0, hlt, c0, c1⟩, hb⟩))
        go_ret
        exact ⟨rfl, hb⟩
    · have hk' : ((xk : Int) == 1) = false := by simp only [beq_eq_false_iff_ne]; omega
      clear hte
      go_wp2_with (go_at_call 20; ((with_reducible refine hC'.mono ?_); rintro e w1 ⟨⟨b, o, n, c, rfl, hn0, hlt, c0, c1⟩, hb⟩))
      go_ret
      exact ⟨by first | rfl | (rw [decide_eq_false hk]; rfl), hb⟩
/-! ### The examples -/
theorem dd1 (u : Nat) (h : u < 10) : Lib.decDigits u = [UInt8.ofNat (48 + u)] := by rw [Lib.decDigits, dif_pos h]
theorem lex_step {f : Nat} {l r m : List UInt8} {a : Nat} {t : Tk} (h : tok l = .ok t m) (hl : l = m ++ r) : lexN (f + 1) l a = (lexN f r (a + m.length)).pre (t, a) := by
  obtain ⟨hok, r', hr, hs⟩ := tok_ok h
  have : r' = r := List.append_cancel_left (hr.symm.trans hl)
  subst this
  have := lex_tok f [] (by simp) hok r' hs a
  rw [List.nil_append, ← hl] at this
  simpa using this
theorem num2 : numP [50] = .ok ⟨3, [], 2⟩ [50] := by
  have h : Lib.parseUintB 64 [50] = .ok 2 := by decide +kernel
  unfold numP
  rw [h]
  simp only
  rw [dd1 2 (by omega)]
  rfl
theorem num01 : numP [48, 49] = .er 7 := by
  have h : Lib.parseUintB 64 [48, 49] = .ok 1 := by decide +kernel
  unfold numP
  rw [h]
  simp only
  rw [dd1 1 (by omega)]
  rfl
def exT : List (Tk × Nat) := [(⟨1, [97, 49], 0⟩, 0), (⟨4, [60, 60], 0⟩, 2), (⟨3, [], 2⟩, 4), (⟨4, [59], 0⟩, 5), (⟨5, [], 0⟩, 6)]
theorem ex1 : lexT [97, 49, 60, 60, 50, 59] = .ok exT := by
  have t1 : tok [97, 49, 60, 60, 50, 59] = .ok ⟨1, [97, 49], 0⟩ [97, 49] := by kernel_rfl
  have t2 : tok [60, 60, 50, 59] = .ok ⟨4, [60, 60], 0⟩ [60, 60] := by kernel_rfl
  have t3 : tok [50, 59] = .ok ⟨3, [], 2⟩ [50] := num2
  have t4 : tok [59] = .ok ⟨4, [59], 0⟩ [59] := by kernel_rfl
  have s1 := lex_step (f := 6) (r := [60, 60, 50, 59]) (a := 0) t1 rfl
  have s2 := lex_step (f := 5) (r := [50, 59]) (a := 2) t2 rfl
  have s3 := lex_step (f := 4) (r := [59]) (a := 4) t3 rfl
  have s4 := lex_step (f := 3) (r := []) (a := 5) t4 rfl
  have s5 := lex_end 2 [] (by simp) 6
  show lexN (6 + 1) [97, 49, 60, 60, 50, 59] 0 = .ok exT
  rw [s1]
  show (lexN (5 + 1) [60, 60, 50, 59] 2).pre _ = _
  rw [s2]
  show ((lexN (4 + 1) [50, 59] 4).pre _).pre _ = _
  rw [s3]
  show (((lexN (3 + 1) [59] 5).pre _).pre _).pre _ = _
  rw [s4]
  show ((((lexN (2 + 1) [] 6).pre _).pre _).pre _).pre _ = _
  rw [s5]
  rfl
theorem ex2 : lexT [48, 49] = .er 7 0 := by
  show lexN 3 [48, 49] 0 = .er 7 0
  have e : tok [48, 49] = .er 7 := num01
  rw [lexN]
  simp only [show ([48, 49] : List UInt8).drop (bl [48, 49]) = [48, 49] by decide +kernel, e]
  rfl
theorem ex3 : lexT [97, 33] = .er 7 1 := by kernel_rfl
theorem exJ : joinT (bare exT) = [97, 49, 32, 60, 60, 32, 50, 32, 59] := by
  show Lib.join [[97, 49], [60, 60], Lib.decDigits 2, [59]] [32] = _
  rw [dd1 2 (by omega)]
  decide +kernel
theorem exN1 : nmdB [120, 95, 49] = true := by decide +kernel
theorem exN2 : nmdB [108, 101, 116] = false := by decide +kernel
end Go.Proofs.YtnblnmehfhkfmaaGreatDoor
