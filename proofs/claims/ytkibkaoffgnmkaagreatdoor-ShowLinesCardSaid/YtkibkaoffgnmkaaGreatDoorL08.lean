/- Contract of lex.Named; the chapter's examples: what each statement asks ahead of all else. -/
import Derived.Test.YtkibkaoffgnmkaaGreatDoorL07
namespace Go.Proofs.YtkibkaoffgnmkaaGreatDoor
set_option linter.unusedVariables false
set_option linter.unusedSimpArgs false
set_option maxRecDepth 100000
set_option maxHeartbeats 200000000
open Go.ChangeShapes Go.WideShapes Go.ChangeAt Go.RowKit
theorem str_eq_iff (l : List UInt8) (s : ByteArray) : ((str l).toList == s.toList) = decide (l = s.data.toList) := by
 rw [ByteArray.toList_eq, ByteArray.toList_eq, str_list, Bool.eq_iff_iff]; simp
theorem nmd_any (s : ByteArray) (w : World) (hT : Tb w) : Calls Tryz.prog 56 #[.string s] w fun e w' => e = .returned (.bool (nmdB s.data.toList)) ∧ Below w.heap.size w w' := by
 cases hl : lexT s.data.toList with
 | er e0 a =>
  have hC := cut_er s e0 a w hT hl
  have hn : nmdB s.data.toList = false := by unfold nmdB; rw [hl]
  rw [hn]
  clear hn hl
  go_enter Tryz.func56, Tryz.ntmps56
  go_wp2_with (go_at_call 35; ((with_reducible refine hC.mono ?_); rintro e w1 ⟨rfl, hb⟩))
  go_ret
  exact ⟨rfl, hb⟩
 | ok T =>
  have hC := cut_ok s T w hT hl
  have hne : T ≠ [] := by
   unfold lexT at hl
   split at hl
   ·cases hl
   ·exact lex_ne hl
  obtain ⟨⟨⟨xk, xt, xn⟩, xa⟩, T', rfl⟩ := List.exists_cons_of_ne_nil hne
  have hn : nmdB s.data.toList = (decide (xk = 1) && decide (xt = s.data.toList)) := by unfold nmdB; rw [hl]
  rw [hn]
  clear hn hl
  have hC' : Calls Tryz.prog 35 #[.string s] w fun e w' => (∃ (b o n c : Nat), e = .returned (.tuple #[.slice (some ⟨b, o, none⟩) n c, .nilIface]) ∧ 0 < n ∧ b < w'.heap.size ∧ w'.cell? ⟨b, o, none⟩ = some (.int .u8 (xk : Int)) ∧ w'.cell? ⟨b, o + 1, none⟩ = some (.string (str xt))) ∧ Below w.heap.size w w' :=
   hC.mono fun e w' h => by
    obtain ⟨⟨v, he, hv⟩, hb⟩ := h
    obtain ⟨b, o, n, c, rfl, hn, hlt, hc⟩ := (hv.at (by simp)).row
    obtain ⟨c0, c1, _, _⟩ := hc 0 (by simp)
    exact ⟨⟨b, o, n, c, he, by rw [hn]; simp, hlt, by simpa using c0, by simpa using c1⟩, hb⟩
  clear hC
  have hte := str_eq_iff xt s
  go_enter Tryz.func56, Tryz.ntmps56
  by_cases hk : xk = 1
  ·subst hk
   by_cases ht : xt = s.data.toList
   ·rw [decide_eq_true ht] at hte
    have HTE := Lib.hid ht
    clear ht
    go_wp2_with (go_at_call 35; ((with_reducible refine hC'.mono ?_); rintro e w1 ⟨⟨b, o, n, c, rfl, hn0, hlt, c0, c1⟩, hb⟩))
    go_ret
    exact ⟨by rw [decide_eq_true HTE.out]; rfl, hb⟩
   ·rw [decide_eq_false ht] at hte
    go_wp2_with (go_at_call 35; ((with_reducible refine hC'.mono ?_); rintro e w1 ⟨⟨b, o, n, c, rfl, hn0, hlt, c0, c1⟩, hb⟩))
    go_ret
    exact ⟨rfl, hb⟩
  ·have hk' : ((xk : Int) == 1) = false := by simp only [beq_eq_false_iff_ne]; omega
   clear hte
   go_wp2_with (go_at_call 35; ((with_reducible refine hC'.mono ?_); rintro e w1 ⟨⟨b, o, n, c, rfl, hn0, hlt, c0, c1⟩, hb⟩))
   go_ret
   exact ⟨by first | rfl | (rw [decide_eq_false hk]; rfl), hb⟩
def exT : List (Tk × Nat) := [(⟨1, [97, 49], 0⟩, 0), (⟨4, [60, 60], 0⟩, 2), (⟨3, [], 2⟩, 4), (⟨4, [59], 0⟩, 5), (⟨5, [], 0⟩, 6)]
end Go.Proofs.YtkibkaoffgnmkaaGreatDoor
