/- Contracts of what a statement asks of lex: Same, Bare, Told. -/
import Derived.Test.YtnblnmehfhkfmaaGreatDoorVk
namespace Go.Proofs.YtnblnmehfhkfmaaGreatDoor
open Go.ChangeShapes Go.WideShapes Go.ChangeAt Go.RowKit
set_option linter.unusedVariables false
theorem same_nil (w : World) : Calls Tryz.prog 13 #[.slice none 0 0, .slice none 0 0] w fun e w' => e = .returned (.bool true) ∧ w' = w := by
  go_enter Tryz.func13, Tryz.ntmps13
  go_wp2
  refine wp_loop_rounds 1 ?_
  rw [rounds_succ]
  go_wp2
  go_ret
  exact ⟨rfl, rfl⟩
set_option maxRecDepth 100000 in
set_option maxHeartbeats 1000000 in
theorem same_yes (v1 v2 : Value) (T : List (Tk × Nat)) (w : World) (h1 : RowAt w v1 T) (h2 : RowAt w v2 T) (hn : T.length ≤ 100000) :
    Calls Tryz.prog 13 #[v1, v2] w fun e w' => e = .returned (.bool true) ∧ ∃ n, w' = w.drewN n := by
  obtain ⟨b1, o1, n1, c1, rfl, hn1, hl1, hc1⟩ := h1.row
  obtain ⟨b2, o2, n2, c2, rfl, hn2, hl2, hc2⟩ := h2.row
  have HC1 := Lib.hid hc1
  have HC2 := Lib.hid hc2
  obtain ⟨N, hN⟩ : ∃ N, T.length = N := ⟨_, rfl⟩
  rw [hN] at hn hn1 hn2
  subst hn1 hn2
  have HN := Lib.hid hN
  clear hc1 hc2 h1 h2 hN
  go_enter Tryz.func13, Tryz.ntmps13
  go_wp2
  go_loopw [5] (fun i wr => ∃ k : Nat, k ≤ n2 ∧ i = .int .i64 k ∧ ∃ n, wr = w.drewN n) (fun i _ => n2 - (intOf i).toNat)
  case atStart => exact ⟨0, Nat.zero_le _, rfl, 0, rfl⟩
  case round =>
    obtain ⟨k, hk, rfl, n, rfl⟩ := hrel
    by_cases hlt : k < n2
    · have hlt' : k < T.length := by rw [HN.out]; exact hlt
      obtain ⟨p0, p1, p2, p3⟩ := HC1.out k hlt'
      obtain ⟨q0, q1, q2, q3⟩ := HC2.out k hlt'
      generalize T[k] = x at p0 p1 p2 p3 q0 q1 q2 q3
      go_wp2
      go_quiet (fail)
      go_wp2
      go_roundw
      case rel => exact ⟨k + 1, by omega, by go_num, _, rfl⟩
      case measure => simp [intOf]; omega
    · obtain rfl : k = n2 := by omega
      go_wp2
      go_ret
      exact ⟨rfl, n, rfl⟩
theorem aB {w w1 : World} (h : Below w.heap.size w w1) (o : Obj) : Below w.heap.size w (w1.alloc o) := h.alloc h.size o
theorem aB2 {w w1 : World} (h : Below w.heap.size w w1) (o : Obj) : Below w.heap.size w (w1.alloc o) := h.alloc h.size o
theorem told_ok (w : World) : Calls Tryz.prog 19 #[.nilIface, .agg #[.int .i64 0, .int .i64 0]] w fun e w' => e = .returned (.bool true) ∧ Below w.heap.size w w' := by
  go_enter Tryz.func19, Tryz.ntmps19
  go_wp2
  go_ret
  exact ⟨rfl, (Below.refl _ _).alloc (Nat.le_refl _) _⟩
set_option maxRecDepth 100000 in
set_option maxHeartbeats 2000000 in
theorem told_er (a e0 : Int) (he : e0 ≠ 0) (w : World) (hT : Tb w) : Calls Tryz.prog 19 #[.iface 48 (.agg #[.int .i64 a, .int .i64 e0]), .agg #[.int .i64 a, .int .i64 e0]] w fun e w' => e = .returned (.bool true) ∧ Below w.heap.size w w' := by
  have he' : (e0 == 0) = false := by simpa using he
  have hI := is_any a e0
  have ht : ∀ o, (((w.alloc (.cells #[.int .i64 a, .int .i64 e0] 48)).alloc (.cells #[.int .i64 0, .int .i64 0] 48)).cell? ⟨w.heap.size + 1, o, none⟩) = (#[.int .i64 0, .int .i64 0] : Array Value)[o]? := fun o => by have := new_cell (w.alloc (.cells #[.int .i64 a, .int .i64 e0] 48)) #[.int .i64 0, .int .i64 0] 48 o; rw [World.size_alloc] at this; exact this
  have hAs := as_Ft a e0 (w.heap.size + 1) (.int .i64 0) (.int .i64 0) ((w.alloc (.cells #[.int .i64 a, .int .i64 e0] 48)).alloc (.cells #[.int .i64 0, .int .i64 0] 48)) ((hT.alloc _).alloc _).ety (ht 0) (by simp) (ht 1) (by simp)
  clear ht
  go_enter Tryz.func19, Tryz.ntmps19
  go_wp2_with (first | (go_at_call 29; ((with_reducible refine hAs.mono ?_); rintro e w2 ⟨rfl, rfl⟩)) | (go_at_call 30; ((with_reducible refine (hI _).mono ?_); rintro e w3 ⟨rfl, hb3⟩)))
  go_ret
  exact ⟨rfl, (aB (aB (aB (aB (aB (aB (Below.refl _ _) _) _) _) _) _) _).trans (hb3.mono (by simp; omega))⟩
theorem tr {w w1 w2 : World} (h : Below w.heap.size w w1) (h2 : Below w1.heap.size w1 w2) : Below w.heap.size w w2 := h.trans (h2.mono h.size)
theorem bwn {w w1 : World} (h : Below w.heap.size w w1) (n : Nat) : Below w.heap.size w (w1.drewN n) := bdN h n
end Go.Proofs.YtnblnmehfhkfmaaGreatDoor
