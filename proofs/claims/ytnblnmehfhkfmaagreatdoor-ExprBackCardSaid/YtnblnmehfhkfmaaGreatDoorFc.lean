/- Contracts of the document's Same and Bare of layer 6, over rows of tokens wherever they lie. -/
import Derived.Test.YtnblnmehfhkfmaaGreatDoorEb
namespace Go.Proofs.YtnblnmehfhkfmaaGreatDoor
open Go.ChangeShapes Go.WideShapes Go.ChangeAt Go.RowKit
set_option linter.unusedVariables false
set_option maxRecDepth 100000 in
set_option maxHeartbeats 2000000 in
theorem sameZ_yes (v1 v2 : Value) (T : List (Tk × Int)) (w : World) (h1 : RowZ w v1 T) (h2 : RowZ w v2 T) (hn : T.length ≤ 100000) :
    Calls Tryz.prog 13 #[v1, v2] w fun e w' => e = .returned (.bool true) ∧ ∃ n, w' = w.drewN n := by
  obtain ⟨m1, c1, rfl, hc1⟩ := h1.row
  obtain ⟨m2, c2, rfl, hc2⟩ := h2.row
  have HC1 := Lib.hid hc1
  have HC2 := Lib.hid hc2
  obtain ⟨N, hN⟩ : ∃ N, T.length = N := ⟨_, rfl⟩
  rw [hN] at hn ⊢
  have HN := Lib.hid hN
  clear hc1 hc2 h1 h2 hN
  go_enter Tryz.func13, Tryz.ntmps13
  go_wp2
  go_loopw [5] (fun i wr => ∃ k : Nat, k ≤ N ∧ i = .int .i64 k ∧ ∃ n, wr = w.drewN n) (fun i _ => N - (intOf i).toNat)
  case atStart => exact ⟨0, Nat.zero_le _, rfl, 0, rfl⟩
  case round =>
    obtain ⟨k, hk, rfl, n, rfl⟩ := hrel
    by_cases hlt : k < N
    · have hlt' : k < T.length := by rw [HN.out]; exact hlt
      obtain ⟨b1, o1, rfl, hl1, p0, p1, p2, p3⟩ := HC1.out k hlt'
      obtain ⟨b2, o2, rfl, hl2, q0, q1, q2, q3⟩ := HC2.out k hlt'
      generalize T[k] = x at p0 p1 p2 p3 q0 q1 q2 q3
      go_wp2
      go_quiet (fail)
      go_wp2
      go_roundw
      case rel => exact ⟨k + 1, by omega, by go_num, _, rfl⟩
      case measure => simp [intOf]; omega
    · obtain rfl : k = N := by omega
      go_wp2
      go_ret
      exact ⟨rfl, n, rfl⟩
set_option maxRecDepth 100000 in
set_option maxHeartbeats 2000000 in
theorem bareZ_yes (v1 v2 : Value) (T1 T2 : List (Tk × Int)) (w : World) (h1 : RowZ w v1 T1) (h2 : RowZ w v2 T2) (hn : T1.length ≤ 100000) (hb : T2.map (·.1) = T1.map (·.1)) :
    Calls Tryz.prog 17 #[v1, v2] w fun e w' => e = .returned (.bool true) ∧ ∃ n, w' = w.drewN n := by
  obtain ⟨m1, c1, rfl, hc1⟩ := h1.row
  obtain ⟨m2, c2, rfl, hc2⟩ := h2.row
  have hlen : T2.length = T1.length := by have := congrArg List.length hb; simpa using this
  have hat : ∀ i (h1 : i < T1.length) (h2 : i < T2.length), T2[i].1 = T1[i].1 := fun i h1 h2 => by
    have e1 : (T2.map (·.1))[i]? = some T2[i].1 := by simp [h2]
    have e2 : (T1.map (·.1))[i]? = some T1[i].1 := by simp [h1]
    rw [hb, e2] at e1
    exact (Option.some.inj e1).symm
  have HC1 := Lib.hid hc1
  have HC2 := Lib.hid hc2
  have HA := Lib.hid hat
  obtain ⟨N, hN⟩ : ∃ N, T1.length = N := ⟨_, rfl⟩
  rw [hlen]
  rw [hN] at hn ⊢
  have HN := Lib.hid hN
  have HL := Lib.hid hlen
  clear hc1 hc2 h1 h2 hN hlen hb hat
  go_enter Tryz.func17, Tryz.ntmps17
  go_wp2
  go_loopw [5] (fun i wr => ∃ k : Nat, k ≤ N ∧ i = .int .i64 k ∧ ∃ n, wr = w.drewN n) (fun i _ => N - (intOf i).toNat)
  case atStart => exact ⟨0, Nat.zero_le _, rfl, 0, rfl⟩
  case round =>
    obtain ⟨k, hk, rfl, n, rfl⟩ := hrel
    by_cases hlt : k < N
    · have hlt1 : k < T1.length := by rw [HN.out]; exact hlt
      have hlt2 : k < T2.length := by rw [HL.out]; exact hlt1
      obtain ⟨b1, o1, rfl, hl1, p0, p1, p2, p3⟩ := HC1.out k hlt1
      obtain ⟨b2, o2, rfl, hl2, q0, q1, q2, q3⟩ := HC2.out k hlt2
      rw [HA.out k hlt1 hlt2] at q0 q1 q2
      generalize T1[k].1 = x at p0 p1 p2 q0 q1 q2
      clear p3 q3
      go_wp2
      go_quiet (fail)
      go_wp2
      go_roundw
      case rel => exact ⟨k + 1, by omega, by go_num, _, rfl⟩
      case measure => simp [intOf]; omega
    · obtain rfl : k = N := by omega
      go_wp2
      go_ret
      exact ⟨rfl, n, rfl⟩
end Go.Proofs.YtnblnmehfhkfmaaGreatDoor
