/- Contract of layer 6's Large. -/
import Derived.Test.YtnblnmehfhkfmaaGreatDoorEb
import Derived.Test.YtnblnmehfhkfmaaGreatDoorVl
namespace Go.Proofs.YtnblnmehfhkfmaaGreatDoor
open Go.ChangeShapes Go.WideShapes Go.ChangeAt Go.RowKit
set_option linter.unusedVariables false
def Large6P (w : World) (n : Nat) (r : Ending) (w' : World) : Prop := (∃ b, r = .returned (.bool b) ∧ (b = false → n ≤ 2000)) ∧ Below w.heap.size w w'
theorem l6_true {w w' : World} {n : Nat} (hB : Below w.heap.size w w') : Large6P w n (.returned (.bool true)) w' := ⟨⟨_, rfl, fun h => by cases h⟩, hB⟩
theorem l6_any {w w' : World} {n : Nat} {b : Bool} (hn : n ≤ 2000) (hB : Below w.heap.size w w') : Large6P w n (.returned (.bool b)) w' := ⟨⟨_, rfl, fun _ => hn⟩, hB⟩
set_option maxRecDepth 100000 in
set_option maxHeartbeats 2000000 in
theorem large6 (v : Value) (T : List (Tk × Int)) (w : World) (h : RowZ w v T) (hl : T.length ≤ 140737488355328) :
    Calls Tryz.prog 15 #[v] w (Large6P w T.length) := by
  obtain ⟨m1, c1, rfl, hc1⟩ := h.row
  have HC := Lib.hid hc1
  obtain ⟨N, hN⟩ : ∃ N, T.length = N := ⟨_, rfl⟩
  rw [hN] at hl ⊢
  have HN := Lib.hid hN
  clear hc1 h hN
  go_enter Tryz.func15, Tryz.ntmps15
  go_wp2
  go_loopw [3, 4] (fun nv iv wr => ∃ (k : Nat) (nn : Int), k ≤ N ∧ k ≤ 3000 ∧ nv = .int .i64 nn ∧ iv = .int .i64 (k : Int) ∧ Below w.heap.size w wr) (fun _ iv _ => N - (intOf iv).toNat)
  case atStart => exact ⟨0, 0, Nat.zero_le _, by omega, rfl, rfl, Below.refl _ _⟩
  case round =>
    obtain ⟨k, nn, hk, hk3, rfl, rfl, hB⟩ := hrel
    by_cases hlt : k < N
    · by_cases hlt3 : k < 3000
      · have hlt' : k < T.length := by rw [HN.out]; exact hlt
        obtain ⟨b1, o1, rfl, hl1, p0, p1, p2, p3⟩ := HC.out k hlt'
        have q1 := stay hB p1
        have hl2 : b1 < wr.heap.size := Nat.lt_of_lt_of_le hl1 hB.size
        generalize str T[k].1.t = sv at q1
        clear p0 p1 p2 p3
        go_wp2
        go_roundw
        case rel => exact ⟨k + 1, _, by omega, by omega, rfl, by go_num, hB⟩
        case measure => simp [intOf]; omega
      · have h2 : (2000 : Int) < (N : Int) := by omega
        go_wp2
        go_ret
        exact l6_true hB
    · obtain rfl : k = N := by omega
      by_cases h2 : (2000 : Int) < (k : Int)
      · go_wp2
        go_ret
        exact l6_true hB
      · have h3 : k ≤ 2000 := by omega
        have H3 := Lib.hid h3
        go_wp2
        go_ret
        exact l6_any H3.out hB
end Go.Proofs.YtnblnmehfhkfmaaGreatDoor
