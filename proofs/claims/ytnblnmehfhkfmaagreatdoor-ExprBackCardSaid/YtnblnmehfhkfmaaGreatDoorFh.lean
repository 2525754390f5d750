/- An expression that came in as an argument. -/
import Derived.Test.YtnblnmehfhkfmaaGreatDoorFa
import Derived.Test.YtnblnmehfhkfmaaGreatDoorEf
import Derived.SevenTiedAt
import Derived.ChangeMaps5
namespace Go.Proofs.YtnblnmehfhkfmaaGreatDoor
open Go.ChangeShapes Go.WideShapes Go.ChangeAt Go.RowKit
set_option linter.unusedVariables false
set_option maxRecDepth 100000 in
theorem open_expr {H : Type} {enc : TypeId × Value → H} {W : World} {sp : Nat → Bool} {held : Bool} {r : Reach} {b0 : Nat} {v : Value} {d : DataW H} {p : List MemPlace} (hv : Value.okWide Tryz.prog W r b0 25 v) (h : DataW.Trod enc Tryz.prog W 0 sp held 25 v d p)
    (hw : ∀ m ∈ DataW.weights Tryz.prog 25 d, m ≤ reachBytes) : ∃ e, IsB W v e ∧ e.sb 140737488355328 := by
  obtain ⟨cs, rfl, hsz⟩ := okWide_struct Tryz.underlying25 hv
  obtain ⟨fuel, hf⟩ := h
  obtain ⟨k, n, s, o, ma, len, cap, n', y, hs, hcs, ho, hn', e4, hwy⟩ := xp_cells hf
  obtain rfl : cs = #[.int .u8 (k : Int), .int .u64 (n : Int), .string s, .int .u8 (o : Int), .slice ma len cap] := by
    obtain ⟨l⟩ := cs
    simpa [Value.cells] using hcs
  obtain ⟨l, hl, hle, hsb, hk⟩ := open_kids n' n' (Nat.le_refl _) ma len cap y e4 (fun m hm => hw m (hwy m hm))
  subst hl
  refine ⟨.mk k n s.data.toList o l, ?_, sb_mk (by show s.data.toList.length ≤ _; rw [Array.length_toList]; exact hs hw) hsb⟩
  have := IsE.mk (G := fun b => b < W.heap.size) (w := W) (k := k) (n := n) (s := s.data.toList) (cap := cap) ho hle hk
  rw [str_of] at this
  exact this
end Go.Proofs.YtnblnmehfhkfmaaGreatDoor
