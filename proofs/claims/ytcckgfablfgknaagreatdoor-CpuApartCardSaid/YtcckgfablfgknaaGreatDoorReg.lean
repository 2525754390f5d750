/- A region that draws its order, walked by what holds at each of its states: for whatever program. -/
import Derived.Test.YtcckgfablfgknaaGreatDoorPl1
import Derived.RegionTactic
namespace Go.Proofs.YtcckgfablfgknaaGreatDoor
open Go
set_option linter.unusedVariables false
theorem wpAny_inv {P : Program} {md : Region.Mode} {ops : Array Oper} {Q : Exit → Act → World → Prop} (Inv : Nat → Array Bool → Act → World → Prop)
    (h : ∀ f L a w, Inv f L a w → wpAny P md ops Q f L a w ∨ ∃ n, f = n + 1 ∧ Region.ready md ops L ≠ [] ∧ ∀ i ∈ Region.ready md ops L, wpOp P ops Q i (fun a' w' => Inv n (L.setIfInBounds i true) a' w') a w) :
    ∀ f L a w, Inv f L a w → wpAny P md ops Q f L a w := by
  intro f
  induction f with
  | zero =>
    intro L a w hi
    rcases h 0 L a w hi with h | ⟨n, hn, _⟩
    · exact h
    · omega
  | succ f ih =>
    intro L a w hi
    rcases h (f + 1) L a w hi with h | ⟨n, hn, hr, hs⟩
    · exact h
    · obtain rfl : f = n := by omega
      exact ⟨fun e => absurd e hr, fun i hm => wpOp_mono (fun a' w' hk => ih _ _ _ hk) (hs i hm)⟩
end Go.Proofs.YtcckgfablfgknaaGreatDoor
