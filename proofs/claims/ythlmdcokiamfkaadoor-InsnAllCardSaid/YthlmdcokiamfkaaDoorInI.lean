/- The chapter's examples of layer 2 (alive), as the statements ask them: they hold. -/
import Derived.Test.YthlmdcokiamfkaaDoorInH
import Derived.Test.YthlmdcokiamfkaaDoorInC
namespace Go.Proofs.YthlmdcokiamfkaaDoor
open Go.ChangeShapes Go.WideShapes Go.ChangeAt Go.RowKit
set_option linter.unusedVariables false
/-- Both laid tables read as they were laid. -/
def Tb (w : World) : Prop := RowsOk w ∧ ShapesOk w
theorem Tb.of {w w' : World} (h : Tb w) (hb : Below w.heap.size w w') : Tb w' := ⟨h.1.of hb, h.2.of hb⟩
theorem tb_of_laid {W : World} (h : laidMetH Tryd.prog laidAll W) : Tb W := ⟨rows_of_laid h, shapes_of_laid h⟩
theorem al_c1 (w : World) (h : Tb w) : Calls Tryd.prog 8 #[.agg #[.int .u8 15, .int .u8 1, .int .u8 0, .int .u8 0, .int .i64 (-1)]] w fun e w' => e = .returned (.tuple #[.int .u32 4293918867, .int .i64 0]) ∧ Below w.heap.size w w' := by
  have hc := enc_yes ⟨15, 1, 0, 0, -1⟩ (by unfold In.wf; decide) (by decide +kernel) w h.1 h.2
  rw [show (In.mk 15 1 0 0 (-1)).word = 4293918867 by decide +kernel] at hc
  exact hc
theorem al_c2 (w : World) (h : Tb w) : Calls Tryd.prog 8 #[.agg #[.int .u8 22, .int .u8 5, .int .u8 5, .int .u8 0, .int .i64 63]] w fun e w' => e = .returned (.tuple #[.int .u32 1139987091, .int .i64 0]) ∧ Below w.heap.size w w' := by
  have hc := enc_yes ⟨22, 5, 5, 0, 63⟩ (by unfold In.wf; decide) (by decide +kernel) w h.1 h.2
  rw [show (In.mk 22 5 5 0 63).word = 1139987091 by decide +kernel] at hc
  exact hc
theorem al_c3 (w : World) (h : Tb w) : Calls Tryd.prog 8 #[.agg #[.int .u8 29, .int .u8 0, .int .u8 5, .int .u8 0, .int .i64 (-4)]] w fun e w' => e = .returned (.tuple #[.int .u32 4261584611, .int .i64 0]) ∧ Below w.heap.size w w' := by
  have hc := enc_yes ⟨29, 0, 5, 0, -4⟩ (by unfold In.wf; decide) (by decide +kernel) w h.1 h.2
  rw [show (In.mk 29 0 5 0 (-4)).word = 4261584611 by decide +kernel] at hc
  exact hc
theorem al_c5 (w : World) (h : Tb w) : Calls Tryd.prog 8 #[.agg #[.int .u8 15, .int .u8 0, .int .u8 0, .int .u8 1, .int .i64 0]] w fun e w' => e = .returned (.tuple #[.int .u32 0, .int .i64 2]) ∧ Below w.heap.size w w' := by
  have hc := enc_no ⟨15, 0, 0, 1, 0⟩ (by unfold In.wf; decide) (by decide +kernel) w h.1 h.2
  exact hc
theorem al_c4 (x : World) (h : Tb x) (b : Nat) (hb : b = x.heap.size) : Calls Tryd.prog 11 #[.slice (some ⟨b, 0, none⟩) 2 2] (x.alloc (.cells #[.int .u8 34, .int .u8 0, .int .u8 0, .int .u8 0, .int .i64 0, .int .u8 32, .int .u8 0, .int .u8 0, .int .u8 0, .int .i64 8] 23)) fun e w' => e = .returned (.tuple #[.string ⟨#[115, 0, 0, 0, 111, 0, 128, 0]⟩, .int .i64 0]) ∧ Below x.heap.size x w' := by
  have hB : Below x.heap.size x (x.alloc (.cells #[.int .u8 34, .int .u8 0, .int .u8 0, .int .u8 0, .int .i64 0, .int .u8 32, .int .u8 0, .int .u8 0, .int .u8 0, .int .i64 8] 23)) := (Below.refl _ _).alloc (Nat.le_refl _) _
  have hT := h.of hB
  have hc := all_yes [⟨34, 0, 0, 0, 0⟩, ⟨32, 0, 0, 0, 8⟩] b 2 (by simp) (by intro x hx; simp at hx; rcases hx with rfl | rfl <;> (unfold In.wf; decide)) (by intro x hx; simp at hx; rcases hx with rfl | rfl <;> decide +kernel)
    (x.alloc (.cells #[.int .u8 34, .int .u8 0, .int .u8 0, .int .u8 0, .int .i64 0, .int .u8 32, .int .u8 0, .int .u8 0, .int .u8 0, .int .i64 8] 23))
    (by
      intro i hi
      simp only [List.length_cons, List.length_nil] at hi
      have hi2 : i = 0 ∨ i = 1 := by omega
      rcases hi2 with rfl | rfl <;> (unfold inAt; rw [cb' _ _ _ _ _ hb, cb' _ _ _ _ _ hb, cb' _ _ _ _ _ hb, cb' _ _ _ _ _ hb, cb' _ _ _ _ _ hb]; simp))
    (by rw [hb]; simp) hT.1 hT.2
  rw [show strOfNums (catB [⟨34, 0, 0, 0, 0⟩, ⟨32, 0, 0, 0, 8⟩]) = ⟨#[115, 0, 0, 0, 111, 0, 128, 0]⟩ by decide +kernel] at hc
  exact hc.mono fun e w' ⟨he, hw⟩ => ⟨he, hB.trans (hw.mono (by simp))⟩
theorem alive_any (w : World) (h : Tb w) : Calls Tryd.prog 10 #[] w fun e w' => e = .returned (.bool true) ∧ Below w.heap.size w w' := by
  go_enter Tryd.func10, Tryd.ntmps10
  go_wp2_with (first | (go_at_call 8; first | ((with_reducible refine (al_c1 _ h).mono ?_); (rintro e w1 ⟨rfl, hb1⟩); have h1 := h.of hb1) | ((with_reducible refine (al_c2 _ h1).mono ?_); (rintro e w2 ⟨rfl, hb2⟩); have h2 := h1.of hb2) | ((with_reducible refine (al_c3 _ h2).mono ?_); (rintro e w3 ⟨rfl, hb3⟩); have h3 := h2.of hb3) | ((with_reducible refine (al_c5 _ h4).mono ?_); (rintro e w5 ⟨rfl, hb5⟩))) | (go_at_call 11; ((with_reducible refine (al_c4 _ h3 _ rfl).mono ?_); (rintro e w4 ⟨rfl, hb4⟩); have h4 := h3.of hb4)))
  go_ret
  exact ⟨rfl, hb1.trans ((hb2.mono hb1.size).trans ((hb3.mono (Nat.le_trans hb1.size hb2.size)).trans ((hb4.mono (Nat.le_trans hb1.size (Nat.le_trans hb2.size hb3.size))).trans (hb5.mono (Nat.le_trans hb1.size (Nat.le_trans hb2.size (Nat.le_trans hb3.size hb4.size)))))))⟩
end Go.Proofs.YthlmdcokiamfkaaDoor
