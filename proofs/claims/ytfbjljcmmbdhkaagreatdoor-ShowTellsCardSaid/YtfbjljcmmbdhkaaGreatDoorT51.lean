/- ShowTells' walk. -/
import Derived.Test.YtfbjljcmmbdhkaaGreatDoorT49
import Derived.Test.YtfbjljcmmbdhkaaGreatDoorT50
import Derived.Test.YtfbjljcmmbdhkaaGreatDoorT45
import Derived.Test.YtfbjljcmmbdhkaaGreatDoorT46
import Derived.Test.YtfbjljcmmbdhkaaGreatDoorT41
namespace Go.Proofs.YtfbjljcmmbdhkaaGreatDoor
set_option linter.unusedVariables false
set_option linter.unusedSimpArgs false
set_option maxRecDepth 100000
set_option maxHeartbeats 200000000
open Go.ChangeShapes Go.WideShapes Go.ChangeAt Go.RowKit
theorem tells_walk (l : List Fd) (hlb : ∀ f ∈ l, f.lb) (hnb : ∀ f ∈ l, f.nb) (hsb : ∀ f ∈ l, f.sb 140737488355328) (hl : l.length ≤ 1466015503658) (ma : Option Addr) (cap : Nat) (w : World) (hT : Tb w) (hSw : SwOk w) (hF : FdsAt (fun b => b < w.heap.size) w l ma) :
 Calls Tryz.prog 3 #[.agg #[.slice ma l.length cap]] w fun r w' => r = .returned (.bool true) ∧ Below w.heap.size w w' := by
 have hFx := fun x (hx : Below w.heap.size w x) => (FdsAt.of hF hx).mono (G' := fun b => b < x.heap.size) (fun b hb => Nat.lt_of_lt_of_le hb hx.size)
 have hLg := fun x (hx : Below w.heap.size w x) => lg9_any l (fun f hf => (hlb f hf).2.1.1) hl ma cap x (hFx x hx)
 have hCp := fun x (hx : Below w.heap.size w x) => cp_any l hlb hl _ ma cap x (FdsAt.of hF hx)
 have hMy := fun (h9 : totS l ≤ 900) x (hx : Below w.heap.size w x) => rmy_any l h9 hsb (by omega) _ ma cap x (FdsAt.of hF hx)
 have hNo := fun (h : pgB l = false) mk ck x (hx : Below w.heap.size w x) (hk : FdsAt (fun b => b < x.heap.size) x l mk) => show_no l mk ck x hk (by omega) (hT.of hx) h
 have hYes := fun (h : pgB l = true) (hd : ∀ f ∈ l, f.nd) mk ck x (hx : Below w.heap.size w x) (hk : FdsAt (fun b => b < x.heap.size) x l mk) => show_yes l mk ck x hk (by omega) (hT.of hx) (hSw.of hx) h hd hnb
 have hSm := fun (G : Nat → Prop) mk ck x (hx : Below w.heap.size w x) (h : FdsAt G x l mk) => sm_any l G _ mk ma ck cap x h (FdsAt.of hF hx) (by omega)
 have hAl := fun x (hx : Below w.heap.size w x) => alive09 x (hT.of hx) (hSw.of hx)
 have hRs : pgB l = true → (∀ f ∈ l, f.nd) → ∀ x, Below w.heap.size w x → Calls Tryz.prog 13 #[.agg #[.slice ma l.length cap]] x fun r w' => r = .returned (.string (str (shoT l))) ∧ Below x.heap.size x w' := fun h hd x hx => by
  obtain ⟨h1, h2, h3⟩ := pg_all l h hd hnb
  have hlen : (rshoT l).length ≤ 40000000000 := by
   rw [rsho_eq l h]
   have := lns_len (pgL l) h2
   have e : shoT l = lnsT (pgL l) := rfl
   rw [e]
   have h4 : 9000000 * (pgL l).length ≤ 9000000 * 1300 := Nat.mul_le_mul_left _ h3
   omega
  have := rshow_any l (fun f hf => by
   obtain ⟨k1, k2, k3, k4, k5, k6⟩ := h1 f hf
   exact ⟨k1, k2, k3, k4, k5, k6, hnb f hf⟩) hlen (by omega) ma cap x (hFx x hx)
  rw [rsho_eq l h] at this
  exact this
 unfold LgQ at hLg
 generalize shoT l = ST at hYes hRs
 obtain ⟨N, hN⟩ : ∃ N, N = l.length := ⟨_, rfl⟩
 rw [← hN] at hl ⊢
 simp only [← hN] at hLg hCp hMy hNo hYes hSm hRs
 obtain ⟨nd, hnd⟩ : ∃ nd : Prop, nd = ∀ f ∈ l, f.nd := ⟨_, rfl⟩
 simp only [← hnd] at hLg hYes hRs
 obtain ⟨t9, ht9⟩ : ∃ t9 : Prop, t9 = (totS l ≤ 900) := ⟨_, rfl⟩
 simp only [← ht9] at hLg hMy
 obtain ⟨c, hc⟩ : ∃ c, c = pgB l := ⟨_, rfl⟩
 simp only [← hc] at hNo hYes hMy hRs
 clear hN hlb hnb hsb hnd ht9 hc hF hFx
 obtain ⟨W, hW⟩ : ∃ W, w.alloc (.cells #[.slice ma N cap] 24) = W := ⟨_, rfl⟩
 have hBW : Below w.heap.size w W := by rw [← hW]; exact aB (Below.refl _ _) _
 have hr : rowG #[.slice ma N cap] W w.heap.size := by rw [← hW]; exact rowG_at _ _ _ _ rfl
 have z0 := hr.1 0 (by simp)
 have zl := hr.2.2
 go_enter Tryz.func3, Tryz.ntmps3
 go_wp2_with (go_at_call 7; ((with_reducible refine (hLg _ hBW).mono ?_); (rintro e w1 ⟨⟨bb, rfl, hbb⟩, hb1⟩); (have hB1 := tr hBW hb1); (have hr1 := rowG_b hr hb1); (clear z0 zl hW hLg); (have z0 := hr1.1 0 (by simp)); (have zl := hr1.2.2); (have HBB := Lib.hid hbb); clear hbb; cases bb))
 ·obtain ⟨-, h9, hnd⟩ := HBB.out (by first | rfl | trivial)
  have hM := hMy h9
  clear HBB hMy h9
  cases c
  ·have hSh := hNo rfl
   clear hNo hYes hRs
   go_wp2_with first
    | (go_at_call 9; ((with_reducible refine (hCp _ hB1).mono ?_); (rintro e w2 ⟨⟨mk, ck, rfl, hF2⟩, hb2⟩); (have hA2 := aB (Below.refl w2.heap.size w2) (.cells #[.slice mk N ck] 24)); (have hB2 := tr (tr hB1 hb2) hA2); (have hF3 := (FdsAt.of hF2 hA2).mono (G' := fun b => b < (w2.alloc (.cells #[.slice mk N ck] 24)).heap.size) (fun b hb => Nat.lt_of_lt_of_le hb.2 hA2.size)); (have hr2 := rowG_b (rowG_b hr1 hb2) hA2); (have hs2 := rowG_at #[.slice mk N ck] 24 w2 _ rfl); (clear z0 zl); (have hS2 := hSh mk ck _ hB2 hF3)))
    | (go_at_call 10; ((with_reducible refine hS2.mono ?_); clear hS2; (rintro e w3 ⟨rfl, hb3⟩); (have hB3 := tr hB2 hb3); (have hr3 := rowG_b hr2 hb3); (have hs3 := rowG_b hs2 hb3); (have z0 := hr3.1 0 (by simp)); (have zl := hr3.2.2); (have y0 := hs3.1 0 (by simp)); (have yl := hs3.2.2); (have hSm3 := hSm _ mk ck _ hB3 (FdsAt.of hF3 hb3))))
    | (go_at_call 11; ((with_reducible refine hSm3.mono ?_); clear y0 yl z0 zl; (rintro e w4 ⟨rfl, hb4⟩); (have hB4 := tr hB3 hb4); (have hr4 := rowG_b hr3 hb4); (have z0 := hr4.1 0 (by simp)); (have zl := hr4.2.2)))
    | (go_at_call 12; ((with_reducible refine (hM _ hB4).mono ?_); (rintro e w5 ⟨rfl, hb5⟩); (have hB5 := tr hB4 hb5); (have hA := hAl _ hB5)))
    | (go_at_call 8; ((with_reducible refine hA.mono ?_); (rintro e w6 ⟨rfl, hb6⟩)))
   go_ret
   exact ⟨rfl, tr hB5 hb6⟩
  ·have hSh := hYes rfl hnd
   have hR1 := hRs rfl hnd
   clear hNo hYes hRs
   go_wp2_with first
    | (go_at_call 9; ((with_reducible refine (hCp _ hB1).mono ?_); (rintro e w2 ⟨⟨mk, ck, rfl, hF2⟩, hb2⟩); (have hA2 := aB (Below.refl w2.heap.size w2) (.cells #[.slice mk N ck] 24)); (have hB2 := tr (tr hB1 hb2) hA2); (have hF3 := (FdsAt.of hF2 hA2).mono (G' := fun b => b < (w2.alloc (.cells #[.slice mk N ck] 24)).heap.size) (fun b hb => Nat.lt_of_lt_of_le hb.2 hA2.size)); (have hr2 := rowG_b (rowG_b hr1 hb2) hA2); (have hs2 := rowG_at #[.slice mk N ck] 24 w2 _ rfl); (clear z0 zl); (have hS2 := hSh mk ck _ hB2 hF3)))
    | (go_at_call 10; ((with_reducible refine hS2.mono ?_); clear hS2; (rintro e w3 ⟨rfl, hb3⟩); (have hB3 := tr hB2 hb3); (have hr3 := rowG_b hr2 hb3); (have hs3 := rowG_b hs2 hb3); (have z0 := hr3.1 0 (by simp)); (have zl := hr3.2.2); (have y0 := hs3.1 0 (by simp)); (have yl := hs3.2.2); (have hSm3 := hSm _ mk ck _ hB3 (FdsAt.of hF3 hb3))))
    | (go_at_call 11; ((with_reducible refine hSm3.mono ?_); clear y0 yl z0 zl; (rintro e w4 ⟨rfl, hb4⟩); (have hB4 := tr hB3 hb4); (have hr4 := rowG_b hr3 hb4); (have z0 := hr4.1 0 (by simp)); (have zl := hr4.2.2)))
    | (go_at_call 12; ((with_reducible refine (hM _ hB4).mono ?_); clear z0 zl; (rintro e w5 ⟨rfl, hb5⟩); (have hB5 := tr hB4 hb5); (have hr5 := rowG_b hr4 hb5); (have z0 := hr5.1 0 (by simp)); (have zl := hr5.2.2); (have hR5 := hR1 _ hB5)))
    | (go_at_call 13; ((with_reducible refine hR5.mono ?_); clear hR5; (rintro e w6 ⟨rfl, hb6⟩); (have hB6 := tr hB5 hb6); (have hA := hAl _ hB6)))
    | (go_at_call 8; ((with_reducible refine hA.mono ?_); (rintro e w7 ⟨rfl, hb7⟩)))
   go_ret
   exact ⟨rfl, tr hB6 hb7⟩
 ·have hA := hAl _ hB1
  go_wp2_with (go_at_call 8; ((with_reducible refine hA.mono ?_); (rintro e w6 ⟨rfl, hb6⟩)))
  go_ret
  exact ⟨rfl, tr hB1 hb6⟩
end Go.Proofs.YtfbjljcmmbdhkaaGreatDoor
