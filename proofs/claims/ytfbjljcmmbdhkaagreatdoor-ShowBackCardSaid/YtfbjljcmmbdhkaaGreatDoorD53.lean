/- ShowBack's walk. -/
import Derived.Test.YtfbjljcmmbdhkaaGreatDoorD51
import Derived.Test.YtfbjljcmmbdhkaaGreatDoorD46
import Derived.Test.YtfbjljcmmbdhkaaGreatDoorD10
import Derived.Test.YtfbjljcmmbdhkaaGreatDoorD48
import Derived.Test.YtfbjljcmmbdhkaaGreatDoorD47
import Derived.Test.YtfbjljcmmbdhkaaGreatDoorD45
namespace Go.Proofs.YtfbjljcmmbdhkaaGreatDoor
set_option linter.unusedVariables false
set_option linter.unusedSimpArgs false
set_option maxRecDepth 100000
set_option maxHeartbeats 200000000
open Go.ChangeShapes Go.WideShapes Go.ChangeAt Go.RowKit
theorem back_walk (l : List Fd) (hlb : ∀ f ∈ l, f.lb) (hnb : ∀ f ∈ l, f.nb) (hl : l.length ≤ 1466015503658) (ma : Option Addr) (cap : Nat) (w : World) (hT : Tb w) (hSw : SwOk w) (hF : FdsAt (fun b => b < w.heap.size) w l ma) :
 Calls Tryz.prog 4 #[.agg #[.slice ma l.length cap]] w fun r w' => r = .returned (.bool true) ∧ Below w.heap.size w w' := by
 have hFx := fun x (hx : Below w.heap.size w x) => (FdsAt.of hF hx).mono (G' := fun b => b < x.heap.size) (fun b hb => Nat.lt_of_lt_of_le hb hx.size)
 have hLg := fun x (hx : Below w.heap.size w x) => lg9_any l (fun f hf => (hlb f hf).2.1.1) hl ma cap x (hFx x hx)
 have hCp := fun x (hx : Below w.heap.size w x) => cp_any l hlb hl _ ma cap x (FdsAt.of hF hx)
 have hNo := fun (h : pgB l = false) mk ck x (hx : Below w.heap.size w x) (hk : FdsAt (fun b => b < x.heap.size) x l mk) => xKx l mk ck x hk (by omega) (hT.of hx) h
 have hYes := fun (h : pgB l = true) (hd : ∀ f ∈ l, f.nd) mk ck x (hx : Below w.heap.size w x) (hk : FdsAt (fun b => b < x.heap.size) x l mk) => xQq l mk ck x hk (by omega) (hT.of hx) (hSw.of hx) h hd hnb
 have hCk := fun mk ck x (hx : Below w.heap.size w x) (h : FdsAt (fun b => b < x.heap.size) x l mk) => xZx l mk ck x h (by omega) (hT.of hx)
 have hSm := fun (G : Nat → Prop) mk ck x (hx : Below w.heap.size w x) (h : FdsAt G x l mk) => jJa l _ G ma mk cap ck x (FdsAt.of hF hx) h (by omega)
 have hAl := fun x (hx : Below w.heap.size w x) => yKm x (hT.of hx) (hSw.of hx)
 have hP : pgB l = true → (shoT l).length ≤ 16384 → ∀ x, Below w.heap.size w x → Calls Tryz.prog 15 #[.string (str (shoT l))] x fun e w' => (∃ (ma : Option Addr) (cap : Nat), e = .returned (.tuple #[.agg #[.slice ma l.length cap], .nilIface]) ∧ FdsAt (fun b => b < w'.heap.size) w' l ma) ∧ Below x.heap.size x w' := fun h hs x hb => by
  have := yXz (str (shoT l)) (hT.of hb)
  rw [zXj, yKy l h hnb hs] at this
  exact this.mono fun e w' ⟨hb, ma, cap, he, hl, hF⟩ => ⟨⟨ma, cap, he, hF.mono fun b hb => hb.2⟩, hb⟩
 have hz : (str (shoT l)).size = (shoT l).length := yQj _
 unfold LgQ at hLg
 generalize shoT l = ST at hYes hP hz
 obtain ⟨N, hN⟩ : ∃ N, N = l.length := ⟨_, rfl⟩
 rw [← hN] at hl ⊢
 simp only [← hN] at hLg hCp hNo hYes hCk hSm hP
 obtain ⟨nd, hnd⟩ : ∃ nd : Prop, nd = ∀ f ∈ l, f.nd := ⟨_, rfl⟩
 simp only [← hnd] at hLg hYes
 obtain ⟨c, hc⟩ : ∃ c, c = pgB l := ⟨_, rfl⟩
 simp only [← hc] at hNo hYes hCk hP
 clear hN hlb hnb hnd hc hF hFx
 obtain ⟨W, hW⟩ : ∃ W, w.alloc (.cells #[.slice ma N cap] 24) = W := ⟨_, rfl⟩
 have hBW : Below w.heap.size w W := by rw [← hW]; exact aB (Below.refl _ _) _
 have hr : rowG #[.slice ma N cap] W w.heap.size := by rw [← hW]; exact zQf _ _ _ _ rfl
 have z0 := hr.1 0 (by simp)
 have zl := hr.2.2
 go_enter Tryz.func4, Tryz.ntmps4
 go_wp2_with (go_at_call 7; ((with_reducible refine (hLg _ hBW).mono ?_); (rintro e w1 ⟨⟨bb, rfl, hbb⟩, hb1⟩); (have hB1 := tr hBW hb1); (have hr1 := zQh hr hb1); (clear z0 zl hW hLg); (have z0 := hr1.1 0 (by simp)); (have zl := hr1.2.2); (have HBB := Lib.hid hbb); clear hbb; cases bb))
 ·have hnd := (HBB.out (by first | rfl | trivial)).2.2
  clear HBB
  cases c
  ·have hSh := hNo rfl
   simp only [Bool.false_eq_true, if_false] at hCk
   clear hNo hYes hP hz
   go_wp2_with first
    | (go_at_call 9; ((with_reducible refine (hCp _ hB1).mono ?_); (rintro e w2 ⟨⟨mk, ck, rfl, hF2⟩, hb2⟩); (have hB2 := tr hB1 hb2); (have hr2 := zQh hr1 hb2); (clear z0 zl); (have hS2 := hSh mk ck _ hB2 (hF2.mono (fun b hb => hb.2)))))
    | (go_at_call 10; ((with_reducible refine hS2.mono ?_); clear hS2; (rintro e w3 ⟨rfl, hb3⟩); (have hB3 := tr hB2 hb3); (have hr3 := zQh hr2 hb3); (have z0 := hr3.1 0 (by simp)); (have zl := hr3.2.2)))
    | (go_at_call 9; ((with_reducible refine (hCp _ hB3).mono ?_); (rintro e w4 ⟨⟨mq, cq, rfl, hF4⟩, hb4⟩); (have hB4 := tr hB3 hb4); (have hr4 := zQh hr3 hb4); (clear z0 zl); (have hK4 := hCk mq cq _ hB4 (hF4.mono (fun b hb => hb.2)))))
    | (go_at_call 14; ((with_reducible refine hK4.mono ?_); clear hK4; (rintro e w5 ⟨rfl, hb5⟩); (have hB5 := tr hB4 hb5); (have hr5 := zQh hr4 hb5); (have hA := hAl _ hB5)))
    | (go_at_call 8; ((with_reducible refine hA.mono ?_); (rintro e w6 ⟨rfl, hb6⟩)))
   go_ret
   exact ⟨rfl, tr hB5 hb6⟩
  ·have hSh := hYes rfl hnd
   simp only [if_true] at hCk
   clear hNo hYes
   by_cases hb : 16384 < ST.length
   ·have hbi : (16384 : Int) < ((str ST).size : Int) := by rw [hz]; omega
    clear hz hP hb
    go_wp2_with first
     | (go_at_call 9; ((with_reducible refine (hCp _ hB1).mono ?_); (rintro e w2 ⟨⟨mk, ck, rfl, hF2⟩, hb2⟩); (have hB2 := tr hB1 hb2); (have hr2 := zQh hr1 hb2); (clear z0 zl); (have hS2 := hSh mk ck _ hB2 (hF2.mono (fun b hb => hb.2)))))
     | (go_at_call 10; ((with_reducible refine hS2.mono ?_); clear hS2; (rintro e w3 ⟨rfl, hb3⟩); (have hB3 := tr hB2 hb3); (have hr3 := zQh hr2 hb3); (have z0 := hr3.1 0 (by simp)); (have zl := hr3.2.2)))
     | (go_at_call 9; ((with_reducible refine (hCp _ hB3).mono ?_); (rintro e w4 ⟨⟨mq, cq, rfl, hF4⟩, hb4⟩); (have hB4 := tr hB3 hb4); (have hr4 := zQh hr3 hb4); (clear z0 zl); (have hK4 := hCk mq cq _ hB4 (hF4.mono (fun b hb => hb.2)))))
     | (go_at_call 14; ((with_reducible refine hK4.mono ?_); clear hK4; (rintro e w5 ⟨rfl, hb5⟩); (have hB5 := tr hB4 hb5); (have hr5 := zQh hr4 hb5); (have hA := hAl _ hB5)))
     | (go_at_call 8; ((with_reducible refine hA.mono ?_); (rintro e w6 ⟨rfl, hb6⟩)))
    go_ret
    exact ⟨rfl, tr hB5 hb6⟩
   ·have hbi : ¬ (16384 : Int) < ((str ST).size : Int) := by rw [hz]; omega
    have hP3 := hP rfl (by omega)
    clear hz hP hb
    go_wp2_with first
     | (go_at_call 9; ((with_reducible refine (hCp _ hB1).mono ?_); (rintro e w2 ⟨⟨mk, ck, rfl, hF2⟩, hb2⟩); (have hB2 := tr hB1 hb2); (have hr2 := zQh hr1 hb2); (clear z0 zl); (have hS2 := hSh mk ck _ hB2 (hF2.mono (fun b hb => hb.2)))))
     | (go_at_call 10; ((with_reducible refine hS2.mono ?_); clear hS2; (rintro e w3 ⟨rfl, hb3⟩); (have hB3 := tr hB2 hb3); (have hr3 := zQh hr2 hb3); (have z0 := hr3.1 0 (by simp)); (have zl := hr3.2.2)))
     | (go_at_call 9; ((with_reducible refine (hCp _ hB3).mono ?_); (rintro e w4 ⟨⟨mq, cq, rfl, hF4⟩, hb4⟩); (have hB4 := tr hB3 hb4); (have hr4 := zQh hr3 hb4); (clear z0 zl); (have hK4 := hCk mq cq _ hB4 (hF4.mono (fun b hb => hb.2)))))
     | (go_at_call 14; ((with_reducible refine hK4.mono ?_); clear hK4; (rintro e w5 ⟨rfl, hb5⟩); (have hB5 := tr hB4 hb5); (have hr5 := zQh hr4 hb5); (have hP5 := hP3 _ hB5); clear hP3))
     | (go_at_call 15; ((with_reducible refine hP5.mono ?_); clear hP5; (rintro e w6 ⟨⟨mz, cz, rfl, hF6⟩, hb6⟩); (have hA6 := aB (Below.refl w6.heap.size w6) (.cells #[.slice mz N cz] 24)); (have hB6 := tr hB5 (tr hb6 hA6)); (have hr6 := zQh (zQh hr5 hb6) hA6); (have hq6 := zQf #[.slice mz N cz] 24 w6 _ rfl); (have z0 := hr6.1 0 (by simp)); (have zl := hr6.2.2); (have y0 := hq6.1 0 (by simp)); (have yl := hq6.2.2); (have hS6 := hSm _ mz cz _ hB6 (FdsAt.of hF6 hA6))))
     | (go_at_call 11; ((with_reducible refine hS6.mono ?_); (rintro e w7 ⟨rfl, hb7⟩); (have hB7 := tr hB6 hb7); (have hA := hAl _ hB7)))
     | (go_at_call 8; ((with_reducible refine hA.mono ?_); (rintro e w8 ⟨rfl, hb8⟩)))
    go_ret
    exact ⟨rfl, tr hB7 hb8⟩
 ·have hA := hAl _ hB1
  go_wp2_with (go_at_call 8; ((with_reducible refine hA.mono ?_); (rintro e w6 ⟨rfl, hb6⟩)))
  go_ret
  exact ⟨rfl, tr hB1 hb6⟩
end Go.Proofs.YtfbjljcmmbdhkaaGreatDoor
