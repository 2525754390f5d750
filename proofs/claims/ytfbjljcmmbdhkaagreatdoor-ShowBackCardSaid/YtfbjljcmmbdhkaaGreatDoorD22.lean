/- Contracts of the reader's expression: two, put together. -/
import Derived.Test.YtfbjljcmmbdhkaaGreatDoorD18
namespace Go.Proofs.YtfbjljcmmbdhkaaGreatDoor
set_option linter.unusedVariables false
set_option linter.unusedSimpArgs false
set_option maxRecDepth 100000
set_option maxHeartbeats 200000000
open Go.ChangeShapes Go.WideShapes Go.ChangeAt Go.RowKit
theorem xQf {w : World} {rb : Nat} {v : Value} {T : List (Tk × Int)} {p d : Int} (h : IsRd w rb v T p d) (hT : Tb w) (hG : ¬ GB rb) (hd0 : 0 ≤ d) (hd1 : d < 40) (hkn : yQd T p = 3) (ht0 : zXy T p = sg [40]) (h00 : 0 ≤ p) (h01 : p < T.length) :
 (∀ (c q : Int) (hI1 : ∀ W, IsRd W rb v T (p + 1) (d + 1) → Tb W → Calls Tryz.prog 178 #[.pointer (some ⟨rb, 0, none⟩)] W (ExEr W rb v T c q)) (hc : ¬ c = 0), Calls Tryz.prog 178 #[.pointer (some ⟨rb, 0, none⟩)] w (ExEr w rb v T c (q))) ∧
 (∀ (y : Xp) (q : Int) (hI1 : ∀ W, IsRd W rb v T (p + 1) (d + 1) → Tb W → Calls Tryz.prog 178 #[.pointer (some ⟨rb, 0, none⟩)] W (ExOk W rb v T (d + 1) y q)), (∀ (hno : ∀ j, opS j ≠ [] → ¬ zXy T q = sg (opS j)), Calls Tryz.prog 178 #[.pointer (some ⟨rb, 0, none⟩)] w (ExEr w rb v T 7 (q))) ∧ (∀ (o : Nat) (ho256 : o < 256) (hoo : opS o ≠ []) (ht2 : zXy T q = sg (opS o)) (h20 : 0 ≤ q) (h21 : q < T.length), (∀ (c r : Int) (hI2 : ∀ W, IsRd W rb v T (q + 1) (d + 1) → Tb W → Calls Tryz.prog 178 #[.pointer (some ⟨rb, 0, none⟩)] W (ExEr W rb v T c r)) (hc : ¬ c = 0), Calls Tryz.prog 178 #[.pointer (some ⟨rb, 0, none⟩)] w (ExEr w rb v T c (r))) ∧ (∀ (z : Xp) (r : Int) (hI2 : ∀ W, IsRd W rb v T (q + 1) (d + 1) → Tb W → Calls Tryz.prog 178 #[.pointer (some ⟨rb, 0, none⟩)] W (ExOk W rb v T (d + 1) z r)), (∀ (ht4 : ¬ zXy T r = sg [41]), Calls Tryz.prog 178 #[.pointer (some ⟨rb, 0, none⟩)] w (ExEr w rb v T 7 (r))) ∧ (∀ (ht4 : zXy T r = sg [41]) (h40 : 0 ≤ r) (h41 : r < T.length), Calls Tryz.prog 178 #[.pointer (some ⟨rb, 0, none⟩)] w (ExOk w rb v T d (.mk 3 0 [] o [y, z]) (r + 1)))))) := by
 refine ⟨fun c q hI1 hc => ?_, fun y q hI1 => ⟨fun hno => ?_, fun o ho256 hoo ht2 h20 h21 => ⟨fun c r hI2 hc => ?_, fun z r hI2 => ⟨fun ht4 => ?_, fun ht4 h40 h41 => ?_⟩⟩⟩⟩
 all_goals
  obtain ⟨hob, hrl, hd40, d1, hd1e, hw1, hw2, e2, f2, hk'⟩ := xXu 3 h hd0 hd1 (by rw [hkn]; rfl)
  try rw [← hd1e] at hI1
  try rw [← hd1e] at hI2
  clear hd1e
  have HH := Lib.hid h
  have HT := Lib.hid hT
  clear h hT
  go_enter Tryz.func178, Tryz.ntmps178
  go_wp2_with (first | (go_at_call 192; ((with_reducible refine hk'.mono ?_); (rintro e w2 ⟨rfl, hb2⟩))) | (go_at_call 193; ((with_reducible refine (parts_bin rb _).mono ?_); (rintro e w4 ⟨⟨g, rfl, hgl, ⟨f0, p0, br0, bs0, rfl, hr0, hs0⟩, p1, p2, p3, ⟨f4, p4, br4, bs4, rfl, hr4, hs4⟩⟩, hb4⟩))))
  have h4 := xXv 3 HH.out HT.out hG hb2 hb4
  have hGe := h4.gb HT.out
  clear hb2 hb4 hk' e2 f2
  have hlo := h4.lo
  have hsw4 := h4.only.size
  have hng := h4.ng p0 (fun _ _ _ h => by cases h)
  have hne := h4.ne p0 (fun h => by cases h)
  have nr0 := h4.rd.np hr0
  have ns0 := h4.rd.ns hs0
  have mr0 := h4.ne hr0 (fun h => by cases h)
  have ms0 := h4.ne hs0 (fun h => by cases h)
  have nr4 := h4.rd.np hr4
  have ns4 := h4.rd.ns hs4
  have mr4 := h4.ne hr4 (fun h => by cases h)
  have ms4 := h4.ne hs4 (fun h => by cases h)
  have hO0 : Only (fun j => j = rb ∨ j = w2.heap.size ∨ w4.heap.size ≤ j) w4 w4 := Only.refl _ _
  have H4 := Lib.hid h4
  obtain ⟨hR0, hX0, -, hT0, -, -⟩ := h4
  refine wp_loop_rounds 6 ?_
  have g0 : g < w4.heap.size := Nat.lt_of_lt_of_le hgl hO0.size
  have pt0 := Only.cell hO0 (a := ⟨g, 0, none⟩) (fun e => by simp only at e; omega) p0
  have sr0 := Only.cell hO0 (a := ⟨br0, 0, none⟩) (fun e => by have := World.block_lt_of_cell? w4 _ hr0; simp only at e this; omega) hr0
  have ss0 := Only.cell hO0 (a := ⟨bs0, 0, none⟩) (fun e => by have := World.block_lt_of_cell? w4 _ hs0; simp only at e this; omega) hs0
  have hC0 := sign1_m.2 hR0 [40] br0 bs0 (some ⟨w2.heap.size, 0, none⟩) sr0 ss0 ht0 h00 h01
  rw [rounds_succ]
  go_wp2_with (first | (go_at_call 203; ((with_reducible refine hC0.mono ?_); (rintro e x1 ⟨rfl, hP0⟩); (have hR1 := hP0.rd); (have hX1 := hX0.only hP0.only hX0.n1); (have hT1 := hT0.only hP0.only (fun j hj e => hG (by rw [← e]; exact hj))); (have hO1 := hO0.trans (hP0.only.mono fun j hj => .inl hj)); have gn0 : g < x1.heap.size := Nat.lt_of_lt_of_le hgl hO1.size; obtain ⟨q0, q1, q2, q3, q4, qel, qef⟩ := hX1.e)))
  clear gn0 q0 q1 q2 q3 q4 qel qef hC0
  clear g0 pt0
  have g1 : g < x1.heap.size := Nat.lt_of_lt_of_le hgl hO1.size
  have pt1 := Only.cell hO1 (a := ⟨g, 1, none⟩) (fun e => by simp only at e; omega) p1
  have hBB : w4.heap.size ≤ x1.heap.size := hO1.size
  obtain ⟨B, hBe⟩ : ∃ B, B = x1.heap.size := ⟨_, rfl⟩
  rw [← hBe] at hBB
  have HB := Lib.hid hBe
  clear hBe
 ·have hC1 := jXi hR1 (hI1 _ hR1 hT1) hX1 HB.out
  unfold KdE at hC1
  rw [rounds_succ]
  go_wp2_with (first | (go_at_call 199; ((with_reducible refine hC1.mono ?_); (rintro e x2 ⟨rfl, ⟨d9, hR2⟩, hQ1⟩); (have hO2 := hO1.trans (hQ1.mono fun j hj => hj.elim .inl fun hj => hj.elim (fun h => .inr (.inl h)) fun h => .inr (.inr (Nat.le_trans hBB h)))); have hZZ := yQf H4.out hrl hO2; obtain ⟨z0, z1, z2, z3, z4, y0, y1, y2, y3, y4, hzl⟩ := z5 hZZ)))
  have hE := zKl (c0 := undef) (c1 := undef) (c2 := undef) (c3 := undef) (c4 := undef) H4.out hrl hob hO2 hR2 (.int .u8 0) (.int .u64 0) (.string ⟨#[]⟩) (.int .u8 0) (.slice none 0 0)
  exact bodyPost_ret (zJe rfl _ _ w.heap.size _ _ _ _ _ _ rfl rfl (zZi _ _ _ _ _ hZZ)) rfl ⟨rfl, ⟨_, hE.1⟩, hE.2⟩
 all_goals
  have hC1 := jXg hR1 (hI1 _ hR1 hT1) hX1 HB.out
  unfold Kd1 at hC1
  rw [rounds_succ]
  go_wp2_with (first | (go_at_call 199; ((with_reducible refine hC1.mono ?_); (rintro e x2 ⟨rfl, hR2, hQ1, lv2, hX2, hK2⟩); (have hO2 := hO1.trans (hQ1.mono fun j hj => hj.elim .inl fun hj => hj.elim (fun h => .inr (.inl h)) fun h => .inr (.inr (Nat.le_trans hBB h)))); (have hT2 := hT1.only hQ1 (fun j hj e => e.elim (fun e => hG (by rw [← e]; exact hj)) (fun e => e.elim (fun e => hGe (by rw [← e]; exact hj)) (fun e => by have := HT.out.lt hj; omega)))); have gn1 : g < x2.heap.size := Nat.lt_of_lt_of_le hgl hO2.size; obtain ⟨q0, q1, q2, q3, q4, qel, qef⟩ := hX2.e)))
  clear gn1 q0 q1 q2 q3 q4 qel qef hC1
  have hBx2 : B ≤ x2.heap.size := by have h1 := HB.out; have h2 := hO2.size; exact Nat.le_trans (by rw [h1]; exact Nat.le_refl _) hQ1.size
  clear g1 pt1
  have g2 : g < x2.heap.size := Nat.lt_of_lt_of_le hgl hO2.size
  have pt2 := Only.cell hO2 (a := ⟨g, 2, none⟩) (fun e => by simp only at e; omega) p2
 ·have hC2 := op_no (eb := some ⟨w2.heap.size, 0, none⟩) hR2 hT2 hno
  rw [rounds_succ]
  go_wp2_with (first | (go_at_call 200; ((with_reducible refine hC2.mono ?_); (rintro e x3 ⟨rfl, hP2⟩); (have hR3 := hR2.of hP2); (have hO3 := hO2.trans (zQd hP2)); have hZZ := yQf H4.out hrl hO3; obtain ⟨z0, z1, z2, z3, z4, y0, y1, y2, y3, y4, hzl⟩ := z5 hZZ)))
  have hE := zKl (c0 := undef) (c1 := undef) (c2 := undef) (c3 := undef) (c4 := undef) H4.out hrl hob hO3 hR3 (.int .u8 0) (.int .u64 0) (.string ⟨#[]⟩) (.int .u8 0) (.slice none 0 0)
  exact bodyPost_ret (zJe rfl _ _ w.heap.size _ _ _ _ _ _ rfl rfl (zZi _ _ _ _ _ hZZ)) rfl ⟨rfl, ⟨_, hE.1⟩, hE.2⟩
 all_goals
  have hC2 := op_yes hR2 hX2 hT2 o hoo ht2 h20 h21
  rw [rounds_succ]
  go_wp2_with (first | (go_at_call 200; ((with_reducible refine hC2.mono ?_); (rintro e x3 ⟨rfl, hP2⟩); (have hR3 := hP2.rd); (have hO3 := hO2.trans (hP2.only.mono fun j hj => hj.elim .inl fun h => .inr (.inl h))); (have hX3 := hP2.bx); (have hT3 := hT2.only hP2.only (fun j hj e => e.elim (fun e => hG (by rw [← e]; exact hj)) (fun e => hGe (by rw [← e]; exact hj)))); (have hK3 := hK2.only hP2.only (by omega)); have gn2 : g < x3.heap.size := Nat.lt_of_lt_of_le hgl hO3.size; obtain ⟨q0, q1, q2, q3, q4, qel, qef⟩ := hX3.e)))
  clear gn2 q0 q1 q2 q3 q4 qel qef hC2
  have hBx3 : B ≤ x3.heap.size := by have h1 := HB.out; have h2 := hO3.size; exact Nat.le_trans hBx2 (Only.size (hP2.only))
  clear g2 pt2
  have g3 : g < x3.heap.size := Nat.lt_of_lt_of_le hgl hO3.size
  have pt3 := Only.cell hO3 (a := ⟨g, 3, none⟩) (fun e => by simp only at e; omega) p3
  have hBs : B ≤ x3.heap.size := hBx3
 ·have hC3 := kid_er1 hR3 (hI2 _ hR3 hT3) hX3 hK3 hBs (by omega) (fun j hj => by have := hob j hj; omega)
  unfold KdE at hC3
  rw [rounds_succ]
  go_wp2_with (first | (go_at_call 199; ((with_reducible refine hC3.mono ?_); (rintro e x4 ⟨rfl, ⟨d9, hR4⟩, hQ3⟩); (have hO4 := hO3.trans (hQ3.mono fun j hj => hj.elim .inl fun hj => hj.elim (fun h => .inr (.inl h)) fun h => .inr (.inr (Nat.le_trans hBB h)))); have hZZ := yQf H4.out hrl hO4; obtain ⟨z0, z1, z2, z3, z4, y0, y1, y2, y3, y4, hzl⟩ := z5 hZZ)))
  have hE := zKl (c0 := undef) (c1 := undef) (c2 := undef) (c3 := undef) (c4 := undef) H4.out hrl hob hO4 hR4 (.int .u8 0) (.int .u64 0) (.string ⟨#[]⟩) (.int .u8 0) (.slice none 0 0)
  exact bodyPost_ret (zJe rfl _ _ w.heap.size _ _ _ _ _ _ rfl rfl (zZi _ _ _ _ _ hZZ)) rfl ⟨rfl, ⟨_, hE.1⟩, hE.2⟩
 all_goals
  have hC3 := kid_ok1 hR3 (hI2 _ hR3 hT3) hX3 hK3 hBs (by omega) (fun j hj => by have := hob j hj; omega)
  unfold Kd2 at hC3
  rw [rounds_succ]
  go_wp2_with (first | (go_at_call 199; ((with_reducible refine hC3.mono ?_); (rintro e x4 ⟨rfl, hR4, hQ3, lv4, hX4, hK4⟩); (have hO4 := hO3.trans (hQ3.mono fun j hj => hj.elim .inl fun hj => hj.elim (fun h => .inr (.inl h)) fun h => .inr (.inr (Nat.le_trans hBB h)))); (have hT4 := hT3.only hQ3 (fun j hj e => e.elim (fun e => hG (by rw [← e]; exact hj)) (fun e => e.elim (fun e => hGe (by rw [← e]; exact hj)) (fun e => by have := HT.out.lt hj; omega)))); have gn3 : g < x4.heap.size := Nat.lt_of_lt_of_le hgl hO4.size; obtain ⟨q0, q1, q2, q3, q4, qel, qef⟩ := hX4.e)))
  clear gn3 q0 q1 q2 q3 q4 qel qef hC3
  clear g3 pt3
  have g4 : g < x4.heap.size := Nat.lt_of_lt_of_le hgl hO4.size
  have pt4 := Only.cell hO4 (a := ⟨g, 4, none⟩) (fun e => by simp only at e; omega) p4
  have sr4 := Only.cell hO4 (a := ⟨br4, 0, none⟩) (fun e => by have := World.block_lt_of_cell? w4 _ hr4; simp only at e this; omega) hr4
  have ss4 := Only.cell hO4 (a := ⟨bs4, 0, none⟩) (fun e => by have := World.block_lt_of_cell? w4 _ hs4; simp only at e this; omega) hs4
 ·have hC4 := sign1_m.1 hR4 [41] br4 bs4 (some ⟨w2.heap.size, 0, none⟩) sr4 ss4 ht4
  rw [rounds_succ]
  go_wp2_with (first | (go_at_call 203; ((with_reducible refine hC4.mono ?_); (rintro e x5 ⟨rfl, hP4⟩); (have hR5 := hR4.of hP4); (have hO5 := hO4.trans (zQd hP4)); have hZZ := yQf H4.out hrl hO5; obtain ⟨z0, z1, z2, z3, z4, y0, y1, y2, y3, y4, hzl⟩ := z5 hZZ)))
  have hE := zKl (c0 := undef) (c1 := undef) (c2 := undef) (c3 := undef) (c4 := undef) H4.out hrl hob hO5 hR5 (.int .u8 0) (.int .u64 0) (.string ⟨#[]⟩) (.int .u8 0) (.slice none 0 0)
  exact bodyPost_ret (zJe rfl _ _ w.heap.size _ _ _ _ _ _ rfl rfl (zZi _ _ _ _ _ hZZ)) rfl ⟨rfl, ⟨_, hE.1⟩, hE.2⟩
 ·have hC4 := sign1_m.2 hR4 [41] br4 bs4 (some ⟨w2.heap.size, 0, none⟩) sr4 ss4 ht4 h40 h41
  rw [rounds_succ]
  go_wp2_with (first | (go_at_call 203; ((with_reducible refine hC4.mono ?_); (rintro e x5 ⟨rfl, hP4⟩); (have hR5 := hP4.rd); (have hX5 := hX4.only hP4.only hX4.n1); (have hT5 := hT4.only hP4.only (fun j hj e => hG (by rw [← e]; exact hj))); (have hO5 := hO4.trans (hP4.only.mono fun j hj => .inl hj)); (have hK5 := hK4.only (hP4.only.mono fun j hj => .inl hj) (by omega)); have gn4 : g < x5.heap.size := Nat.lt_of_lt_of_le hgl hO5.size; obtain ⟨q0, q1, q2, q3, q4, qel, qef⟩ := hX5.e)))
  clear gn4 q0 q1 q2 q3 q4 qel qef hC4
  have g5 : g < x5.heap.size := Nat.lt_of_lt_of_le hgl hO5.size
  have hO9 := hO5
  have hR9 := hR5
  obtain ⟨q0, q1, q2, q3, q4, qel, qef⟩ := hX5.e
  have e2 := hR9.c2
  have f2 := hR9.f 2
  have hrl9 := hR9.lt
  have hZZ := yQf H4.out hrl hO9
  obtain ⟨z0, z1, z2, z3, z4, y0, y1, y2, y3, y4, hzl⟩ := z5 hZZ
  have hrz : ¬ w.heap.size = rb := by omega
  have hrz' : ¬ rb = w.heap.size := by omega
  have hez : ¬ w.heap.size = w2.heap.size := by omega
  have hez' : ¬ w2.heap.size = w.heap.size := by omega
  have her := hX5.n1
  have her' : ¬ rb = w2.heap.size := fun e => her e.symm
  rw [rounds_succ]
  obtain ⟨gk, capk, hlv, hkids⟩ := hK5.kids
  subst hlv
  go_wp2
  have hD := hR9.setD (e := d)
  have hOD : Only (fun j => j = rb ∨ j = w2.heap.size ∨ w4.heap.size ≤ j) w4 (x5.setCell ⟨rb, 2, none⟩ (.int .i64 d)) := hO9.setCell (.inl rfl)
  have hE := zKl (c0 := undef) (c1 := undef) (c2 := undef) (c3 := undef) (c4 := undef) H4.out hrl hob hOD hD (.int .u8 3) (.int .u64 0) (.string ⟨#[]⟩) (.int .u8 (o : Int)) (.slice (some ⟨gk, 0, none⟩) 2 capk)
  have hZD := zQm (.int .i64 d) (o := 2) hZZ hrz
  have h5 := yQa (.int .u8 3) (.int .u64 0) (.string ⟨#[]⟩) (.int .u8 (o : Int)) (.slice (some ⟨gk, 0, none⟩) 2 capk) (x5.setCell ⟨rb, 2, none⟩ (.int .i64 d)) w.heap.size
  refine bodyPost_ret (zJe rfl _ _ w.heap.size _ _ _ _ _ _ rfl rfl (zZi _ _ _ _ _ hZD)) rfl ⟨3, 0, ⟨#[]⟩, (o : Int), some ⟨gk, 0, none⟩, 2, capk, rfl, hE.1, hE.2, ?_⟩
  have hsz := H4.out.res.2.2
  obtain ⟨WF, hWF⟩ : ∃ WF, (((((x5.setCell ⟨rb, 2, none⟩ (.int .i64 d)).setCell ⟨w.heap.size, 0, none⟩ (.int .u8 3)).setCell ⟨w.heap.size, 1, none⟩ (.int .u64 0)).setCell ⟨w.heap.size, 2, none⟩ (.string ⟨#[]⟩)).setCell ⟨w.heap.size, 3, none⟩ (.int .u8 (o : Int))).setCell ⟨w.heap.size, 4, none⟩ (.slice (some ⟨gk, 0, none⟩) 2 capk) = WF := ⟨_, rfl⟩
  rw [hWF] at h5 ⊢
  clear hWF hE
  have h5s := h5.size
  rw [World.size_setCell] at h5s
  have hkid : KidsAt (fun b => w.heap.size ≤ b ∧ b < WF.heap.size) WF _ _ := hkids.mv (fun b hb => ⟨by omega, by omega⟩) (fun b o' v' hb hc => h5.cell (by simp only; omega) (xQh (u := undef) _ (by omega) hc))
  exact IsE.mk (k := 3) (n := 0) (s := []) (o := o) (l := [y, z]) ho256 (by simp) hkid
end Go.Proofs.YtfbjljcmmbdhkaaGreatDoor
