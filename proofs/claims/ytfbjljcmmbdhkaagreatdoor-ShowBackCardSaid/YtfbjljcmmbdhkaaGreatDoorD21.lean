/- Contracts of the reader's expression: a byte. -/
import Derived.Test.YtfbjljcmmbdhkaaGreatDoorD18
namespace Go.Proofs.YtfbjljcmmbdhkaaGreatDoor
set_option linter.unusedVariables false
set_option linter.unusedSimpArgs false
set_option maxRecDepth 100000
set_option maxHeartbeats 200000000
open Go.ChangeShapes Go.WideShapes Go.ChangeAt Go.RowKit
theorem xQx {w : World} {rb : Nat} {v : Value} {T : List (Tk × Int)} {p d : Int} (h : IsRd w rb v T p d) (hT : Tb w) (hG : ¬ GB rb) (hd0 : 0 ≤ d) (hd1 : d < 40) (hkn : yQd T p = 5) (t : Tk) (ht0 : zXy T p = t) :
 (∀ (hn : zJf t = false), Calls Tryz.prog 178 #[.pointer (some ⟨rb, 0, none⟩)] w (ExEr w rb v T 7 (p))) ∧
 (∀ (h00 : 0 ≤ p) (h01 : p < T.length) (hn : zJf t = true) (ht1 : zXy T (p + 1) = sg [91]) (h10 : 0 ≤ p + 1) (h11 : p + 1 < T.length), (∀ (c q : Int) (hI1 : ∀ W, IsRd W rb v T (p + 1 + 1) (d + 1) → Tb W → Calls Tryz.prog 178 #[.pointer (some ⟨rb, 0, none⟩)] W (ExEr W rb v T c q)) (hc : ¬ c = 0), Calls Tryz.prog 178 #[.pointer (some ⟨rb, 0, none⟩)] w (ExEr w rb v T c (q))) ∧ (∀ (y : Xp) (q : Int) (hI1 : ∀ W, IsRd W rb v T (p + 1 + 1) (d + 1) → Tb W → Calls Tryz.prog 178 #[.pointer (some ⟨rb, 0, none⟩)] W (ExOk W rb v T (d + 1) y q)), (∀ (ht3 : ¬ zXy T q = sg [93]), Calls Tryz.prog 178 #[.pointer (some ⟨rb, 0, none⟩)] w (ExEr w rb v T 7 (q))) ∧ (∀ (ht3 : zXy T q = sg [93]) (h30 : 0 ≤ q) (h31 : q < T.length), Calls Tryz.prog 178 #[.pointer (some ⟨rb, 0, none⟩)] w (ExOk w rb v T d (.mk 5 0 t.t 0 [y]) (q + 1))))) := by
 refine ⟨fun hn => ?_, fun h00 h01 hn ht1 h10 h11 => ⟨fun c q hI1 hc => ?_, fun y q hI1 => ⟨fun ht3 => ?_, fun ht3 h30 h31 => ?_⟩⟩⟩
 all_goals
  obtain ⟨hob, hrl, hd40, d1, hd1e, hw1, hw2, e2, f2, hk'⟩ := xXu 5 h hd0 hd1 (by rw [hkn]; rfl)
  try rw [← hd1e] at hI1
  clear hd1e
  have HH := Lib.hid h
  have HT := Lib.hid hT
  clear h hT
  go_enter Tryz.func178, Tryz.ntmps178
  go_wp2_with (first | (go_at_call 192; ((with_reducible refine hk'.mono ?_); (rintro e w2 ⟨rfl, hb2⟩))) | (go_at_call 193; ((with_reducible refine (parts_byte rb _).mono ?_); (rintro e w4 ⟨⟨g, rfl, hgl, p0, ⟨f1, p1, br1, bs1, rfl, hr1, hs1⟩, p2, ⟨f3, p3, br3, bs3, rfl, hr3, hs3⟩⟩, hb4⟩))))
  have h4 := xXv 5 HH.out HT.out hG hb2 hb4
  have hGe := h4.gb HT.out
  clear hb2 hb4 hk' e2 f2
  have hlo := h4.lo
  have hsw4 := h4.only.size
  have hng := h4.ng p0 (fun _ _ _ h => by cases h)
  have hne := h4.ne p0 (fun h => by cases h)
  have nr1 := h4.rd.np hr1
  have ns1 := h4.rd.ns hs1
  have mr1 := h4.ne hr1 (fun h => by cases h)
  have ms1 := h4.ne hs1 (fun h => by cases h)
  have nr3 := h4.rd.np hr3
  have ns3 := h4.rd.ns hs3
  have mr3 := h4.ne hr3 (fun h => by cases h)
  have ms3 := h4.ne hs3 (fun h => by cases h)
  have hO0 : Only (fun j => j = rb ∨ j = w2.heap.size ∨ w4.heap.size ≤ j) w4 w4 := Only.refl _ _
  have H4 := Lib.hid h4
  obtain ⟨hR0, hX0, -, hT0, -, -⟩ := h4
  refine wp_loop_rounds 5 ?_
  have g0 : g < w4.heap.size := Nat.lt_of_lt_of_le hgl hO0.size
  have pt0 := Only.cell hO0 (a := ⟨g, 0, none⟩) (fun e => by simp only at e; omega) p0
 ·have hC0 := xZr hR0 hX0 hT0 hGe t ht0 hn
  rw [rounds_succ]
  go_wp2_with (first | (go_at_call 198; ((with_reducible refine hC0.mono ?_); (rintro e x1 ⟨rfl, hP0⟩); (have hR1 := hP0.rd); (have hO1 := hO0.trans (hP0.only.mono fun j hj => hj.elim .inl fun h => .inr (.inl h))); have hZZ := yQf H4.out hrl hO1; obtain ⟨z0, z1, z2, z3, z4, y0, y1, y2, y3, y4, hzl⟩ := z5 hZZ)))
  have hE := zKl (c0 := undef) (c1 := undef) (c2 := undef) (c3 := undef) (c4 := undef) H4.out hrl hob hO1 hR1 (.int .u8 0) (.int .u64 0) (.string ⟨#[]⟩) (.int .u8 0) (.slice none 0 0)
  exact bodyPost_ret (zJe rfl _ _ w.heap.size _ _ _ _ _ _ rfl rfl (zZi _ _ _ _ _ hZZ)) rfl ⟨rfl, ⟨_, hE.1⟩, hE.2⟩
 all_goals
  have hC0 := xQt hR0 hX0 hT0 hGe t ht0 hn h00 h01
  rw [rounds_succ]
  go_wp2_with (first | (go_at_call 198; ((with_reducible refine hC0.mono ?_); (rintro e x1 ⟨rfl, hP0⟩); (have hR1 := hP0.rd); (have hO1 := hO0.trans (hP0.only.mono fun j hj => hj.elim .inl fun h => .inr (.inl h))); (have hX1 := hP0.bx); (have hT1 := hT0.only hP0.only (fun j hj e => e.elim (fun e => hG (by rw [← e]; exact hj)) (fun e => hGe (by rw [← e]; exact hj)))); have gn0 : g < x1.heap.size := Nat.lt_of_lt_of_le hgl hO1.size; obtain ⟨q0, q1, q2, q3, q4, qel, qef⟩ := hX1.e)))
  clear gn0 q0 q1 q2 q3 q4 qel qef hC0
  clear g0 pt0
  have g1 : g < x1.heap.size := Nat.lt_of_lt_of_le hgl hO1.size
  have pt1 := Only.cell hO1 (a := ⟨g, 1, none⟩) (fun e => by simp only at e; omega) p1
  have sr1 := Only.cell hO1 (a := ⟨br1, 0, none⟩) (fun e => by have := World.block_lt_of_cell? w4 _ hr1; simp only at e this; omega) hr1
  have ss1 := Only.cell hO1 (a := ⟨bs1, 0, none⟩) (fun e => by have := World.block_lt_of_cell? w4 _ hs1; simp only at e this; omega) hs1
  have hC1 := sign1_m.2 hR1 [91] br1 bs1 (some ⟨w2.heap.size, 0, none⟩) sr1 ss1 ht1 h10 h11
  rw [rounds_succ]
  go_wp2_with (first | (go_at_call 203; ((with_reducible refine hC1.mono ?_); (rintro e x2 ⟨rfl, hP1⟩); (have hR2 := hP1.rd); (have hX2 := hX1.only hP1.only hX1.n1); (have hT2 := hT1.only hP1.only (fun j hj e => hG (by rw [← e]; exact hj))); (have hO2 := hO1.trans (hP1.only.mono fun j hj => .inl hj)); have gn1 : g < x2.heap.size := Nat.lt_of_lt_of_le hgl hO2.size; obtain ⟨q0, q1, q2, q3, q4, qel, qef⟩ := hX2.e)))
  clear gn1 q0 q1 q2 q3 q4 qel qef hC1
  clear g1 pt1
  have g2 : g < x2.heap.size := Nat.lt_of_lt_of_le hgl hO2.size
  have pt2 := Only.cell hO2 (a := ⟨g, 2, none⟩) (fun e => by simp only at e; omega) p2
  have hBB : w4.heap.size ≤ x2.heap.size := hO2.size
  obtain ⟨B, hBe⟩ : ∃ B, B = x2.heap.size := ⟨_, rfl⟩
  rw [← hBe] at hBB
  have HB := Lib.hid hBe
  clear hBe
 ·have hC2 := jXi hR2 (hI1 _ hR2 hT2) hX2 HB.out
  unfold KdE at hC2
  rw [rounds_succ]
  go_wp2_with (first | (go_at_call 199; ((with_reducible refine hC2.mono ?_); (rintro e x3 ⟨rfl, ⟨d9, hR3⟩, hQ2⟩); (have hO3 := hO2.trans (hQ2.mono fun j hj => hj.elim .inl fun hj => hj.elim (fun h => .inr (.inl h)) fun h => .inr (.inr (Nat.le_trans hBB h)))); have hZZ := yQf H4.out hrl hO3; obtain ⟨z0, z1, z2, z3, z4, y0, y1, y2, y3, y4, hzl⟩ := z5 hZZ)))
  have hE := zKl (c0 := undef) (c1 := undef) (c2 := undef) (c3 := undef) (c4 := undef) H4.out hrl hob hO3 hR3 (.int .u8 0) (.int .u64 0) (.string ⟨#[]⟩) (.int .u8 0) (.slice none 0 0)
  exact bodyPost_ret (zJe rfl _ _ w.heap.size _ _ _ _ _ _ rfl rfl (zZi _ _ _ _ _ hZZ)) rfl ⟨rfl, ⟨_, hE.1⟩, hE.2⟩
 all_goals
  have hC2 := jXg hR2 (hI1 _ hR2 hT2) hX2 HB.out
  unfold Kd1 at hC2
  rw [rounds_succ]
  go_wp2_with (first | (go_at_call 199; ((with_reducible refine hC2.mono ?_); (rintro e x3 ⟨rfl, hR3, hQ2, lv3, hX3, hK3⟩); (have hO3 := hO2.trans (hQ2.mono fun j hj => hj.elim .inl fun hj => hj.elim (fun h => .inr (.inl h)) fun h => .inr (.inr (Nat.le_trans hBB h)))); (have hT3 := hT2.only hQ2 (fun j hj e => e.elim (fun e => hG (by rw [← e]; exact hj)) (fun e => e.elim (fun e => hGe (by rw [← e]; exact hj)) (fun e => by have := HT.out.lt hj; omega)))); have gn2 : g < x3.heap.size := Nat.lt_of_lt_of_le hgl hO3.size; obtain ⟨q0, q1, q2, q3, q4, qel, qef⟩ := hX3.e)))
  clear gn2 q0 q1 q2 q3 q4 qel qef hC2
  clear g2 pt2
  have g3 : g < x3.heap.size := Nat.lt_of_lt_of_le hgl hO3.size
  have pt3 := Only.cell hO3 (a := ⟨g, 3, none⟩) (fun e => by simp only at e; omega) p3
  have sr3 := Only.cell hO3 (a := ⟨br3, 0, none⟩) (fun e => by have := World.block_lt_of_cell? w4 _ hr3; simp only at e this; omega) hr3
  have ss3 := Only.cell hO3 (a := ⟨bs3, 0, none⟩) (fun e => by have := World.block_lt_of_cell? w4 _ hs3; simp only at e this; omega) hs3
 ·have hC3 := sign1_m.1 hR3 [93] br3 bs3 (some ⟨w2.heap.size, 0, none⟩) sr3 ss3 ht3
  rw [rounds_succ]
  go_wp2_with (first | (go_at_call 203; ((with_reducible refine hC3.mono ?_); (rintro e x4 ⟨rfl, hP3⟩); (have hR4 := hR3.of hP3); (have hO4 := hO3.trans (zQd hP3)); have hZZ := yQf H4.out hrl hO4; obtain ⟨z0, z1, z2, z3, z4, y0, y1, y2, y3, y4, hzl⟩ := z5 hZZ)))
  have hE := zKl (c0 := undef) (c1 := undef) (c2 := undef) (c3 := undef) (c4 := undef) H4.out hrl hob hO4 hR4 (.int .u8 0) (.int .u64 0) (.string ⟨#[]⟩) (.int .u8 0) (.slice none 0 0)
  exact bodyPost_ret (zJe rfl _ _ w.heap.size _ _ _ _ _ _ rfl rfl (zZi _ _ _ _ _ hZZ)) rfl ⟨rfl, ⟨_, hE.1⟩, hE.2⟩
 ·have hC3 := sign1_m.2 hR3 [93] br3 bs3 (some ⟨w2.heap.size, 0, none⟩) sr3 ss3 ht3 h30 h31
  rw [rounds_succ]
  go_wp2_with (first | (go_at_call 203; ((with_reducible refine hC3.mono ?_); (rintro e x4 ⟨rfl, hP3⟩); (have hR4 := hP3.rd); (have hX4 := hX3.only hP3.only hX3.n1); (have hT4 := hT3.only hP3.only (fun j hj e => hG (by rw [← e]; exact hj))); (have hO4 := hO3.trans (hP3.only.mono fun j hj => .inl hj)); (have hK4 := hK3.only (hP3.only.mono fun j hj => .inl hj) (by omega)); have gn3 : g < x4.heap.size := Nat.lt_of_lt_of_le hgl hO4.size; obtain ⟨q0, q1, q2, q3, q4, qel, qef⟩ := hX4.e)))
  clear gn3 q0 q1 q2 q3 q4 qel qef hC3
  have g4 : g < x4.heap.size := Nat.lt_of_lt_of_le hgl hO4.size
  have hO9 := hO4
  have hR9 := hR4
  obtain ⟨q0, q1, q2, q3, q4, qel, qef⟩ := hX4.e
  have e2 := hR9.c2
  have f2 := hR9.f 2
  have hrl9 := hR9.lt
  have hZZ := yQf H4.out hrl hO9
  obtain ⟨z0, z1, z2, z3, z4, y0, y1, y2, y3, y4, hzl⟩ := z5 hZZ
  have hrz : ¬ w.heap.size = rb := by omega
  have hrz' : ¬ rb = w.heap.size := by omega
  have hez : ¬ w.heap.size = w2.heap.size := by omega
  have hez' : ¬ w2.heap.size = w.heap.size := by omega
  have her := hX4.n1
  have her' : ¬ rb = w2.heap.size := fun e => her e.symm
  rw [rounds_succ]
  obtain ⟨gk, capk, hlv, hkids⟩ := hK4.kids
  subst hlv
  go_wp2
  have hD := hR9.setD (e := d)
  have hOD : Only (fun j => j = rb ∨ j = w2.heap.size ∨ w4.heap.size ≤ j) w4 (x4.setCell ⟨rb, 2, none⟩ (.int .i64 d)) := hO9.setCell (.inl rfl)
  have hE := zKl (c0 := undef) (c1 := undef) (c2 := undef) (c3 := undef) (c4 := undef) H4.out hrl hob hOD hD (.int .u8 5) (.int .u64 0) (.string (str t.t)) (.int .u8 0) (.slice (some ⟨gk, 0, none⟩) 1 capk)
  have hZD := zQm (.int .i64 d) (o := 2) hZZ hrz
  have h5 := yQa (.int .u8 5) (.int .u64 0) (.string (str t.t)) (.int .u8 0) (.slice (some ⟨gk, 0, none⟩) 1 capk) (x4.setCell ⟨rb, 2, none⟩ (.int .i64 d)) w.heap.size
  refine bodyPost_ret (zJe rfl _ _ w.heap.size _ _ _ _ _ _ rfl rfl (zZi _ _ _ _ _ hZD)) rfl ⟨5, 0, str t.t, 0, some ⟨gk, 0, none⟩, 1, capk, rfl, hE.1, hE.2, ?_⟩
  have hsz := H4.out.res.2.2
  obtain ⟨WF, hWF⟩ : ∃ WF, (((((x4.setCell ⟨rb, 2, none⟩ (.int .i64 d)).setCell ⟨w.heap.size, 0, none⟩ (.int .u8 5)).setCell ⟨w.heap.size, 1, none⟩ (.int .u64 0)).setCell ⟨w.heap.size, 2, none⟩ (.string (str t.t))).setCell ⟨w.heap.size, 3, none⟩ (.int .u8 0)).setCell ⟨w.heap.size, 4, none⟩ (.slice (some ⟨gk, 0, none⟩) 1 capk) = WF := ⟨_, rfl⟩
  rw [hWF] at h5 ⊢
  clear hWF hE
  have h5s := h5.size
  rw [World.size_setCell] at h5s
  have hkid : KidsAt (fun b => w.heap.size ≤ b ∧ b < WF.heap.size) WF _ _ := hkids.mv (fun b hb => ⟨by omega, by omega⟩) (fun b o' v' hb hc => h5.cell (by simp only; omega) (xQh (u := undef) _ (by omega) hc))
  exact IsE.mk (k := 5) (n := 0) (s := t.t) (o := 0) (l := [y]) (by omega) (by simp) hkid
end Go.Proofs.YtfbjljcmmbdhkaaGreatDoor
