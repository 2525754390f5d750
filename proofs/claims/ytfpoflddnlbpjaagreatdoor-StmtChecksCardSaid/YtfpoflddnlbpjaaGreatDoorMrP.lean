/- Contract of the document's Copy of a program. -/
import Derived.Test.YtfpoflddnlbpjaaGreatDoorUdP
import Derived.Test.YtfpoflddnlbpjaaGreatDoorYbP
namespace Go.Proofs.YtfpoflddnlbpjaaGreatDoor
open Go.ChangeShapes Go.WideShapes Go.ChangeAt Go.RowKit
set_option linter.unusedVariables false
def Fd.lb (f : Fd) : Prop := f.ps.length ≤ 5864062014634 ∧ (f.bd.length ≤ 977343669105 ∧ lbS f.bd) ∧ (f.rt.length ≤ 2199023255488 ∧ lbL f.rt)
set_option maxRecDepth 100000 in
set_option maxHeartbeats 8000000 in
theorem cp_any (l : List Fd) (hlb : ∀ f ∈ l, f.lb) (hl : l.length ≤ 1466015503658) (G : Nat → Prop) (ma : Option Addr) (cap : Nat) (w : World) (hF : FdsAt G w l ma) :
    Calls Tryz.prog 12 #[.agg #[.slice ma l.length cap]] w fun r w' => (∃ (mk : Option Addr) (ck : Nat), r = .returned (.agg #[.slice mk l.length ck]) ∧ FdsAt (fun b => w.heap.size ≤ b ∧ b < w'.heap.size) w' l mk) ∧ Below w.heap.size w w' := by
  obtain ⟨i0, hi, hz0, hz1, hz2⟩ := info_parts infoF5
  obtain ⟨j0, ji, jz0, jz1, jz2⟩ := info_parts infoPl
  have HF := Lib.hid hF
  have HLB := Lib.hid hlb
  obtain ⟨N, hN⟩ : ∃ N, N = l.length := ⟨_, rfl⟩
  rw [← hN] at hl ⊢
  have HL := Lib.hid hN
  clear hF hlb hN
  go_enter Tryz.func12, Tryz.ntmps12
  go_wp2
  go_loopw [4] (fun iv wr => ∃ (L : List Fx) (M : Nat) (a : Option Addr) (c : Nat), M = L.length ∧ M ≤ N ∧ iv = .int .i64 (M : Int) ∧ wr.ownsRow (w.heap.size + 3) 47 5 (.slice a M c) M (fxs L) ∧ rowG #[.slice a M c] wr (w.heap.size + 1 + 1) ∧ rowG #[.slice none 0 0] wr (w.heap.size + 1) ∧ rowG #[.slice ma N cap] wr w.heap.size ∧ Below w.heap.size w wr ∧ Hid (L.map (·.x) = l.take M) ∧ Hid (∀ K ∈ L, K.is (fun b => w.heap.size + 3 ≤ b ∧ b < wr.heap.size ∧ ¬ (Value.slice a M c).ownBlock = some b) wr)) (fun iv _ => N - (intOf iv).toNat)
  case atStart => exact ⟨[], 0, none, 0, rfl, Nat.zero_le _, rfl, World.ownsRow_nil _ _ _ _, rowG_at _ _ _ _ (by simp), rowG_alloc (rowG_at _ _ _ _ (by simp)) _, rowG_alloc (rowG_alloc (rowG_at _ _ _ _ rfl) _) _, aB (aB (aB (Below.refl _ _) _) _) _, Lib.hid (by simp), Lib.hid (fun K hK => by simp at hK)⟩
  case round =>
    obtain ⟨L, M, a, c, hM, hMN, rfl, hown, hS, hZ, hP, hB, hLx, hLi⟩ := hrel
    have HM := Lib.hid hM
    clear hM
    have b0 := hP.1 0 (by simp)
    have bl := hP.2.2
    by_cases hlt : M < N
    · have hlt' : M < l.length := by rw [← HL.out]; exact hlt
      obtain ⟨g1, o1, xp, xb, xr, xc, xd, xe, rfl, -, hw1, hP1, hB1, hR1, hp, hb, hr, hr1⟩ := fds_row HF.out M hlt'
      obtain ⟨lp, ⟨lbd, lbb⟩, ⟨lr, lrr⟩⟩ := HLB.out _ (List.getElem_mem hlt')
      obtain ⟨q0, q1, q2, q3, q4⟩ := fiveR (range_stay hr1 hB)
      have hw1 : g1 < wr.heap.size := Nat.lt_of_lt_of_le hw1 hB.size
      have hX := fun w' (hb : Below wr.heap.size wr w') => cpx_any l[M].rt lrr lr G xr xe w' ((hR1.of hB).of hb)
      have hPP := fun w' (hb : Below wr.heap.size wr w') => pms_lie ((hP1.of hB).of hb)
      have hBd := fun w' (hb' : Below wr.heap.size wr w') => cps_any l[M].bd lbb lbd G xb xd w' ((hB1.of hB).of hb')
      have hst : l[M] = ⟨l[M].nm, l[M].ps, l[M].bd, l[M].sec, l[M].rt⟩ := rfl
      have HST := Lib.hid hst
      clear hP1 hB1 hR1 hr1 lrr lbb hst
      generalize l[M].nm = nm at *
      generalize l[M].sec = sec at *
      obtain ⟨np, hnp⟩ : ∃ np, np = l[M].ps.length := ⟨_, rfl⟩
      obtain ⟨nb, hnb⟩ : ∃ nb, nb = l[M].bd.length := ⟨_, rfl⟩
      obtain ⟨nr, hnr⟩ : ∃ nr, nr = l[M].rt.length := ⟨_, rfl⟩
      simp only [← hnp, ← hnb, ← hnr] at hp hb hr q0 q1 q2 q3 q4 lp lbd lr hX hPP hBd
      have HNP := Lib.hid hnp
      have HNB := Lib.hid hnb
      have HNR := Lib.hid hnr
      clear hnp hnb hnr
      obtain ⟨W1, hW1⟩ : ∃ W1, wr.alloc (.cells #[.string (str nm), .slice xp np xc, .slice xb nb xd, .bool sec, .slice xr nr xe] 47) = W1 := ⟨_, rfl⟩
      have hBW1 : Below wr.heap.size wr W1 := by rw [← hW1]; exact aB (Below.refl _ _) _
      have s1 : rowG #[.string (str nm), .slice xp np xc, .slice xb nb xd, .bool sec, .slice xr nr xe] W1 wr.heap.size := by rw [← hW1]; exact rowG_at _ _ _ _ rfl
      obtain ⟨z0, z1, z2, z3, z4, zf, zl⟩ := fiveF s1
      have hsl := hS.2.2
      go_wp2_with first
        | (at_builtin; refine wpList_append_row _ rfl _ _ 45 rfl (wr.heap.size + 1) 49 j0 _ 4 24 Tryz.underlying45 ji jz0 jz1 jz2 rfl (by decide) (.slice none 0 0) 0 [] rfl (World.ownsRow_nil _ _ _ _) xp np xc (pmC l[M].ps) rfl (by rw [pmC_len, HNP.out]) (hPP W1 hBW1) (pmC_one _) (by unfold maxLen; omega) (by omega) (by omega) ?_; (intro a2 c2 w2 hown2 hgrow2 hat2); (simp only [Nat.zero_add, List.nil_append] at hown2 ⊢); (have hb2 : Below W1.heap.size W1 w2 := (only_grown hgrow2).below (B := W1.heap.size) (fun j hj => by simp [Value.ownBlock] at hj) (Nat.le_refl _)); (have hB2 := tr hBW1 hb2); (have r2 := rowG_b s1 hb2); (clear z0 z1 z2 z3 z4 zf zl); (obtain ⟨z0, z1, z2, z3, z4, zf, zl⟩ := fiveF r2); (have kP := pms_own hown2 HNP.out); (obtain ⟨W2, hW2⟩ : ∃ W2, w2.setCell ⟨wr.heap.size, 1, none⟩ (.slice a2 np c2) = W2 := ⟨_, rfl⟩); (have s2 : rowG #[.string (str nm), .slice a2 np c2, .slice xb nb xd, .bool sec, .slice xr nr xe] W2 wr.heap.size := by rw [← hW2]; exact r5fs1 _ r2); (have hO2 : Only (fun j => j = wr.heap.size) w2 W2 := by rw [← hW2]; exact only_one _ _ _ _); (have hBW2 : Below wr.heap.size wr W2 := hB2.trans (hO2.below (B := wr.heap.size) (fun j hj => by omega) hB2.size)); (obtain ⟨y0, y1, y2, y3, y4, yf, yl⟩ := fiveF s2); (have kP2 := kP.only hO2 (fun b hb e => by have := hb.1; have e2 : b = wr.heap.size := e; omega)); (have hBc := hBd W2 hBW2))
        | (go_at_call 24; ((with_reducible refine hBc.mono ?_); (rintro e w3 ⟨⟨m3, c3, rfl, kB⟩, hb3⟩); (have hB3 := tr hBW2 hb3); (have r3 := rowG_b s2 hb3); (have l2 := s2.2.2); (clear z0 z1 z2 z3 z4 zf zl y0 y1 y2 y3 y4 yf yl hW2 hBc); (obtain ⟨z0, z1, z2, z3, z4, zf, zl⟩ := fiveF r3); (obtain ⟨W3, hW3⟩ : ∃ W3, w3.setCell ⟨wr.heap.size, 2, none⟩ (.slice m3 nb c3) = W3 := ⟨_, rfl⟩); (have s3 : rowG #[.string (str nm), .slice a2 np c2, .slice m3 nb c3, .bool sec, .slice xr nr xe] W3 wr.heap.size := by rw [← hW3]; exact r5fs2 _ r3); (have hO3 : Only (fun j => j = wr.heap.size) w3 W3 := by rw [← hW3]; exact only_one _ _ _ _); (have hBW3 : Below wr.heap.size wr W3 := hB3.trans (hO3.below (B := wr.heap.size) (fun j hj => by omega) hB3.size)); (obtain ⟨y0, y1, y2, y3, y4, yf, yl⟩ := fiveF s3); (have kB3 := kB.only hO3 (fun b hb e => by have := hb.1; have e2 : b = wr.heap.size := e; omega)); (have kP3 := (kP2.of hb3).only hO3 (fun b hb e => by have := hb.1; have e2 : b = wr.heap.size := e; omega)); (have hXc := hX W3 hBW3)))
        | (go_at_call 25; ((with_reducible refine hXc.mono ?_); (rintro e w4 ⟨⟨m4, c4, rfl, kX⟩, hb4⟩); (have hB4 := tr hBW3 hb4); (have r4 := rowG_b s3 hb4); (have l3 := s3.2.2); (clear z0 z1 z2 z3 z4 zf zl y0 y1 y2 y3 y4 yf yl hW3 hXc); (obtain ⟨z0, z1, z2, z3, z4, zf, zl⟩ := fiveF r4); (obtain ⟨W4, hW4⟩ : ∃ W4, w4.setCell ⟨wr.heap.size, 4, none⟩ (.slice m4 nr c4) = W4 := ⟨_, rfl⟩); (have s4 : rowG #[.string (str nm), .slice a2 np c2, .slice m3 nb c3, .bool sec, .slice m4 nr c4] W4 wr.heap.size := by rw [← hW4]; exact r5fs4 _ r4); (have hO4 : Only (fun j => j = wr.heap.size) w4 W4 := by rw [← hW4]; exact only_one _ _ _ _); (have hBW4 : Below wr.heap.size wr W4 := hB4.trans (hO4.below (B := wr.heap.size) (fun j hj => by omega) hB4.size)); (clear hPP); (obtain ⟨y0, y1, y2, y3, y4, yf, yl⟩ := fiveF s4); (have kX4 := kX.only hO4 (fun b hb e => by have := hb.1; have e2 : b = wr.heap.size := e; omega)); (have kB4 := (kB3.of hb4).only hO4 (fun b hb e => by have := hb.1; have e2 : b = wr.heap.size := e; omega)); (have kP4 := (kP3.of hb4).only hO4 (fun b hb e => by have := hb.1; have e2 : b = wr.heap.size := e; omega)); (have ho4 := own_of hown hBW4); (have t4 := rowG_b hS hBW4); (have v0 := t4.1 0 (by simp)); (have vf := t4.2.1 0); (have vl := t4.2.2); (have LX := s4.2.2)))
        | (at_builtin; refine wpList_append_lies _ rfl _ _ 22 rfl (w.heap.size + 3) 47 i0 _ 5 96 Tryz.underlying22 hi hz0 hz1 hz2 rfl (by decide) _ M (fxs L) rfl (ho4.alloc _) ⟨W4.heap.size, 0, none⟩ 1 1 (fxs [⟨nm, a2, np, c2, m3, nb, c3, sec, m4, nr, c4, l[M]⟩]) rfl rfl ?cN ?c0 (by decide) ?c1 ?c2 ?c3 _ rfl ?_)
      case cN => first | exact news_ok (fxs [⟨nm, a2, np, c2, m3, nb, c3, sec, m4, nr, c4, l[M]⟩]) 47 W4 | exact fun j u h => h
      case c0 => exact fxs_one _
      case c1 => unfold maxLen; omega
      case c2 => omega
      case c3 => have h1 := hB.size; have h2 := hBW4.size; first | omega | (simp; omega)
      obtain ⟨wa, hwa⟩ : ∃ wa, W4.alloc (.cells #[.string (str nm), .slice a2 np c2, .slice m3 nb c3, .bool sec, .slice m4 nr c4] 47) = wa := ⟨_, rfl⟩
      have hba : Below W4.heap.size W4 wa := by rw [← hwa]; exact aB (Below.refl _ _) _
      intro g cap' w6 hown6 hgrow hat hlt6
      rw [hwa] at hgrow
      have hszw : wa.heap.size = W4.heap.size + 1 := by rw [← hwa]; simp
      have hnew : ∀ j, some j = (Value.slice a M c).ownBlock → w.heap.size + 3 ≤ j := fun j hj => (own_lt hown hj.symm).1
      have hog := only_grown hgrow
      have hS6 := rowG_only (rowG_b t4 hba) hog (fun e => by have := hnew _ e; omega)
      have hZ6 := rowG_only (rowG_b (rowG_b hZ hBW4) hba) hog (fun e => by have := hnew _ e; omega)
      have hP6 := rowG_only (rowG_b (rowG_b hP hBW4) hba) hog (fun e => by have := hnew _ e; omega)
      have f0 := hS6.1 0 (by simp)
      have ff := hS6.2.1 0
      have fl := hS6.2.2
      clear v0 vf vl y0 y1 y2 y3 y4 yf yl
      go_wp2
      have hlo := fun (b : Nat) (hj : (Value.slice a M c).ownBlock = some b) => (own_lt hown hj).2
      have z1 := hBW1.size
      have z2 := hb2.size
      have z3 := hO2.size
      have z4 := hb3.size
      have z5 := hO3.size
      have z6 := hb4.size
      have z7 := hO4.size
      have z8 := hba.size
      have hKK : (⟨nm, a2, np, c2, m3, nb, c3, sec, m4, nr, c4, l[M]⟩ : Fx).is (fun b => w.heap.size + 3 ≤ b ∧ b < wa.heap.size ∧ ¬ (Value.slice a M c).ownBlock = some b) wa := by
        have e1 := HNP.out
        have e2 := HNB.out
        have e3 := HNR.out
        unfold Fx.is
        simp only
        rw [HST.out, e1, e2, e3]
        exact IsFd.mk (e1 ▸ hp) (e2 ▸ hb) (e3 ▸ hr) ((kP4.of hba).mono fun b h => ⟨by omega, by omega, fun e => by have := hlo b e; omega⟩) ((kB4.of hba).mono fun b h => ⟨by omega, by omega, fun e => by have := hlo b e; omega⟩) ((kX4.of hba).mono fun b h => ⟨by omega, by omega, fun e => by have := hlo b e; omega⟩)
      have hall : ∀ K ∈ L ++ [⟨nm, a2, np, c2, m3, nb, c3, sec, m4, nr, c4, l[M]⟩], K.is (fun b => w.heap.size + 3 ≤ b ∧ b < wa.heap.size ∧ ¬ (Value.slice a M c).ownBlock = some b) wa := fun K hK => by
        rcases List.mem_append.1 hK with h1 | h1
        · exact IsFd.mono (IsFd.of (hLi.out K h1) (tr hBW4 hba)) (fun b hb' => ⟨hb'.1, by have := hb'.2.1; have := hBW4.size; omega, hb'.2.2⟩)
        · obtain rfl := List.mem_singleton.1 h1
          exact hKK
      have hall6 := fx_append hgrow hat hszw _ hall (M + 1) cap'
      have hB6 : Below w.heap.size w w6 := (tr (tr hB hBW4) hba).grown hgrow (Nat.le_trans (Nat.le_trans hB.size hBW4.size) hba.size) (fun j hj => by have := (own_lt hown hj).1; omega)
      obtain ⟨W7, hW7⟩ : ∃ W7, w6.setCell ⟨w.heap.size + 1 + 1, 0, none⟩ (.slice (some ⟨g, 0, none⟩) (M + 1) cap') = W7 := ⟨_, rfl⟩
      have hO7 : Only (fun j => j = w.heap.size + 1 + 1) w6 W7 := by rw [← hW7]; exact only_one _ _ _ _
      have hS7 : rowG #[.slice (some ⟨g, 0, none⟩) (M + 1) cap'] W7 (w.heap.size + 1 + 1) := by rw [← hW7]; exact r1ps0 _ hS6
      have hown7 := own_only hown6 hO7 (fun j hj e => by have := (own_lt hown6 hj).1; have e2 : j = w.heap.size + 1 + 1 := e; omega)
      have hall7 : Hid (∀ K ∈ L ++ [⟨nm, a2, np, c2, m3, nb, c3, sec, m4, nr, c4, l[M]⟩], K.is (fun b => w.heap.size + 3 ≤ b ∧ b < W7.heap.size ∧ ¬ (Value.slice (some ⟨g, 0, none⟩) (M + 1) cap').ownBlock = some b) W7) := Lib.hid fun K hK => (IsFd.only (hall6 K hK) hO7 (fun b hb e => by have := hb.1; have e2 : b = w.heap.size + 1 + 1 := e; omega)).mono fun b hb => ⟨hb.1, Nat.lt_of_lt_of_le hb.2.1 hO7.size, hb.2.2⟩
      have hB7 : Below w.heap.size w W7 := hB6.trans (hO7.below (B := w.heap.size) (fun j hj => by omega) hB6.size)
      have hZ7 := rowG_only hZ6 hO7 (by omega)
      have hP7 := rowG_only hP6 hO7 (by omega)
      try rw [hW7]
      go_roundw
      case rel => first | exact ⟨L ++ [⟨nm, a2, np, c2, m3, nb, c3, sec, m4, nr, c4, l[M]⟩], M + 1, _, cap', by simp [HM.out], by omega, by go_num, by rw [fxs_app]; exact hown7, hS7, hZ7, hP7, hB7, Lib.hid (by rw [List.map_append, hLx.out, List.take_succ_eq_append_getElem hlt']; rfl), hall7⟩ | ((repeat apply Exists.intro); exact ⟨⟨L ++ [⟨nm, a2, np, c2, m3, nb, c3, sec, m4, nr, c4, l[M]⟩], M + 1, _, cap', by simp [HM.out], by omega, by go_num, by rw [fxs_app]; exact hown7, hS7, hZ7, hP7, hB7, Lib.hid (by rw [List.map_append, hLx.out, List.take_succ_eq_append_getElem hlt']; rfl), hall7⟩, rfl⟩)
      case measure => simp [intOf]; omega
    · obtain rfl : M = N := by omega
      have hFd := row_fds hown HM.out hLi.out
      rw [hLx.out, List.take_of_length_le (by rw [HL.out]; exact Nat.le_refl _)] at hFd
      go_wp2_with (first
        | (with_reducible refine ld1p rfl _ rfl (w.heap.size + 1 + 1) rfl (show rowG #[.slice a M c] _ _ from hS) ?_)
        | (with_reducible refine st1p rfl _ _ rfl (w.heap.size + 1) rfl rfl hZ ?_; intro wF hF hOF))
      have hsF := hOF.size
      refine bodyPost_ret (res1p rfl _ _ (w.heap.size + 1) _ rfl hF) rfl ?_
      exact ⟨⟨a, c, rfl, (hFd.only hOF (fun b hb e => by have := hb.1; have e2 : b = w.heap.size + 1 := e; omega)).mono fun b hb => ⟨by have := hb.1; omega, Nat.lt_of_lt_of_le hb.2 hsF⟩⟩, hB.trans (hOF.below (B := w.heap.size) (fun j hj => by have e2 : j = w.heap.size + 1 := hj; omega) hB.size)⟩
end Go.Proofs.YtfpoflddnlbpjaaGreatDoor
