/- Contract of the document's Copy of a program. -/
import Derived.Test.YtfbjljcmmbdhkaaGreatDoorT41
import Derived.Test.YtfbjljcmmbdhkaaGreatDoorT43
import Derived.Test.YtfbjljcmmbdhkaaGreatDoorT07
namespace Go.Proofs.YtfbjljcmmbdhkaaGreatDoor
set_option linter.unusedVariables false
set_option linter.unusedSimpArgs false
set_option maxRecDepth 100000
set_option maxHeartbeats 200000000
open Go.ChangeShapes Go.WideShapes Go.ChangeAt Go.RowKit
def Fd.lb (f : Fd) : Prop := f.ps.length ≤ 5864062014634 ∧ (f.bd.length ≤ 977343669105 ∧ lbS f.bd) ∧ (f.rt.length ≤ 2199023255488 ∧ lbL f.rt)
theorem cp_any (l : List Fd) (hlb : ∀ f ∈ l, f.lb) (hl : l.length ≤ 1466015503658) (G : Nat → Prop) (ma : Option Addr) (cap : Nat) (w : World) (hF : FdsAt G w l ma) :
 Calls Tryz.prog 9 #[.agg #[.slice ma l.length cap]] w fun r w' => (∃ (mk : Option Addr) (ck : Nat), r = .returned (.agg #[.slice mk l.length ck]) ∧ FdsAt (fun b => w.heap.size ≤ b ∧ b < w'.heap.size) w' l mk) ∧ Below w.heap.size w w' := by
 obtain ⟨i0, hi, hz0, hz1, hz2⟩ := info_parts infoF5
 obtain ⟨j0, ji, jz0, jz1, jz2⟩ := info_parts infoPl
 have HF := Lib.hid hF
 have HLB := Lib.hid hlb
 obtain ⟨N, hN⟩ : ∃ N, N = l.length := ⟨_, rfl⟩
 rw [← hN] at hl ⊢
 have HL := Lib.hid hN
 clear hF hlb hN
 go_enter Tryz.func9, Tryz.ntmps9
 go_wp2
 go_loopw [4] (fun iv wr => ∃ (L : List Fx) (M : Nat) (a : Option Addr) (c : Nat), M = L.length ∧ M ≤ N ∧ iv = .int .i64 (M : Int) ∧ wr.ownsRow (w.heap.size + 3) 43 5 (.slice a M c) M (fxs L) ∧ rowG #[.slice a M c] wr (w.heap.size + 1 + 1) ∧ rowG #[.slice none 0 0] wr (w.heap.size + 1) ∧ rowG #[.slice ma N cap] wr w.heap.size ∧ Below w.heap.size w wr ∧ Hid (L.map (·.x) = l.take M) ∧ Hid (∀ K ∈ L, K.is (fun b => w.heap.size + 3 ≤ b ∧ b < wr.heap.size ∧ ¬ (Value.slice a M c).ownBlock = some b) wr)) (fun iv _ => N - (intOf iv).toNat)
 case atStart => exact ⟨[], 0, none, 0, rfl, Nat.zero_le _, rfl, World.ownsRow_nil _ _ _ _, rowG_at _ _ _ _ (by simp), rowG_alloc (rowG_at _ _ _ _ (by simp)) _, rowG_alloc (rowG_alloc (rowG_at _ _ _ _ rfl) _) _, aB (aB (aB (Below.refl _ _) _) _) _, Lib.hid (by simp), Lib.hid (fun K hK => by simp at hK)⟩
 case round =>
  obtain ⟨L, M, a, c, hM, hMN, rfl, hown, hS, hZ, hP, hB, hLx, hLi⟩ := hrel
  have HM := Lib.hid hM
  clear hM
  have b0 := hP.1 0 (by simp)
  have bl := hP.2.2
  by_cases hlt : M < N
  ·have hlt' : M < l.length := by rw [← HL.out]; exact hlt
   obtain ⟨g1, o1, xp, xb, xr, xc, xd, xe, rfl, -, hw1, hP1, hB1, hR1, hp, hb, hr, hr1⟩ := fds_row HF.out M hlt'
   obtain ⟨lp, ⟨lbd, lbb⟩, ⟨lr, lrr⟩⟩ := HLB.out _ (List.getElem_mem hlt')
   obtain ⟨q0, q1, q2, q3, q4⟩ := fiveR (range_stay hr1 hB)
   have hw1 : g1 < wr.heap.size := Nat.lt_of_lt_of_le hw1 hB.size
   have hX := fun w' (hb : Below wr.heap.size wr w') => cpx_any l[M].rt lrr lr G xr xe w' ((hR1.of hB).of hb)
   have hPP := fun w' (hb : Below wr.heap.size wr w') => pms_lie ((hP1.of hB).of hb)
   have hBd := fun w' (hb' : Below wr.heap.size wr w') => cps_any l[M].bd lbb lbd G xb xd w' ((hB1.of hB).of hb')
   have hst : l[M] = ⟨l[M].nm, l[M].ps, l[M].bd, l[M].sec, l[M].rt⟩ := rfl
   have HST := Lib.hid hst
   clear hP1 hB1 hR1 hr1 lrr lbb hst
   generalize l[M].nm = nm at *
   generalize l[M].sec = sec at *
   obtain ⟨np, hnp⟩ : ∃ np, np = l[M].ps.length := ⟨_, rfl⟩
   obtain ⟨nb, hnb⟩ : ∃ nb, nb = l[M].bd.length := ⟨_, rfl⟩
   obtain ⟨nr, hnr⟩ : ∃ nr, nr = l[M].rt.length := ⟨_, rfl⟩
   simp only [← hnp, ← hnb, ← hnr] at hp hb hr q0 q1 q2 q3 q4 lp lbd lr hX hPP hBd
   have HNP := Lib.hid hnp
   have HNB := Lib.hid hnb
   have HNR := Lib.hid hnr
   clear hnp hnb hnr
   obtain ⟨W1, hW1⟩ : ∃ W1, wr.alloc (.cells #[.string (str nm), .slice xp np xc, .slice xb nb xd, .bool sec, .slice xr nr xe] 43) = W1 := ⟨_, rfl⟩
   have hBW1 : Below wr.heap.size wr W1 := by rw [← hW1]; exact aB (Below.refl _ _) _
   have s1 : rowG #[.string (str nm), .slice xp np xc, .slice xb nb xd, .bool sec, .slice xr nr xe] W1 wr.heap.size := by rw [← hW1]; exact rowG_at _ _ _ _ rfl
   obtain ⟨z0, z1, z2, z3, z4, zf, zl⟩ := fiveF s1
   have hsl := hS.2.2
   go_wp2_with first
    | (at_builtin; refine wpList_append_row _ rfl _ _ 40 rfl (wr.heap.size + 1) 49 j0 _ 4 24 Tryz.underlying40 ji jz0 jz1 jz2 rfl (by decide) (.slice none 0 0) 0 [] rfl (World.ownsRow_nil _ _ _ _) xp np xc (pmC l[M].ps) rfl (by rw [pmC_len, HNP.out]) (hPP W1 hBW1) (pmC_one _) (by unfold maxLen; omega) (by omega) (by omega) ?_; (intro a2 c2 w2 hown2 hgrow2 hat2); (simp only [Nat.zero_add, List.nil_append] at hown2 ⊢); (have hb2 : Below W1.heap.size W1 w2 := (only_grown hgrow2).below (B := W1.heap.size) (fun j hj => by simp [Value.ownBlock] at hj) (Nat.le_refl _)); (have hB2 := tr hBW1 hb2); (have r2 := rowG_b s1 hb2); (clear z0 z1 z2 z3 z4 zf zl); (obtain ⟨z0, z1, z2, z3, z4, zf, zl⟩ := fiveF r2); (have kP := pms_own hown2 HNP.out); (obtain ⟨W2, hW2⟩ : ∃ W2, w2.setCell ⟨wr.heap.size, 1, none⟩ (.slice a2 np c2) = W2 := ⟨_, rfl⟩); (have s2 : rowG #[.string (str nm), .slice a2 np c2, .slice xb nb xd, .bool sec, .slice xr nr xe] W2 wr.heap.size := by rw [← hW2]; exact r5fs1 _ r2); (have hO2 : Only (fun j => j = wr.heap.size) w2 W2 := by rw [← hW2]; exact only_one _ _ _ _); (have hBW2 : Below wr.heap.size wr W2 := hB2.trans (hO2.below (B := wr.heap.size) (fun j hj => by omega) hB2.size)); (obtain ⟨y0, y1, y2, y3, y4, yf, yl⟩ := fiveF s2); (have kP2 := kP.only hO2 (fun b hb e => by have := hb.1; have e2 : b = wr.heap.size := e; omega)); (have hBc := hBd W2 hBW2))
    | (go_at_call 17; ((with_reducible refine hBc.mono ?_); (rintro e w3 ⟨⟨m3, c3, rfl, kB⟩, hb3⟩); (have hB3 := tr hBW2 hb3); (have r3 := rowG_b s2 hb3); (have l2 := s2.2.2); (clear z0 z1 z2 z3 z4 zf zl y0 y1 y2 y3 y4 yf yl hW2 hBc); (obtain ⟨z0, z1, z2, z3, z4, zf, zl⟩ := fiveF r3); (obtain ⟨W3, hW3⟩ : ∃ W3, w3.setCell ⟨wr.heap.size, 2, none⟩ (.slice m3 nb c3) = W3 := ⟨_, rfl⟩); (have s3 : rowG #[.string (str nm), .slice a2 np c2, .slice m3 nb c3, .bool sec, .slice xr nr xe] W3 wr.heap.size := by rw [← hW3]; exact r5fs2 _ r3); (have hO3 : Only (fun j => j = wr.heap.size) w3 W3 := by rw [← hW3]; exact only_one _ _ _ _); (have hBW3 : Below wr.heap.size wr W3 := hB3.trans (hO3.below (B := wr.heap.size) (fun j hj => by omega) hB3.size)); (obtain ⟨y0, y1, y2, y3, y4, yf, yl⟩ := fiveF s3); (have kB3 := kB.only hO3 (fun b hb e => by have := hb.1; have e2 : b = wr.heap.size := e; omega)); (have kP3 := (kP2.of hb3).only hO3 (fun b hb e => by have := hb.1; have e2 : b = wr.heap.size := e; omega)); (have hXc := hX W3 hBW3)))
    | (go_at_call 18; ((with_reducible refine hXc.mono ?_); (rintro e w4 ⟨⟨m4, c4, rfl, kX⟩, hb4⟩); (have hB4 := tr hBW3 hb4); (have r4 := rowG_b s3 hb4); (have l3 := s3.2.2); (clear z0 z1 z2 z3 z4 zf zl y0 y1 y2 y3 y4 yf yl hW3 hXc); (obtain ⟨z0, z1, z2, z3, z4, zf, zl⟩ := fiveF r4); (obtain ⟨W4, hW4⟩ : ∃ W4, w4.setCell ⟨wr.heap.size, 4, none⟩ (.slice m4 nr c4) = W4 := ⟨_, rfl⟩); (have s4 : rowG #[.string (str nm), .slice a2 np c2, .slice m3 nb c3, .bool sec, .slice m4 nr c4] W4 wr.heap.size := by rw [← hW4]; exact r5fs4 _ r4); (have hO4 : Only (fun j => j = wr.heap.size) w4 W4 := by rw [← hW4]; exact only_one _ _ _ _); (have hBW4 : Below wr.heap.size wr W4 := hB4.trans (hO4.below (B := wr.heap.size) (fun j hj => by omega) hB4.size)); (clear hPP); (obtain ⟨y0, y1, y2, y3, y4, yf, yl⟩ := fiveF s4); (have kX4 := kX.only hO4 (fun b hb e => by have := hb.1; have e2 : b = wr.heap.size := e; omega)); (have kB4 := (kB3.of hb4).only hO4 (fun b hb e => by have := hb.1; have e2 : b = wr.heap.size := e; omega)); (have kP4 := (kP3.of hb4).only hO4 (fun b hb e => by have := hb.1; have e2 : b = wr.heap.size := e; omega)); (have ho4 := own_of hown hBW4); (have t4 := rowG_b hS hBW4); (have v0 := t4.1 0 (by simp)); (have vf := t4.2.1 0); (have vl := t4.2.2); (have LX := s4.2.2)))
    | (at_builtin; refine wpList_append_lies _ rfl _ _ 22 rfl (w.heap.size + 3) 43 i0 _ 5 96 Tryz.underlying22 hi hz0 hz1 hz2 rfl (by decide) _ M (fxs L) rfl (ho4.alloc _) ⟨W4.heap.size, 0, none⟩ 1 1 (fxs [⟨nm, a2, np, c2, m3, nb, c3, sec, m4, nr, c4, l[M]⟩]) rfl rfl ?cN ?c0 (by decide) ?c1 ?c2 ?c3 _ rfl ?_)
   case cN => first | exact news_ok (fxs [⟨nm, a2, np, c2, m3, nb, c3, sec, m4, nr, c4, l[M]⟩]) 43 W4 | exact fun j u h => h
   case c0 => exact fxs_one _
   case c1 => unfold maxLen; omega
   case c2 => omega
   case c3 => have h1 := hB.size; have h2 := hBW4.size; first | omega | (simp; omega)
   obtain ⟨wa, hwa⟩ : ∃ wa, W4.alloc (.cells #[.string (str nm), .slice a2 np c2, .slice m3 nb c3, .bool sec, .slice m4 nr c4] 43) = wa := ⟨_, rfl⟩
   have hba : Below W4.heap.size W4 wa := by rw [← hwa]; exact aB (Below.refl _ _) _
   intro g cap' w6 hown6 hgrow hat hlt6
   rw [hwa] at hgrow
   have hszw : wa.heap.size = W4.heap.size + 1 := by rw [← hwa]; simp
   have hnew : ∀ j, some j = (Value.slice a M c).ownBlock → w.heap.size + 3 ≤ j := fun j hj => (own_lt hown hj.symm).1
   have hog := only_grown hgrow
   have hS6 := rowG_only (rowG_b t4 hba) hog (fun e => by have := hnew _ e; omega)
   have hZ6 := rowG_only (rowG_b (rowG_b hZ hBW4) hba) hog (fun e => by have := hnew _ e; omega)
   have hP6 := rowG_only (rowG_b (rowG_b hP hBW4) hba) hog (fun e => by have := hnew _ e; omega)
   have f0 := hS6.1 0 (by simp)
   have ff := hS6.2.1 0
   have fl := hS6.2.2
   clear v0 vf vl y0 y1 y2 y3 y4 yf yl
   go_wp2
   have hlo := fun (b : Nat) (hj : (Value.slice a M c).ownBlock = some b) => (own_lt hown hj).2
   have z1 := hBW1.size
   have z2 := hb2.size
   have z3 := hO2.size
   have z4 := hb3.size
   have z5 := hO3.size
   have z6 := hb4.size
   have z7 := hO4.size
   have z8 := hba.size
   have hKK : (⟨nm, a2, np, c2, m3, nb, c3, sec, m4, nr, c4, l[M]⟩ : Fx).is (fun b => w.heap.size + 3 ≤ b ∧ b < wa.heap.size ∧ ¬ (Value.slice a M c).ownBlock = some b) wa := by
    have e1 := HNP.out
    have e2 := HNB.out
    have e3 := HNR.out
    unfold Fx.is
    simp only
    rw [HST.out, e1, e2, e3]
    exact IsFd.mk (e1 ▸ hp) (e2 ▸ hb) (e3 ▸ hr) ((kP4.of hba).mono fun b h => ⟨by omega, by omega, fun e => by have := hlo b e; omega⟩) ((kB4.of hba).mono fun b h => ⟨by omega, by omega, fun e => by have := hlo b e; omega⟩) ((kX4.of hba).mono fun b h => ⟨by omega, by omega, fun e => by have := hlo b e; omega⟩)
   have hall : ∀ K ∈ L ++ [⟨nm, a2, np, c2, m3, nb, c3, sec, m4, nr, c4, l[M]⟩], K.is (fun b => w.heap.size + 3 ≤ b ∧ b < wa.heap.size ∧ ¬ (Value.slice a M c).ownBlock = some b) wa := fun K hK => by
    rcases List.mem_append.1 hK with h1 | h1
    ·exact IsFd.mono (IsFd.of (hLi.out K h1) (tr hBW4 hba)) (fun b hb' => ⟨hb'.1, by have := hb'.2.1; have := hBW4.size; omega, hb'.2.2⟩)
    ·obtain rfl := List.mem_singleton.1 h1
     exact hKK
   have hall6 := fx_append hgrow hat hszw _ hall (M + 1) cap'
   have hB6 : Below w.heap.size w w6 := (tr (tr hB hBW4) hba).grown hgrow (Nat.le_trans (Nat.le_trans hB.size hBW4.size) hba.size) (fun j hj => by have := (own_lt hown hj).1; omega)
   obtain ⟨W7, hW7⟩ : ∃ W7, w6.setCell ⟨w.heap.size + 1 + 1, 0, none⟩ (.slice (some ⟨g, 0, none⟩) (M + 1) cap') = W7 := ⟨_, rfl⟩
   have hO7 : Only (fun j => j = w.heap.size + 1 + 1) w6 W7 := by rw [← hW7]; exact only_one _ _ _ _
   have hS7 : rowG #[.slice (some ⟨g, 0, none⟩) (M + 1) cap'] W7 (w.heap.size + 1 + 1) := by rw [← hW7]; exact r1ps0 _ hS6
   have hown7 := own_only hown6 hO7 (fun j hj e => by have := (own_lt hown6 hj).1; have e2 : j = w.heap.size + 1 + 1 := e; omega)
   have hall7 : Hid (∀ K ∈ L ++ [⟨nm, a2, np, c2, m3, nb, c3, sec, m4, nr, c4, l[M]⟩], K.is (fun b => w.heap.size + 3 ≤ b ∧ b < W7.heap.size ∧ ¬ (Value.slice (some ⟨g, 0, none⟩) (M + 1) cap').ownBlock = some b) W7) := Lib.hid fun K hK => (IsFd.only (hall6 K hK) hO7 (fun b hb e => by have := hb.1; have e2 : b = w.heap.size + 1 + 1 := e; omega)).mono fun b hb => ⟨hb.1, Nat.lt_of_lt_of_le hb.2.1 hO7.size, hb.2.2⟩
   have hB7 : Below w.heap.size w W7 := hB6.trans (hO7.below (B := w.heap.size) (fun j hj => by omega) hB6.size)
   have hZ7 := rowG_only hZ6 hO7 (by omega)
   have hP7 := rowG_only hP6 hO7 (by omega)
   try rw [hW7]
   go_roundw
   case rel => first | exact ⟨L ++ [⟨nm, a2, np, c2, m3, nb, c3, sec, m4, nr, c4, l[M]⟩], M + 1, _, cap', by simp [HM.out], by omega, by go_num, by rw [fxs_app]; exact hown7, hS7, hZ7, hP7, hB7, Lib.hid (by rw [List.map_append, hLx.out, List.take_succ_eq_append_getElem hlt']; rfl), hall7⟩ | ((repeat apply Exists.intro); exact ⟨⟨L ++ [⟨nm, a2, np, c2, m3, nb, c3, sec, m4, nr, c4, l[M]⟩], M + 1, _, cap', by simp [HM.out], by omega, by go_num, by rw [fxs_app]; exact hown7, hS7, hZ7, hP7, hB7, Lib.hid (by rw [List.map_append, hLx.out, List.take_succ_eq_append_getElem hlt']; rfl), hall7⟩, rfl⟩)
   case measure => simp [intOf]; omega
  ·obtain rfl : M = N := by omega
   have hFd := row_fds hown HM.out hLi.out
   rw [hLx.out, List.take_of_length_le (by rw [HL.out]; exact Nat.le_refl _)] at hFd
   go_wp2_with (first
    | (with_reducible refine ld1p rfl _ rfl (w.heap.size + 1 + 1) rfl (show rowG #[.slice a M c] _ _ from hS) ?_)
    | (with_reducible refine st1p rfl _ _ rfl (w.heap.size + 1) rfl rfl hZ ?_; intro wF hF hOF))
   have hsF := hOF.size
   refine bodyPost_ret (res1p rfl _ _ (w.heap.size + 1) _ rfl hF) rfl ?_
   exact ⟨⟨a, c, rfl, (hFd.only hOF (fun b hb e => by have := hb.1; have e2 : b = w.heap.size + 1 := e; omega)).mono fun b hb => ⟨by have := hb.1; omega, Nat.lt_of_lt_of_le hb.2 hsF⟩⟩, hB.trans (hOF.below (B := w.heap.size) (fun j hj => by have e2 : j = w.heap.size + 1 := hj; omega) hB.size)⟩
mutual
def St.sb (B : Nat) : St → Prop
 | .mk _ nm fr _ _ ex ar bd el => nm.length ≤ B ∧ fr.length ≤ B ∧ sbL B ex ∧ (∀ s ∈ ar, s.length ≤ B) ∧ sbS B bd ∧ sbS B el
def sbS (B : Nat) : List St → Prop
 | [] => True
 | x :: r => x.sb B ∧ sbS B r
end
theorem sbS_iff {B : Nat} : ∀ {l : List St}, sbS B l ↔ ∀ x ∈ l, x.sb B
 | [] => by rw [sbS]; simp
 | x :: r => by rw [sbS, sbS_iff (l := r)]; simp
theorem sb_st {B : Nat} {s : St} (h : s.sb B) : s.nm.length ≤ B ∧ s.fr.length ≤ B ∧ sbL B s.ex ∧ (∀ t ∈ s.ar, t.length ≤ B) ∧ sbS B s.bd ∧ sbS B s.el := by cases s; rw [St.sb] at h; exact h
theorem frm_any (G : Nat → Prop) (v : Value) (s : St) (w : World) (hS : IsSt G w v s) (hsb : s.sb 140737488355328) :
 Calls Tryz.prog 49 #[v] w fun r w' => r = .returned (.bool (fitsB s)) ∧ Below w.heap.size w w' := by
 obtain ⟨s1, s2, s3, s4, -, -⟩ := sb_st hsb
 cases hS with
 | @mk k nm fr sec mu ex ar bd el mx ma mb ml cx ca cb cl hk hx ha hb hl hX hA hB hL =>
  rw [← form_fits]
  rcases hnd : ndsD k with ⟨ne, dn, df, ds, dm, db, dl, is⟩
  have hN := fun x => rnds_any k hk x
  rw [hnd] at hN
  have e := frm_core k nm fr sec mu mx ma mb ml ex.length ar.length bd.length el.length cx ca cb cl (ex.all (mayB 40)) (ar.all nmdB) (namedB fr df) (namedB nm dn) (nmdB nm) ((ex.length : Int) == ne) ne dn df ds dm db dl is w hx ha hN (fun x => rnd_any fr s2 df x) (fun x => rnd_any nm s1 dn x) (fun x => rnmd_str nm s1 x)
   (fun x hx' => by have := rex_any G ex s3 mx cx x (hX.of hx') hx (ex.length : Int); rw [beq_self_eq_true, Bool.and_true] at this; exact this)
   (fun x hx' => rex_any G ex s3 mx cx x (hX.of hx') hx ne) (fun x hx' => rns_any G ar s4 ma ca x (hA.of hx') ha)
   (by rw [ByteArray.toList_eq, str_list]; cases nm <;> simp)
  unfold formB badB
  rw [hnd]
  exact e
def optI : Option Nat → Int
 | none => -1
 | some n => (n : Int)
theorem rowS_le {one : St → Option Nat} (h : ∀ s n, one s = some n → n ≤ s.sz) : ∀ (l : List St) (n : Nat), rowS one l = some n → n ≤ szL l := by
 intro l
 induction l with
 | nil => intro n h; cases h; exact Nat.zero_le _
 | cons s r ih =>
  intro n hn
  rw [rowS] at hn
  cases h1 : one s with
  | none => rw [h1] at hn; cases hn
  | some a =>
   cases h2 : rowS one r with
   | none => rw [h1, h2] at hn; cases hn
   | some b =>
    rw [h1, h2] at hn
    simp only [Option.bind_some, Option.map_some, Option.some.injEq] at hn
    subst hn
    rw [szL]
    have := h _ _ h1
    have := ih _ h2
    omega
theorem cnt_le : ∀ (d : Nat) (l : List St) (n : Nat), cntR d l = some n → n ≤ szL l := by
 intro d
 induction d with
 | zero => intro l n h; cases l <;> simp [cntR] at h; subst h; exact Nat.zero_le _
 | succ d ih =>
  intro l n h
  rw [cntR_succ] at h
  refine rowS_le (fun s n hs => ?_) l n h
  unfold oneR at hs
  split at hs
  ·cases h1 : cntR d s.bd with
   | none => rw [h1] at hs; cases hs
   | some a =>
    cases h2 : cntR d s.el with
    | none => rw [h1, h2] at hs; cases hs
    | some b =>
     rw [h1, h2] at hs
     simp only [Option.bind_some, Option.map_some, Option.some.injEq] at hs
     subst hs
     rw [sz_s]
     have := ih _ _ h1
     have := ih _ _ h2
     omega
  ·cases hs
theorem szL_take (l : List St) (k : Nat) : szL (l.take k) ≤ szL l := by
 have e := List.take_append_drop k l
 have h : szL (l.take k ++ l.drop k) = szL l := by rw [e]
 have happ : ∀ (a b : List St), szL a ≤ szL (a ++ b) := by
  intro a b
  induction a with
  | nil => rw [szL]; exact Nat.zero_le _
  | cons x a ih => rw [List.cons_append, szL, szL]; omega
 have := happ (l.take k) (l.drop k)
 omega
theorem cnt_zero (l : List St) (ma : Option Addr) (cap : Nat) (w : World) (hl : l.length ≤ 140737488355328) :
 Calls Tryz.prog 27 #[.slice ma l.length cap, .int .i64 (41 - ((0 : Nat) : Int))] w fun r w' => r = .returned (.int .i64 (optI (cntR 0 l))) ∧ Below w.heap.size w w' := by
 obtain ⟨D, hD⟩ : ∃ D : Int, D = 41 - ((0 : Nat) : Int) := ⟨_, rfl⟩
 have hD4 : (40 : Int) < D := by omega
 rw [← hD]
 clear hD
 cases l with
 | nil =>
  go_enter Tryz.func27, Tryz.ntmps27
  go_wp2
  go_loopw [5, 6] (fun n i wr => n = .int .i64 0 ∧ i = .int .i64 0 ∧ w = wr) (fun _ _ _ => 0)
  case atStart => exact ⟨rfl, rfl, rfl⟩
  case round =>
   obtain ⟨rfl, rfl, rfl⟩ := hrel
   go_wp2
   go_ret
   exact ⟨rfl, Below.refl _ _⟩
 | cons x r =>
  have hp : (0 : Int) < (((x :: r).length : Nat) : Int) := by simp
  have hr : cntR 0 (x :: r) = none := rfl
  rw [hr]
  obtain ⟨N, hN⟩ : ∃ N, N = (x :: r).length := ⟨_, rfl⟩
  rw [← hN] at hp hl ⊢
  clear hN
  go_enter Tryz.func27, Tryz.ntmps27
  go_wp2
  go_loopw [5, 6] (fun n i wr => n = .int .i64 0 ∧ i = .int .i64 0 ∧ w = wr) (fun _ _ _ => 0)
  case atStart => exact ⟨rfl, rfl, rfl⟩
  case round =>
   obtain ⟨rfl, rfl, rfl⟩ := hrel
   go_wp2
   go_ret
   exact ⟨rfl, Below.refl _ _⟩
theorem cnt_any : ∀ (d : Nat) (G : Nat → Prop) (l : List St) (ma : Option Addr) (cap : Nat) (w : World), d ≤ 40 → StsAt G w l ma → sbS 140737488355328 l → szL l ≤ 900 → l.length ≤ 140737488355328 →
 Calls Tryz.prog 27 #[.slice ma l.length cap, .int .i64 (41 - (d : Int))] w fun r w' => r = .returned (.int .i64 (optI (cntR d l))) ∧ Below w.heap.size w w' := by
 intro d
 induction d with
 | zero => intro G l ma cap w _ _ _ _ hl; exact cnt_zero l ma cap w hl
 | succ d ih =>
  intro G l ma cap w hd hS hsb hsz hl
  have HIH := Lib.hid ih
  have HS := Lib.hid hS
  have HSB := Lib.hid (sbS_iff.1 hsb)
  have HZ := Lib.hid hsz
  have Hd := Lib.hid hd
  obtain ⟨R, hR⟩ : ∃ R, R = cntR (d + 1) l := ⟨_, rfl⟩
  rw [← hR]
  rw [cntR_succ] at hR
  have HR := Lib.hid hR
  obtain ⟨D, hD⟩ : ∃ D : Int, D = 41 - ((d + 1 : Nat) : Int) := ⟨_, rfl⟩
  obtain ⟨D1, hD1⟩ : ∃ D1 : Int, D1 = 41 - (d : Int) := ⟨_, rfl⟩
  have hD4 : ¬ (40 : Int) < D := by omega
  have hwd : IntKind.i64.wrap (D + 1) = D1 := by rw [IntKind.wrap_i64]; omega
  rw [← hD]
  have HD1 := Lib.hid hD1
  obtain ⟨N, hN⟩ : ∃ N, N = l.length := ⟨_, rfl⟩
  rw [← hN] at hl ⊢
  have HN := Lib.hid hN
  clear ih hS hsb hsz hd hD hD1 hN hR
  go_enter Tryz.func27, Tryz.ntmps27
  go_wp2
  go_loopw [5, 6] (fun nv i wr => ∃ k n : Nat, k ≤ N ∧ nv = .int .i64 (n : Int) ∧ i = .int .i64 (k : Int) ∧ Hid (rowS (oneR d) (l.take k) = some n) ∧ Below w.heap.size w wr) (fun _ i _ => N - (intOf i).toNat)
  case atStart => exact ⟨0, 0, Nat.zero_le _, rfl, rfl, Lib.hid rfl, Below.refl _ _⟩
  case round =>
   obtain ⟨k, n, hk, rfl, rfl, hrow, hB⟩ := hrel
   by_cases hlt : k < N
   ·have hlt' : k < l.length := by rw [← HN.out]; exact hlt
    obtain ⟨b, o, K, rfl, hGb, hKx, hKi, hle, hnb, hnl, hBd, hEl, hbl, hll, hcells⟩ := sts_at l ma HS.out k hlt'
    have hrg := range_stay (sx_range (K := K) (b := b) (o := o + k * 9) (w := w) hcells) hB
    have hbw : b < wr.heap.size := Nat.lt_of_lt_of_le (World.block_lt_of_cell? w ⟨b, o + k * 9 + 0, none⟩ (hcells 0 _ rfl)) hB.size
    have hsz2 : (l[k]).sz ≤ 900 := Nat.le_trans (szL_mem (List.getElem_mem hlt')) HZ.out
    rw [sz_s] at hsz2
    have hsbk := HSB.out _ (List.getElem_mem hlt')
    obtain ⟨-, -, -, -, sb5, sb6⟩ := sb_st hsbk
    have hKr := IsSt.of hKi hB
    unfold Sx.is at hKr
    rw [hKx] at hKr
    have hFm := frm_any G _ l[k] wr hKr hsbk
    have hC1 := fun w' (hb : Below wr.heap.size wr w') => HIH.out G l[k].bd K.mb K.cb w' (by have := Hd.out; omega) ((hBd.of hB).of hb) sb5 (by omega) hbl
    have hC2 := fun w' (hb : Below wr.heap.size wr w') => HIH.out G l[k].el K.ml K.cl w' (by have := Hd.out; omega) ((hEl.of hB).of hb) sb6 (by omega) hll
    rw [← hnb, ← HD1.out] at hC1
    rw [← hnl, ← HD1.out] at hC2
    have hst := rowS_take (oneR d) hlt' hrow.out
    have hno := fun h => rowS_none (oneR d) hlt' h
    have hone : oneR d l[k] = if fitsB l[k] = true then (cntR d l[k].bd).bind fun a => (cntR d l[k].el).map fun b => 1 + a + b else none := rfl
    rw [hone] at hst hno
    have HLE : Hid (∀ m, rowS (oneR d) (l.take (k + 1)) = some m → m ≤ 900) := Lib.hid (fun m hm => Nat.le_trans (Nat.le_trans (cnt_le (d + 1) _ m (by rw [cntR_succ]; exact hm)) (szL_take l (k + 1))) HZ.out)
    have HST := Lib.hid hst
    have HNO := Lib.hid hno
    obtain ⟨ca, hca⟩ : ∃ ca, ca = cntR d l[k].bd := ⟨_, rfl⟩
    obtain ⟨ce, hce⟩ : ∃ ce, ce = cntR d l[k].el := ⟨_, rfl⟩
    rw [← hca] at hC1
    rw [← hce] at hC2
    have HCA := Lib.hid hca
    have HCE := Lib.hid hce
    obtain ⟨va, hva⟩ : ∃ va : Int, va = optI ca := ⟨_, rfl⟩
    obtain ⟨ve, hve⟩ : ∃ ve : Int, ve = optI ce := ⟨_, rfl⟩
    rw [← hva] at hC1
    rw [← hve] at hC2
    have HVA := Lib.hid hva
    have HVE := Lib.hid hve
    obtain ⟨fb, hfb⟩ : ∃ fb, fb = fitsB l[k] := ⟨_, rfl⟩
    rw [← hfb] at hFm
    have HFB := Lib.hid hfb
    obtain ⟨K0, K1, K2, K3, K4, K5, K6, K7, K8, K9, K10, K11, K12, K13, K14, K15, K16, K17⟩ := K
    simp only at hrg hFm hC1 hC2
    clear hKx hKi hle hnb hnl hBd hEl hbl hll hcells hsz2 hsbk sb5 sb6 hKr hst hno hone hca hce hva hve hfb hrow
    obtain ⟨q0, q1, q2, q3, q4, q5, q6, q7, q8⟩ := nineR hrg
    cases fb
    ·go_wp2_with (first | (with_reducible refine ld9o rfl _ rfl b (o + k * 9) rfl hrg ?_) | (go_at_call 49; ((with_reducible refine hFm.mono ?_); (rintro e w2 ⟨rfl, hb2⟩))))
     go_ret
     have hRn : R = none := by rw [HR.out]; exact HNO.out (by rw [← HFB.out]; rfl)
     exact ⟨by rw [hRn]; rfl, tr hB hb2⟩
    ·go_wp2_with (first | (with_reducible refine ld9o rfl _ rfl b (o + k * 9) rfl hrg ?_) | (go_at_call 49; ((with_reducible refine hFm.mono ?_); (rintro e w2 ⟨rfl, hb2⟩); (have p7 := stay hb2 q7); (have p8 := stay hb2 q8); (have pl := Nat.lt_of_lt_of_le hbw hb2.size); (clear q0 q1 q2 q3 q4 q5 q6 q7 q8 hrg hFm))))
     have hF0 : Below wr.heap.size wr w2.drew := bdN hb2 1
     have hFc := fun w' (hf : Below w2.heap.size w2 w') => show w'.cell? ⟨b, o + k * 9 + 7, none⟩ = some (.slice K11 K12 K13) ∧ w'.cell? ⟨b, o + k * 9 + 8, none⟩ = some (.slice K14 K15 K16) ∧ b < w'.heap.size from ⟨stay hf p7, stay hf p8, Nat.lt_of_lt_of_le pl hf.size⟩
     have hF1 : Below w2.heap.size w2 w2.drew := bdd (Below.refl _ _)
     clear p7 p8 pl
     refine region_K (fun w' => Below w2.heap.size w2 w') (by kernel_rfl) ?_
     have q : Pq [0, 1, 2, 3, 4, 5, 6, 8, 9, 10, 11, 12, 13, 14] := trivial
     iterate 14
      refine tkK q rfl (by kernel_rfl) (fun _ _ _ _ h => h) hF1 fun K hK => ?_
      replace q := q.tl
      apply Exists.intro
      refine ⟨Or.inl ⟨by kernel_rfl, fun w' hf => ?_⟩, ?_⟩
      ·obtain ⟨z7, z8, zl⟩ := hFc w' hf
       go_simp
       try exact rfl
      go_simp
      refine hK _ ?_
      clear hK K
     refine wpAnyK_one (k := 7) (by kernel_rfl) ?_
     refine wpOp_step rfl (fun K hK => ?_)
     go_simp
     go_at_call 27
     with_reducible refine (hC1 _ hF0).mono ?_
     rintro e w3 ⟨rfl, hb3⟩
     have hF3 := hF1.trans (hb3.mono hF1.size)
     refine hK _ _ ⟨hF3, ?_⟩
     clear hK K
     refine wpAnyK_one (k := 15) (by kernel_rfl) ?_
     refine wpOp_step rfl (fun K hK => ?_)
     go_simp
     go_at_call 27
     with_reducible refine (hC2 _ (tr hb2 hF3)).mono ?_
     rintro e w4 ⟨rfl, hb4⟩
     have hF4 := hF3.trans (hb4.mono hF3.size)
     refine hK _ _ ⟨hF4, ?_⟩
     clear hK K
     refine wpAnyK_one (k := 16) (by kernel_rfl) ?_
     refine wpOp_step rfl (fun K hK => ?_)
     go_simp
     refine hK _ _ ⟨hF4, ?_⟩
     clear hK K
     refine wpAnyK_one (k := 17) (by kernel_rfl) ?_
     refine wpOp_step rfl (fun K hK => ?_)
     go_simp
     refine hK _ _ ⟨hF4, ?_⟩
     clear hK K
     refine wpAnyK_done (by kernel_rfl) ?_
     have hB4 := tr hB (tr hb2 hF4)
     clear hFc hF0 hF1 hF3 hF4 hC1 hC2
     cases ca with
     | none =>
      have hva : va < 0 := by rw [HVA.out]; decide
      go_wp2
      go_ret
      have hRn : R = none := by rw [HR.out]; exact HNO.out (by rw [← HFB.out, ← HCA.out]; rfl)
      exact ⟨by rw [hRn]; rfl, hB4⟩
     | some a0 =>
      have hva : va = (a0 : Int) := HVA.out
      subst hva
      have hva0 : ¬ (a0 : Int) < 0 := by omega
      cases ce with
      | none =>
       have hve : ve < 0 := by rw [HVE.out]; decide
       go_wp2
       go_ret
       have hRn : R = none := by rw [HR.out]; exact HNO.out (by rw [← HFB.out, ← HCA.out, ← HCE.out]; rfl)
       exact ⟨by rw [hRn]; rfl, hB4⟩
      | some e0 =>
       have hve : ve = (e0 : Int) := HVE.out
       subst hve
       have hve0 : ¬ (e0 : Int) < 0 := by omega
       have hnew : rowS (oneR d) (l.take (k + 1)) = some (n + (1 + a0 + e0)) := by rw [HST.out, ← HFB.out, ← HCA.out, ← HCE.out]; rfl
       have hbd := HLE.out _ hnew
       have HNEW := Lib.hid hnew
       clear hnew
       have hw1 : IntKind.i64.wrap ((n : Int) + 1) = (n : Int) + 1 := by rw [IntKind.wrap_i64]; omega
       have hw2 : IntKind.i64.wrap ((n : Int) + 1 + (a0 : Int)) = (n : Int) + 1 + (a0 : Int) := by rw [IntKind.wrap_i64]; omega
       have hw3 : IntKind.i64.wrap ((n : Int) + 1 + (a0 : Int) + (e0 : Int)) = ((n + (1 + a0 + e0) : Nat) : Int) := by rw [IntKind.wrap_i64]; omega
       go_wp2
       go_roundw
       case rel => first | exact ⟨k + 1, n + (1 + a0 + e0), by omega, rfl, by go_num, HNEW, hB4⟩ | ((repeat apply Exists.intro); exact ⟨⟨k + 1, n + (1 + a0 + e0), by omega, rfl, by go_num, HNEW, hB4⟩, rfl⟩)
       case measure => simp [intOf]; omega
   ·obtain rfl : k = N := by omega
    have h := hrow.out
    rw [List.take_of_length_le (by rw [HN.out]; exact Nat.le_refl _)] at h
    have hRn : R = some n := by rw [HR.out]; exact h
    subst hRn
    clear h hrow
    go_wp2
    go_ret
    exact ⟨rfl, hB⟩
def Fd.sb (B : Nat) (f : Fd) : Prop := f.nm.length ≤ B ∧ (∀ p ∈ f.ps, p.nm.length ≤ B) ∧ sbS B f.bd ∧ sbL B f.rt
theorem rfn_any (G : Nat → Prop) (nm : List UInt8) (ps : List Pm) (sec : Bool) (rt : List Xp) (mp mb mr : Option Addr) (np cp nb cb nr cr : Nat) (w : World) (hnp : np = ps.length) (hnr : nr = rt.length) (hP : PmsAt G w ps mp) (hR : KidsAt G w rt mr) (hpl : np ≤ 140737488355328) (hrl : nr ≤ 140737488355328)
 (hs1 : nm.length ≤ 140737488355328) (hs2 : ∀ p ∈ ps, p.nm.length ≤ 140737488355328) (hs3 : sbL 140737488355328 rt) :
 Calls Tryz.prog 28 #[.agg #[.string (str nm), .slice mp np cp, .slice mb nb cb, .bool sec, .slice mr nr cr]] w fun r w' => r = .returned (.bool (nmdB nm && psB ps && rtB sec rt)) ∧ Below w.heap.size w w' := by
 have hps : psB ps = (decide (np ≤ 8) && ps.all pmB) := by rw [hnp]; rfl
 have hrt : rtB sec rt = if nr = 0 then !sec else decide (nr = 1) && rt.all (mayB 40) := by rw [hnr]; rfl
 have hE := fun x (hx : Below w.heap.size w x) => rex_any G rt hs3 mr cr x (hR.of hx) (by rw [← hnr]; exact hrl) (nr : Int)
 rw [← hnr] at hE
 have hE' : ∀ x, Below w.heap.size w x → Calls Tryz.prog 51 #[.slice mr nr cr, .int .i64 (nr : Int)] x fun r w' => r = .returned (.bool (rt.all (mayB 40))) ∧ Below x.heap.size x w' := fun x hx => by
  have := hE x hx
  rw [beq_self_eq_true, Bool.and_true] at this
  exact this
 have hn0 : nr = 0 → rt.all (mayB 40) = true := fun h => by
  have : rt = [] := List.length_eq_zero_iff.1 (by omega)
  rw [this]; rfl
 rw [hps, hrt]
 have hNm := fun x => rnmd_str nm hs1 x
 have HP := Lib.hid hP
 have HNP := Lib.hid hnp
 have HS2 := Lib.hid hs2
 clear hE hps hrt hP hR hnp hnr hs2 hs3
 generalize rt.all (mayB 40) = P at *
 generalize nmdB nm = c1 at *
 obtain ⟨W, hW⟩ : ∃ W, w.alloc (.cells #[.string (str nm), .slice mp np cp, .slice mb nb cb, .bool sec, .slice mr nr cr] 43) = W := ⟨_, rfl⟩
 have hBW : Below w.heap.size w W := by rw [← hW]; exact aB (Below.refl _ _) _
 have hr : rowG #[.string (str nm), .slice mp np cp, .slice mb nb cb, .bool sec, .slice mr nr cr] W w.heap.size := by rw [← hW]; exact rowG_at _ _ _ _ rfl
 obtain ⟨z0, z1, z2, z3, z4, zf, zl⟩ := fiveF hr
 have hun : undef = Value.tuple #[] := rfl
 cases c1
 ·simp only [Bool.false_and]
  go_enter Tryz.func28, Tryz.ntmps28
  go_wp2_with (go_at_call 50; ((with_reducible refine (hNm _).mono ?_); (rintro e w1 ⟨rfl, hb1⟩)))
  go_ret
  exact ⟨rfl, tr hBW hb1⟩
 by_cases h8 : np ≤ 8
 rotate_left
 ·have h8i : (8 : Int) < (np : Int) := by omega
  rw [decide_eq_false h8]
  simp only [Bool.false_and, Bool.and_false]
  have H8 := Lib.hid h8
  clear h8
  go_enter Tryz.func28, Tryz.ntmps28
  go_wp2_with (go_at_call 50; ((with_reducible refine (hNm _).mono ?_); (rintro e w1 ⟨rfl, hb1⟩); (have hr1 := rowG_b hr hb1); (clear z0 z1 z2 z3 z4 zf zl); (obtain ⟨z0, z1, z2, z3, z4, zf, zl⟩ := fiveF hr1)))
  go_ret
  exact ⟨rfl, tr hBW hb1⟩
 have h8i : ¬ (8 : Int) < (np : Int) := by omega
 rw [decide_eq_true h8, Bool.true_and, Bool.true_and]
 have H8 := Lib.hid h8
 clear h8
 by_cases h1 : nr ≤ 1
 rotate_left
 ·have h1i : (1 : Int) < (nr : Int) := by omega
  have hf : ((ps.all pmB) && (if nr = 0 then !sec else decide (nr = 1) && P)) = false := by rw [if_neg (by omega), decide_eq_false (by omega)]; simp
  rw [hf]
  clear hf h1
  go_enter Tryz.func28, Tryz.ntmps28
  go_wp2_with (go_at_call 50; ((with_reducible refine (hNm _).mono ?_); (rintro e w1 ⟨rfl, hb1⟩); (have hr1 := rowG_b hr hb1); (clear z0 z1 z2 z3 z4 zf zl); (obtain ⟨z0, z1, z2, z3, z4, zf, zl⟩ := fiveF hr1)))
  go_ret
  exact ⟨rfl, tr hBW hb1⟩
 have h1i : ¬ (1 : Int) < (nr : Int) := by omega
 cases P
 ·have hf : ((ps.all pmB) && (if nr = 0 then !sec else decide (nr = 1) && false)) = false := by
   by_cases h0 : nr = 0
   ·have := hn0 h0; cases this
   ·rw [if_neg h0]; simp
  rw [hf]
  clear hf h1 hn0
  go_enter Tryz.func28, Tryz.ntmps28
  go_wp2_with (first
   | (go_at_call 50; ((with_reducible refine (hNm _).mono ?_); (rintro e w1 ⟨rfl, hb1⟩); (have hr1 := rowG_b hr hb1); (clear z0 z1 z2 z3 z4 zf zl); (obtain ⟨z0, z1, z2, z3, z4, zf, zl⟩ := fiveF hr1)))
   | (go_at_call 51; ((with_reducible refine (hE' _ (tr hBW hb1)).mono ?_); (rintro e w2 ⟨rfl, hb2⟩))))
  go_ret
  exact ⟨rfl, tr (tr hBW hb1) hb2⟩
 have hb0 : (if nr = 0 then !sec else decide (nr = 1) && true) = !(decide (nr = 0) && sec) := by
  by_cases h0 : nr = 0
  ·rw [if_pos h0, decide_eq_true h0, Bool.true_and]
  ·rw [if_neg h0, decide_eq_false h0, decide_eq_true (by omega)]; rfl
 rw [hb0]
 clear hb0 hn0
 by_cases h0 : nr = 0 ∧ sec = true
 ·obtain ⟨h0, rfl⟩ := h0
  have h0i : ((nr : Int) == 0) = true := by simp only [beq_iff_eq]; omega
  rw [decide_eq_true h0]
  simp only [Bool.and_self, Bool.not_true, Bool.and_false]
  have H0 := Lib.hid h0
  clear h0 h1
  go_enter Tryz.func28, Tryz.ntmps28
  go_wp2_with (first
   | (go_at_call 50; ((with_reducible refine (hNm _).mono ?_); (rintro e w1 ⟨rfl, hb1⟩); (have hr1 := rowG_b hr hb1); (clear z0 z1 z2 z3 z4 zf zl); (obtain ⟨z0, z1, z2, z3, z4, zf, zl⟩ := fiveF hr1)))
   | (go_at_call 51; ((with_reducible refine (hE' _ (tr hBW hb1)).mono ?_); (rintro e w2 ⟨rfl, hb2⟩); (have hr2 := rowG_b hr1 hb2); (clear z0 z1 z2 z3 z4 zf zl); (obtain ⟨z0, z1, z2, z3, z4, zf, zl⟩ := fiveF hr2))))
  go_ret
  exact ⟨rfl, tr (tr hBW hb1) hb2⟩
 have hq : (decide (nr = 0) && sec) = false := by
  by_cases h2 : nr = 0
  ·cases sec
   ·simp
   ·exact absurd ⟨h2, rfl⟩ h0
  ·simp [h2]
 rw [hq, Bool.not_false, Bool.and_true]
 clear h0
 obtain ⟨q0, hq0⟩ : ∃ q0 : Bool, ((nr : Int) == 0) = q0 := ⟨_, rfl⟩
 have hqs : q0 = true → sec = false := fun h => by
  subst hq0
  have h2 : nr = 0 := by simp only [beq_iff_eq] at h; omega
  rw [decide_eq_true h2] at hq
  simpa using hq
 clear hq h1
 go_enter Tryz.func28, Tryz.ntmps28
 cases q0
 all_goals
  first
  | (replace hqs := hqs rfl
     subst hqs)
  | clear hqs
  go_wp2_with (first
   | (go_at_call 50; ((with_reducible refine (hNm _).mono ?_); (rintro e w1 ⟨rfl, hb1⟩); (have hr1 := rowG_b hr hb1); (clear z0 z1 z2 z3 z4 zf zl); (obtain ⟨z0, z1, z2, z3, z4, zf, zl⟩ := fiveF hr1)))
   | (go_at_call 51; ((with_reducible refine (hE' _ (tr hBW hb1)).mono ?_); (rintro e w2 ⟨rfl, hb2⟩); (have hr2 := rowG_b hr1 hb2); (clear z0 z1 z2 z3 z4 zf zl hun); (obtain ⟨z0, z1, z2, z3, z4, zf, zl⟩ := fiveF hr2))))
  have hB2 := tr (tr hBW hb1) hb2
  clear z0 z1 z2 z3 z4 zf zl hr hr1 hNm hE'
  go_loopw [3] (fun i wr => ∃ k : Nat, k ≤ np ∧ i = .int .i64 (k : Int) ∧ Hid ((ps.take k).all pmB = true) ∧ Below w2.heap.size w2 wr) (fun i _ => np - (intOf i).toNat)
  case atStart => exact ⟨0, Nat.zero_le _, rfl, Lib.hid (by simp), Below.refl _ _⟩
  case round =>
   obtain ⟨j, hj, rfl, hall, hBr⟩ := hrel
   have hrr := rowG_b hr2 hBr
   obtain ⟨z0, z1, z2, z3, z4, zf, zl⟩ := fiveF hrr
   have hB0 := tr hB2 hBr
   by_cases hlt : j < np
   ·have hlt' : j < ps.length := by rw [← HNP.out]; exact hlt
    obtain ⟨b, off, rfl, hG, c0, c1, c2, c3⟩ := HP.out j hlt'
    have hbl' : b < wr.heap.size := Nat.lt_of_lt_of_le (World.block_lt_of_cell? w _ c0) hB0.size
    have q0 := stay hB0 c0
    have q1 := stay hB0 c1
    have q2 := stay hB0 c2
    have q3 := stay hB0 c3
    have hN1 := fun x => rnmd_str ps[j].nm (HS2.out _ (List.getElem_mem hlt')) x
    have hA0 := fun hp => Lib.hid (pall_no (p := pmB) hlt' hp)
    have hA1 := fun hp => Lib.hid (pall_take (p := pmB) hlt' hall.out hp)
    have e : pmB ps[j] = (nmdB ps[j].nm && (!ps[j].mu || ps[j].buf)) := rfl
    rw [e] at hA0 hA1
    clear c0 c1 c2 c3 e hall
    generalize ps[j].mu = mu at *
    generalize ps[j].buf = buf at *
    generalize ps[j].sec = sc at *
    generalize nmdB ps[j].nm = nb1 at *
    generalize ps[j].nm = pn at *
    have hun : undef = Value.tuple #[] := rfl
    cases nb1
    ·replace hA0 := hA0 rfl
     clear hA1
     go_wp2_with (go_at_call 50; ((with_reducible refine (hN1 _).mono ?_); (rintro e w3 ⟨rfl, hb3⟩)))
     go_ret
     exact ⟨by rw [hA0.out]; rfl, tr hB0 hb3⟩
    ·cases mu
     ·replace hA1 := hA1 rfl
      clear hA0
      go_wp2_with (go_at_call 50; ((with_reducible refine (hN1 _).mono ?_); (rintro e w3 ⟨rfl, hb3⟩); (have hr3 := rowG_b hrr hb3); (have p3 := stay hb3 q3); (have pl := Nat.lt_of_lt_of_le hbl' hb3.size); (clear z0 z1 z2 z3 z4 zf zl); (obtain ⟨z0, z1, z2, z3, z4, zf, zl⟩ := fiveF hr3)))
      go_roundw
      case rel => first | exact ⟨j + 1, by omega, by go_num, hA1, tr hBr hb3⟩ | ((repeat apply Exists.intro); exact ⟨⟨j + 1, by omega, by go_num, hA1, tr hBr hb3⟩, rfl⟩)
      case measure => simp [intOf]; omega
     ·cases buf
      ·replace hA0 := hA0 rfl
       clear hA1
       go_wp2_with (go_at_call 50; ((with_reducible refine (hN1 _).mono ?_); (rintro e w3 ⟨rfl, hb3⟩); (have hr3 := rowG_b hrr hb3); (have p3 := stay hb3 q3); (have p1 := stay hb3 q1); (have pl := Nat.lt_of_lt_of_le hbl' hb3.size); (clear z0 z1 z2 z3 z4 zf zl); (obtain ⟨z0, z1, z2, z3, z4, zf, zl⟩ := fiveF hr3)))
       go_ret
       exact ⟨by rw [hA0.out]; rfl, tr hB0 hb3⟩
      ·replace hA1 := hA1 rfl
       clear hA0
       go_wp2_with (go_at_call 50; ((with_reducible refine (hN1 _).mono ?_); (rintro e w3 ⟨rfl, hb3⟩); (have hr3 := rowG_b hrr hb3); (have p3 := stay hb3 q3); (have p1 := stay hb3 q1); (have pl := Nat.lt_of_lt_of_le hbl' hb3.size); (clear z0 z1 z2 z3 z4 zf zl); (obtain ⟨z0, z1, z2, z3, z4, zf, zl⟩ := fiveF hr3)))
       go_roundw
       case rel => first | exact ⟨j + 1, by omega, by go_num, hA1, tr hBr hb3⟩ | ((repeat apply Exists.intro); exact ⟨⟨j + 1, by omega, by go_num, hA1, tr hBr hb3⟩, rfl⟩)
       case measure => simp [intOf]; omega
   ·obtain rfl : j = np := by omega
    have hA := Lib.hid hall.out
    go_wp2
    go_ret
    exact ⟨by rw [← hA.out, List.take_of_length_le (by rw [HNP.out]; exact Nat.le_refl _)]; rfl, hB0⟩
theorem pgS_le : ∀ (l : List Fd) (n : Nat), pgS l = some n → n ≤ totS l := by
 intro l
 induction l with
 | nil => intro n h; cases h; exact Nat.zero_le _
 | cons f r ih =>
  intro n hn
  rw [pgS] at hn
  cases h1 : fdS f with
  | none => rw [h1] at hn; cases hn
  | some a =>
   cases h2 : pgS r with
   | none => rw [h1, h2] at hn; cases hn
   | some b =>
    rw [h1, h2] at hn
    simp only [Option.bind_some, Option.map_some, Option.some.injEq] at hn
    subst hn
    rw [totS]
    have := ih _ h2
    unfold fdS at h1
    split at h1
    ·have := cnt_le _ _ _ h1; omega
    ·cases h1
theorem totS_take (l : List Fd) (k : Nat) : totS (l.take k) ≤ totS l := by
 have e := List.take_append_drop k l
 have h : totS (l.take k ++ l.drop k) = totS l := by rw [e]
 rw [totS_app] at h
 omega
theorem totS_mem {f : Fd} : ∀ {l : List Fd}, f ∈ l → szL f.bd ≤ totS l
 | x :: r, h => by
   rw [totS]
   rcases List.mem_cons.1 h with rfl | h
   ·omega
   ·have := totS_mem h; omega
theorem rmy_any (l : List Fd) (hT : totS l ≤ 900) (hsb : ∀ f ∈ l, f.sb 140737488355328) (hl : l.length ≤ 140737488355328) (G : Nat → Prop) (ma : Option Addr) (cap : Nat) (w : World) (hF : FdsAt G w l ma) :
 Calls Tryz.prog 12 #[.agg #[.slice ma l.length cap]] w fun r w' => r = .returned (.bool (pgB l)) ∧ Below w.heap.size w w' := by
 rw [pg_may]
 have hmp : mayP l = (decide (l.length ≤ 16) && match pgS l with | none => false | some n => decide (n ≤ 400)) := rfl
 obtain ⟨R, hR⟩ : ∃ R, R = mayP l := ⟨_, rfl⟩
 rw [← hR]
 have HR := Lib.hid (hR.trans hmp)
 have HF := Lib.hid hF
 have HSB := Lib.hid hsb
 have HT := Lib.hid hT
 obtain ⟨N, hN⟩ : ∃ N, N = l.length := ⟨_, rfl⟩
 rw [← hN] at hl ⊢
 have HN := Lib.hid hN
 clear hF hsb hT hN hR hmp
 obtain ⟨W, hW⟩ : ∃ W, w.alloc (.cells #[.slice ma N cap] 24) = W := ⟨_, rfl⟩
 have hBW : Below w.heap.size w W := by rw [← hW]; exact aB (Below.refl _ _) _
 have hrp : rowG #[.slice ma N cap] W w.heap.size := by rw [← hW]; exact rowG_at _ _ _ _ rfl
 go_enter Tryz.func12, Tryz.ntmps12
 go_wp2
 clear hW
 go_loopw [3, 4, 5] (fun nv i kv wr => ∃ k n : Nat, k ≤ N ∧ nv = .int .i64 (n : Int) ∧ i = .int .i64 (k : Int) ∧ Hid (pgS (l.take k) = some n) ∧ Below W.heap.size W wr) (fun _ i _ _ => N - (intOf i).toNat)
 case atStart => exact ⟨0, 0, Nat.zero_le _, rfl, rfl, Lib.hid rfl, Below.refl _ _⟩
 case round =>
  obtain ⟨k, n, hk, rfl, rfl, hrow, hBr⟩ := hrel
  have hB := tr hBW hBr
  have hrr := rowG_b hrp hBr
  have p0 := hrr.1 0 (by simp)
  have pl := hrr.2.2
  by_cases hlt : k < N
  ·have hlt' : k < l.length := by rw [← HN.out]; exact hlt
   obtain ⟨g1, o1, xp, xb, xr, xc, xd, xe, rfl, -, hw1, hP1, hB1, hR1, hp, hb, hr, hr1⟩ := fds_row HF.out k hlt'
   obtain ⟨s1, s2, s3, s4⟩ := HSB.out _ (List.getElem_mem hlt')
   have hsz : szL l[k].bd ≤ 900 := Nat.le_trans (totS_mem (List.getElem_mem hlt')) HT.out
   obtain ⟨q0, q1, q2, q3, q4⟩ := fiveR (range_stay hr1 hB)
   have hw1 : g1 < wr.heap.size := Nat.lt_of_lt_of_le hw1 hB.size
   have hC := cnt_any 40 G l[k].bd xb xd wr (by omega) (hB1.of hB) s3 hsz hb
   rw [show (41 - ((40 : Nat) : Int)) = 1 from rfl] at hC
   have hFn := fun x (hx : Below wr.heap.size wr x) => rfn_any G l[k].nm l[k].ps l[k].sec l[k].rt xp xb xr l[k].ps.length xc l[k].bd.length xd l[k].rt.length xe x rfl rfl ((hP1.of hB).of hx) ((hR1.of hB).of hx) hp hr s1 s2 s4
   have hst := pgS_take hlt' hrow.out
   have hno := fun h => pgS_none hlt' h
   have hfd : fdS l[k] = if (nmdB l[k].nm && psB l[k].ps && rtB l[k].sec l[k].rt) = true then cntR 40 l[k].bd else none := rfl
   have HLE : Hid (∀ m, pgS (l.take (k + 1)) = some m → m ≤ 900) := Lib.hid (fun m hm => Nat.le_trans (Nat.le_trans (pgS_le _ m hm) (totS_take l (k + 1))) HT.out)
   obtain ⟨ca, hca⟩ : ∃ ca, ca = cntR 40 l[k].bd := ⟨_, rfl⟩
   obtain ⟨fb, hfb⟩ : ∃ fb, fb = (nmdB l[k].nm && psB l[k].ps && rtB l[k].sec l[k].rt) := ⟨_, rfl⟩
   rw [← hca] at hC hfd
   rw [← hfb] at hFn hfd
   rw [hfd] at hst hno
   have HST := Lib.hid hst
   have HNO := Lib.hid hno
   clear hP1 hB1 hR1 hr1 s1 s2 s3 s4 hsz hst hno hfd hca hfb hrow hp hr hb
   generalize l[k].nm = nm at *
   generalize l[k].sec = sec at *
   generalize l[k].ps.length = np at *
   generalize l[k].bd.length = nb at *
   generalize l[k].rt.length = nr at *
   cases ca with
   | none =>
    have hRf : R = false := by rw [HR.out, HNO.out (by split <;> rfl)]; simp
    subst hRf
    simp only [optI] at hC
    clear hFn
    go_wp2_with (go_at_call 27; ((with_reducible refine hC.mono ?_); (rintro e w2 ⟨rfl, hb2⟩)))
    go_ret
    exact ⟨rfl, tr hB hb2⟩
   | some a0 =>
    simp only [optI] at hC
    have ha0 : ¬ (a0 : Int) < 0 := by omega
    cases fb
    ·have hRf : R = false := by rw [HR.out, HNO.out rfl]; simp
     subst hRf
     go_wp2_with (first
      | (go_at_call 27; ((with_reducible refine hC.mono ?_); (rintro e w2 ⟨rfl, hb2⟩); (have hrr2 := rowG_b hrr hb2); (have p0' := hrr2.1 0 (by simp)); (have pl' := hrr2.2.2); (have r0 := stay hb2 q0); (have r1 := stay hb2 q1); (have r2 := stay hb2 q2); (have r3 := stay hb2 q3); (have r4 := stay hb2 q4); (have hw2 := Nat.lt_of_lt_of_le hw1 hb2.size); (clear q0 q1 q2 q3 q4 p0 pl hw1); (have hF2 := hFn _ hb2)))
      | (go_at_call 28; ((with_reducible refine hF2.mono ?_); (rintro e w3 ⟨rfl, hb3⟩))))
     go_ret
     exact ⟨rfl, tr (tr hB hb2) hb3⟩
    ·have hnew : pgS (l.take (k + 1)) = some (n + a0) := by rw [HST.out]; rfl
     have hbd := HLE.out _ hnew
     have HNEW := Lib.hid hnew
     clear hnew
     have hw : IntKind.i64.wrap ((n : Int) + (a0 : Int)) = ((n + a0 : Nat) : Int) := by rw [IntKind.wrap_i64]; omega
     go_wp2_with (first
      | (go_at_call 27; ((with_reducible refine hC.mono ?_); (rintro e w2 ⟨rfl, hb2⟩); (have hrr2 := rowG_b hrr hb2); (have p0' := hrr2.1 0 (by simp)); (have pl' := hrr2.2.2); (have r0 := stay hb2 q0); (have r1 := stay hb2 q1); (have r2 := stay hb2 q2); (have r3 := stay hb2 q3); (have r4 := stay hb2 q4); (have hw2 := Nat.lt_of_lt_of_le hw1 hb2.size); (clear q0 q1 q2 q3 q4 p0 pl hw1); (have hF2 := hFn _ hb2)))
      | (go_at_call 28; ((with_reducible refine hF2.mono ?_); (rintro e w3 ⟨rfl, hb3⟩))))
     go_roundw
     case rel => first | exact ⟨k + 1, n + a0, by omega, rfl, by go_num, HNEW, tr (tr hBr hb2) hb3⟩ | ((repeat apply Exists.intro); exact ⟨⟨k + 1, n + a0, by omega, rfl, by go_num, HNEW, tr (tr hBr hb2) hb3⟩, rfl⟩)
     case measure => simp [intOf]; omega
  ·obtain rfl : k = N := by omega
   have h := hrow.out
   rw [List.take_of_length_le (by rw [HN.out]; exact Nat.le_refl _)] at h
   have hRn : R = (decide (k ≤ 16) && decide (n ≤ 400)) := by rw [HR.out, h, HN.out]
   have HRn := Lib.hid hRn
   clear h hrow hRn
   by_cases h16 : k ≤ 16
   ·have h16i : (k : Int) ≤ 16 := by omega
    by_cases h4 : n ≤ 400
    ·have h4i : (n : Int) ≤ 400 := by omega
     go_wp2
     go_ret
     exact ⟨by rw [HRn.out, decide_eq_true h16, decide_eq_true h4]; rfl, hB⟩
    ·have h4i : ¬ (n : Int) ≤ 400 := by omega
     go_wp2
     go_ret
     exact ⟨by rw [HRn.out, decide_eq_false h4, Bool.and_false]; rfl, hB⟩
   ·have h16i : ¬ (k : Int) ≤ 16 := by omega
    go_wp2
    go_ret
    exact ⟨by rw [HRn.out, decide_eq_false h16, Bool.false_and]; rfl, hB⟩
end Go.Proofs.YtfbjljcmmbdhkaaGreatDoor
