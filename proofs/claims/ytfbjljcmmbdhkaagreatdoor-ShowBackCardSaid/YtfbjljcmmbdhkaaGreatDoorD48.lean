/- Contract of CopyStmts. -/
import Derived.Test.YtfbjljcmmbdhkaaGreatDoorD29
import Derived.Test.YtfbjljcmmbdhkaaGreatDoorD47
import Derived.Test.YtfbjljcmmbdhkaaGreatDoorD43
import Derived.Test.YtfbjljcmmbdhkaaGreatDoorD45
import Derived.Deep.CutRange
import Derived.Deep.DeepAppendWide
namespace Go.Proofs.YtfbjljcmmbdhkaaGreatDoor
set_option linter.unusedVariables false
set_option linter.unusedSimpArgs false
set_option maxRecDepth 100000
set_option maxHeartbeats 200000000
section
open Go.ChangeShapes Go.WideShapes Go.ChangeAt Go.RowKit
mutual
def St.lb : St → Prop
 | .mk _ _ _ _ _ ex ar bd el => ex.length ≤ 2199023255488 ∧ lbL ex ∧ ar.length ≤ 8796093021952 ∧ (bd.length ≤ 977343669105 ∧ lbS bd) ∧ (el.length ≤ 977343669105 ∧ lbS el)
def lbS : List St → Prop
 | [] => True
 | x :: r => x.lb ∧ lbS r
end
theorem lbS_iff : ∀ {l : List St}, lbS l ↔ ∀ x ∈ l, x.lb
 | [] => by rw [lbS]; simp
 | x :: r => by rw [lbS, lbS_iff (l := r)]; simp
theorem lb_s {s : St} (h : s.lb) : s.ex.length ≤ 2199023255488 ∧ lbL s.ex ∧ s.ar.length ≤ 8796093021952 ∧ (s.bd.length ≤ 977343669105 ∧ lbS s.bd) ∧ (s.el.length ≤ 977343669105 ∧ lbS s.el) := by cases s; rw [St.lb] at h; exact h
def CpIH (M : Nat) : Prop := ∀ (l : List St), szL l < M → lbS l → l.length ≤ 977343669105 → ∀ (G : Nat → Prop) (ma : Option Addr) (cap : Nat) (w : World), StsAt G w l ma →
 Calls Tryz.prog 17 #[.slice ma l.length cap] w fun r w' => (∃ (mk : Option Addr) (ck : Nat), r = .returned (.slice mk l.length ck) ∧ StsAt (fun b => w.heap.size ≤ b ∧ b < w'.heap.size) w' l mk) ∧ Below w.heap.size w w'
theorem cps_step (M0 : Nat) (ih : CpIH M0) (l : List St) (hM0 : szL l ≤ M0) (hlb : lbS l) (hl : l.length ≤ 977343669105) (G : Nat → Prop) (ma : Option Addr) (cap : Nat) (w : World) (hS : StsAt G w l ma) :
 Calls Tryz.prog 17 #[.slice ma l.length cap] w fun r w' => (∃ (mk : Option Addr) (ck : Nat), r = .returned (.slice mk l.length ck) ∧ StsAt (fun b => w.heap.size ≤ b ∧ b < w'.heap.size) w' l mk) ∧ Below w.heap.size w w' := by
 obtain ⟨i0, hi, hz0, hz1, hz2⟩ := info_parts jXk
 obtain ⟨j0, ji, jz0, jz1, jz2⟩ := info_parts jJt
 have HS := Lib.hid hS
 have HIH := Lib.hid ih
 have HLB := Lib.hid (lbS_iff.1 hlb)
 have HM0 := Lib.hid hM0
 obtain ⟨N, hN⟩ : ∃ N, N = l.length := ⟨_, rfl⟩
 rw [← hN] at hl ⊢
 have HL := Lib.hid hN
 clear hS hlb hN ih hM0
 go_enter Tryz.func17, Tryz.ntmps17
 go_wp2
 go_loopw [3, 4] (fun lv iv wr => ∃ (L : List Sx) (M : Nat), M = L.length ∧ M ≤ N ∧ iv = .int .i64 (M : Int) ∧ wr.ownsRow w.heap.size 52 9 lv M (sxs L) ∧ Below w.heap.size w wr ∧ Hid (L.map (·.x) = l.take M) ∧ Hid (∀ K ∈ L, K.is (fun b => w.heap.size ≤ b ∧ b < wr.heap.size ∧ ¬ lv.ownBlock = some b) wr)) (fun _ iv _ => N - (intOf iv).toNat)
 case atStart => exact ⟨[], 0, rfl, Nat.zero_le _, rfl, World.ownsRow_nil _ _ _ _, Below.refl _ _, Lib.hid (by simp), Lib.hid (fun K hK => by simp at hK)⟩
 case round =>
  obtain ⟨L, M, hM, hMN, rfl, hown, hB, hLx, hLi⟩ := hrel
  have HM := Lib.hid hM
  clear hM
  by_cases hlt : M < N
  ·have hlt' : M < l.length := by rw [← HL.out]; exact hlt
   obtain ⟨g1, o1, xx, xa, xb, xl, xc, xd, xe, xf, rfl, -, hw1, hX1, hA1, hB1, hL1, hx, ha, hb, hle, hk, hr1⟩ := xZf l ma HS.out M hlt'
   have hsz : (l[M]).sz ≤ M0 := Nat.le_trans (xZd (List.getElem_mem hlt')) HM0.out
   rw [sz_s] at hsz
   obtain ⟨lx, lxx, la, ⟨lbd, lbb⟩, ⟨lel, lbe⟩⟩ := lb_s (HLB.out _ (List.getElem_mem hlt'))
   have hrg := zZj hr1 hB
   have hw1 : g1 < wr.heap.size := Nat.lt_of_lt_of_le hw1 hB.size
   have hX := fun w' (hb : Below wr.heap.size wr w') => jXu l[M].ex lxx lx G xx xc w' ((hX1.of hB).of hb)
   have hAA := fun w' (hb : Below wr.heap.size wr w') => strs_lie ((hA1.of hB).of hb)
   have hBd := fun w' (hb' : Below wr.heap.size wr w') => HIH.out l[M].bd (by omega) lbb lbd G xb xe w' ((hB1.of hB).of hb')
   have hEl := fun w' (hb : Below wr.heap.size wr w') => HIH.out l[M].el (by omega) lbe lel G xl xf w' ((hL1.of hB).of hb)
   have hst : l[M] = .mk l[M].k l[M].nm l[M].fr l[M].sec l[M].mu l[M].ex l[M].ar l[M].bd l[M].el := by cases l[M]; rfl
   have HST := Lib.hid hst
   clear hX1 hA1 hB1 hL1 hsz hr1 lxx lbb lbe hst
   generalize l[M].k = k at *
   generalize l[M].nm = nm at *
   generalize l[M].fr = fr at *
   generalize l[M].sec = sec at *
   generalize l[M].mu = mu at *
   obtain ⟨nx, hnx⟩ : ∃ nx, nx = l[M].ex.length := ⟨_, rfl⟩
   obtain ⟨na, hna⟩ : ∃ na, na = l[M].ar.length := ⟨_, rfl⟩
   obtain ⟨nb, hnb⟩ : ∃ nb, nb = l[M].bd.length := ⟨_, rfl⟩
   obtain ⟨nl, hnl⟩ : ∃ nl, nl = l[M].el.length := ⟨_, rfl⟩
   simp only [← hnx, ← hna, ← hnb, ← hnl] at hx ha hb hle hrg lx la lbd lel hX hAA hBd hEl
   have HNX := Lib.hid hnx
   have HNA := Lib.hid hna
   have HNB := Lib.hid hnb
   have HNL := Lib.hid hnl
   clear hnx hna hnb hnl
   go_wp2_with first
    | (with_reducible refine ld9o rfl _ rfl g1 (o1 + M * 9) rfl hrg ?_)
    | (with_reducible refine st9 rfl _ _ rfl (wr.heap.size) rfl rfl (zQf _ _ _ _ rfl) ?_; (intro wF hF hOF); (have hBF : Below wr.heap.size wr wF := (aB (Below.refl _ _) _).trans (hOF.below (B := wr.heap.size) (fun j hj => by omega) (by simp))); (obtain ⟨z0, z1, z2, z3, z4, z5, z6, z7, z8, zf, zl⟩ := nine hF); (have hXc := hX wF hBF))
    | (go_at_call 18; ((with_reducible refine hXc.mono ?_); (rintro e w2 ⟨⟨mk, ck, rfl, kX⟩, hb2⟩); (have hB2 := tr hBF hb2); (have r2 := zQh hF hb2); (clear z0 z1 z2 z3 z4 z5 z6 z7 z8 zf zl hXc); (obtain ⟨z0, z1, z2, z3, z4, z5, z6, z7, z8, zf, zl⟩ := nine r2); (obtain ⟨W2, hW2⟩ : ∃ W2, w2.setCell ⟨wr.heap.size, 5, none⟩ (.slice mk nx ck) = W2 := ⟨_, rfl⟩); (have s2 : rowG #[.int .u8 (k : Int), .string (str nm), .string (str fr), .bool sec, .bool mu, .slice mk nx ck, .slice xa na xd, .slice xb nb xe, .slice xl nl xf] W2 wr.heap.size := by rw [← hW2]; exact r9s5 _ r2); (have hO2 : Only (fun j => j = wr.heap.size) w2 W2 := by rw [← hW2]; exact zXa _ _ _ _); (have hBW2 : Below wr.heap.size wr W2 := hB2.trans (hO2.below (B := wr.heap.size) (fun j hj => by omega) hB2.size)); (obtain ⟨y0, y1, y2, y3, y4, y5, y6, y7, y8, yf, yl⟩ := nine s2); (have zl0 : wr.heap.size < wF.heap.size := hF.2.2); (have kX2 := kX.only hO2 (fun b hb e => by have := hb.1; have e2 : b = wr.heap.size := e; have := zl0; omega))))
    | (at_builtin; refine zKu _ rfl _ _ 50 rfl (wr.heap.size + 1) 9 j0 _ 1 16 Tryz.underlying50 ji jz0 jz1 jz2 rfl (by decide) (.slice none 0 0) 0 [] rfl (World.ownsRow_nil _ _ _ _) xa na xd (strC l[M].ar) rfl (by rw [strC_len, HNA.out, Nat.mul_one]) (hAA W2 hBW2) (xJn _) (by unfold maxLen; omega) (by omega) (by omega) ?_; (intro a3 c3 w3 hown3 hgrow3 hat3); (simp only [Nat.zero_add, List.nil_append] at hown3 ⊢); (have hb3 : Below W2.heap.size W2 w3 := (zXc hgrow3).below (B := W2.heap.size) (fun j hj => by simp [Value.ownBlock] at hj) (Nat.le_refl _)); (have hB3 := tr hBW2 hb3); (have r3 := zQh s2 hb3); (clear z0 z1 z2 z3 z4 z5 z6 z7 z8 zf zl y0 y1 y2 y3 y4 y5 y6 y7 y8 yf yl hW2); (obtain ⟨z0, z1, z2, z3, z4, z5, z6, z7, z8, zf, zl⟩ := nine r3); (have kA := xJl hown3 HNA.out); (obtain ⟨W3, hW3⟩ : ∃ W3, w3.setCell ⟨wr.heap.size, 6, none⟩ (.slice a3 na c3) = W3 := ⟨_, rfl⟩); (have s3 : rowG #[.int .u8 (k : Int), .string (str nm), .string (str fr), .bool sec, .bool mu, .slice mk nx ck, .slice a3 na c3, .slice xb nb xe, .slice xl nl xf] W3 wr.heap.size := by rw [← hW3]; exact r9s6 _ r3); (have hO3 : Only (fun j => j = wr.heap.size) w3 W3 := by rw [← hW3]; exact zXa _ _ _ _); (have hBW3 : Below wr.heap.size wr W3 := hB3.trans (hO3.below (B := wr.heap.size) (fun j hj => by omega) hB3.size)); (obtain ⟨y0, y1, y2, y3, y4, y5, y6, y7, y8, yf, yl⟩ := nine s3); (have kA3 := kA.only hO3 (fun b hb e => by have := hb.1; have e2 : b = wr.heap.size := e; omega)); (have kX3 := (kX2.of hb3).only hO3 (fun b hb e => by have := hb.1; have e2 : b = wr.heap.size := e; omega)); (have hBc := hBd W3 hBW3))
    | (go_at_call 17; ((with_reducible refine hBc.mono ?_); (rintro e w4 ⟨⟨m4, c4, rfl, kB⟩, hb4⟩); (have hB4 := tr hBW3 hb4); (have r4 := zQh s3 hb4); (have l3 := s3.2.2); (clear z0 z1 z2 z3 z4 z5 z6 z7 z8 zf zl y0 y1 y2 y3 y4 y5 y6 y7 y8 yf yl hW3 hBc); (obtain ⟨z0, z1, z2, z3, z4, z5, z6, z7, z8, zf, zl⟩ := nine r4); (obtain ⟨W4, hW4⟩ : ∃ W4, w4.setCell ⟨wr.heap.size, 7, none⟩ (.slice m4 nb c4) = W4 := ⟨_, rfl⟩); (have s4 : rowG #[.int .u8 (k : Int), .string (str nm), .string (str fr), .bool sec, .bool mu, .slice mk nx ck, .slice a3 na c3, .slice m4 nb c4, .slice xl nl xf] W4 wr.heap.size := by rw [← hW4]; exact r9s7 _ r4); (have hO4 : Only (fun j => j = wr.heap.size) w4 W4 := by rw [← hW4]; exact zXa _ _ _ _); (have hBW4 : Below wr.heap.size wr W4 := hB4.trans (hO4.below (B := wr.heap.size) (fun j hj => by omega) hB4.size)); (obtain ⟨y0, y1, y2, y3, y4, y5, y6, y7, y8, yf, yl⟩ := nine s4); (have kB4 := kB.only hO4 (fun b hb e => by have := hb.1; have e2 : b = wr.heap.size := e; omega)); (have kX4 := (kX3.of hb4).only hO4 (fun b hb e => by have := hb.1; have e2 : b = wr.heap.size := e; omega)); (have kA4 := (kA3.of hb4).only hO4 (fun b hb e => by have := hb.1; have e2 : b = wr.heap.size := e; omega)); (have hEc := hEl W4 hBW4)))
    | (go_at_call 17; ((with_reducible refine hEc.mono ?_); (rintro e w5 ⟨⟨m5, c5, rfl, kE⟩, hb5⟩); (have hB5 := tr hBW4 hb5); (have r5 := zQh s4 hb5); (have l4 := s4.2.2); (clear z0 z1 z2 z3 z4 z5 z6 z7 z8 zf zl y0 y1 y2 y3 y4 y5 y6 y7 y8 yf yl hW4 hEc); (obtain ⟨z0, z1, z2, z3, z4, z5, z6, z7, z8, zf, zl⟩ := nine r5); (obtain ⟨W5, hW5⟩ : ∃ W5, w5.setCell ⟨wr.heap.size, 8, none⟩ (.slice m5 nl c5) = W5 := ⟨_, rfl⟩); (have s5 : rowG #[.int .u8 (k : Int), .string (str nm), .string (str fr), .bool sec, .bool mu, .slice mk nx ck, .slice a3 na c3, .slice m4 nb c4, .slice m5 nl c5] W5 wr.heap.size := by rw [← hW5]; exact r9s8 _ r5); (have hO5 : Only (fun j => j = wr.heap.size) w5 W5 := by rw [← hW5]; exact zXa _ _ _ _); (have hBW5 : Below wr.heap.size wr W5 := hB5.trans (hO5.below (B := wr.heap.size) (fun j hj => by omega) hB5.size)); (clear hAA); (have kE5 := kE.only hO5 (fun b hb e => by have := hb.1; have e2 : b = wr.heap.size := e; omega)); (have kX5 := (kX4.of hb5).only hO5 (fun b hb e => by have := hb.1; have e2 : b = wr.heap.size := e; omega)); (have kA5 := (kA4.of hb5).only hO5 (fun b hb e => by have := hb.1; have e2 : b = wr.heap.size := e; omega)); (have kB5 := (kB4.of hb5).only hO5 (fun b hb e => by have := hb.1; have e2 : b = wr.heap.size := e; omega)); (have ho5 := zXk hown hBW5)))
    | (with_reducible refine ld9 rfl _ rfl (wr.heap.size) rfl s5 ?_)
    | (at_builtin; refine wpList_append_lies _ rfl _ _ 39 rfl w.heap.size 52 i0 _ 9 144 Tryz.underlying39 hi hz0 hz1 hz2 rfl (by decide) _ M (sxs L) rfl (ho5.alloc _) ⟨W5.heap.size, 0, none⟩ 1 1 (sxs [⟨k, nm, fr, sec, mu, mk, nx, ck, a3, na, c3, m4, nb, c4, m5, nl, c5, l[M]⟩]) rfl rfl ?cN ?c0 (by decide) ?c1 ?c2 ?c3 _ rfl ?_)
   case cN => first | exact zXe (sxs [⟨k, nm, fr, sec, mu, mk, nx, ck, a3, na, c3, m4, nb, c4, m5, nl, c5, l[M]⟩]) 52 W5 | exact fun j u h => h
   case c0 => exact yJq _
   case c1 => unfold maxLen; omega
   case c2 => omega
   case c3 => have h1 := hB.size; have h2 := hBW5.size; first | omega | (simp; omega)
   have l5 := s5.2.2
   obtain ⟨wa, hwa⟩ : ∃ wa, W5.alloc (.cells #[.int .u8 (k : Int), .string (str nm), .string (str fr), .bool sec, .bool mu, .slice mk nx ck, .slice a3 na c3, .slice m4 nb c4, .slice m5 nl c5] 52) = wa := ⟨_, rfl⟩
   have hba : Below W5.heap.size W5 wa := by rw [← hwa]; exact aB (Below.refl _ _) _
   intro g cap' w6 hown6 hgrow hat hlt6
   rw [hwa] at hgrow
   have hszw : wa.heap.size = W5.heap.size + 1 := by rw [← hwa]; simp
   have hBr := hB.size
   have hlo := fun (b : Nat) (hj : Value.ownBlock u3 = some b) => (zQu hown hj).2
   go_wp2
   have z1 := hBF.size
   have z2 := hb2.size
   have z3 := hO2.size
   have z4 := hb3.size
   have z5 := hO3.size
   have z6 := hb4.size
   have z7 := hO4.size
   have z8 := hb5.size
   have z9 := hO5.size
   have z10 := hba.size
   have hKK : (⟨k, nm, fr, sec, mu, mk, nx, ck, a3, na, c3, m4, nb, c4, m5, nl, c5, l[M]⟩ : Sx).is (fun b => w.heap.size ≤ b ∧ b < wa.heap.size ∧ ¬ u3.ownBlock = some b) wa := by
    unfold Sx.is
    simp only
    rw [HST.out, HNX.out, HNA.out, HNB.out, HNL.out]
    have e1 := HNX.out
    have e2 := HNA.out
    have e3 := HNB.out
    have e4 := HNL.out
    exact IsSt.mk hk (e1 ▸ hx) (e2 ▸ ha) (e3 ▸ hb) (e4 ▸ hle) ((kX5.of hba).mono fun b h => ⟨by omega, by omega, fun e => by have := hlo b e; omega⟩) ((kA5.of hba).mono fun b h => ⟨by omega, by omega, fun e => by have := hlo b e; omega⟩) ((kB5.of hba).mono fun b h => ⟨by omega, by omega, fun e => by have := hlo b e; omega⟩) ((kE5.of hba).mono fun b h => ⟨by omega, by omega, fun e => by have := hlo b e; omega⟩)
   have hall : ∀ K ∈ L ++ [⟨k, nm, fr, sec, mu, mk, nx, ck, a3, na, c3, m4, nb, c4, m5, nl, c5, l[M]⟩], K.is (fun b => w.heap.size ≤ b ∧ b < wa.heap.size ∧ ¬ u3.ownBlock = some b) wa := fun K hK => by
    rcases List.mem_append.1 hK with h1 | h1
    ·exact IsSt.mono (IsSt.of (hLi.out K h1) (tr hBW5 hba)) (fun b hb' => ⟨hb'.1, by have := hb'.2.1; have := hBW5.size; omega, hb'.2.2⟩)
    ·obtain rfl := List.mem_singleton.1 h1
     exact hKK
   have hall6 := xXf hgrow hat hszw _ hall (M + 1) cap'
   have hB6 : Below w.heap.size w w6 := (tr (tr hB hBW5) hba).grown hgrow (Nat.le_trans (Nat.le_trans hB.size hBW5.size) hba.size) (fun j hj => (zQu hown hj).1)
   go_roundw
   case rel => first | exact ⟨L ++ [⟨k, nm, fr, sec, mu, mk, nx, ck, a3, na, c3, m4, nb, c4, m5, nl, c5, l[M]⟩], M + 1, by simp [HM.out], by omega, by go_num, by rw [yQi]; exact hown6, hB6, Lib.hid (by rw [List.map_append, hLx.out, List.take_succ_eq_append_getElem hlt']; rfl), Lib.hid hall6⟩ | ((repeat apply Exists.intro); exact ⟨⟨L ++ [⟨k, nm, fr, sec, mu, mk, nx, ck, a3, na, c3, m4, nb, c4, m5, nl, c5, l[M]⟩], M + 1, by simp [HM.out], by omega, by go_num, by rw [yQi]; exact hown6, hB6, Lib.hid (by rw [List.map_append, hLx.out, List.take_succ_eq_append_getElem hlt']; rfl), Lib.hid hall6⟩, rfl⟩)
   case measure => simp [intOf]; omega
  ·obtain rfl : M = N := by omega
   obtain ⟨mk, ck, rfl, hkk⟩ := xKz hown HM.out hLi.out
   rw [hLx.out, List.take_of_length_le (by rw [HL.out]; exact Nat.le_refl _)] at hkk
   go_wp2
   go_ret
   exact ⟨⟨mk, ck, rfl, hkk⟩, hB⟩
theorem cps_all : ∀ (M : Nat), CpIH M := by
 intro M
 induction M with
 | zero => intro l hl; omega
 | succ M ih => intro l hl h1 h2 G ma cap w h3; exact cps_step M ih l (by omega) h1 h2 G ma cap w h3
theorem cps_any (l : List St) (hlb : lbS l) (hl : l.length ≤ 977343669105) (G : Nat → Prop) (ma : Option Addr) (cap : Nat) (w : World) (hS : StsAt G w l ma) :
 Calls Tryz.prog 17 #[.slice ma l.length cap] w fun r w' => (∃ (mk : Option Addr) (ck : Nat), r = .returned (.slice mk l.length ck) ∧ StsAt (fun b => w.heap.size ≤ b ∧ b < w'.heap.size) w' l mk) ∧ Below w.heap.size w w' := cps_all (szL l + 1) l (by omega) hlb hl G ma cap w hS
end
section
open Go Go.ChangeShapes Go.WideShapes Go.ChangeAt Go.RowKit
theorem yXp {P : Program} (w : World) {o : Oper} {a : Act} {K : Act → World → Prop} {Q : Exit → Act → World → Prop} (s x : Operand) (t : TypeId)
 (ho : o.op = .call { callee := .builtin .append, args := #[s, x], argTypes := #[t, t] })
 (base : Nat) (e : TypeId) (i : TypeInfo) (z : Value) (size bytes : Nat) (ht : P.underlying t = some (.slice e)) (hi : P.info? e = some i) (hz : i.zero = some z)
 (hsize : i.size = size) (hby : i.bytes = bytes) (hzs : z.cells.size = size) (hsz : 0 < size)
 (v : Value) (n : Nat) (xs : List Value) (hs : a.eval s = v) (hown : w.ownsRow base e size v n xs)
 (mx : Option Addr) (m c : Nat) (news : List Value) (hx : a.eval x = .slice mx m c) (hl : news.length = m * size) (hnews : 0 < m → ∃ ad, mx = some ad ∧ ∀ j u, news[j]? = some u → w.cell? (ad.add j) = some u) (h1 : ∀ u ∈ news, u.oneCell' = true)
 (h63 : n + m ≤ maxLen) (hbytes : (n + m) * bytes ≤ 140737488355328) (hbase : base ≤ w.heap.size)
 (h : ∀ (a' : Option Addr) (c' : Nat) w', w'.ownsRow base e size (.slice a' (n + m) c') (n + m) (xs ++ news) → w.grownBy w' v.ownBlock → (∀ j, (Value.slice a' (n + m) c').ownBlock = some j → v.ownBlock = some j ∨ j = w.heap.size) → K (a.put o.dst (.slice a' (n + m) c')) w') : Oper.wp P o a w K Q := by
 by_cases hm : m = 0
 ·subst hm
  obtain rfl : news = [] := List.length_eq_zero_iff.1 (by omega)
  obtain ⟨b, cc, rfl⟩ := zKb hown
  have hrun := yQt (P := P) (w := w) base t o.type e i size ht hi _ n xs hown mx c
  have hk := h b cc w (by rw [List.append_nil]; exact hown) yZs (fun j hj => .inl hj)
  unfold Oper.wp
  simp [execOp, ho, resolve, invoke, builtin, hs, hx, hrun, Result.andThen]
  exact hk
 ·obtain ⟨ad, rfl, hc⟩ := hnews (by omega)
  refine wp_append_lies w s x t ho base e i z size bytes ht hi hz hsize hby hzs hsz v n xs hs hown ad m c news hx hl hc h1 (by omega) h63 hbytes hbase _ rfl ?_
  intro g cap w' h2 h3 h4 h5
  exact h _ _ w' h2 h3 (fun j hj => by
   simp only [Value.ownBlock, Option.some.injEq] at hj
   subst hj
   exact h4)
theorem wpList_append_rowW {P : Program} (w : World) {ops : Array Oper} {rest : List Oper} {o : Oper} {a : Act} {Q : Exit → Act → World → Prop} (hgd : o.guard = none) (s x : Operand) (t : TypeId)
 (ho : o.op = .call { callee := .builtin .append, args := #[s, x], argTypes := #[t, t] })
 (base : Nat) (e : TypeId) (i : TypeInfo) (z : Value) (size bytes : Nat) (ht : P.underlying t = some (.slice e)) (hi : P.info? e = some i) (hz : i.zero = some z)
 (hsize : i.size = size) (hby : i.bytes = bytes) (hzs : z.cells.size = size) (hsz : 0 < size)
 (v : Value) (n : Nat) (xs : List Value) (hs : a.eval s = v) (hown : w.ownsRow base e size v n xs)
 (mx : Option Addr) (m c : Nat) (news : List Value) (hx : a.eval x = .slice mx m c) (hl : news.length = m * size) (hnews : 0 < m → ∃ ad, mx = some ad ∧ ∀ j u, news[j]? = some u → w.cell? (ad.add j) = some u) (h1 : ∀ u ∈ news, u.oneCell' = true)
 (h63 : n + m ≤ maxLen) (hbytes : ((n + m) + (n + m) / 4 + 192) * bytes ≤ 281474976710656) (hbase : base ≤ w.heap.size)
 (h : ∀ (a' : Option Addr) (c' : Nat) w', w'.ownsRow base e size (.slice a' (n + m) c') (n + m) (xs ++ news) → w.grownBy w' v.ownBlock → wpList P ops Q rest (a.put o.dst (.slice a' (n + m) c')) w') : wpList P ops Q (o :: rest) a w := by
 by_cases hm : m = 0
 ·subst hm
  obtain rfl : news = [] := List.length_eq_zero_iff.1 (by omega)
  obtain ⟨b, cc, rfl⟩ := zKb hown
  refine zZy hgd s x t ho base e i size ht hi _ n xs hs hown mx c hx ?_
  exact h b cc w (by rw [List.append_nil]; exact hown) yZs
 ·obtain ⟨ad, rfl, hc⟩ := hnews (by omega)
  refine wpList_append_own_wide w hgd s x t ho base e i z size bytes ht hi hz hsize hby hzs hsz v n xs hs hown ad m c news hx hl hc h1 h63 hbytes hbase ?_
  intro v' w' h2 h3 _
  obtain ⟨a', c', rfl⟩ := zKb h2
  exact h a' c' w' h2 h3
theorem xZg {G : Nat → Prop} {w : World} : ∀ (l : List St) (ma : Option Addr), StsAt G w l ma → ∃ Ls : List Sx, Ls.map (·.x) = l ∧ (∀ K ∈ Ls, K.is G w) ∧ (0 < l.length → ∃ b o, ma = some ⟨b, o, none⟩ ∧ G b ∧ ∀ j u, (sxs Ls)[j]? = some u → w.cell? ⟨b, o + j, none⟩ = some u) := by
 intro l
 induction l with
 | nil => intro ma h; exact ⟨[], rfl, fun K hK => by simp at hK, fun h => by simp at h⟩
 | cons x l ih =>
  intro ma h
  cases h with
  | @cons k nm fr sec mu ex ar bd el r b off mx ma mb ml cx ca cb cl hg c0 c1 c2 c3 c4 c5 c6 c7 c8 hk hx ha hb hl hX hA hB hL hr =>
   obtain ⟨Ls, h1, h2, h3⟩ := ih _ hr
   refine ⟨⟨k, nm, fr, sec, mu, mx, ex.length, cx, ma, ar.length, ca, mb, bd.length, cb, ml, el.length, cl, .mk k nm fr sec mu ex ar bd el⟩ :: Ls, by simp [h1], ?_, fun _ => ⟨b, off, rfl, hg, ?_⟩⟩
   ·intro K hK
    rcases List.mem_cons.1 hK with rfl | hK
    ·exact .mk hk hx ha hb hl hX hA hB hL
    ·exact h2 K hK
   ·intro j u hu
    have e : sxs (⟨k, nm, fr, sec, mu, mx, ex.length, cx, ma, ar.length, ca, mb, bd.length, cb, ml, el.length, cl, .mk k nm fr sec mu ex ar bd el⟩ :: Ls) = [.int .u8 (k : Int), .string (str nm), .string (str fr), .bool sec, .bool mu, .slice mx ex.length cx, .slice ma ar.length ca, .slice mb bd.length cb, .slice ml el.length cl] ++ sxs Ls := rfl
    rw [e] at hu
    by_cases hj : j < 9
    ·obtain rfl | rfl | rfl | rfl | rfl | rfl | rfl | rfl | rfl : j = 0 ∨ j = 1 ∨ j = 2 ∨ j = 3 ∨ j = 4 ∨ j = 5 ∨ j = 6 ∨ j = 7 ∨ j = 8 := by omega
     ·cases hu; exact c0
     ·cases hu; exact c1
     ·cases hu; exact c2
     ·cases hu; exact c3
     ·cases hu; exact c4
     ·cases hu; exact c5
     ·cases hu; exact c6
     ·cases hu; exact c7
     ·cases hu; exact c8
    ·obtain ⟨i, rfl⟩ : ∃ i, j = i + 9 := ⟨j - 9, by omega⟩
     have hu' : (sxs Ls)[i]? = some u := by simpa using hu
     have hpos : 0 < l.length := by
      have := (List.getElem?_eq_some_iff.1 hu').1
      rw [yJr] at this
      have h4 : Ls.length = l.length := by rw [← h1]; simp
      omega
     obtain ⟨b', o', e', -, hc⟩ := h3 hpos
     cases e'
     rw [show off + (i + 9) = off + 9 + i by omega]
     exact hc i u hu'
theorem xZe : ∀ (a b : List St), szL (a ++ b) = szL a + szL b := by
 intro a
 induction a with
 | nil => intro b; rw [List.nil_append, szL, Nat.zero_add]
 | cons x a ih => intro b; rw [List.cons_append, szL, szL, ih]; omega
def totS : List Fd → Nat
 | [] => 0
 | f :: r => szL f.bd + totS r
theorem totS_app : ∀ (a b : List Fd), totS (a ++ b) = totS a + totS b := by
 intro a
 induction a with
 | nil => intro b; rw [List.nil_append, totS, Nat.zero_add]
 | cons x a ih => intro b; rw [List.cons_append, totS, totS, ih]; omega
def LgP (w : World) (l : List Fd) (r : Ending) (w' : World) : Prop := (∃ b, r = .returned (.bool b) ∧ (b = false → l.length ≤ 30 ∧ totS l ≤ 900)) ∧ Below w.heap.size w w'
theorem bfs_step {T0 j : Nat} {L Lb Le : List Sx} {bd el : List St} (hj : j < L.length) (hb : Lb.map (·.x) = bd) (he : Le.map (·.x) = el) (hbd : bd = (L[j]).x.bd) (hel : el = (L[j]).x.el) (h : j + szL ((L.drop j).map (·.x)) = T0) : (j + 1) + szL ((((L ++ Lb) ++ Le).drop (j + 1)).map (·.x)) = T0 := by
 rw [List.append_assoc, List.drop_append_of_le_length (by omega), List.map_append, List.map_append, xZe, xZe, hb, he]
 rw [List.drop_eq_getElem_cons hj, List.map_cons, szL, sz_s, ← hbd, ← hel] at h
 omega
end
section
open Go.ChangeShapes Go.WideShapes Go.ChangeAt Go.RowKit
def Fd.lb (f : Fd) : Prop := f.ps.length ≤ 5864062014634 ∧ (f.bd.length ≤ 977343669105 ∧ lbS f.bd) ∧ (f.rt.length ≤ 2199023255488 ∧ lbL f.rt)
theorem cp_any (l : List Fd) (hlb : ∀ f ∈ l, f.lb) (hl : l.length ≤ 1466015503658) (G : Nat → Prop) (ma : Option Addr) (cap : Nat) (w : World) (hF : FdsAt G w l ma) :
 Calls Tryz.prog 9 #[.agg #[.slice ma l.length cap]] w fun r w' => (∃ (mk : Option Addr) (ck : Nat), r = .returned (.agg #[.slice mk l.length ck]) ∧ FdsAt (fun b => w.heap.size ≤ b ∧ b < w'.heap.size) w' l mk) ∧ Below w.heap.size w w' := by
 obtain ⟨i0, hi, hz0, hz1, hz2⟩ := info_parts jJv
 obtain ⟨j0, ji, jz0, jz1, jz2⟩ := info_parts jJu
 have HF := Lib.hid hF
 have HLB := Lib.hid hlb
 obtain ⟨N, hN⟩ : ∃ N, N = l.length := ⟨_, rfl⟩
 rw [← hN] at hl ⊢
 have HL := Lib.hid hN
 clear hF hlb hN
 go_enter Tryz.func9, Tryz.ntmps9
 go_wp2
 go_loopw [4] (fun iv wr => ∃ (L : List Fx) (M : Nat) (a : Option Addr) (c : Nat), M = L.length ∧ M ≤ N ∧ iv = .int .i64 (M : Int) ∧ wr.ownsRow (w.heap.size + 3) 43 5 (.slice a M c) M (fxs L) ∧ rowG #[.slice a M c] wr (w.heap.size + 1 + 1) ∧ rowG #[.slice none 0 0] wr (w.heap.size + 1) ∧ rowG #[.slice ma N cap] wr w.heap.size ∧ Below w.heap.size w wr ∧ Hid (L.map (·.x) = l.take M) ∧ Hid (∀ K ∈ L, K.is (fun b => w.heap.size + 3 ≤ b ∧ b < wr.heap.size ∧ ¬ (Value.slice a M c).ownBlock = some b) wr)) (fun iv _ => N - (intOf iv).toNat)
 case atStart => exact ⟨[], 0, none, 0, rfl, Nat.zero_le _, rfl, World.ownsRow_nil _ _ _ _, zQf _ _ _ _ (by simp), zQj (zQf _ _ _ _ (by simp)) _, zQj (zQj (zQf _ _ _ _ rfl) _) _, aB (aB (aB (Below.refl _ _) _) _) _, Lib.hid (by simp), Lib.hid (fun K hK => by simp at hK)⟩
 case round =>
  obtain ⟨L, M, a, c, hM, hMN, rfl, hown, hS, hZ, hP, hB, hLx, hLi⟩ := hrel
  have HM := Lib.hid hM
  clear hM
  have b0 := hP.1 0 (by simp)
  have bl := hP.2.2
  by_cases hlt : M < N
  ·have hlt' : M < l.length := by rw [← HL.out]; exact hlt
   obtain ⟨g1, o1, xp, xb, xr, xc, xd, xe, rfl, -, hw1, hP1, hB1, hR1, hp, hb, hr, hr1⟩ := xQw HF.out M hlt'
   obtain ⟨lp, ⟨lbd, lbb⟩, ⟨lr, lrr⟩⟩ := HLB.out _ (List.getElem_mem hlt')
   obtain ⟨q0, q1, q2, q3, q4⟩ := jZm (zZj hr1 hB)
   have hw1 : g1 < wr.heap.size := Nat.lt_of_lt_of_le hw1 hB.size
   have hX := fun w' (hb : Below wr.heap.size wr w') => jXu l[M].rt lrr lr G xr xe w' ((hR1.of hB).of hb)
   have hPP := fun w' (hb : Below wr.heap.size wr w') => pms_lie ((hP1.of hB).of hb)
   have hBd := fun w' (hb' : Below wr.heap.size wr w') => cps_any l[M].bd lbb lbd G xb xd w' ((hB1.of hB).of hb')
   have hst : l[M] = ⟨l[M].nm, l[M].ps, l[M].bd, l[M].sec, l[M].rt⟩ := rfl
   have HST := Lib.hid hst
   clear hP1 hB1 hR1 hr1 lrr lbb hst
   generalize l[M].nm = nm at *
   generalize l[M].sec = sec at *
   obtain ⟨np, hnp⟩ : ∃ np, np = l[M].ps.length := ⟨_, rfl⟩
   obtain ⟨nb, hnb⟩ : ∃ nb, nb = l[M].bd.length := ⟨_, rfl⟩
   obtain ⟨nr, hnr⟩ : ∃ nr, nr = l[M].rt.length := ⟨_, rfl⟩
   simp only [← hnp, ← hnb, ← hnr] at hp hb hr q0 q1 q2 q3 q4 lp lbd lr hX hPP hBd
   have HNP := Lib.hid hnp
   have HNB := Lib.hid hnb
   have HNR := Lib.hid hnr
   clear hnp hnb hnr
   obtain ⟨W1, hW1⟩ : ∃ W1, wr.alloc (.cells #[.string (str nm), .slice xp np xc, .slice xb nb xd, .bool sec, .slice xr nr xe] 43) = W1 := ⟨_, rfl⟩
   have hBW1 : Below wr.heap.size wr W1 := by rw [← hW1]; exact aB (Below.refl _ _) _
   have s1 : rowG #[.string (str nm), .slice xp np xc, .slice xb nb xd, .bool sec, .slice xr nr xe] W1 wr.heap.size := by rw [← hW1]; exact zQf _ _ _ _ rfl
   obtain ⟨z0, z1, z2, z3, z4, zf, zl⟩ := zZk s1
   have hsl := hS.2.2
   go_wp2_with first
    | (at_builtin; refine zKu _ rfl _ _ 40 rfl (wr.heap.size + 1) 49 j0 _ 4 24 Tryz.underlying40 ji jz0 jz1 jz2 rfl (by decide) (.slice none 0 0) 0 [] rfl (World.ownsRow_nil _ _ _ _) xp np xc (pmC l[M].ps) rfl (by rw [jQh, HNP.out]) (hPP W1 hBW1) (jQg _) (by unfold maxLen; omega) (by omega) (by omega) ?_; (intro a2 c2 w2 hown2 hgrow2 hat2); (simp only [Nat.zero_add, List.nil_append] at hown2 ⊢); (have hb2 : Below W1.heap.size W1 w2 := (zXc hgrow2).below (B := W1.heap.size) (fun j hj => by simp [Value.ownBlock] at hj) (Nat.le_refl _)); (have hB2 := tr hBW1 hb2); (have r2 := zQh s1 hb2); (clear z0 z1 z2 z3 z4 zf zl); (obtain ⟨z0, z1, z2, z3, z4, zf, zl⟩ := zZk r2); (have kP := jQf hown2 HNP.out); (obtain ⟨W2, hW2⟩ : ∃ W2, w2.setCell ⟨wr.heap.size, 1, none⟩ (.slice a2 np c2) = W2 := ⟨_, rfl⟩); (have s2 : rowG #[.string (str nm), .slice a2 np c2, .slice xb nb xd, .bool sec, .slice xr nr xe] W2 wr.heap.size := by rw [← hW2]; exact jKu _ r2); (have hO2 : Only (fun j => j = wr.heap.size) w2 W2 := by rw [← hW2]; exact zXa _ _ _ _); (have hBW2 : Below wr.heap.size wr W2 := hB2.trans (hO2.below (B := wr.heap.size) (fun j hj => by omega) hB2.size)); (obtain ⟨y0, y1, y2, y3, y4, yf, yl⟩ := zZk s2); (have kP2 := kP.only hO2 (fun b hb e => by have := hb.1; have e2 : b = wr.heap.size := e; omega)); (have hBc := hBd W2 hBW2))
    | (go_at_call 17; ((with_reducible refine hBc.mono ?_); (rintro e w3 ⟨⟨m3, c3, rfl, kB⟩, hb3⟩); (have hB3 := tr hBW2 hb3); (have r3 := zQh s2 hb3); (have l2 := s2.2.2); (clear z0 z1 z2 z3 z4 zf zl y0 y1 y2 y3 y4 yf yl hW2 hBc); (obtain ⟨z0, z1, z2, z3, z4, zf, zl⟩ := zZk r3); (obtain ⟨W3, hW3⟩ : ∃ W3, w3.setCell ⟨wr.heap.size, 2, none⟩ (.slice m3 nb c3) = W3 := ⟨_, rfl⟩); (have s3 : rowG #[.string (str nm), .slice a2 np c2, .slice m3 nb c3, .bool sec, .slice xr nr xe] W3 wr.heap.size := by rw [← hW3]; exact jKt _ r3); (have hO3 : Only (fun j => j = wr.heap.size) w3 W3 := by rw [← hW3]; exact zXa _ _ _ _); (have hBW3 : Below wr.heap.size wr W3 := hB3.trans (hO3.below (B := wr.heap.size) (fun j hj => by omega) hB3.size)); (obtain ⟨y0, y1, y2, y3, y4, yf, yl⟩ := zZk s3); (have kB3 := kB.only hO3 (fun b hb e => by have := hb.1; have e2 : b = wr.heap.size := e; omega)); (have kP3 := (kP2.of hb3).only hO3 (fun b hb e => by have := hb.1; have e2 : b = wr.heap.size := e; omega)); (have hXc := hX W3 hBW3)))
    | (go_at_call 18; ((with_reducible refine hXc.mono ?_); (rintro e w4 ⟨⟨m4, c4, rfl, kX⟩, hb4⟩); (have hB4 := tr hBW3 hb4); (have r4 := zQh s3 hb4); (have l3 := s3.2.2); (clear z0 z1 z2 z3 z4 zf zl y0 y1 y2 y3 y4 yf yl hW3 hXc); (obtain ⟨z0, z1, z2, z3, z4, zf, zl⟩ := zZk r4); (obtain ⟨W4, hW4⟩ : ∃ W4, w4.setCell ⟨wr.heap.size, 4, none⟩ (.slice m4 nr c4) = W4 := ⟨_, rfl⟩); (have s4 : rowG #[.string (str nm), .slice a2 np c2, .slice m3 nb c3, .bool sec, .slice m4 nr c4] W4 wr.heap.size := by rw [← hW4]; exact jKs _ r4); (have hO4 : Only (fun j => j = wr.heap.size) w4 W4 := by rw [← hW4]; exact zXa _ _ _ _); (have hBW4 : Below wr.heap.size wr W4 := hB4.trans (hO4.below (B := wr.heap.size) (fun j hj => by omega) hB4.size)); (clear hPP); (obtain ⟨y0, y1, y2, y3, y4, yf, yl⟩ := zZk s4); (have kX4 := kX.only hO4 (fun b hb e => by have := hb.1; have e2 : b = wr.heap.size := e; omega)); (have kB4 := (kB3.of hb4).only hO4 (fun b hb e => by have := hb.1; have e2 : b = wr.heap.size := e; omega)); (have kP4 := (kP3.of hb4).only hO4 (fun b hb e => by have := hb.1; have e2 : b = wr.heap.size := e; omega)); (have ho4 := zXk hown hBW4); (have t4 := zQh hS hBW4); (have v0 := t4.1 0 (by simp)); (have vf := t4.2.1 0); (have vl := t4.2.2); (have LX := s4.2.2)))
    | (at_builtin; refine wpList_append_lies _ rfl _ _ 22 rfl (w.heap.size + 3) 43 i0 _ 5 96 Tryz.underlying22 hi hz0 hz1 hz2 rfl (by decide) _ M (fxs L) rfl (ho4.alloc _) ⟨W4.heap.size, 0, none⟩ 1 1 (fxs [⟨nm, a2, np, c2, m3, nb, c3, sec, m4, nr, c4, l[M]⟩]) rfl rfl ?cN ?c0 (by decide) ?c1 ?c2 ?c3 _ rfl ?_)
   case cN => first | exact zXe (fxs [⟨nm, a2, np, c2, m3, nb, c3, sec, m4, nr, c4, l[M]⟩]) 43 W4 | exact fun j u h => h
   case c0 => exact jXn _
   case c1 => unfold maxLen; omega
   case c2 => omega
   case c3 => have h1 := hB.size; have h2 := hBW4.size; first | omega | (simp; omega)
   obtain ⟨wa, hwa⟩ : ∃ wa, W4.alloc (.cells #[.string (str nm), .slice a2 np c2, .slice m3 nb c3, .bool sec, .slice m4 nr c4] 43) = wa := ⟨_, rfl⟩
   have hba : Below W4.heap.size W4 wa := by rw [← hwa]; exact aB (Below.refl _ _) _
   intro g cap' w6 hown6 hgrow hat hlt6
   rw [hwa] at hgrow
   have hszw : wa.heap.size = W4.heap.size + 1 := by rw [← hwa]; simp
   have hnew : ∀ j, some j = (Value.slice a M c).ownBlock → w.heap.size + 3 ≤ j := fun j hj => (zQu hown hj.symm).1
   have hog := zXc hgrow
   have hS6 := zQa (zQh t4 hba) hog (fun e => by have := hnew _ e; omega)
   have hZ6 := zQa (zQh (zQh hZ hBW4) hba) hog (fun e => by have := hnew _ e; omega)
   have hP6 := zQa (zQh (zQh hP hBW4) hba) hog (fun e => by have := hnew _ e; omega)
   have f0 := hS6.1 0 (by simp)
   have ff := hS6.2.1 0
   have fl := hS6.2.2
   clear v0 vf vl y0 y1 y2 y3 y4 yf yl
   go_wp2
   have hlo := fun (b : Nat) (hj : (Value.slice a M c).ownBlock = some b) => (zQu hown hj).2
   have z1 := hBW1.size
   have z2 := hb2.size
   have z3 := hO2.size
   have z4 := hb3.size
   have z5 := hO3.size
   have z6 := hb4.size
   have z7 := hO4.size
   have z8 := hba.size
   have hKK : (⟨nm, a2, np, c2, m3, nb, c3, sec, m4, nr, c4, l[M]⟩ : Fx).is (fun b => w.heap.size + 3 ≤ b ∧ b < wa.heap.size ∧ ¬ (Value.slice a M c).ownBlock = some b) wa := by
    have e1 := HNP.out
    have e2 := HNB.out
    have e3 := HNR.out
    unfold Fx.is
    simp only
    rw [HST.out, e1, e2, e3]
    exact IsFd.mk (e1 ▸ hp) (e2 ▸ hb) (e3 ▸ hr) ((kP4.of hba).mono fun b h => ⟨by omega, by omega, fun e => by have := hlo b e; omega⟩) ((kB4.of hba).mono fun b h => ⟨by omega, by omega, fun e => by have := hlo b e; omega⟩) ((kX4.of hba).mono fun b h => ⟨by omega, by omega, fun e => by have := hlo b e; omega⟩)
   have hall : ∀ K ∈ L ++ [⟨nm, a2, np, c2, m3, nb, c3, sec, m4, nr, c4, l[M]⟩], K.is (fun b => w.heap.size + 3 ≤ b ∧ b < wa.heap.size ∧ ¬ (Value.slice a M c).ownBlock = some b) wa := fun K hK => by
    rcases List.mem_append.1 hK with h1 | h1
    ·exact IsFd.mono (IsFd.of (hLi.out K h1) (tr hBW4 hba)) (fun b hb' => ⟨hb'.1, by have := hb'.2.1; have := hBW4.size; omega, hb'.2.2⟩)
    ·obtain rfl := List.mem_singleton.1 h1
     exact hKK
   have hall6 := xXs hgrow hat hszw _ hall (M + 1) cap'
   have hB6 : Below w.heap.size w w6 := (tr (tr hB hBW4) hba).grown hgrow (Nat.le_trans (Nat.le_trans hB.size hBW4.size) hba.size) (fun j hj => by have := (zQu hown hj).1; omega)
   obtain ⟨W7, hW7⟩ : ∃ W7, w6.setCell ⟨w.heap.size + 1 + 1, 0, none⟩ (.slice (some ⟨g, 0, none⟩) (M + 1) cap') = W7 := ⟨_, rfl⟩
   have hO7 : Only (fun j => j = w.heap.size + 1 + 1) w6 W7 := by rw [← hW7]; exact zXa _ _ _ _
   have hS7 : rowG #[.slice (some ⟨g, 0, none⟩) (M + 1) cap'] W7 (w.heap.size + 1 + 1) := by rw [← hW7]; exact jKj _ hS6
   have hown7 := zQy hown6 hO7 (fun j hj e => by have := (zQu hown6 hj).1; have e2 : j = w.heap.size + 1 + 1 := e; omega)
   have hall7 : Hid (∀ K ∈ L ++ [⟨nm, a2, np, c2, m3, nb, c3, sec, m4, nr, c4, l[M]⟩], K.is (fun b => w.heap.size + 3 ≤ b ∧ b < W7.heap.size ∧ ¬ (Value.slice (some ⟨g, 0, none⟩) (M + 1) cap').ownBlock = some b) W7) := Lib.hid fun K hK => (IsFd.only (hall6 K hK) hO7 (fun b hb e => by have := hb.1; have e2 : b = w.heap.size + 1 + 1 := e; omega)).mono fun b hb => ⟨hb.1, Nat.lt_of_lt_of_le hb.2.1 hO7.size, hb.2.2⟩
   have hB7 : Below w.heap.size w W7 := hB6.trans (hO7.below (B := w.heap.size) (fun j hj => by omega) hB6.size)
   have hZ7 := zQa hZ6 hO7 (by omega)
   have hP7 := zQa hP6 hO7 (by omega)
   try rw [hW7]
   go_roundw
   case rel => first | exact ⟨L ++ [⟨nm, a2, np, c2, m3, nb, c3, sec, m4, nr, c4, l[M]⟩], M + 1, _, cap', by simp [HM.out], by omega, by go_num, by rw [xZv]; exact hown7, hS7, hZ7, hP7, hB7, Lib.hid (by rw [List.map_append, hLx.out, List.take_succ_eq_append_getElem hlt']; rfl), hall7⟩ | ((repeat apply Exists.intro); exact ⟨⟨L ++ [⟨nm, a2, np, c2, m3, nb, c3, sec, m4, nr, c4, l[M]⟩], M + 1, _, cap', by simp [HM.out], by omega, by go_num, by rw [xZv]; exact hown7, hS7, hZ7, hP7, hB7, Lib.hid (by rw [List.map_append, hLx.out, List.take_succ_eq_append_getElem hlt']; rfl), hall7⟩, rfl⟩)
   case measure => simp [intOf]; omega
  ·obtain rfl : M = N := by omega
   have hFd := jQa hown HM.out hLi.out
   rw [hLx.out, List.take_of_length_le (by rw [HL.out]; exact Nat.le_refl _)] at hFd
   go_wp2_with (first
    | (with_reducible refine ld1p rfl _ rfl (w.heap.size + 1 + 1) rfl (show rowG #[.slice a M c] _ _ from hS) ?_)
    | (with_reducible refine st1p rfl _ _ rfl (w.heap.size + 1) rfl rfl hZ ?_; intro wF hF hOF))
   have hsF := hOF.size
   refine bodyPost_ret (jKp rfl _ _ (w.heap.size + 1) _ rfl hF) rfl ?_
   exact ⟨⟨a, c, rfl, (hFd.only hOF (fun b hb e => by have := hb.1; have e2 : b = w.heap.size + 1 := e; omega)).mono fun b hb => ⟨by have := hb.1; omega, Nat.lt_of_lt_of_le hb.2 hsF⟩⟩, hB.trans (hOF.below (B := w.heap.size) (fun j hj => by have e2 : j = w.heap.size + 1 := hj; omega) hB.size)⟩
end
end Go.Proofs.YtfbjljcmmbdhkaaGreatDoor
