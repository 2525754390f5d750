/- Contracts of mayBe and Check: which programs may be. -/
import Derived.Test.YtkibkaoffgnmkaaGreatDoorL20
import Derived.Deep.CutRange
import Derived.Deep.DeepAppendWide
namespace Go.Proofs.YtkibkaoffgnmkaaGreatDoor
set_option linter.unusedVariables false
set_option linter.unusedSimpArgs false
set_option maxRecDepth 100000
set_option maxHeartbeats 200000000
section
open Go.ChangeShapes Go.WideShapes Go.ChangeAt Go.RowKit
theorem pgC_drop {l : List Fd} {i : Nat} (h : i < l.length) (n : Nat) : pgC (l.drop i) n = (fdC l[i] n).bind (pgC (l.drop (i + 1))) := by
 rw [List.drop_eq_getElem_cons h]
 rfl
theorem gb_not {w : World} (hT : Tb w) {cb : Nat} (h : w.heap.size ≤ cb) : ¬ GB cb := fun hg => by have := hT.lt hg; omega
theorem fiveF {c0 c1 c2 c3 c4 : Value} {w : World} {g : Nat} (h : rowG #[c0, c1, c2, c3, c4] w g) : w.cell? ⟨g, 0, none⟩ = some c0 ∧ w.cell? ⟨g, 1, none⟩ = some c1 ∧ w.cell? ⟨g, 2, none⟩ = some c2 ∧ w.cell? ⟨g, 3, none⟩ = some c3 ∧ w.cell? ⟨g, 4, none⟩ = some c4 ∧ (∀ i, w.frozen? ⟨g, i, none⟩ = false) ∧ g < w.heap.size := ⟨h.1 0 (by simp), h.1 1 (by simp), h.1 2 (by simp), h.1 3 (by simp), h.1 4 (by simp), h.2.1, h.2.2⟩
theorem fx_all {G : Nat → Prop} {w : World} {K : Fx} (h : K.is G w) : ∃ (ps : List Pm) (bd : List St) (rt : List Xp), K.x = ⟨K.nm, ps, bd, K.sec, rt⟩ ∧ K.np = ps.length ∧ K.nb = bd.length ∧ K.nr = rt.length ∧ K.np ≤ 140737488355328 ∧ K.nb ≤ 140737488355328 ∧ K.nr ≤ 140737488355328 ∧ PmsAt G w ps K.mp ∧ StsAt G w bd K.mb ∧ KidsAt G w rt K.mr := by
 unfold Fx.is at h
 obtain ⟨nm, mp, np, cp, mb, nb, cb, sec, mr, nr, cr, x⟩ := K
 simp only at h ⊢
 generalize hv : (Value.agg #[.string (str nm), .slice mp np cp, .slice mb nb cb, .bool sec, .slice mr nr cr]) = v at h
 cases h with
 | @mk nm' ps bd sec' rt mp' mb' mr' cp' cb' cr' hp hb hr hP hB hR =>
  simp only [Value.agg.injEq, Array.mk.injEq, List.cons.injEq, Value.string.injEq, Value.bool.injEq, Value.slice.injEq, and_true] at hv
  obtain ⟨h0, ⟨rfl, rfl, rfl⟩, ⟨rfl, rfl, rfl⟩, rfl, rfl, rfl, rfl⟩ := hv
  have e1 := congrArg (fun b : ByteArray => b.data.toList) h0
  simp only [str_list] at e1
  subst e1
  exact ⟨ps, bd, rt, rfl, rfl, rfl, rfl, hp, hb, hr, hP, hB, hR⟩
theorem mb_any (l : List Fd) (ma : Option Addr) (cap : Nat) (w : World) (hF : FdsAt (fun b => b < w.heap.size) w l ma) (hl : l.length ≤ 140737488355328) (hT : Tb w) :
  Calls Tryz.prog 34 #[.agg #[.slice ma l.length cap]] w fun r w' => r = .returned (.bool (pgB l)) ∧ Below w.heap.size w w' := by
 have HF := Lib.hid hF
 have hpg : pgB l = (decide (l.length ≤ 16) && (pgC l 400).isSome) := rfl
 rw [hpg]
 obtain ⟨N, hN⟩ : ∃ N, N = l.length := ⟨_, rfl⟩
 rw [← hN] at hl ⊢
 have HN := Lib.hid hN
 clear hF hN hpg
 by_cases h16 : N ≤ 16
 ·rw [decide_eq_true h16, Bool.true_and]
  have h16' : ¬ (16 : Int) < (N : Int) := by omega
  have HR0 : Hid (pgC (l.drop 0) 400 = pgC l 400) := Lib.hid rfl
  generalize pgC l 400 = R at HR0 ⊢
  have hGBc := gb_not hT (cb := w.heap.size + 1) (by omega)
  go_enter Tryz.func34, Tryz.ntmps34
  go_wp2
  go_loopw [14] (fun i wr => ∃ k m : Nat, k ≤ N ∧ i = .int .i64 (k : Int) ∧ Hid (pgC (l.drop k) m = R) ∧ wr.cell? ⟨w.heap.size + 1, 0, none⟩ = some (.int .i64 (m : Int)) ∧ wr.frozen? ⟨w.heap.size + 1, 0, none⟩ = false ∧ m ≤ 400 ∧ Below w.heap.size w wr) (fun i _ => N - (intOf i).toNat)
  case atStart => exact ⟨0, 400, Nat.zero_le _, rfl, HR0, (rowG_at #[.int .i64 400] 107 _ (w.heap.size + 1) (by simp)).1 0 (by simp), (rowG_at #[.int .i64 400] 107 _ (w.heap.size + 1) (by simp)).2.1 0, by omega, aB (aB (Below.refl _ _) _) _⟩
  case round =>
   obtain ⟨j, m, hj, rfl, hrow, hcr, hfr, hm, hB⟩ := hrel
   have hTr := hT.of hB
   by_cases hlt : j < N
   ·have hlt' : j < l.length := by rw [← HN.out]; exact hlt
    have hcbl : w.heap.size + 1 < wr.heap.size := World.block_lt_of_cell? wr _ hcr
    obtain ⟨b, o, K, rfl, hGb, hKx, hKi, hcells⟩ := HF.out j hlt'
    have q0 := stay hB (hcells 0 _ rfl)
    have q1 := stay hB (hcells 1 _ rfl)
    have q2 := stay hB (hcells 2 _ rfl)
    have q3 := stay hB (hcells 3 _ rfl)
    have q4 := stay hB (hcells 4 _ rfl)
    simp only [Nat.add_zero] at q0
    have hbl' : b < wr.heap.size := Nat.lt_of_lt_of_le hGb hB.size
    have hrow' := hrow.out
    rw [pgC_drop hlt'] at hrow'
    obtain ⟨ps, bd, rt, hx, enp, enb, enr, hp, hbd, hr, hP, hBd, hRt⟩ := fx_all hKi
    rw [hx] at hKx
    rw [← hKx] at hrow'
    have hfd : ∀ n, fdC ⟨K.nm, ps, bd, K.sec, rt⟩ n = if (nmdB K.nm && psB ps && rtB K.sec rt) = true then blkC 40 bd n else none := fun _ => rfl
    rw [hfd] at hrow'
    have HP := Lib.hid (hP.of hB)
    have HBd := Lib.hid (hBd.of hB)
    have HRt := Lib.hid (hRt.of hB)
    have HB := Lib.hid hB
    clear hKx hx hcells hKi hrow hfd hP hBd hRt
    obtain ⟨K0, K1, K2, K3, K4, K5, K6, K7, K8, K9, K10, K11⟩ := K
    simp only at *
    have HRW := Lib.hid hrow'
    have HNB := Lib.hid enb
    have HNP := Lib.hid enp
    have HNR := Lib.hid enr
    clear hrow' enb enp enr
    obtain ⟨W, hW⟩ : ∃ W, wr.alloc (.cells #[.string (str K0), .slice K1 K2 K3, .slice K4 K5 K6, .bool K7, .slice K8 K9 K10] 43) = W := ⟨_, rfl⟩
    have hBW : Below wr.heap.size wr W := by rw [← hW]; exact aB (Below.refl _ _) _
    have hrW : rowG #[.string (str K0), .slice K1 K2 K3, .slice K4 K5 K6, .bool K7, .slice K8 K9 K10] W wr.heap.size := by rw [← hW]; exact rowG_at _ _ _ _ rfl
    have hTW := hTr.of hBW
    have hNm := fun w' (hb : Below W.heap.size W w') => nmd_str K0 w' (hTW.of hb)
    have hPs := fun w' (hb : Below W.heap.size W w') => psf_any (fun b => b < w.heap.size) ps K1 K3 w' ((HP.out.of hBW).of hb) (by rw [← HNP.out]; exact hp) (hTW.of hb)
    have hRt := fun w' (hb : Below W.heap.size W w') => rtf_any (fun b => b < w.heap.size) K0 K7 rt K1 K4 K8 K2 K3 K5 K6 K10 w' ((HRt.out.of hBW).of hb) (by rw [← HNR.out]; exact hr) (hTW.of hb)
    have hCk := fun w' (hb : Below W.heap.size W w') => ck_any 40 (fun b => b < w.heap.size) bd K4 K6 w' (w.heap.size + 1) m (by omega) ((HBd.out.of hBW).of hb) (by omega) hGBc (hTW.of hb) (by rw [← HNB.out]; exact hbd) (stay hb (stay hBW hcr)) (((bcell (tr hBW hb)).2 (w.heap.size + 1) 0 hcbl).trans hfr) hm
    simp only [← HNP.out, ← HNB.out, ← HNR.out] at hPs hRt hCk
    rw [show ((40 : Nat) : Int) = 40 from rfl] at hCk
    generalize nmdB K0 = c1 at hNm HRW
    generalize psB ps = c2 at hPs HRW
    generalize rtB K7 rt = c3 at hRt HRW
    generalize hc4 : blkC 40 bd m = c4 at hCk HRW
    have HHW := Lib.hid hW
    have hFF := Below.refl W.heap.size W
    obtain ⟨u0, u1, u2, u3, u4, uf, ul⟩ := fiveF hrW
    cases c1
    ·have hRn : R = none := by rw [← HRW.out]; rfl
     subst hRn
     go_wp2_with (first | (go_at_call 56; ((with_reducible refine (hNm _ hFF).mono ?_); (rintro e w1 ⟨rfl, hb1⟩); (have hr1 := rowG_b hrW hb1); (obtain ⟨p0, p1, p2, p3, p4, pf, pl⟩ := fiveF hr1))))
     go_ret
     exact ⟨rfl, tr HB.out (tr hBW hb1)⟩
    cases c2
    ·have hRn : R = none := by rw [← HRW.out]; rfl
     subst hRn
     go_wp2_with (first | (go_at_call 56; ((with_reducible refine (hNm _ hFF).mono ?_); (rintro e w1 ⟨rfl, hb1⟩); (have hr1 := rowG_b hrW hb1); (obtain ⟨p0, p1, p2, p3, p4, pf, pl⟩ := fiveF hr1))) | (go_at_call 57; ((with_reducible refine (hPs _ hb1).mono ?_); (rintro e w2 ⟨rfl, hb2⟩); (have hb12 := tr hb1 hb2); (have hr2 := rowG_b hrW hb12); (clear p0 p1 p2 p3 p4 pf pl); (obtain ⟨y0, y1, y2, y3, y4, yf, yl⟩ := fiveF hr2))))
     go_ret
     exact ⟨rfl, tr HB.out (tr hBW hb12)⟩
    cases c3
    ·have hRn : R = none := by rw [← HRW.out]; rfl
     subst hRn
     go_wp2_with (first | (go_at_call 56; ((with_reducible refine (hNm _ hFF).mono ?_); (rintro e w1 ⟨rfl, hb1⟩); (have hr1 := rowG_b hrW hb1); (obtain ⟨p0, p1, p2, p3, p4, pf, pl⟩ := fiveF hr1))) | (go_at_call 57; ((with_reducible refine (hPs _ hb1).mono ?_); (rintro e w2 ⟨rfl, hb2⟩); (have hb12 := tr hb1 hb2); (have hr2 := rowG_b hrW hb12); (clear p0 p1 p2 p3 p4 pf pl); (obtain ⟨y0, y1, y2, y3, y4, yf, yl⟩ := fiveF hr2))) | (go_at_call 58; ((with_reducible refine (hRt _ hb12).mono ?_); (rintro e w3 ⟨rfl, hb3⟩); (have hb13 := tr hb12 hb3); (have hr3 := rowG_b hrW hb13); (clear y0 y1 y2 y3 y4 yf yl); (obtain ⟨x0, x1, x2, x3, x4, xf, xl⟩ := fiveF hr3))))
     go_ret
     exact ⟨rfl, tr HB.out (tr hBW hb13)⟩
    cases c4 with
    | none =>
     have hRn : R = none := by rw [← HRW.out]; rfl
     subst hRn
     go_wp2_with (first | (go_at_call 56; ((with_reducible refine (hNm _ hFF).mono ?_); (rintro e w1 ⟨rfl, hb1⟩); (have hr1 := rowG_b hrW hb1); (obtain ⟨p0, p1, p2, p3, p4, pf, pl⟩ := fiveF hr1))) | (go_at_call 57; ((with_reducible refine (hPs _ hb1).mono ?_); (rintro e w2 ⟨rfl, hb2⟩); (have hb12 := tr hb1 hb2); (have hr2 := rowG_b hrW hb12); (clear p0 p1 p2 p3 p4 pf pl); (obtain ⟨y0, y1, y2, y3, y4, yf, yl⟩ := fiveF hr2))) | (go_at_call 58; ((with_reducible refine (hRt _ hb12).mono ?_); (rintro e w3 ⟨rfl, hb3⟩); (have hb13 := tr hb12 hb3); (have hr3 := rowG_b hrW hb13); (clear y0 y1 y2 y3 y4 yf yl); (obtain ⟨x0, x1, x2, x3, x4, xf, xl⟩ := fiveF hr3))) | (go_at_call 59; ((with_reducible refine (hCk _ hb13).mono ?_); (rintro e w4 ⟨hO4, rfl⟩))))
     go_ret
     exact ⟨rfl, ((tr HB.out (tr hBW hb13)).trans (hO4.below (B := w.heap.size) (fun j hj => by omega) (Nat.le_trans HB.out.size (tr hBW hb13).size)))⟩
    | some m4 =>
     have hm4 := blk_le hc4
     have HR4 : Hid (pgC (l.drop (j + 1)) m4 = R) := Lib.hid (by rw [← HRW.out]; rfl)
     go_wp2_with (first | (go_at_call 56; ((with_reducible refine (hNm _ hFF).mono ?_); (rintro e w1 ⟨rfl, hb1⟩); (have hr1 := rowG_b hrW hb1); (obtain ⟨p0, p1, p2, p3, p4, pf, pl⟩ := fiveF hr1))) | (go_at_call 57; ((with_reducible refine (hPs _ hb1).mono ?_); (rintro e w2 ⟨rfl, hb2⟩); (have hb12 := tr hb1 hb2); (have hr2 := rowG_b hrW hb12); (clear p0 p1 p2 p3 p4 pf pl); (obtain ⟨y0, y1, y2, y3, y4, yf, yl⟩ := fiveF hr2))) | (go_at_call 58; ((with_reducible refine (hRt _ hb12).mono ?_); (rintro e w3 ⟨rfl, hb3⟩); (have hb13 := tr hb12 hb3); (have hr3 := rowG_b hrW hb13); (clear y0 y1 y2 y3 y4 yf yl); (obtain ⟨x0, x1, x2, x3, x4, xf, xl⟩ := fiveF hr3))) | (go_at_call 59; ((with_reducible refine (hCk _ hb13).mono ?_); (rintro e w4 ⟨hO4, rfl, hc4, hf4⟩))))
     have hB4 := ((tr HB.out (tr hBW hb13)).trans (hO4.below (B := w.heap.size) (fun j hj => by omega) (Nat.le_trans HB.out.size (tr hBW hb13).size)))
     go_roundw
     case rel => first | exact ⟨j + 1, m4, by omega, by go_num, HR4, hc4, hf4, by omega, hB4⟩ | ((repeat apply Exists.intro); exact ⟨⟨j + 1, m4, by omega, by go_num, HR4, hc4, hf4, by omega, hB4⟩, rfl⟩)
     case measure => simp [intOf]; omega
   ·obtain rfl : j = N := by omega
    have hr := hrow.out
    rw [List.drop_of_length_le (by rw [HN.out]; exact Nat.le_refl _)] at hr
    have e : R = some m := hr.symm
    subst e
    have HX := Lib.hid hr
    clear hr hrow HR0
    go_wp2
    go_ret
    exact ⟨rfl, hB⟩
 ·rw [decide_eq_false h16, Bool.false_and]
  have h16' : (16 : Int) < (N : Int) := by omega
  go_enter Tryz.func34, Tryz.ntmps34
  go_wp2
  go_ret
  exact ⟨rfl, aB (Below.refl _ _) _⟩
theorem chk_any (l : List Fd) (ma : Option Addr) (cap : Nat) (w : World) (hF : FdsAt (fun b => b < w.heap.size) w l ma) (hl : l.length ≤ 140737488355328) (hT : Tb w) :
  Calls Tryz.prog 14 #[.agg #[.slice ma l.length cap]] w fun r w' => r = .returned (.int .i64 (if pgB l = true then 0 else 2)) ∧ Below w.heap.size w w' := by
 have hM := fun o => mb_any l ma cap (w.alloc o) ((hF.of (aB (Below.refl _ _) _)).mono (fun b hb => Nat.lt_of_lt_of_le hb (aB (Below.refl w.heap.size w) o).size)) hl (hT.alloc o)
 generalize pgB l = c at hM
 clear hF
 generalize l.length = N at hM ⊢
 cases c
 ·go_enter Tryz.func14, Tryz.ntmps14
  go_wp2_with (go_at_call 34; ((with_reducible refine (hM _).mono ?_); (rintro e w1 ⟨rfl, hb⟩)))
  go_ret
  exact ⟨rfl, tr (aB (Below.refl _ _) _) hb⟩
 ·go_enter Tryz.func14, Tryz.ntmps14
  go_wp2_with (go_at_call 34; ((with_reducible refine (hM _).mono ?_); (rintro e w1 ⟨rfl, hb⟩)))
  go_ret
  exact ⟨rfl, tr (aB (Below.refl _ _) _) hb⟩
end
section
open Go.ChangeShapes Go.WideShapes Go.ChangeAt Go.RowKit
theorem fds_row {G : Nat → Prop} {w : World} {l : List Fd} {ma : Option Addr} (h : FdsAt G w l ma) (i : Nat) (hi : i < l.length) : ∃ (b o : Nat) (mp mb mr : Option Addr) (cp cb cr : Nat), ma = some ⟨b, o, none⟩ ∧ G b ∧ b < w.heap.size ∧ PmsAt G w l[i].ps mp ∧ StsAt G w l[i].bd mb ∧ KidsAt G w l[i].rt mr ∧ l[i].ps.length ≤ 140737488355328 ∧ l[i].bd.length ≤ 140737488355328 ∧ l[i].rt.length ≤ 140737488355328 ∧ w.rangeAt b (o + i * 5) [.string (str l[i].nm), .slice mp l[i].ps.length cp, .slice mb l[i].bd.length cb, .bool l[i].sec, .slice mr l[i].rt.length cr] := by
 obtain ⟨b, o, K, rfl, hG, hx, hK, hc⟩ := h i hi
 obtain ⟨ps, bd, rt, hx2, enp, enb, enr, h1, h2, h3, hP, hB, hR⟩ := fx_all hK
 rw [← hx, hx2]
 have hc' := hc
 unfold Fx.cells at hc'
 rw [enp, enb, enr] at hc'
 exact ⟨b, o, K.mp, K.mb, K.mr, K.cp, K.cb, K.cr, rfl, hG, World.block_lt_of_cell? w _ (hc 0 _ rfl), hP, hB, hR, enp ▸ h1, enb ▸ h2, enr ▸ h3, fun j v hv => hc' j v hv⟩
theorem fiveR {c0 c1 c2 c3 c4 : Value} {w : World} {g o : Nat} (h : w.rangeAt g o [c0, c1, c2, c3, c4]) : w.cell? ⟨g, o, none⟩ = some c0 ∧ w.cell? ⟨g, o + 1, none⟩ = some c1 ∧ w.cell? ⟨g, o + 2, none⟩ = some c2 ∧ w.cell? ⟨g, o + 3, none⟩ = some c3 ∧ w.cell? ⟨g, o + 4, none⟩ = some c4 :=
 ⟨h 0 _ rfl, h 1 _ rfl, h 2 _ rfl, h 3 _ rfl, h 4 _ rfl⟩
section
variable {op : Oper} {a : Act} {w : World} {K : Act → World → Prop} {Q : Exit → Act → World → Prop}
end
end
section
open Go Go.ChangeShapes Go.WideShapes Go.ChangeAt Go.RowKit
theorem wp_append_row {P : Program} (w : World) {o : Oper} {a : Act} {K : Act → World → Prop} {Q : Exit → Act → World → Prop} (s x : Operand) (t : TypeId)
  (ho : o.op = .call { callee := .builtin .append, args := #[s, x], argTypes := #[t, t] })
  (base : Nat) (e : TypeId) (i : TypeInfo) (z : Value) (size bytes : Nat) (ht : P.underlying t = some (.slice e)) (hi : P.info? e = some i) (hz : i.zero = some z)
  (hsize : i.size = size) (hby : i.bytes = bytes) (hzs : z.cells.size = size) (hsz : 0 < size)
  (v : Value) (n : Nat) (xs : List Value) (hs : a.eval s = v) (hown : w.ownsRow base e size v n xs)
  (mx : Option Addr) (m c : Nat) (news : List Value) (hx : a.eval x = .slice mx m c) (hl : news.length = m * size) (hnews : 0 < m → ∃ ad, mx = some ad ∧ ∀ j u, news[j]? = some u → w.cell? (ad.add j) = some u) (h1 : ∀ u ∈ news, u.oneCell' = true)
  (h63 : n + m ≤ maxLen) (hbytes : (n + m) * bytes ≤ 140737488355328) (hbase : base ≤ w.heap.size)
  (h : ∀ (a' : Option Addr) (c' : Nat) w', w'.ownsRow base e size (.slice a' (n + m) c') (n + m) (xs ++ news) → w.grownBy w' v.ownBlock → (∀ j, (Value.slice a' (n + m) c').ownBlock = some j → v.ownBlock = some j ∨ j = w.heap.size) → K (a.put o.dst (.slice a' (n + m) c')) w') : Oper.wp P o a w K Q := by
 by_cases hm : m = 0
 ·subst hm
  obtain rfl : news = [] := List.length_eq_zero_iff.1 (by omega)
  obtain ⟨b, cc, rfl⟩ := row_form hown
  have hrun := run_append_zero (P := P) (w := w) base t o.type e i size ht hi _ n xs hown mx c
  have hk := h b cc w (by rw [List.append_nil]; exact hown) grown_none (fun j hj => .inl hj)
  unfold Oper.wp
  simp [execOp, ho, resolve, invoke, builtin, hs, hx, hrun, Result.andThen]
  exact hk
 ·obtain ⟨ad, rfl, hc⟩ := hnews (by omega)
  refine wp_append_lies w s x t ho base e i z size bytes ht hi hz hsize hby hzs hsz v n xs hs hown ad m c news hx hl hc h1 (by omega) h63 hbytes hbase _ rfl ?_
  intro g cap w' h2 h3 h4 h5
  exact h _ _ w' h2 h3 (fun j hj => by
   simp only [Value.ownBlock, Option.some.injEq] at hj
   subst hj
   exact h4)
theorem wpList_append_rowW {P : Program} (w : World) {ops : Array Oper} {rest : List Oper} {o : Oper} {a : Act} {Q : Exit → Act → World → Prop} (hgd : o.guard = none) (s x : Operand) (t : TypeId)
  (ho : o.op = .call { callee := .builtin .append, args := #[s, x], argTypes := #[t, t] })
  (base : Nat) (e : TypeId) (i : TypeInfo) (z : Value) (size bytes : Nat) (ht : P.underlying t = some (.slice e)) (hi : P.info? e = some i) (hz : i.zero = some z)
  (hsize : i.size = size) (hby : i.bytes = bytes) (hzs : z.cells.size = size) (hsz : 0 < size)
  (v : Value) (n : Nat) (xs : List Value) (hs : a.eval s = v) (hown : w.ownsRow base e size v n xs)
  (mx : Option Addr) (m c : Nat) (news : List Value) (hx : a.eval x = .slice mx m c) (hl : news.length = m * size) (hnews : 0 < m → ∃ ad, mx = some ad ∧ ∀ j u, news[j]? = some u → w.cell? (ad.add j) = some u) (h1 : ∀ u ∈ news, u.oneCell' = true)
  (h63 : n + m ≤ maxLen) (hbytes : ((n + m) + (n + m) / 4 + 192) * bytes ≤ 281474976710656) (hbase : base ≤ w.heap.size)
  (h : ∀ (a' : Option Addr) (c' : Nat) w', w'.ownsRow base e size (.slice a' (n + m) c') (n + m) (xs ++ news) → w.grownBy w' v.ownBlock → wpList P ops Q rest (a.put o.dst (.slice a' (n + m) c')) w') : wpList P ops Q (o :: rest) a w := by
 by_cases hm : m = 0
 ·subst hm
  obtain rfl : news = [] := List.length_eq_zero_iff.1 (by omega)
  obtain ⟨b, cc, rfl⟩ := row_form hown
  refine wpList_append_zero hgd s x t ho base e i size ht hi _ n xs hs hown mx c hx ?_
  exact h b cc w (by rw [List.append_nil]; exact hown) grown_none
 ·obtain ⟨ad, rfl, hc⟩ := hnews (by omega)
  refine wpList_append_own_wide w hgd s x t ho base e i z size bytes ht hi hz hsize hby hzs hsz v n xs hs hown ad m c news hx hl hc h1 h63 hbytes hbase ?_
  intro v' w' h2 h3 _
  obtain ⟨a', c', rfl⟩ := row_form h2
  exact h a' c' w' h2 h3
theorem sts_lie {G : Nat → Prop} {w : World} : ∀ (l : List St) (ma : Option Addr), StsAt G w l ma → ∃ Ls : List Sx, Ls.map (·.x) = l ∧ (∀ K ∈ Ls, K.is G w) ∧ (0 < l.length → ∃ b o, ma = some ⟨b, o, none⟩ ∧ G b ∧ ∀ j u, (sxs Ls)[j]? = some u → w.cell? ⟨b, o + j, none⟩ = some u) := by
 intro l
 induction l with
 | nil => intro ma h; exact ⟨[], rfl, fun K hK => by simp at hK, fun h => by simp at h⟩
 | cons x l ih =>
  intro ma h
  cases h with
  | @cons k nm fr sec mu ex ar bd el r b off mx ma mb ml cx ca cb cl hg c0 c1 c2 c3 c4 c5 c6 c7 c8 hk hx ha hb hl hX hA hB hL hr =>
   obtain ⟨Ls, h1, h2, h3⟩ := ih _ hr
   refine ⟨⟨k, nm, fr, sec, mu, mx, ex.length, cx, ma, ar.length, ca, mb, bd.length, cb, ml, el.length, cl, .mk k nm fr sec mu ex ar bd el⟩ :: Ls, by simp [h1], ?_, fun _ => ⟨b, off, rfl, hg, ?_⟩⟩
   ·intro K hK
    rcases List.mem_cons.1 hK with rfl | hK
    ·exact .mk hk hx ha hb hl hX hA hB hL
    ·exact h2 K hK
   ·intro j u hu
    have e : sxs (⟨k, nm, fr, sec, mu, mx, ex.length, cx, ma, ar.length, ca, mb, bd.length, cb, ml, el.length, cl, .mk k nm fr sec mu ex ar bd el⟩ :: Ls) = [.int .u8 (k : Int), .string (str nm), .string (str fr), .bool sec, .bool mu, .slice mx ex.length cx, .slice ma ar.length ca, .slice mb bd.length cb, .slice ml el.length cl] ++ sxs Ls := rfl
    rw [e] at hu
    by_cases hj : j < 9
    ·obtain rfl | rfl | rfl | rfl | rfl | rfl | rfl | rfl | rfl : j = 0 ∨ j = 1 ∨ j = 2 ∨ j = 3 ∨ j = 4 ∨ j = 5 ∨ j = 6 ∨ j = 7 ∨ j = 8 := by omega
     ·cases hu; exact c0
     ·cases hu; exact c1
     ·cases hu; exact c2
     ·cases hu; exact c3
     ·cases hu; exact c4
     ·cases hu; exact c5
     ·cases hu; exact c6
     ·cases hu; exact c7
     ·cases hu; exact c8
    ·obtain ⟨i, rfl⟩ : ∃ i, j = i + 9 := ⟨j - 9, by omega⟩
     have hu' : (sxs Ls)[i]? = some u := by simpa using hu
     have hpos : 0 < l.length := by
      have := (List.getElem?_eq_some_iff.1 hu').1
      rw [sxs_len] at this
      have h4 : Ls.length = l.length := by rw [← h1]; simp
      omega
     obtain ⟨b', o', e', -, hc⟩ := h3 hpos
     cases e'
     rw [show off + (i + 9) = off + 9 + i by omega]
     exact hc i u hu'
theorem szL_app : ∀ (a b : List St), szL (a ++ b) = szL a + szL b := by
 intro a
 induction a with
 | nil => intro b; rw [List.nil_append, szL, Nat.zero_add]
 | cons x a ih => intro b; rw [List.cons_append, szL, szL, ih]; omega
def totS : List Fd → Nat
 | [] => 0
 | f :: r => szL f.bd + totS r
theorem totS_app : ∀ (a b : List Fd), totS (a ++ b) = totS a + totS b := by
 intro a
 induction a with
 | nil => intro b; rw [List.nil_append, totS, Nat.zero_add]
 | cons x a ih => intro b; rw [List.cons_append, totS, totS, ih]; omega
def LgP (w : World) (l : List Fd) (r : Ending) (w' : World) : Prop := (∃ b, r = .returned (.bool b) ∧ (b = false → l.length ≤ 30 ∧ totS l ≤ 900)) ∧ Below w.heap.size w w'
theorem bfs_step {T0 j : Nat} {L Lb Le : List Sx} {bd el : List St} (hj : j < L.length) (hb : Lb.map (·.x) = bd) (he : Le.map (·.x) = el) (hbd : bd = (L[j]).x.bd) (hel : el = (L[j]).x.el) (h : j + szL ((L.drop j).map (·.x)) = T0) : (j + 1) + szL ((((L ++ Lb) ++ Le).drop (j + 1)).map (·.x)) = T0 := by
 rw [List.append_assoc, List.drop_append_of_le_length (by omega), List.map_append, List.map_append, szL_app, szL_app, hb, he]
 rw [List.drop_eq_getElem_cons hj, List.map_cons, szL, sz_s, ← hbd, ← hel] at h
 omega
end
end Go.Proofs.YtkibkaoffgnmkaaGreatDoor
