/- A statement of a row; begun: the contract of (*checker).block. -/
import Derived.Test.YtfbjljcmmbdhkaaGreatDoorT32
import Derived.Test.YtfbjljcmmbdhkaaGreatDoorT34
import Derived.Test.YtfbjljcmmbdhkaaGreatDoorT07
namespace Go.Proofs.YtfbjljcmmbdhkaaGreatDoor
set_option linter.unusedVariables false
set_option linter.unusedSimpArgs false
set_option maxRecDepth 100000
set_option maxHeartbeats 200000000
section
open Go.ChangeShapes Go.WideShapes Go.ChangeAt Go.RowKit
theorem sts_at {G : Nat → Prop} {w : World} : ∀ (l : List St) (ma : Option Addr), StsAt G w l ma → ∀ i (h : i < l.length), ∃ (b o : Nat) (K : Sx), ma = some ⟨b, o, none⟩ ∧ G b ∧ K.x = l[i] ∧ K.is G w ∧ l[i] = .mk K.k K.nm K.fr K.sec K.mu l[i].ex l[i].ar l[i].bd l[i].el ∧ K.nb = l[i].bd.length ∧ K.nl = l[i].el.length ∧ StsAt G w l[i].bd K.mb ∧ StsAt G w l[i].el K.ml ∧ l[i].bd.length ≤ 140737488355328 ∧ l[i].el.length ≤ 140737488355328 ∧ ∀ r u, K.cells[r]? = some u → w.cell? ⟨b, o + i * 9 + r, none⟩ = some u := by
 intro l
 induction l with
 | nil => intro ma _ i h; simp at h
 | cons x l ih =>
  intro ma h i hi
  cases h with
  | @cons k nm fr sec mu ex ar bd el r b off mx ma mb ml cx ca cb cl hg c0 c1 c2 c3 c4 c5 c6 c7 c8 hk hx ha hb hl hX hA hB hL hr =>
   cases i with
   | zero =>
    refine ⟨b, off, ⟨k, nm, fr, sec, mu, mx, ex.length, cx, ma, ar.length, ca, mb, bd.length, cb, ml, el.length, cl, .mk k nm fr sec mu ex ar bd el⟩, rfl, hg, rfl, .mk hk hx ha hb hl hX hA hB hL, rfl, rfl, rfl, hB, hL, hb, hl, ?_⟩
    intro r u hu
    rw [show off + 0 * 9 + r = off + r by omega]
    obtain rfl | rfl | rfl | rfl | rfl | rfl | rfl | rfl | rfl | hr9 : r = 0 ∨ r = 1 ∨ r = 2 ∨ r = 3 ∨ r = 4 ∨ r = 5 ∨ r = 6 ∨ r = 7 ∨ r = 8 ∨ 9 ≤ r := by omega
    ·cases hu; exact c0
    ·cases hu; exact c1
    ·cases hu; exact c2
    ·cases hu; exact c3
    ·cases hu; exact c4
    ·cases hu; exact c5
    ·cases hu; exact c6
    ·cases hu; exact c7
    ·cases hu; exact c8
    ·rw [List.getElem?_eq_none (by simpa [Sx.cells] using hr9)] at hu; cases hu
   | succ i =>
    obtain ⟨b', o', K, e, h1, h2, h3, h4, h5, h6, h7, h8, h9, h10, h11⟩ := ih _ hr i (by simpa using hi)
    cases e
    refine ⟨b, off, K, rfl, h1, h2, h3, h4, h5, h6, h7, h8, h9, h10, fun r u hu => ?_⟩
    rw [show off + (i + 1) * 9 + r = off + 9 + i * 9 + r by omega]
    exact h11 r u hu
theorem rowC_drop (f : St → Nat → Option Nat) {l : List St} {i : Nat} (h : i < l.length) (n : Nat) : rowC f (l.drop i) n = (f l[i] n).bind (rowC f (l.drop (i + 1))) := by
 rw [List.drop_eq_getElem_cons h]
 rfl
def CkP (w : World) (cb : Nat) (r : Option Nat) (e : Ending) (w' : World) : Prop := Only (fun j => j = cb) w w' ∧ match r with
 | none => e = .returned (.bool false)
 | some m => e = .returned (.bool true) ∧ w'.cell? ⟨cb, 0, none⟩ = some (.int .i64 (m : Int)) ∧ w'.frozen? ⟨cb, 0, none⟩ = false
theorem ck_zero (l : List St) (ma : Option Addr) (cap : Nat) (w : World) (cb n : Nat) (hl : l.length ≤ 140737488355328) (hc : w.cell? ⟨cb, 0, none⟩ = some (.int .i64 (n : Int))) (hf : w.frozen? ⟨cb, 0, none⟩ = false) :
 Calls Tryz.prog 59 #[.pointer (some ⟨cb, 0, none⟩), .slice ma l.length cap, .int .i64 ((0 : Nat) : Int)] w (CkP w cb (blkC 0 l n)) := by
 cases l with
 | nil =>
  rw [show blkC 0 [] n = some n from rfl]
  go_enter Tryz.func59, Tryz.ntmps59
  go_wp2
  go_loopw [18] (fun i wr => i = .int .i64 0 ∧ w = wr) (fun _ _ => 0)
  case atStart => exact ⟨rfl, rfl⟩
  case round =>
   obtain ⟨rfl, rfl⟩ := hrel
   go_wp2
   go_ret
   exact ⟨Only.refl _ _, rfl, hc, hf⟩
 | cons x r =>
  rw [show blkC 0 (x :: r) n = none from rfl]
  have hp : (0 : Int) < (((x :: r).length : Nat) : Int) := by simp
  obtain ⟨N, hN⟩ : ∃ N, N = (x :: r).length := ⟨_, rfl⟩
  rw [← hN] at hp hl ⊢
  clear hN
  go_enter Tryz.func59, Tryz.ntmps59
  go_wp2
  go_ret
  exact ⟨Only.refl _ _, rfl⟩
end
section
open Go.ChangeShapes Go.WideShapes Go.ChangeAt Go.RowKit
section
variable {ops : Array Oper} {rest : List Oper} {op : Oper} {a : Act} {w : World} {Q : Exit → Act → World → Prop}
theorem ld9o (hgd : op.guard = none) (x : Operand) (ho : op.op = .load 52 x) (g off : Nat) (hx : a.eval x = .pointer (some ⟨g, off, none⟩)) {c0 c1 c2 c3 c4 c5 c6 c7 c8 : Value} (hr : w.rangeAt g off [c0, c1, c2, c3, c4, c5, c6, c7, c8]) (h : wpList Tryz.prog ops Q rest (a.put op.dst (.agg #[c0, c1, c2, c3, c4, c5, c6, c7, c8])) w) : wpList Tryz.prog ops Q (op :: rest) a w :=
 wpList_load_mid hgd 52 x ho g off hx [c0, c1, c2, c3, c4, c5, c6, c7, c8] _ hr Tryz.underlying52 rfl infoSt h
end
theorem sx_range {w : World} {K : Sx} {b o : Nat} (h : ∀ r u, K.cells[r]? = some u → w.cell? ⟨b, o + r, none⟩ = some u) : w.rangeAt b o [.int .u8 (K.k : Int), .string (str K.nm), .string (str K.fr), .bool K.sec, .bool K.mu, .slice K.mx K.nx K.cx, .slice K.ma K.na K.ca, .slice K.mb K.nb K.cb, .slice K.ml K.nl K.cl] := fun j v hv => h j v hv
theorem lessO_le {k : Option Nat} {n m : Nat} (h : lessO k n = some m) : m ≤ n := by
 cases k with
 | none => cases h
 | some k =>
  simp only [lessO, Option.bind_some] at h
  split at h
  ·cases h; omega
  ·cases h
theorem blk_le {d : Nat} {l : List St} {n m : Nat} (h : blkC d l n = some m) : m ≤ n := by
 rw [blk_cnt] at h
 exact lessO_le h
theorem ck_none {w w' : World} {cb : Nat} (h : Only (fun j => j = cb) w w') : CkP w cb none (.returned (.bool false)) w' := ⟨h, rfl⟩
theorem ck_some {w w' : World} {cb m : Nat} (h : Only (fun j => j = cb) w w') (h1 : w'.cell? ⟨cb, 0, none⟩ = some (.int .i64 (m : Int))) (h2 : w'.frozen? ⟨cb, 0, none⟩ = false) : CkP w cb (some m) (.returned (.bool true)) w' := ⟨h, rfl, h1, h2⟩
theorem ck_nil (d : Nat) (ma : Option Addr) (cap : Nat) (w : World) (cb n : Nat) (hc : w.cell? ⟨cb, 0, none⟩ = some (.int .i64 (n : Int))) (hf : w.frozen? ⟨cb, 0, none⟩ = false) :
 Calls Tryz.prog 59 #[.pointer (some ⟨cb, 0, none⟩), .slice ma ([] : List St).length cap, .int .i64 (d : Int)] w (CkP w cb (blkC d [] n)) := by
 rw [blkC_nil]
 generalize (d : Int) = D
 go_enter Tryz.func59, Tryz.ntmps59
 go_wp2
 go_loopw [18] (fun i wr => i = .int .i64 0 ∧ w = wr) (fun _ _ => 0)
 case atStart => exact ⟨rfl, rfl⟩
 case round =>
  obtain ⟨rfl, rfl⟩ := hrel
  go_wp2
  go_ret
  exact ck_some (Only.refl _ _) hc hf
theorem only_lt {w w' : World} {cb : Nat} (h : Only (fun j => j = cb) w w') {b : Nat} (hb : b < w.heap.size) : b < w'.heap.size := Nat.lt_of_lt_of_le hb h.size
theorem ck_any : ∀ (d : Nat) (G : Nat → Prop) (l : List St) (ma : Option Addr) (cap : Nat) (w : World) (cb n : Nat), d ≤ 1000 → StsAt G w l ma → ¬ G cb → ¬ GB cb → Tb w → l.length ≤ 140737488355328 → w.cell? ⟨cb, 0, none⟩ = some (.int .i64 (n : Int)) → w.frozen? ⟨cb, 0, none⟩ = false → n ≤ 400 →
 Calls Tryz.prog 59 #[.pointer (some ⟨cb, 0, none⟩), .slice ma l.length cap, .int .i64 (d : Int)] w (CkP w cb (blkC d l n)) := by
 intro d
 induction d with
 | zero => intro G l ma cap w cb n _ _ _ _ _ hl hc hf _; exact ck_zero l ma cap w cb n hl hc hf
 | succ d ih =>
  intro G l ma cap w cb n hd hS hG hGB hT hl hc hf hn
  cases l with
  | nil => exact ck_nil (d + 1) ma cap w cb n hc hf
  | cons x0 r0 =>
  have hpos : (0 : Int) < (((x0 :: r0).length : Nat) : Int) := by simp
  generalize x0 :: r0 = l at *
  have hR0 : rowC (oneC d) l n = blkC (d + 1) l n := (blkC_succ d l n).symm
  generalize blkC (d + 1) l n = R at hR0 ⊢
  have HR0 := Lib.hid hR0
  have HIH := Lib.hid ih
  have HS := Lib.hid hS
  have hwd : IntKind.i64.wrap (((d + 1 : Nat) : Int) - 1) = (d : Int) := by rw [IntKind.wrap_i64]; omega
  have hd0 : (((d + 1 : Nat) : Int) == 0) = false := by simp only [beq_eq_false_iff_ne]; omega
  have Hd := Lib.hid hd
  obtain ⟨D, hD⟩ : ∃ D : Int, D = ((d + 1 : Nat) : Int) := ⟨_, rfl⟩
  rw [← hD] at hwd hd0 ⊢
  obtain ⟨N, hN⟩ : ∃ N, N = l.length := ⟨_, rfl⟩
  rw [← hN] at hl hpos ⊢
  have HN := Lib.hid hN
  have hcl := World.block_lt_of_cell? w _ hc
  clear hR0 ih hS hd hD hN
  go_enter Tryz.func59, Tryz.ntmps59
  go_wp2
  go_loopw [18] (fun i wr => ∃ k m : Nat, k ≤ N ∧ i = .int .i64 (k : Int) ∧ Hid (rowC (oneC d) (l.drop k) m = R) ∧ wr.cell? ⟨cb, 0, none⟩ = some (.int .i64 (m : Int)) ∧ wr.frozen? ⟨cb, 0, none⟩ = false ∧ m ≤ 400 ∧ Only (fun j => j = cb) w wr) (fun i _ => N - (intOf i).toNat)
  case atStart => exact ⟨0, n, Nat.zero_le _, rfl, HR0, hc, hf, hn, Only.refl _ _⟩
  case round =>
   obtain ⟨j, m, hj, rfl, hrow, hcr, hfr, hm, hO⟩ := hrel
   have hTr := hT.only hO (fun j hj e => hGB (by rw [← e]; exact hj))
   by_cases hlt : j < N
   ·have hlt' : j < l.length := by rw [← HN.out]; exact hlt
    have hcbl : cb < wr.heap.size := World.block_lt_of_cell? wr _ hcr
    obtain ⟨b, o, K, rfl, hGb, hKx, hKi, hle, hnb, hnl, hB, hL, hbl, hll, hcells⟩ := sts_at l ma HS.out j hlt'
    have hbc : b ≠ cb := fun e => hG (by rw [← e]; exact hGb)
    have hrg := sx_range (K := K) (b := b) (o := o + j * 9) (w := wr) (fun r u hu => hO.cell (a := ⟨b, o + j * 9 + r, none⟩) hbc (hcells r u hu))
    have hbw : b < wr.heap.size := only_lt hO (World.block_lt_of_cell? w ⟨b, o + j * 9 + 0, none⟩ (hcells 0 _ rfl))
    have hrow' := hrow.out
    rw [rowC_drop _ hlt'] at hrow'
    have hKr : K.is G wr := hKi.only hO (fun b hb e => hG (by rw [← e]; exact hb))
    have hBr := hB.only hO (fun b hb e => hG (by rw [← e]; exact hb))
    have hLr := hL.only hO (fun b hb e => hG (by rw [← e]; exact hb))
    unfold Sx.is at hKr
    rw [hKx] at hKr
    have hone : oneC d l[j] m = if m = 0 ∨ fitsB l[j] = false then none else (blkC d l[j].bd (m - 1)).bind (blkC d l[j].el) := rfl
    rw [hone] at hrow'
    clear hone hKx hle hcells hB hL hKi hrow
    generalize l[j].bd = bd at *
    generalize l[j].el = el at *
    generalize l[j] = s at *
    rw [← hnb] at hbl
    rw [← hnl] at hll
    obtain ⟨K0, K1, K2, K3, K4, K5, K6, K7, K8, K9, K10, K11, K12, K13, K14, K15, K16, K17⟩ := K
    simp only at *
    have HRW := Lib.hid hrow'
    have HKR := Lib.hid hKr
    have HBR := Lib.hid hBr
    have HLR := Lib.hid hLr
    have HNB := Lib.hid hnb
    have HNL := Lib.hid hnl
    clear hrow' hKr hBr hLr hnb hnl
    by_cases h0 : m = 0
    ·subst h0
     have hRn : R = none := by rw [← HRW.out, if_pos (.inl rfl)]; rfl
     subst hRn
     go_wp2_with (first | (with_reducible refine ld9o rfl _ rfl b (o + j * 9) rfl hrg ?_) | (with_reducible refine st9 rfl _ _ rfl (wr.heap.size) rfl rfl (rowG_at _ _ _ _ rfl) ?_; (intro wF hF hOF); (have hBF : Below wr.heap.size wr wF := (aB (Below.refl _ _) _).trans (hOF.below (B := wr.heap.size) (fun j hj => by omega) (by simp))); (have hcF := stay hBF hcr); (have hlF : cb < wF.heap.size := Nat.lt_of_lt_of_le hcbl hBF.size); skip))
     go_ret
     exact ck_none (hO.trans (only_below hBF))
    ·obtain ⟨M, rfl⟩ : ∃ M, m = M + 1 := ⟨m - 1, by omega⟩
     have hw : IntKind.i64.wrap (((M + 1 : Nat) : Int) - 1) = (M : Int) := by rw [IntKind.wrap_i64]; omega
     have hm0 : (((M + 1 : Nat) : Int) == 0) = false := by simp only [beq_eq_false_iff_ne]; omega
     have hR1 := HRW.out
     rw [Nat.add_sub_cancel] at hR1
     clear HRW h0
     obtain ⟨Mi, hMi⟩ : ∃ Mi : Int, Mi = ((M + 1 : Nat) : Int) := ⟨_, rfl⟩
     rw [← hMi] at hw hm0 hcr
     clear hMi
     cases hfb : fitsB s
     ·have hRn : R = none := by rw [← hR1, if_pos (.inr hfb)]; rfl
      subst hRn
      clear hR1
      go_wp2_with (first | (with_reducible refine ld9o rfl _ rfl b (o + j * 9) rfl hrg ?_) | (with_reducible refine st9 rfl _ _ rfl (wr.heap.size) rfl rfl (rowG_at _ _ _ _ rfl) ?_; (intro wF hF hOF); (have hBF : Below wr.heap.size wr wF := (aB (Below.refl _ _) _).trans (hOF.below (B := wr.heap.size) (fun j hj => by omega) (by simp))); (have hcF := stay hBF hcr); (have hlF : cb < wF.heap.size := Nat.lt_of_lt_of_le hcbl hBF.size); (obtain ⟨z0, z1, z2, z3, z4, z5, z6, z7, z8, zff, zll⟩ := nine hF); (have hFit := fit_any G _ s wF (HKR.out.of hBF) (hTr.of hBF)); (rw [hfb] at hFit)) | (go_at_call 87; ((with_reducible refine hFit.mono ?_); (rintro e w2 ⟨rfl, hb2⟩))))
      go_ret
      exact ck_none (hO.trans (only_below (tr hBF hb2)))
     ·rw [if_neg (by rw [hfb]; simp)] at hR1
      have HR1 := Lib.hid hR1
      clear hR1
      cases hb1 : blkC d bd M with
      | none =>
       have hRn : R = none := by rw [← HR1.out, hb1]; rfl
       subst hRn
       go_wp2_with (first | (with_reducible refine ld9o rfl _ rfl b (o + j * 9) rfl hrg ?_) | (with_reducible refine st9 rfl _ _ rfl (wr.heap.size) rfl rfl (rowG_at _ _ _ _ rfl) ?_; (intro wF hF hOF); (have hBF : Below wr.heap.size wr wF := (aB (Below.refl _ _) _).trans (hOF.below (B := wr.heap.size) (fun j hj => by omega) (by simp))); (have hcF := stay hBF hcr); (have hlF : cb < wF.heap.size := Nat.lt_of_lt_of_le hcbl hBF.size); (obtain ⟨z0, z1, z2, z3, z4, z5, z6, z7, z8, zff, zll⟩ := nine hF); (have hFit := fit_any G _ s wF (HKR.out.of hBF) (hTr.of hBF)); (rw [hfb] at hFit)) | (go_at_call 87; ((with_reducible refine hFit.mono ?_); (rintro e w2 ⟨rfl, hb2⟩); (have hB2 := tr hBF hb2); (have hc2 := stay hB2 hcr); (have hf2 : w2.frozen? ⟨cb, 0, none⟩ = false := ((bcell hB2).2 cb 0 hcbl).trans hfr); (have hl2 : cb < w2.heap.size := Nat.lt_of_lt_of_le hcbl hB2.size); (have hO2 : Only (fun j => j = cb) wr (w2.setCell ⟨cb, 0, none⟩ (.int .i64 (M : Int))) := (only_below hB2).setCell rfl); (have hFb := rowG_b hF hb2); (have hF2 : rowG _ (w2.setCell ⟨cb, 0, none⟩ (.int .i64 (M : Int))) wr.heap.size := rowG_other (.int .i64 (M : Int)) hFb (by omega)); (obtain ⟨y0, y1, y2, y3, y4, y5, y6, y7, y8, yff, yll⟩ := nine hF2); (have hI1 := HIH.out G bd K11 K13 (w2.setCell ⟨cb, 0, none⟩ (.int .i64 (M : Int))) cb M (by have := Hd.out; omega) (HBR.out.only hO2 (fun b hb e => hG (by rw [← e]; exact hb))) hG hGB (hTr.only hO2 (fun j hj e => hGB (by rw [← e]; exact hj))) (by rw [← HNB.out]; exact hbl) (cset_same hc2) (by rw [World.frozen?_setCell]; exact hf2) (by omega)); (rw [← HNB.out, hb1] at hI1); (clear z0 z1 z2 z3 z4 z5 z6 z7 z8 zff zll hFit))) | (go_at_call 59; ((with_reducible refine hI1.mono ?_); (rintro e w3 ⟨hO3, rfl⟩))))
       go_ret
       exact ck_none (hO.trans (hO2.trans hO3))
      | some m2 =>
       have hm2 : m2 ≤ 400 := by have := blk_le hb1; omega
       cases hbE : blkC d el m2 with
       | none =>
        have hRn : R = none := by rw [← HR1.out, hb1]; show (blkC d el m2).bind _ = none; rw [hbE]; rfl
        subst hRn
        go_wp2_with (first | (with_reducible refine ld9o rfl _ rfl b (o + j * 9) rfl hrg ?_) | (with_reducible refine st9 rfl _ _ rfl (wr.heap.size) rfl rfl (rowG_at _ _ _ _ rfl) ?_; (intro wF hF hOF); (have hBF : Below wr.heap.size wr wF := (aB (Below.refl _ _) _).trans (hOF.below (B := wr.heap.size) (fun j hj => by omega) (by simp))); (have hcF := stay hBF hcr); (have hlF : cb < wF.heap.size := Nat.lt_of_lt_of_le hcbl hBF.size); (obtain ⟨z0, z1, z2, z3, z4, z5, z6, z7, z8, zff, zll⟩ := nine hF); (have hFit := fit_any G _ s wF (HKR.out.of hBF) (hTr.of hBF)); (rw [hfb] at hFit)) | (go_at_call 87; ((with_reducible refine hFit.mono ?_); (rintro e w2 ⟨rfl, hb2⟩); (have hB2 := tr hBF hb2); (have hc2 := stay hB2 hcr); (have hf2 : w2.frozen? ⟨cb, 0, none⟩ = false := ((bcell hB2).2 cb 0 hcbl).trans hfr); (have hl2 : cb < w2.heap.size := Nat.lt_of_lt_of_le hcbl hB2.size); (have hO2 : Only (fun j => j = cb) wr (w2.setCell ⟨cb, 0, none⟩ (.int .i64 (M : Int))) := (only_below hB2).setCell rfl); (have hFb := rowG_b hF hb2); (have hF2 : rowG _ (w2.setCell ⟨cb, 0, none⟩ (.int .i64 (M : Int))) wr.heap.size := rowG_other (.int .i64 (M : Int)) hFb (by omega)); (obtain ⟨y0, y1, y2, y3, y4, y5, y6, y7, y8, yff, yll⟩ := nine hF2); (have hI1 := HIH.out G bd K11 K13 (w2.setCell ⟨cb, 0, none⟩ (.int .i64 (M : Int))) cb M (by have := Hd.out; omega) (HBR.out.only hO2 (fun b hb e => hG (by rw [← e]; exact hb))) hG hGB (hTr.only hO2 (fun j hj e => hGB (by rw [← e]; exact hj))) (by rw [← HNB.out]; exact hbl) (cset_same hc2) (by rw [World.frozen?_setCell]; exact hf2) (by omega)); (rw [← HNB.out, hb1] at hI1); (clear z0 z1 z2 z3 z4 z5 z6 z7 z8 zff zll hFit))) | (go_at_call 59; ((with_reducible refine hI1.mono ?_); (rintro e w3 ⟨hO3, rfl, hc3, hf3⟩); (have hO23 := hO2.trans hO3); (have hl3 : cb < w3.heap.size := Nat.lt_of_lt_of_le hcbl hO23.size); (have hF3 := rowG_only hF2 hO3 (by omega)); (obtain ⟨x0, x1, x2, x3, x4, x5, x6, x7, x8, xff, xll⟩ := nine hF3); (have hI2 := HIH.out G el K14 K16 w3 cb m2 (by have := Hd.out; omega) (HLR.out.only hO23 (fun b hb e => hG (by rw [← e]; exact hb))) hG hGB (hTr.only hO23 (fun j hj e => hGB (by rw [← e]; exact hj))) (by rw [← HNL.out]; exact hll) hc3 hf3 hm2); (rw [← HNL.out, hbE] at hI2); (clear y0 y1 y2 y3 y4 y5 y6 y7 y8 yff yll hI1))) | (go_at_call 59; ((with_reducible refine hI2.mono ?_); (rintro e w4 ⟨hO4, rfl⟩))))
        go_ret
        exact ck_none (hO.trans (hO23.trans hO4))
       | some m3 =>
        have hm3 : m3 ≤ 400 := by have := blk_le hbE; omega
        have HR2 : Hid (rowC (oneC d) (l.drop (j + 1)) m3 = R) := Lib.hid (by rw [← HR1.out, hb1]; show _ = ((blkC d el m2).bind _); rw [hbE]; rfl)
        go_wp2_with (first | (with_reducible refine ld9o rfl _ rfl b (o + j * 9) rfl hrg ?_) | (with_reducible refine st9 rfl _ _ rfl (wr.heap.size) rfl rfl (rowG_at _ _ _ _ rfl) ?_; (intro wF hF hOF); (have hBF : Below wr.heap.size wr wF := (aB (Below.refl _ _) _).trans (hOF.below (B := wr.heap.size) (fun j hj => by omega) (by simp))); (have hcF := stay hBF hcr); (have hlF : cb < wF.heap.size := Nat.lt_of_lt_of_le hcbl hBF.size); (obtain ⟨z0, z1, z2, z3, z4, z5, z6, z7, z8, zff, zll⟩ := nine hF); (have hFit := fit_any G _ s wF (HKR.out.of hBF) (hTr.of hBF)); (rw [hfb] at hFit)) | (go_at_call 87; ((with_reducible refine hFit.mono ?_); (rintro e w2 ⟨rfl, hb2⟩); (have hB2 := tr hBF hb2); (have hc2 := stay hB2 hcr); (have hf2 : w2.frozen? ⟨cb, 0, none⟩ = false := ((bcell hB2).2 cb 0 hcbl).trans hfr); (have hl2 : cb < w2.heap.size := Nat.lt_of_lt_of_le hcbl hB2.size); (have hO2 : Only (fun j => j = cb) wr (w2.setCell ⟨cb, 0, none⟩ (.int .i64 (M : Int))) := (only_below hB2).setCell rfl); (have hFb := rowG_b hF hb2); (have hF2 : rowG _ (w2.setCell ⟨cb, 0, none⟩ (.int .i64 (M : Int))) wr.heap.size := rowG_other (.int .i64 (M : Int)) hFb (by omega)); (obtain ⟨y0, y1, y2, y3, y4, y5, y6, y7, y8, yff, yll⟩ := nine hF2); (have hI1 := HIH.out G bd K11 K13 (w2.setCell ⟨cb, 0, none⟩ (.int .i64 (M : Int))) cb M (by have := Hd.out; omega) (HBR.out.only hO2 (fun b hb e => hG (by rw [← e]; exact hb))) hG hGB (hTr.only hO2 (fun j hj e => hGB (by rw [← e]; exact hj))) (by rw [← HNB.out]; exact hbl) (cset_same hc2) (by rw [World.frozen?_setCell]; exact hf2) (by omega)); (rw [← HNB.out, hb1] at hI1); (clear z0 z1 z2 z3 z4 z5 z6 z7 z8 zff zll hFit))) | (go_at_call 59; ((with_reducible refine hI1.mono ?_); (rintro e w3 ⟨hO3, rfl, hc3, hf3⟩); (have hO23 := hO2.trans hO3); (have hl3 : cb < w3.heap.size := Nat.lt_of_lt_of_le hcbl hO23.size); (have hF3 := rowG_only hF2 hO3 (by omega)); (obtain ⟨x0, x1, x2, x3, x4, x5, x6, x7, x8, xff, xll⟩ := nine hF3); (have hI2 := HIH.out G el K14 K16 w3 cb m2 (by have := Hd.out; omega) (HLR.out.only hO23 (fun b hb e => hG (by rw [← e]; exact hb))) hG hGB (hTr.only hO23 (fun j hj e => hGB (by rw [← e]; exact hj))) (by rw [← HNL.out]; exact hll) hc3 hf3 hm2); (rw [← HNL.out, hbE] at hI2); (clear y0 y1 y2 y3 y4 y5 y6 y7 y8 yff yll hI1))) | (go_at_call 59; ((with_reducible refine hI2.mono ?_); (rintro e w4 ⟨hO4, rfl, hc4, hf4⟩))))
        go_roundw
        case rel => first | exact ⟨j + 1, m3, by omega, by go_num, HR2, hc4, hf4, hm3, hO.trans (hO23.trans hO4)⟩ | ((repeat apply Exists.intro); exact ⟨⟨j + 1, m3, by omega, by go_num, HR2, hc4, hf4, hm3, hO.trans (hO23.trans hO4)⟩, rfl⟩)
        case measure => simp [intOf]; omega
   ·obtain rfl : j = N := by omega
    have hr := hrow.out
    rw [List.drop_of_length_le (by rw [HN.out]; exact Nat.le_refl _)] at hr
    have e : R = some m := hr.symm
    subst e
    have HX := Lib.hid hr
    clear hr hrow HR0
    go_wp2
    go_ret
    exact ck_some hO hcr hfr
end
section
open Go.ChangeShapes Go.WideShapes Go.ChangeAt Go.RowKit
theorem pgC_drop {l : List Fd} {i : Nat} (h : i < l.length) (n : Nat) : pgC (l.drop i) n = (fdC l[i] n).bind (pgC (l.drop (i + 1))) := by
 rw [List.drop_eq_getElem_cons h]
 rfl
theorem gb_not {w : World} (hT : Tb w) {cb : Nat} (h : w.heap.size ≤ cb) : ¬ GB cb := fun hg => by have := hT.lt hg; omega
theorem fiveF {c0 c1 c2 c3 c4 : Value} {w : World} {g : Nat} (h : rowG #[c0, c1, c2, c3, c4] w g) : w.cell? ⟨g, 0, none⟩ = some c0 ∧ w.cell? ⟨g, 1, none⟩ = some c1 ∧ w.cell? ⟨g, 2, none⟩ = some c2 ∧ w.cell? ⟨g, 3, none⟩ = some c3 ∧ w.cell? ⟨g, 4, none⟩ = some c4 ∧ (∀ i, w.frozen? ⟨g, i, none⟩ = false) ∧ g < w.heap.size := ⟨h.1 0 (by simp), h.1 1 (by simp), h.1 2 (by simp), h.1 3 (by simp), h.1 4 (by simp), h.2.1, h.2.2⟩
theorem fx_all {G : Nat → Prop} {w : World} {K : Fx} (h : K.is G w) : ∃ (ps : List Pm) (bd : List St) (rt : List Xp), K.x = ⟨K.nm, ps, bd, K.sec, rt⟩ ∧ K.np = ps.length ∧ K.nb = bd.length ∧ K.nr = rt.length ∧ K.np ≤ 140737488355328 ∧ K.nb ≤ 140737488355328 ∧ K.nr ≤ 140737488355328 ∧ PmsAt G w ps K.mp ∧ StsAt G w bd K.mb ∧ KidsAt G w rt K.mr := by
 unfold Fx.is at h
 obtain ⟨nm, mp, np, cp, mb, nb, cb, sec, mr, nr, cr, x⟩ := K
 simp only at h ⊢
 generalize hv : (Value.agg #[.string (str nm), .slice mp np cp, .slice mb nb cb, .bool sec, .slice mr nr cr]) = v at h
 cases h with
 | @mk nm' ps bd sec' rt mp' mb' mr' cp' cb' cr' hp hb hr hP hB hR =>
  simp only [Value.agg.injEq, Array.mk.injEq, List.cons.injEq, Value.string.injEq, Value.bool.injEq, Value.slice.injEq, and_true] at hv
  obtain ⟨h0, ⟨rfl, rfl, rfl⟩, ⟨rfl, rfl, rfl⟩, rfl, rfl, rfl, rfl⟩ := hv
  have e1 := congrArg (fun b : ByteArray => b.data.toList) h0
  simp only [str_list] at e1
  subst e1
  exact ⟨ps, bd, rt, rfl, rfl, rfl, rfl, hp, hb, hr, hP, hB, hR⟩
theorem mb_any (l : List Fd) (ma : Option Addr) (cap : Nat) (w : World) (hF : FdsAt (fun b => b < w.heap.size) w l ma) (hl : l.length ≤ 140737488355328) (hT : Tb w) :
 Calls Tryz.prog 34 #[.agg #[.slice ma l.length cap]] w fun r w' => r = .returned (.bool (pgB l)) ∧ Below w.heap.size w w' := by
 have HF := Lib.hid hF
 have hpg : pgB l = (decide (l.length ≤ 16) && (pgC l 400).isSome) := rfl
 rw [hpg]
 obtain ⟨N, hN⟩ : ∃ N, N = l.length := ⟨_, rfl⟩
 rw [← hN] at hl ⊢
 have HN := Lib.hid hN
 clear hF hN hpg
 by_cases h16 : N ≤ 16
 ·rw [decide_eq_true h16, Bool.true_and]
  have h16' : ¬ (16 : Int) < (N : Int) := by omega
  have HR0 : Hid (pgC (l.drop 0) 400 = pgC l 400) := Lib.hid rfl
  generalize pgC l 400 = R at HR0 ⊢
  have hGBc := gb_not hT (cb := w.heap.size + 1) (by omega)
  go_enter Tryz.func34, Tryz.ntmps34
  go_wp2
  go_loopw [14] (fun i wr => ∃ k m : Nat, k ≤ N ∧ i = .int .i64 (k : Int) ∧ Hid (pgC (l.drop k) m = R) ∧ wr.cell? ⟨w.heap.size + 1, 0, none⟩ = some (.int .i64 (m : Int)) ∧ wr.frozen? ⟨w.heap.size + 1, 0, none⟩ = false ∧ m ≤ 400 ∧ Below w.heap.size w wr) (fun i _ => N - (intOf i).toNat)
  case atStart => exact ⟨0, 400, Nat.zero_le _, rfl, HR0, (rowG_at #[.int .i64 400] 107 _ (w.heap.size + 1) (by simp)).1 0 (by simp), (rowG_at #[.int .i64 400] 107 _ (w.heap.size + 1) (by simp)).2.1 0, by omega, aB (aB (Below.refl _ _) _) _⟩
  case round =>
   obtain ⟨j, m, hj, rfl, hrow, hcr, hfr, hm, hB⟩ := hrel
   have hTr := hT.of hB
   by_cases hlt : j < N
   ·have hlt' : j < l.length := by rw [← HN.out]; exact hlt
    have hcbl : w.heap.size + 1 < wr.heap.size := World.block_lt_of_cell? wr _ hcr
    obtain ⟨b, o, K, rfl, hGb, hKx, hKi, hcells⟩ := HF.out j hlt'
    have q0 := stay hB (hcells 0 _ rfl)
    have q1 := stay hB (hcells 1 _ rfl)
    have q2 := stay hB (hcells 2 _ rfl)
    have q3 := stay hB (hcells 3 _ rfl)
    have q4 := stay hB (hcells 4 _ rfl)
    simp only [Nat.add_zero] at q0
    have hbl' : b < wr.heap.size := Nat.lt_of_lt_of_le hGb hB.size
    have hrow' := hrow.out
    rw [pgC_drop hlt'] at hrow'
    obtain ⟨ps, bd, rt, hx, enp, enb, enr, hp, hbd, hr, hP, hBd, hRt⟩ := fx_all hKi
    rw [hx] at hKx
    rw [← hKx] at hrow'
    have hfd : ∀ n, fdC ⟨K.nm, ps, bd, K.sec, rt⟩ n = if (nmdB K.nm && psB ps && rtB K.sec rt) = true then blkC 40 bd n else none := fun _ => rfl
    rw [hfd] at hrow'
    have HP := Lib.hid (hP.of hB)
    have HBd := Lib.hid (hBd.of hB)
    have HRt := Lib.hid (hRt.of hB)
    have HB := Lib.hid hB
    clear hKx hx hcells hKi hrow hfd hP hBd hRt
    obtain ⟨K0, K1, K2, K3, K4, K5, K6, K7, K8, K9, K10, K11⟩ := K
    simp only at *
    have HRW := Lib.hid hrow'
    have HNB := Lib.hid enb
    have HNP := Lib.hid enp
    have HNR := Lib.hid enr
    clear hrow' enb enp enr
    obtain ⟨W, hW⟩ : ∃ W, wr.alloc (.cells #[.string (str K0), .slice K1 K2 K3, .slice K4 K5 K6, .bool K7, .slice K8 K9 K10] 43) = W := ⟨_, rfl⟩
    have hBW : Below wr.heap.size wr W := by rw [← hW]; exact aB (Below.refl _ _) _
    have hrW : rowG #[.string (str K0), .slice K1 K2 K3, .slice K4 K5 K6, .bool K7, .slice K8 K9 K10] W wr.heap.size := by rw [← hW]; exact rowG_at _ _ _ _ rfl
    have hTW := hTr.of hBW
    have hNm := fun w' (hb : Below W.heap.size W w') => nmd_str K0 w' (hTW.of hb)
    have hPs := fun w' (hb : Below W.heap.size W w') => psf_any (fun b => b < w.heap.size) ps K1 K3 w' ((HP.out.of hBW).of hb) (by rw [← HNP.out]; exact hp) (hTW.of hb)
    have hRt := fun w' (hb : Below W.heap.size W w') => rtf_any (fun b => b < w.heap.size) K0 K7 rt K1 K4 K8 K2 K3 K5 K6 K10 w' ((HRt.out.of hBW).of hb) (by rw [← HNR.out]; exact hr) (hTW.of hb)
    have hCk := fun w' (hb : Below W.heap.size W w') => ck_any 40 (fun b => b < w.heap.size) bd K4 K6 w' (w.heap.size + 1) m (by omega) ((HBd.out.of hBW).of hb) (by omega) hGBc (hTW.of hb) (by rw [← HNB.out]; exact hbd) (stay hb (stay hBW hcr)) (((bcell (tr hBW hb)).2 (w.heap.size + 1) 0 hcbl).trans hfr) hm
    simp only [← HNP.out, ← HNB.out, ← HNR.out] at hPs hRt hCk
    rw [show ((40 : Nat) : Int) = 40 from rfl] at hCk
    generalize nmdB K0 = c1 at hNm HRW
    generalize psB ps = c2 at hPs HRW
    generalize rtB K7 rt = c3 at hRt HRW
    generalize hc4 : blkC 40 bd m = c4 at hCk HRW
    have HHW := Lib.hid hW
    have hFF := Below.refl W.heap.size W
    obtain ⟨u0, u1, u2, u3, u4, uf, ul⟩ := fiveF hrW
    cases c1
    ·have hRn : R = none := by rw [← HRW.out]; rfl
     subst hRn
     go_wp2_with (first | (go_at_call 56; ((with_reducible refine (hNm _ hFF).mono ?_); (rintro e w1 ⟨rfl, hb1⟩); (have hr1 := rowG_b hrW hb1); (obtain ⟨p0, p1, p2, p3, p4, pf, pl⟩ := fiveF hr1))))
     go_ret
     exact ⟨rfl, tr HB.out (tr hBW hb1)⟩
    cases c2
    ·have hRn : R = none := by rw [← HRW.out]; rfl
     subst hRn
     go_wp2_with (first | (go_at_call 56; ((with_reducible refine (hNm _ hFF).mono ?_); (rintro e w1 ⟨rfl, hb1⟩); (have hr1 := rowG_b hrW hb1); (obtain ⟨p0, p1, p2, p3, p4, pf, pl⟩ := fiveF hr1))) | (go_at_call 57; ((with_reducible refine (hPs _ hb1).mono ?_); (rintro e w2 ⟨rfl, hb2⟩); (have hb12 := tr hb1 hb2); (have hr2 := rowG_b hrW hb12); (clear p0 p1 p2 p3 p4 pf pl); (obtain ⟨y0, y1, y2, y3, y4, yf, yl⟩ := fiveF hr2))))
     go_ret
     exact ⟨rfl, tr HB.out (tr hBW hb12)⟩
    cases c3
    ·have hRn : R = none := by rw [← HRW.out]; rfl
     subst hRn
     go_wp2_with (first | (go_at_call 56; ((with_reducible refine (hNm _ hFF).mono ?_); (rintro e w1 ⟨rfl, hb1⟩); (have hr1 := rowG_b hrW hb1); (obtain ⟨p0, p1, p2, p3, p4, pf, pl⟩ := fiveF hr1))) | (go_at_call 57; ((with_reducible refine (hPs _ hb1).mono ?_); (rintro e w2 ⟨rfl, hb2⟩); (have hb12 := tr hb1 hb2); (have hr2 := rowG_b hrW hb12); (clear p0 p1 p2 p3 p4 pf pl); (obtain ⟨y0, y1, y2, y3, y4, yf, yl⟩ := fiveF hr2))) | (go_at_call 58; ((with_reducible refine (hRt _ hb12).mono ?_); (rintro e w3 ⟨rfl, hb3⟩); (have hb13 := tr hb12 hb3); (have hr3 := rowG_b hrW hb13); (clear y0 y1 y2 y3 y4 yf yl); (obtain ⟨x0, x1, x2, x3, x4, xf, xl⟩ := fiveF hr3))))
     go_ret
     exact ⟨rfl, tr HB.out (tr hBW hb13)⟩
    cases c4 with
    | none =>
     have hRn : R = none := by rw [← HRW.out]; rfl
     subst hRn
     go_wp2_with (first | (go_at_call 56; ((with_reducible refine (hNm _ hFF).mono ?_); (rintro e w1 ⟨rfl, hb1⟩); (have hr1 := rowG_b hrW hb1); (obtain ⟨p0, p1, p2, p3, p4, pf, pl⟩ := fiveF hr1))) | (go_at_call 57; ((with_reducible refine (hPs _ hb1).mono ?_); (rintro e w2 ⟨rfl, hb2⟩); (have hb12 := tr hb1 hb2); (have hr2 := rowG_b hrW hb12); (clear p0 p1 p2 p3 p4 pf pl); (obtain ⟨y0, y1, y2, y3, y4, yf, yl⟩ := fiveF hr2))) | (go_at_call 58; ((with_reducible refine (hRt _ hb12).mono ?_); (rintro e w3 ⟨rfl, hb3⟩); (have hb13 := tr hb12 hb3); (have hr3 := rowG_b hrW hb13); (clear y0 y1 y2 y3 y4 yf yl); (obtain ⟨x0, x1, x2, x3, x4, xf, xl⟩ := fiveF hr3))) | (go_at_call 59; ((with_reducible refine (hCk _ hb13).mono ?_); (rintro e w4 ⟨hO4, rfl⟩))))
     go_ret
     exact ⟨rfl, ((tr HB.out (tr hBW hb13)).trans (hO4.below (B := w.heap.size) (fun j hj => by omega) (Nat.le_trans HB.out.size (tr hBW hb13).size)))⟩
    | some m4 =>
     have hm4 := blk_le hc4
     have HR4 : Hid (pgC (l.drop (j + 1)) m4 = R) := Lib.hid (by rw [← HRW.out]; rfl)
     go_wp2_with (first | (go_at_call 56; ((with_reducible refine (hNm _ hFF).mono ?_); (rintro e w1 ⟨rfl, hb1⟩); (have hr1 := rowG_b hrW hb1); (obtain ⟨p0, p1, p2, p3, p4, pf, pl⟩ := fiveF hr1))) | (go_at_call 57; ((with_reducible refine (hPs _ hb1).mono ?_); (rintro e w2 ⟨rfl, hb2⟩); (have hb12 := tr hb1 hb2); (have hr2 := rowG_b hrW hb12); (clear p0 p1 p2 p3 p4 pf pl); (obtain ⟨y0, y1, y2, y3, y4, yf, yl⟩ := fiveF hr2))) | (go_at_call 58; ((with_reducible refine (hRt _ hb12).mono ?_); (rintro e w3 ⟨rfl, hb3⟩); (have hb13 := tr hb12 hb3); (have hr3 := rowG_b hrW hb13); (clear y0 y1 y2 y3 y4 yf yl); (obtain ⟨x0, x1, x2, x3, x4, xf, xl⟩ := fiveF hr3))) | (go_at_call 59; ((with_reducible refine (hCk _ hb13).mono ?_); (rintro e w4 ⟨hO4, rfl, hc4, hf4⟩))))
     have hB4 := ((tr HB.out (tr hBW hb13)).trans (hO4.below (B := w.heap.size) (fun j hj => by omega) (Nat.le_trans HB.out.size (tr hBW hb13).size)))
     go_roundw
     case rel => first | exact ⟨j + 1, m4, by omega, by go_num, HR4, hc4, hf4, by omega, hB4⟩ | ((repeat apply Exists.intro); exact ⟨⟨j + 1, m4, by omega, by go_num, HR4, hc4, hf4, by omega, hB4⟩, rfl⟩)
     case measure => simp [intOf]; omega
   ·obtain rfl : j = N := by omega
    have hr := hrow.out
    rw [List.drop_of_length_le (by rw [HN.out]; exact Nat.le_refl _)] at hr
    have e : R = some m := hr.symm
    subst e
    have HX := Lib.hid hr
    clear hr hrow HR0
    go_wp2
    go_ret
    exact ⟨rfl, hB⟩
 ·rw [decide_eq_false h16, Bool.false_and]
  have h16' : (16 : Int) < (N : Int) := by omega
  go_enter Tryz.func34, Tryz.ntmps34
  go_wp2
  go_ret
  exact ⟨rfl, aB (Below.refl _ _) _⟩
theorem chk_any (l : List Fd) (ma : Option Addr) (cap : Nat) (w : World) (hF : FdsAt (fun b => b < w.heap.size) w l ma) (hl : l.length ≤ 140737488355328) (hT : Tb w) :
 Calls Tryz.prog 14 #[.agg #[.slice ma l.length cap]] w fun r w' => r = .returned (.int .i64 (if pgB l = true then 0 else 2)) ∧ Below w.heap.size w w' := by
 have hM := fun o => mb_any l ma cap (w.alloc o) ((hF.of (aB (Below.refl _ _) _)).mono (fun b hb => Nat.lt_of_lt_of_le hb (aB (Below.refl w.heap.size w) o).size)) hl (hT.alloc o)
 generalize pgB l = c at hM
 clear hF
 generalize l.length = N at hM ⊢
 cases c
 ·go_enter Tryz.func14, Tryz.ntmps14
  go_wp2_with (go_at_call 34; ((with_reducible refine (hM _).mono ?_); (rintro e w1 ⟨rfl, hb⟩)))
  go_ret
  exact ⟨rfl, tr (aB (Below.refl _ _) _) hb⟩
 ·go_enter Tryz.func14, Tryz.ntmps14
  go_wp2_with (go_at_call 34; ((with_reducible refine (hM _).mono ?_); (rintro e w1 ⟨rfl, hb⟩)))
  go_ret
  exact ⟨rfl, tr (aB (Below.refl _ _) _) hb⟩
end
end Go.Proofs.YtfbjljcmmbdhkaaGreatDoor
