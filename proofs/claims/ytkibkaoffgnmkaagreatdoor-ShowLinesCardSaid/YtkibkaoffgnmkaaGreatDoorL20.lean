/- Contract of (*checker).block, begun: at no depth. -/
import Derived.Test.YtkibkaoffgnmkaaGreatDoorL19
import Derived.Test.YtkibkaoffgnmkaaGreatDoorL13
import Derived.Test.YtkibkaoffgnmkaaGreatDoorL12
namespace Go.Proofs.YtkibkaoffgnmkaaGreatDoor
set_option linter.unusedVariables false
set_option linter.unusedSimpArgs false
set_option maxRecDepth 100000
set_option maxHeartbeats 200000000
section
open Go.ChangeShapes Go.WideShapes Go.ChangeAt Go.RowKit
def CkP (w : World) (cb : Nat) (r : Option Nat) (e : Ending) (w' : World) : Prop := Only (fun j => j = cb) w w' ∧ match r with
 | none => e = .returned (.bool false)
 | some m => e = .returned (.bool true) ∧ w'.cell? ⟨cb, 0, none⟩ = some (.int .i64 (m : Int)) ∧ w'.frozen? ⟨cb, 0, none⟩ = false
theorem ck_zero (l : List St) (ma : Option Addr) (cap : Nat) (w : World) (cb n : Nat) (hl : l.length ≤ 140737488355328) (hc : w.cell? ⟨cb, 0, none⟩ = some (.int .i64 (n : Int))) (hf : w.frozen? ⟨cb, 0, none⟩ = false) :
  Calls Tryz.prog 59 #[.pointer (some ⟨cb, 0, none⟩), .slice ma l.length cap, .int .i64 ((0 : Nat) : Int)] w (CkP w cb (blkC 0 l n)) := by
 cases l with
 | nil =>
  rw [show blkC 0 [] n = some n from rfl]
  go_enter Tryz.func59, Tryz.ntmps59
  go_wp2
  go_loopw [18] (fun i wr => i = .int .i64 0 ∧ w = wr) (fun _ _ => 0)
  case atStart => exact ⟨rfl, rfl⟩
  case round =>
   obtain ⟨rfl, rfl⟩ := hrel
   go_wp2
   go_ret
   exact ⟨Only.refl _ _, rfl, hc, hf⟩
 | cons x r =>
  rw [show blkC 0 (x :: r) n = none from rfl]
  have hp : (0 : Int) < (((x :: r).length : Nat) : Int) := by simp
  obtain ⟨N, hN⟩ : ∃ N, N = (x :: r).length := ⟨_, rfl⟩
  rw [← hN] at hp hl ⊢
  clear hN
  go_enter Tryz.func59, Tryz.ntmps59
  go_wp2
  go_ret
  exact ⟨Only.refl _ _, rfl⟩
end
section
def rowS (one : St → Option Nat) : List St → Option Nat
 | [] => some 0
 | s :: r => (one s).bind fun a => (rowS one r).map fun b => a + b
def cntR : Nat → List St → Option Nat
 | 0, l => if l = [] then some 0 else none
 | d + 1, l => rowS (fun s => if fitsB s = true then (cntR d s.bd).bind fun a => (cntR d s.el).map fun b => 1 + a + b else none) l
def oneR (d : Nat) (s : St) : Option Nat := if fitsB s = true then (cntR d s.bd).bind fun a => (cntR d s.el).map fun b => 1 + a + b else none
theorem cntR_succ (d : Nat) (l : List St) : cntR (d + 1) l = rowS (oneR d) l := by unfold cntR; rfl
def lessO (k : Option Nat) (n : Nat) : Option Nat := k.bind fun k => if k ≤ n then some (n - k) else none
theorem less_add (a b : Option Nat) (n : Nat) : (lessO a n).bind (lessO b) = lessO (a.bind fun a => b.map fun b => a + b) n := by
 cases a with
 | none => rfl
 | some a =>
  cases b with
  | none => by_cases h : a ≤ n <;> simp [lessO, h]
  | some b =>
   simp only [lessO, Option.bind_some, Option.map_some]
   by_cases h : a ≤ n
   ·rw [if_pos h]
    simp only [Option.bind_some, lessO]
    by_cases h2 : b ≤ n - a
    ·rw [if_pos h2, if_pos (by omega)]; congr 1; omega
    ·rw [if_neg h2, if_neg (by omega)]
   ·rw [if_neg h, if_neg (by omega)]; rfl
theorem row_less {one : St → Nat → Option Nat} {two : St → Option Nat} (h : ∀ s n, one s n = lessO (two s) n) : ∀ (l : List St) (n : Nat), rowC one l n = lessO (rowS two l) n := by
 intro l
 induction l with
 | nil => intro n; simp [rowC, rowS, lessO]
 | cons s r ih =>
  intro n
  rw [rowC, rowS, h s n, ← less_add]
  congr 1
  funext m
  exact ih m
theorem blk_cnt : ∀ (d : Nat) (l : List St) (n : Nat), blkC d l n = lessO (cntR d l) n := by
 intro d
 induction d with
 | zero => intro l n; cases l <;> simp [blkC, cntR, lessO]
 | succ d ih =>
  intro l n
  rw [blkC_succ, cntR_succ]
  refine row_less (fun s n => ?_) l n
  unfold oneC oneR
  cases hf : fitsB s
  ·simp [lessO]
  ·have h1 : (blkC d s.bd (n - 1)).bind (blkC d s.el) = lessO ((cntR d s.bd).bind fun a => (cntR d s.el).map fun b => a + b) (n - 1) := by
    rw [← less_add, ih s.bd]
    congr 1
    funext m
    exact ih s.el m
   rw [if_pos rfl, h1]
   by_cases h0 : n = 0
   ·rw [if_pos (.inl h0), h0]
    cases cntR d s.bd with
    | none => rfl
    | some a => cases cntR d s.el with
     | none => rfl
     | some b => simp [lessO]
   ·rw [if_neg (by simp [h0])]
    cases cntR d s.bd with
    | none => rfl
    | some a => cases cntR d s.el with
     | none => rfl
     | some b =>
      simp only [lessO, Option.bind_some, Option.map_some]
      by_cases h2 : a + b ≤ n - 1
      ·rw [if_pos h2, if_pos (by omega)]; congr 1; omega
      ·rw [if_neg h2, if_neg (by omega)]
def fdB (f : Fd) : Bool := nmdB f.nm && psB f.ps && rtB f.sec f.rt
def fdS (f : Fd) : Option Nat := if fdB f = true then cntR 40 f.bd else none
def pgS : List Fd → Option Nat
 | [] => some 0
 | f :: r => (fdS f).bind fun a => (pgS r).map fun b => a + b
def mayP (l : List Fd) : Bool := decide (l.length ≤ 16) && match pgS l with
 | none => false
 | some n => decide (n ≤ 400)
end
section
open Go.ChangeShapes Go.WideShapes Go.ChangeAt Go.RowKit
section
variable {ops : Array Oper} {rest : List Oper} {op : Oper} {a : Act} {w : World} {Q : Exit → Act → World → Prop}
theorem ld9o (hgd : op.guard = none) (x : Operand) (ho : op.op = .load 52 x) (g off : Nat) (hx : a.eval x = .pointer (some ⟨g, off, none⟩)) {c0 c1 c2 c3 c4 c5 c6 c7 c8 : Value} (hr : w.rangeAt g off [c0, c1, c2, c3, c4, c5, c6, c7, c8]) (h : wpList Tryz.prog ops Q rest (a.put op.dst (.agg #[c0, c1, c2, c3, c4, c5, c6, c7, c8])) w) : wpList Tryz.prog ops Q (op :: rest) a w :=
 wpList_load_mid hgd 52 x ho g off hx [c0, c1, c2, c3, c4, c5, c6, c7, c8] _ hr Tryz.underlying52 rfl infoSt h
end
theorem sx_range {w : World} {K : Sx} {b o : Nat} (h : ∀ r u, K.cells[r]? = some u → w.cell? ⟨b, o + r, none⟩ = some u) : w.rangeAt b o [.int .u8 (K.k : Int), .string (str K.nm), .string (str K.fr), .bool K.sec, .bool K.mu, .slice K.mx K.nx K.cx, .slice K.ma K.na K.ca, .slice K.mb K.nb K.cb, .slice K.ml K.nl K.cl] := fun j v hv => h j v hv
theorem lessO_le {k : Option Nat} {n m : Nat} (h : lessO k n = some m) : m ≤ n := by
 cases k with
 | none => cases h
 | some k =>
  simp only [lessO, Option.bind_some] at h
  split at h
  ·cases h; omega
  ·cases h
theorem blk_le {d : Nat} {l : List St} {n m : Nat} (h : blkC d l n = some m) : m ≤ n := by
 rw [blk_cnt] at h
 exact lessO_le h
theorem ck_none {w w' : World} {cb : Nat} (h : Only (fun j => j = cb) w w') : CkP w cb none (.returned (.bool false)) w' := ⟨h, rfl⟩
theorem ck_some {w w' : World} {cb m : Nat} (h : Only (fun j => j = cb) w w') (h1 : w'.cell? ⟨cb, 0, none⟩ = some (.int .i64 (m : Int))) (h2 : w'.frozen? ⟨cb, 0, none⟩ = false) : CkP w cb (some m) (.returned (.bool true)) w' := ⟨h, rfl, h1, h2⟩
theorem ck_nil (d : Nat) (ma : Option Addr) (cap : Nat) (w : World) (cb n : Nat) (hc : w.cell? ⟨cb, 0, none⟩ = some (.int .i64 (n : Int))) (hf : w.frozen? ⟨cb, 0, none⟩ = false) :
  Calls Tryz.prog 59 #[.pointer (some ⟨cb, 0, none⟩), .slice ma ([] : List St).length cap, .int .i64 (d : Int)] w (CkP w cb (blkC d [] n)) := by
 rw [blkC_nil]
 generalize (d : Int) = D
 go_enter Tryz.func59, Tryz.ntmps59
 go_wp2
 go_loopw [18] (fun i wr => i = .int .i64 0 ∧ w = wr) (fun _ _ => 0)
 case atStart => exact ⟨rfl, rfl⟩
 case round =>
  obtain ⟨rfl, rfl⟩ := hrel
  go_wp2
  go_ret
  exact ck_some (Only.refl _ _) hc hf
theorem only_lt {w w' : World} {cb : Nat} (h : Only (fun j => j = cb) w w') {b : Nat} (hb : b < w.heap.size) : b < w'.heap.size := Nat.lt_of_lt_of_le hb h.size
theorem ck_any : ∀ (d : Nat) (G : Nat → Prop) (l : List St) (ma : Option Addr) (cap : Nat) (w : World) (cb n : Nat), d ≤ 1000 → StsAt G w l ma → ¬ G cb → ¬ GB cb → Tb w → l.length ≤ 140737488355328 → w.cell? ⟨cb, 0, none⟩ = some (.int .i64 (n : Int)) → w.frozen? ⟨cb, 0, none⟩ = false → n ≤ 400 →
  Calls Tryz.prog 59 #[.pointer (some ⟨cb, 0, none⟩), .slice ma l.length cap, .int .i64 (d : Int)] w (CkP w cb (blkC d l n)) := by
 intro d
 induction d with
 | zero => intro G l ma cap w cb n _ _ _ _ _ hl hc hf _; exact ck_zero l ma cap w cb n hl hc hf
 | succ d ih =>
  intro G l ma cap w cb n hd hS hG hGB hT hl hc hf hn
  cases l with
  | nil => exact ck_nil (d + 1) ma cap w cb n hc hf
  | cons x0 r0 =>
  have hpos : (0 : Int) < (((x0 :: r0).length : Nat) : Int) := by simp
  generalize x0 :: r0 = l at *
  have hR0 : rowC (oneC d) l n = blkC (d + 1) l n := (blkC_succ d l n).symm
  generalize blkC (d + 1) l n = R at hR0 ⊢
  have HR0 := Lib.hid hR0
  have HIH := Lib.hid ih
  have HS := Lib.hid hS
  have hwd : IntKind.i64.wrap (((d + 1 : Nat) : Int) - 1) = (d : Int) := by rw [IntKind.wrap_i64]; omega
  have hd0 : (((d + 1 : Nat) : Int) == 0) = false := by simp only [beq_eq_false_iff_ne]; omega
  have Hd := Lib.hid hd
  obtain ⟨D, hD⟩ : ∃ D : Int, D = ((d + 1 : Nat) : Int) := ⟨_, rfl⟩
  rw [← hD] at hwd hd0 ⊢
  obtain ⟨N, hN⟩ : ∃ N, N = l.length := ⟨_, rfl⟩
  rw [← hN] at hl hpos ⊢
  have HN := Lib.hid hN
  have hcl := World.block_lt_of_cell? w _ hc
  clear hR0 ih hS hd hD hN
  go_enter Tryz.func59, Tryz.ntmps59
  go_wp2
  go_loopw [18] (fun i wr => ∃ k m : Nat, k ≤ N ∧ i = .int .i64 (k : Int) ∧ Hid (rowC (oneC d) (l.drop k) m = R) ∧ wr.cell? ⟨cb, 0, none⟩ = some (.int .i64 (m : Int)) ∧ wr.frozen? ⟨cb, 0, none⟩ = false ∧ m ≤ 400 ∧ Only (fun j => j = cb) w wr) (fun i _ => N - (intOf i).toNat)
  case atStart => exact ⟨0, n, Nat.zero_le _, rfl, HR0, hc, hf, hn, Only.refl _ _⟩
  case round =>
   obtain ⟨j, m, hj, rfl, hrow, hcr, hfr, hm, hO⟩ := hrel
   have hTr := hT.only hO (fun j hj e => hGB (by rw [← e]; exact hj))
   by_cases hlt : j < N
   ·have hlt' : j < l.length := by rw [← HN.out]; exact hlt
    have hcbl : cb < wr.heap.size := World.block_lt_of_cell? wr _ hcr
    obtain ⟨b, o, K, rfl, hGb, hKx, hKi, hle, hnb, hnl, hB, hL, hbl, hll, hcells⟩ := sts_at l ma HS.out j hlt'
    have hbc : b ≠ cb := fun e => hG (by rw [← e]; exact hGb)
    have hrg := sx_range (K := K) (b := b) (o := o + j * 9) (w := wr) (fun r u hu => hO.cell (a := ⟨b, o + j * 9 + r, none⟩) hbc (hcells r u hu))
    have hbw : b < wr.heap.size := only_lt hO (World.block_lt_of_cell? w ⟨b, o + j * 9 + 0, none⟩ (hcells 0 _ rfl))
    have hrow' := hrow.out
    rw [rowC_drop _ hlt'] at hrow'
    have hKr : K.is G wr := hKi.only hO (fun b hb e => hG (by rw [← e]; exact hb))
    have hBr := hB.only hO (fun b hb e => hG (by rw [← e]; exact hb))
    have hLr := hL.only hO (fun b hb e => hG (by rw [← e]; exact hb))
    unfold Sx.is at hKr
    rw [hKx] at hKr
    have hone : oneC d l[j] m = if m = 0 ∨ fitsB l[j] = false then none else (blkC d l[j].bd (m - 1)).bind (blkC d l[j].el) := rfl
    rw [hone] at hrow'
    clear hone hKx hle hcells hB hL hKi hrow
    generalize l[j].bd = bd at *
    generalize l[j].el = el at *
    generalize l[j] = s at *
    rw [← hnb] at hbl
    rw [← hnl] at hll
    obtain ⟨K0, K1, K2, K3, K4, K5, K6, K7, K8, K9, K10, K11, K12, K13, K14, K15, K16, K17⟩ := K
    simp only at *
    have HRW := Lib.hid hrow'
    have HKR := Lib.hid hKr
    have HBR := Lib.hid hBr
    have HLR := Lib.hid hLr
    have HNB := Lib.hid hnb
    have HNL := Lib.hid hnl
    clear hrow' hKr hBr hLr hnb hnl
    by_cases h0 : m = 0
    ·subst h0
     have hRn : R = none := by rw [← HRW.out, if_pos (.inl rfl)]; rfl
     subst hRn
     go_wp2_with (first | (with_reducible refine ld9o rfl _ rfl b (o + j * 9) rfl hrg ?_) | (with_reducible refine st9 rfl _ _ rfl (wr.heap.size) rfl rfl (rowG_at _ _ _ _ rfl) ?_; (intro wF hF hOF); (have hBF : Below wr.heap.size wr wF := (aB (Below.refl _ _) _).trans (hOF.below (B := wr.heap.size) (fun j hj => by omega) (by simp))); (have hcF := stay hBF hcr); (have hlF : cb < wF.heap.size := Nat.lt_of_lt_of_le hcbl hBF.size); skip))
     go_ret
     exact ck_none (hO.trans (only_below hBF))
    ·obtain ⟨M, rfl⟩ : ∃ M, m = M + 1 := ⟨m - 1, by omega⟩
     have hw : IntKind.i64.wrap (((M + 1 : Nat) : Int) - 1) = (M : Int) := by rw [IntKind.wrap_i64]; omega
     have hm0 : (((M + 1 : Nat) : Int) == 0) = false := by simp only [beq_eq_false_iff_ne]; omega
     have hR1 := HRW.out
     rw [Nat.add_sub_cancel] at hR1
     clear HRW h0
     obtain ⟨Mi, hMi⟩ : ∃ Mi : Int, Mi = ((M + 1 : Nat) : Int) := ⟨_, rfl⟩
     rw [← hMi] at hw hm0 hcr
     clear hMi
     cases hfb : fitsB s
     ·have hRn : R = none := by rw [← hR1, if_pos (.inr hfb)]; rfl
      subst hRn
      clear hR1
      go_wp2_with (first | (with_reducible refine ld9o rfl _ rfl b (o + j * 9) rfl hrg ?_) | (with_reducible refine st9 rfl _ _ rfl (wr.heap.size) rfl rfl (rowG_at _ _ _ _ rfl) ?_; (intro wF hF hOF); (have hBF : Below wr.heap.size wr wF := (aB (Below.refl _ _) _).trans (hOF.below (B := wr.heap.size) (fun j hj => by omega) (by simp))); (have hcF := stay hBF hcr); (have hlF : cb < wF.heap.size := Nat.lt_of_lt_of_le hcbl hBF.size); (obtain ⟨z0, z1, z2, z3, z4, z5, z6, z7, z8, zff, zll⟩ := nine hF); (have hFit := fit_any G _ s wF (HKR.out.of hBF) (hTr.of hBF)); (rw [hfb] at hFit)) | (go_at_call 87; ((with_reducible refine hFit.mono ?_); (rintro e w2 ⟨rfl, hb2⟩))))
      go_ret
      exact ck_none (hO.trans (only_below (tr hBF hb2)))
     ·rw [if_neg (by rw [hfb]; simp)] at hR1
      have HR1 := Lib.hid hR1
      clear hR1
      cases hb1 : blkC d bd M with
      | none =>
       have hRn : R = none := by rw [← HR1.out, hb1]; rfl
       subst hRn
       go_wp2_with (first | (with_reducible refine ld9o rfl _ rfl b (o + j * 9) rfl hrg ?_) | (with_reducible refine st9 rfl _ _ rfl (wr.heap.size) rfl rfl (rowG_at _ _ _ _ rfl) ?_; (intro wF hF hOF); (have hBF : Below wr.heap.size wr wF := (aB (Below.refl _ _) _).trans (hOF.below (B := wr.heap.size) (fun j hj => by omega) (by simp))); (have hcF := stay hBF hcr); (have hlF : cb < wF.heap.size := Nat.lt_of_lt_of_le hcbl hBF.size); (obtain ⟨z0, z1, z2, z3, z4, z5, z6, z7, z8, zff, zll⟩ := nine hF); (have hFit := fit_any G _ s wF (HKR.out.of hBF) (hTr.of hBF)); (rw [hfb] at hFit)) | (go_at_call 87; ((with_reducible refine hFit.mono ?_); (rintro e w2 ⟨rfl, hb2⟩); (have hB2 := tr hBF hb2); (have hc2 := stay hB2 hcr); (have hf2 : w2.frozen? ⟨cb, 0, none⟩ = false := ((bcell hB2).2 cb 0 hcbl).trans hfr); (have hl2 : cb < w2.heap.size := Nat.lt_of_lt_of_le hcbl hB2.size); (have hO2 : Only (fun j => j = cb) wr (w2.setCell ⟨cb, 0, none⟩ (.int .i64 (M : Int))) := (only_below hB2).setCell rfl); (have hFb := rowG_b hF hb2); (have hF2 : rowG _ (w2.setCell ⟨cb, 0, none⟩ (.int .i64 (M : Int))) wr.heap.size := rowG_other (.int .i64 (M : Int)) hFb (by omega)); (obtain ⟨y0, y1, y2, y3, y4, y5, y6, y7, y8, yff, yll⟩ := nine hF2); (have hI1 := HIH.out G bd K11 K13 (w2.setCell ⟨cb, 0, none⟩ (.int .i64 (M : Int))) cb M (by have := Hd.out; omega) (HBR.out.only hO2 (fun b hb e => hG (by rw [← e]; exact hb))) hG hGB (hTr.only hO2 (fun j hj e => hGB (by rw [← e]; exact hj))) (by rw [← HNB.out]; exact hbl) (cset_same hc2) (by rw [World.frozen?_setCell]; exact hf2) (by omega)); (rw [← HNB.out, hb1] at hI1); (clear z0 z1 z2 z3 z4 z5 z6 z7 z8 zff zll hFit))) | (go_at_call 59; ((with_reducible refine hI1.mono ?_); (rintro e w3 ⟨hO3, rfl⟩))))
       go_ret
       exact ck_none (hO.trans (hO2.trans hO3))
      | some m2 =>
       have hm2 : m2 ≤ 400 := by have := blk_le hb1; omega
       cases hbE : blkC d el m2 with
       | none =>
        have hRn : R = none := by rw [← HR1.out, hb1]; show (blkC d el m2).bind _ = none; rw [hbE]; rfl
        subst hRn
        go_wp2_with (first | (with_reducible refine ld9o rfl _ rfl b (o + j * 9) rfl hrg ?_) | (with_reducible refine st9 rfl _ _ rfl (wr.heap.size) rfl rfl (rowG_at _ _ _ _ rfl) ?_; (intro wF hF hOF); (have hBF : Below wr.heap.size wr wF := (aB (Below.refl _ _) _).trans (hOF.below (B := wr.heap.size) (fun j hj => by omega) (by simp))); (have hcF := stay hBF hcr); (have hlF : cb < wF.heap.size := Nat.lt_of_lt_of_le hcbl hBF.size); (obtain ⟨z0, z1, z2, z3, z4, z5, z6, z7, z8, zff, zll⟩ := nine hF); (have hFit := fit_any G _ s wF (HKR.out.of hBF) (hTr.of hBF)); (rw [hfb] at hFit)) | (go_at_call 87; ((with_reducible refine hFit.mono ?_); (rintro e w2 ⟨rfl, hb2⟩); (have hB2 := tr hBF hb2); (have hc2 := stay hB2 hcr); (have hf2 : w2.frozen? ⟨cb, 0, none⟩ = false := ((bcell hB2).2 cb 0 hcbl).trans hfr); (have hl2 : cb < w2.heap.size := Nat.lt_of_lt_of_le hcbl hB2.size); (have hO2 : Only (fun j => j = cb) wr (w2.setCell ⟨cb, 0, none⟩ (.int .i64 (M : Int))) := (only_below hB2).setCell rfl); (have hFb := rowG_b hF hb2); (have hF2 : rowG _ (w2.setCell ⟨cb, 0, none⟩ (.int .i64 (M : Int))) wr.heap.size := rowG_other (.int .i64 (M : Int)) hFb (by omega)); (obtain ⟨y0, y1, y2, y3, y4, y5, y6, y7, y8, yff, yll⟩ := nine hF2); (have hI1 := HIH.out G bd K11 K13 (w2.setCell ⟨cb, 0, none⟩ (.int .i64 (M : Int))) cb M (by have := Hd.out; omega) (HBR.out.only hO2 (fun b hb e => hG (by rw [← e]; exact hb))) hG hGB (hTr.only hO2 (fun j hj e => hGB (by rw [← e]; exact hj))) (by rw [← HNB.out]; exact hbl) (cset_same hc2) (by rw [World.frozen?_setCell]; exact hf2) (by omega)); (rw [← HNB.out, hb1] at hI1); (clear z0 z1 z2 z3 z4 z5 z6 z7 z8 zff zll hFit))) | (go_at_call 59; ((with_reducible refine hI1.mono ?_); (rintro e w3 ⟨hO3, rfl, hc3, hf3⟩); (have hO23 := hO2.trans hO3); (have hl3 : cb < w3.heap.size := Nat.lt_of_lt_of_le hcbl hO23.size); (have hF3 := rowG_only hF2 hO3 (by omega)); (obtain ⟨x0, x1, x2, x3, x4, x5, x6, x7, x8, xff, xll⟩ := nine hF3); (have hI2 := HIH.out G el K14 K16 w3 cb m2 (by have := Hd.out; omega) (HLR.out.only hO23 (fun b hb e => hG (by rw [← e]; exact hb))) hG hGB (hTr.only hO23 (fun j hj e => hGB (by rw [← e]; exact hj))) (by rw [← HNL.out]; exact hll) hc3 hf3 hm2); (rw [← HNL.out, hbE] at hI2); (clear y0 y1 y2 y3 y4 y5 y6 y7 y8 yff yll hI1))) | (go_at_call 59; ((with_reducible refine hI2.mono ?_); (rintro e w4 ⟨hO4, rfl⟩))))
        go_ret
        exact ck_none (hO.trans (hO23.trans hO4))
       | some m3 =>
        have hm3 : m3 ≤ 400 := by have := blk_le hbE; omega
        have HR2 : Hid (rowC (oneC d) (l.drop (j + 1)) m3 = R) := Lib.hid (by rw [← HR1.out, hb1]; show _ = ((blkC d el m2).bind _); rw [hbE]; rfl)
        go_wp2_with (first | (with_reducible refine ld9o rfl _ rfl b (o + j * 9) rfl hrg ?_) | (with_reducible refine st9 rfl _ _ rfl (wr.heap.size) rfl rfl (rowG_at _ _ _ _ rfl) ?_; (intro wF hF hOF); (have hBF : Below wr.heap.size wr wF := (aB (Below.refl _ _) _).trans (hOF.below (B := wr.heap.size) (fun j hj => by omega) (by simp))); (have hcF := stay hBF hcr); (have hlF : cb < wF.heap.size := Nat.lt_of_lt_of_le hcbl hBF.size); (obtain ⟨z0, z1, z2, z3, z4, z5, z6, z7, z8, zff, zll⟩ := nine hF); (have hFit := fit_any G _ s wF (HKR.out.of hBF) (hTr.of hBF)); (rw [hfb] at hFit)) | (go_at_call 87; ((with_reducible refine hFit.mono ?_); (rintro e w2 ⟨rfl, hb2⟩); (have hB2 := tr hBF hb2); (have hc2 := stay hB2 hcr); (have hf2 : w2.frozen? ⟨cb, 0, none⟩ = false := ((bcell hB2).2 cb 0 hcbl).trans hfr); (have hl2 : cb < w2.heap.size := Nat.lt_of_lt_of_le hcbl hB2.size); (have hO2 : Only (fun j => j = cb) wr (w2.setCell ⟨cb, 0, none⟩ (.int .i64 (M : Int))) := (only_below hB2).setCell rfl); (have hFb := rowG_b hF hb2); (have hF2 : rowG _ (w2.setCell ⟨cb, 0, none⟩ (.int .i64 (M : Int))) wr.heap.size := rowG_other (.int .i64 (M : Int)) hFb (by omega)); (obtain ⟨y0, y1, y2, y3, y4, y5, y6, y7, y8, yff, yll⟩ := nine hF2); (have hI1 := HIH.out G bd K11 K13 (w2.setCell ⟨cb, 0, none⟩ (.int .i64 (M : Int))) cb M (by have := Hd.out; omega) (HBR.out.only hO2 (fun b hb e => hG (by rw [← e]; exact hb))) hG hGB (hTr.only hO2 (fun j hj e => hGB (by rw [← e]; exact hj))) (by rw [← HNB.out]; exact hbl) (cset_same hc2) (by rw [World.frozen?_setCell]; exact hf2) (by omega)); (rw [← HNB.out, hb1] at hI1); (clear z0 z1 z2 z3 z4 z5 z6 z7 z8 zff zll hFit))) | (go_at_call 59; ((with_reducible refine hI1.mono ?_); (rintro e w3 ⟨hO3, rfl, hc3, hf3⟩); (have hO23 := hO2.trans hO3); (have hl3 : cb < w3.heap.size := Nat.lt_of_lt_of_le hcbl hO23.size); (have hF3 := rowG_only hF2 hO3 (by omega)); (obtain ⟨x0, x1, x2, x3, x4, x5, x6, x7, x8, xff, xll⟩ := nine hF3); (have hI2 := HIH.out G el K14 K16 w3 cb m2 (by have := Hd.out; omega) (HLR.out.only hO23 (fun b hb e => hG (by rw [← e]; exact hb))) hG hGB (hTr.only hO23 (fun j hj e => hGB (by rw [← e]; exact hj))) (by rw [← HNL.out]; exact hll) hc3 hf3 hm2); (rw [← HNL.out, hbE] at hI2); (clear y0 y1 y2 y3 y4 y5 y6 y7 y8 yff yll hI1))) | (go_at_call 59; ((with_reducible refine hI2.mono ?_); (rintro e w4 ⟨hO4, rfl, hc4, hf4⟩))))
        go_roundw
        case rel => first | exact ⟨j + 1, m3, by omega, by go_num, HR2, hc4, hf4, hm3, hO.trans (hO23.trans hO4)⟩ | ((repeat apply Exists.intro); exact ⟨⟨j + 1, m3, by omega, by go_num, HR2, hc4, hf4, hm3, hO.trans (hO23.trans hO4)⟩, rfl⟩)
        case measure => simp [intOf]; omega
   ·obtain rfl : j = N := by omega
    have hr := hrow.out
    rw [List.drop_of_length_le (by rw [HN.out]; exact Nat.le_refl _)] at hr
    have e : R = some m := hr.symm
    subst e
    have HX := Lib.hid hr
    clear hr hrow HR0
    go_wp2
    go_ret
    exact ck_some hO hcr hfr
end
section
open Go.ChangeShapes Go.WideShapes Go.ChangeAt Go.RowKit
mutual
def St.sz : St → Nat
 | .mk _ _ _ _ _ _ _ bd el => 1 + szL bd + szL el
def szL : List St → Nat
 | [] => 0
 | s :: r => s.sz + szL r
end
theorem sz_s (x : St) : x.sz = 1 + szL x.bd + szL x.el := by cases x; rw [St.sz]; rfl
theorem range_stay {w w' : World} {b o : Nat} {cs : List Value} (h : w.rangeAt b o cs) (hb : Below w.heap.size w w') : w'.rangeAt b o cs := fun j v hv => stay hb (h j v hv)
section
variable {op : Oper} {a : Act} {w : World} {K : Act → World → Prop} {Q : Exit → Act → World → Prop}
end
def SmIH (M : Nat) : Prop := ∀ (l : List St), szL l < M → ∀ (w : World) (G1 G2 : Nat → Prop) (m1 m2 : Option Addr) (c1 c2 : Nat), StsAt G1 w l m1 → StsAt G2 w l m2 → l.length ≤ 140737488355328 →
  Calls Tryz.prog 26 #[.slice m1 l.length c1, .slice m2 l.length c2] w fun r w' => r = .returned (.bool true) ∧ Below w.heap.size w w'
end
section
open Go.ChangeShapes Go.WideShapes Go.ChangeAt Go.RowKit
mutual
def St.lb : St → Prop
 | .mk _ _ _ _ _ ex ar bd el => ex.length ≤ 2199023255488 ∧ lbL ex ∧ ar.length ≤ 8796093021952 ∧ (bd.length ≤ 977343669105 ∧ lbS bd) ∧ (el.length ≤ 977343669105 ∧ lbS el)
def lbS : List St → Prop
 | [] => True
 | x :: r => x.lb ∧ lbS r
end
theorem lbS_iff : ∀ {l : List St}, lbS l ↔ ∀ x ∈ l, x.lb
 | [] => by rw [lbS]; simp
 | x :: r => by rw [lbS, lbS_iff (l := r)]; simp
def CpIH (M : Nat) : Prop := ∀ (l : List St), szL l < M → lbS l → l.length ≤ 977343669105 → ∀ (G : Nat → Prop) (ma : Option Addr) (cap : Nat) (w : World), StsAt G w l ma →
  Calls Tryz.prog 17 #[.slice ma l.length cap] w fun r w' => (∃ (mk : Option Addr) (ck : Nat), r = .returned (.slice mk l.length ck) ∧ StsAt (fun b => w.heap.size ≤ b ∧ b < w'.heap.size) w' l mk) ∧ Below w.heap.size w w'
end
end Go.Proofs.YtkibkaoffgnmkaaGreatDoor
