/- The methods block and function of taker; lines. -/
import Derived.Test.YtfbjljcmmbdhkaaGreatDoorT36
import Derived.Test.YtfbjljcmmbdhkaaGreatDoorT39
import Derived.Lib.ItoaNum
import Derived.Test.YtfbjljcmmbdhkaaGreatDoorT05
import Derived.Test.YtfbjljcmmbdhkaaGreatDoorT09
namespace Go.Proofs.YtfbjljcmmbdhkaaGreatDoor
set_option linter.unusedVariables false
set_option linter.unusedSimpArgs false
set_option maxRecDepth 100000
set_option maxHeartbeats 200000000
section
open Go Go.ChangeShapes Go.WideShapes Go.ChangeAt Go.RowKit m9
theorem stsL_take (dp : Nat) : ∀ (ls : List St) (j : Nat) (h : j < ls.length), stsL dp (ls.take (j + 1)) = stsL dp (ls.take j) ++ stL dp ls[j]
 | s :: r, 0, _ => by simp [stsL]
 | s :: r, j + 1, h => by
   have h' : j < r.length := by simpa using h
   rw [List.take_succ_cons, List.take_succ_cons, stsL, stsL, stsL_take dp r j h', List.append_assoc]
   rfl
theorem stsL_split (dp : Nat) (ls : List St) (j : Nat) (h : j < ls.length) : ∃ L, stsL dp ls = stsL dp (ls.take j) ++ (stL dp ls[j] ++ L) := by
 have h0 : ∀ (a b : List St), stsL dp (a ++ b) = stsL dp a ++ stsL dp b := by
  intro a b
  induction a with
  | nil => rfl
  | cons x a ih => rw [List.cons_append, stsL, stsL, ih, List.append_assoc]
 refine ⟨stsL dp (ls.drop (j + 1)), ?_⟩
 conv => lhs; rw [← List.take_append_drop (j + 1) ls, h0, stsL_take dp ls j h, List.append_assoc]
theorem block_in {l : Nat} {LL : List (Nat × List Tk)} {w0 W : World} {J : Nat → World → Prop} (hK : Tak l LL w0 W J) {m : Nat} (hst : ∀ (n : Nat) (K : Sx) (dp k : Nat) (A : World), K.is (fun b => b < w0.heap.size) w0 → (stL dp K.x).length ≤ m → K.x.fa → K.x.nd → LnAt LL k (stL dp K.x) → J k A → W.heap.size ≤ A.heap.size → dp + m ≤ 1000000 →
 CallsIn Fence.wide n Tryz.prog 120 #[.func (.yield l) #[] #[], .agg K.cells.toArray, .int .i64 (dp : Int)] A fun r A' => r = .returned (.bool true) ∧ J (k + (stL dp K.x).length) A' ∧ Kp 5 W.heap.size A A') : TkB l LL w0 W J m := by
 intro n ls ma nl cap dp k A hn hlen hf hd hS hnl hL hJ hA hdp
 have HN := Lib.hid hn
 have HS := Lib.hid hS
 have HF := Lib.hid (faS_iff.1 hf)
 have HD := Lib.hid (ndS_iff.1 hd)
 have HL := Lib.hid hL
 have HK := Lib.hid hK
 have HST := Lib.hid hst
 have HLEN := Lib.hid hlen
 have HDP := Lib.hid hdp
 clear hn hS hf hd hL hst hlen hdp hK
 refine callsIn_wide.2 ?_
 go_enter Tryz.func66, Tryz.ntmps66
 go_wp2
 go_loopw [11] (fun i wr => ∃ j : Nat, j ≤ nl ∧ i = .int .i64 j ∧ J (k + (stsL dp (ls.take j)).length) wr ∧ Kp 5 W.heap.size A wr) (fun i _ => nl - (intOf i).toNat)
 case atStart => exact ⟨0, by omega, rfl, by simpa [stsL] using hJ, Kp.refl _ _ _⟩
 case round =>
  obtain ⟨j, hj, rfl, hJr, hKr⟩ := hrel
  by_cases hlt : j < nl
  ·have hlt' : j < ls.length := by rw [HN.out]; exact hlt
   have hPr := HK.out.pre _ _ hJr
   obtain ⟨b, o, K, rfl, hbG, hKx, hKi, -, -, -, -, -, -, -, hcells⟩ := sts_at ls ma HS.out j hlt'
   have hrg := sx_range (K := K) (b := b) (o := o + j * 9) (w := wr) (fun r u hu => (hPr.cell (p := ⟨b, o + j * 9 + r, none⟩) hbG).trans (hcells r u hu))
   have hbw : b < wr.heap.size := Nat.lt_of_lt_of_le hbG hPr.size
   obtain ⟨L2, hsp⟩ := stsL_split dp ls j hlt'
   have hLx := HL.out
   rw [hsp] at hLx
   have hln := HLEN.out
   rw [hsp, List.length_append, List.length_append] at hln
   have hLj := (hLx.app.2).app.1
   have hnx := stsL_take dp ls j hlt'
   rw [← hKx] at hLj hln hnx
   have hAr : W.heap.size ≤ wr.heap.size := Nat.le_trans hA hKr.size
   have hcall := fun wF (hbF : Below wr.heap.size wr wF) => callsIn_wide.1 (HST.out n K dp _ wF hKi (by omega) (by rw [hKx]; exact HF.out _ (List.getElem_mem hlt')) (by rw [hKx]; exact HD.out _ (List.getElem_mem hlt')) hLj (HK.out.to hJr hbF) (Nat.le_trans hAr hbF.size) HDP.out)
   have HNX := Lib.hid hnx
   clear hLx hsp hln hLj hnx hKi hcells hKx hPr
   obtain ⟨K0, K1, K2, K3, K4, K5, K6, K7, K8, K9, K10, K11, K12, K13, K14, K15, K16, K17⟩ := K
   simp only [Sx.cells] at *
   obtain ⟨W1, hW1⟩ : ∃ W1, wr.alloc (.cells #[.int .u8 (K0 : Int), .string (str K1), .string (str K2), .bool K3, .bool K4, .slice K5 K6 K7, .slice K8 K9 K10, .slice K11 K12 K13, .slice K14 K15 K16] 52) = W1 := ⟨_, rfl⟩
   have hBF : Below wr.heap.size wr W1 := by rw [← hW1]; exact aB (Below.refl _ _) _
   have hF : rowG #[.int .u8 (K0 : Int), .string (str K1), .string (str K2), .bool K3, .bool K4, .slice K5 K6 K7, .slice K8 K9 K10, .slice K11 K12 K13, .slice K14 K15 K16] W1 wr.heap.size := by rw [← hW1]; exact rowG_at _ _ _ _ rfl
   have hc2 := hcall W1 hBF
   obtain ⟨z0, z1, z2, z3, z4, z5, z6, z7, z8⟩ := nineq hF
   have zl := hF.2.2
   clear hcall
   go_wp2_with (first | (with_reducible refine ld9o rfl _ rfl b (o + j * 9) rfl hrg ?_) | (go_at_call 120; (with_reducible refine hc2.mono ?_); (rintro e w5 ⟨rfl, hJ5, hK5⟩)))
   go_roundw
   case rel => exact ⟨j + 1, by omega, by go_num, by rw [HNX.out, List.length_append, ← Nat.add_assoc]; exact hJ5, hKr.trans ((kp_below hBF).trans hK5)⟩
   case measure => simp [intOf]; omega
  ·obtain rfl : j = nl := by omega
   go_wp2
   go_ret
   rw [List.take_of_length_le (by rw [HN.out]; exact Nat.le_refl _)] at hJr
   exact ⟨rfl, hJr, hKr⟩
theorem tblock_any {l : Nat} {LL : List (Nat × List Tk)} {w0 W : World} {J : Nat → World → Prop} (hK : Tak l LL w0 W J) : ∀ m, TkB l LL w0 W J m := by
 intro m
 induction m with
 | zero =>
  refine block_in hK (fun n K dp k A _ hlen => ?_)
  exfalso
  generalize K.x = x at hlen
  obtain ⟨kk, nm, fr, sec, mu, ex, ar, bd, el⟩ := x
  rw [stL, List.length_cons] at hlen
  omega
 | succ m ih => exact block_in hK (fun n K dp k A h1 h2 h3 h4 h5 h6 h7 h8 => stmt_in hK ih n K dp k A h1 h2 h3 h4 h5 h6 h7 h8)
end
section
open Go Go.ChangeShapes Go.WideShapes Go.ChangeAt Go.RowKit m9
attribute [local go_sem] Oper.semAt_some
theorem tlJ_eq (sec : Bool) (rt : List Xp) (h : rt.length ≤ 1) : tlJ sec rt rt.length = if rt.isEmpty = true then [] else sg [61] :: (secT sec ++ e0T rt) := by
 match rt, h with
 | [], _ => rfl
 | [e], _ => simp [tlJ, e0T]
theorem pm_len (x : Pm) : (pmT x).length ≤ 3 := by
 have := sec_len x.sec
 unfold pmT
 split
 ·simp; omega
 ·split
  ·simp; omega
  ·split <;> simp <;> omega
theorem func_in {l : Nat} {LL : List (Nat × List Tk)} {w0 W : World} {J : Nat → World → Prop} (hK : Tak l LL w0 W J) (n : Nat) (K : Fx) (k : Nat) (A : World)
 (hKi : K.is (fun b => b < w0.heap.size) w0) (hlen : (stsL 1 K.x.bd).length ≤ 900000) (hpb : psB K.x.ps = true) (hrb : rtB K.x.sec K.x.rt = true) (hf : faS K.x.bd) (hd : ndS K.x.bd) (hdr : ∀ x ∈ K.x.rt, x.nodes ≤ 9000) (hL : LnAt LL k (fdL K.x)) (hJ : J k A) (hA : W.heap.size ≤ A.heap.size) :
 CallsIn Fence.wide n Tryz.prog 39 #[.func (.yield l) #[] #[], .agg K.cells.toArray] A fun r A' => r = .returned (.bool true) ∧ J (k + (fdL K.x).length) A' ∧ Kp 5 W.heap.size A A' := by
 have hdd : ∀ k : Nat, (Fence.wide.depth.isSome = true → 1 ≤ k) := room_none
 have hPA := hK.pre k A hJ
 obtain ⟨A1, hA1⟩ : ∃ A1, A.alloc (.cells K.cells.toArray 43) = A1 := ⟨_, rfl⟩
 have hB1 : Below A.heap.size A A1 := by rw [← hA1]; exact aB (Below.refl _ _) _
 have hS1 : HasS K.cells.toArray 43 A.heap.size A1 := by rw [← hA1]; exact HasS.new _ _ _
 obtain ⟨ps, bd, rt, hx, enp, enb, enr, hp, hbd, hr, hP, hBd, hRt⟩ := fx_all hKi
 rw [hx] at hlen hpb hrb hf hd hdr hL ⊢
 simp only at hlen hpb hrb hf hd hdr
 clear hx hKi
 have hfl : fdL ⟨K.nm, ps, bd, K.sec, rt⟩ = (0, hdT ⟨K.nm, ps, bd, K.sec, rt⟩) :: (stsL 1 bd ++ [(0, tlT ⟨K.nm, ps, bd, K.sec, rt⟩)]) := rfl
 rw [hfl] at hL ⊢
 obtain ⟨hL0, hL1⟩ := hL.cons
 obtain ⟨hLb, hL2⟩ := hL1.app
 obtain ⟨hLz, -⟩ := hL2.cons
 have hps : ps.length ≤ 8 := by unfold psB at hpb; rw [Bool.and_eq_true] at hpb; exact of_decide_eq_true hpb.1
 have hrl : rt.length ≤ 1 ∧ ∀ x ∈ rt, mayB 40 x = true := by
  unfold rtB at hrb
  by_cases h0 : rt.length = 0
  ·have : rt = [] := List.length_eq_zero_iff.1 h0
   subst this
   exact ⟨by simp, fun x hx => by simp at hx⟩
  ·rw [if_neg h0, Bool.and_eq_true, List.all_eq_true] at hrb
   exact ⟨Nat.le_of_eq (of_decide_eq_true hrb.1), hrb.2⟩
 have hhd : hdT ⟨K.nm, ps, bd, K.sec, rt⟩ = wdT wFn :: nmT K.nm :: sg [40] :: (comT pmT ps ++ [sg [41], sg [123]]) := rfl
 have htl : tlT ⟨K.nm, ps, bd, K.sec, rt⟩ = sg [125] :: (tlJ K.sec rt rt.length ++ [sg [59]]) := by rw [tlJ_eq _ _ hrl.1]; rfl
 rw [hhd] at hL0
 rw [htl] at hLz
 have hcl := com_len pmT 3 ps (fun x _ => pm_len x)
 have hcl2 : (comT pmT ps).length ≤ 900000 := by have : ps.length * (3 + 1) ≤ 8 * 4 := Nat.mul_le_mul hps (Nat.le_refl _); omega
 have htl2 : (tlJ K.sec rt rt.length).length ≤ 900000 := by
  rw [tlJ_eq _ _ hrl.1]
  match rt, hrl, hdr with
  | [], _, _ => simp
  | [e], h, h2 =>
   have h3 := xp_len (h.2 e (by simp)) (h2 e (by simp))
   have h4 := sec_len K.sec
   simp [e0T]
   omega
 have hP1 : Below w0.heap.size w0 A1 := hPA.trans (hB1.mono hPA.size)
 have hon := fun X (hb : Below w0.heap.size w0 X) => (only_below (S := fun j => w0.heap.size ≤ j) (hb : Below w0.heap.size w0 X) : Only (fun j => w0.heap.size ≤ j) w0 X)
 have hhead := head_any K.nm ps K.mp K.mb K.mr K.np K.cp K.nb K.cb K.nr K.cr K.sec A1.heap.size A1 ((hP.mv (G' := fun b => b < A1.heap.size) (fun b hb => Nat.lt_of_lt_of_le hb hP1.size) (fun b o v hg hc => (hP1.cell (p := ⟨b, o, none⟩) hg).trans hc))) enp.symm (by omega) (wr_self (hK.tb.of hP1)) hcl2
 have htail := fun X (hb : Below w0.heap.size w0 X) => tail_any K.nm rt K.mp K.mb K.mr K.np K.cp K.nb K.cb K.nr K.cr K.sec X.heap.size X ((hRt.mv (G' := fun b => b < X.heap.size) (fun b hb' => Nat.lt_of_lt_of_le hb' hb.size) (fun b o v hg hc => (hb.cell (p := ⟨b, o, none⟩) hg).trans hc))) enr.symm (by omega) hrl.2 (fun x hx => Nat.le_trans (hdr x hx) (by omega)) (wr_self (hK.tb.of hb)) htl2
 have hbk := fun A3 (h1 : J (k + 1) A3) (h2 : W.heap.size ≤ A3.heap.size) => tblock_any hK 900000 (n - 1) bd K.mb K.nb K.cb 1 (k + 1) A3 enb.symm hlen hf hd hBd hbd hLb h1 h2 (by omega)
 rw [show ((1 : Nat) : Int) = 1 from rfl] at hbk
 clear enp enb enr hp hbd hr hon hcl hcl2 htl2 hrl hps hdr hrb hpb hf hd hP hRt hBd hL hL1 hL2 hLb hfl hhd htl hPA
 obtain ⟨K0, K1, K2, K3, K4, K5, K6, K7, K8, K9, K10, K11⟩ := K
 simp only [Fx.cells] at *
 have hrow : ∀ X, HasS #[.string (str K0), .slice K1 K2 K3, .slice K4 K5 K6, .bool K7, .slice K8 K9 K10] 43 A.heap.size X → X.cell? ⟨A.heap.size, 0, none⟩ = some (.string (str K0)) ∧ X.cell? ⟨A.heap.size, 1, none⟩ = some (.slice K1 K2 K3) ∧ X.cell? ⟨A.heap.size, 2, none⟩ = some (.slice K4 K5 K6) ∧ X.cell? ⟨A.heap.size, 3, none⟩ = some (.bool K7) ∧ X.cell? ⟨A.heap.size, 4, none⟩ = some (.slice K8 K9 K10) ∧ A.heap.size < X.heap.size := fun X h => ⟨h.cell 0, h.cell 1, h.cell 2, h.cell 3, h.cell 4, h.lt⟩
 obtain ⟨t0, t1, t2, t3, t4, tl⟩ := hrow A1 hS1
 refine callsIn_of_wp Tryz.func39 rfl trivial ?_
 simp only [Tryz.ntmps39, List.size_toArray, List.length_cons, List.length_nil, Nat.reduceAdd, Nat.reduceSub, Array.replicate_succ, Array.replicate_zero, List.push_toArray, List.append_toArray, List.nil_append, List.cons_append]
 gi_wp2_with (first | (refine ⟨trivial, hdd _, ?_⟩; gi_at_call 65; (with_reducible refine (callsIn_wide.2 hhead).mono ?_); clear hhead t0 t1 t2 t3 t4; rintro e A2 ⟨l2, rfl, hT2⟩; have hB2 : Below A1.heap.size A1 A2 := hT2.only.below (fun j hj => (nil_own j hj).elim) (Nat.le_refl _); have hB02 := hB1.trans (hB2.mono hB1.size); have hO2 := own_base (Nat.zero_le _) hT2.own; (obtain ⟨fn, tmps, assign, body, hy, hR⟩ := hK.y (n - 1) k 0 _ l2 A2 (hK.to hJ hB02) hL0 hO2 (Nat.le_trans hA hB02.size)); (rw [show ((0 : Nat) : Int) = 0 from rfl] at hy); have hS2 := hS1.below hB2) | (refine ⟨hdd _, ?_⟩; refine (round_any hR).mono ?_; clear hR hy; rintro e A3 ⟨rfl, hJ3, hK3⟩; have hA3 := Nat.le_trans (Nat.le_trans hA hB02.size) hK3.size; have hS3 := hS2.kp hK3 hA (by decide); (obtain ⟨-, -, c2, -, -, cl3⟩ := hrow A3 hS3); have hb3 := hbk A3 hJ3 hA3; clear hbk) | (refine ⟨trivial, hdd _, ?_⟩; gi_at_call 66; (with_reducible refine hb3.mono ?_); clear hb3 c2; rintro e A4 ⟨rfl, hJ4, hK4⟩; have hA4 := Nat.le_trans hA3 hK4.size; have hS4 := hS3.kp hK4 hA (by decide); (obtain ⟨d0, d1, d2, d3, d4, dl⟩ := hrow A4 hS4); have ht4 := htail A4 (hK.pre _ _ hJ4); clear htail) | (refine ⟨trivial, hdd _, ?_⟩; gi_at_call 67; (with_reducible refine (callsIn_wide.2 ht4).mono ?_); clear ht4 d0 d1 d2 d3 d4; rintro e A5 ⟨l5, rfl, hT5⟩; have hB5 : Below A4.heap.size A4 A5 := hT5.only.below (fun j hj => (nil_own j hj).elim) (Nat.le_refl _); have hO5 := own_base (Nat.zero_le _) hT5.own; (obtain ⟨fn2, tmps2, assign2, body2, hy2, hR2⟩ := hK.y (n - 1) _ 0 _ l5 A5 (hK.to hJ4 hB5) hLz hO5 (Nat.le_trans hA4 hB5.size)); (rw [show ((0 : Nat) : Int) = 0 from rfl] at hy2)) | (refine ⟨hdd _, ?_⟩; refine (round_any hR2).mono ?_; clear hR2 hy2; rintro e A8 ⟨rfl, hJ8, hK8⟩))
 go_ret
 refine ⟨rfl, ?_, (kp_below hB02).trans (hK3.trans (hK4.trans ((kp_below hB5).trans hK8)))⟩
 have he : k + 1 + (stsL 1 bd).length + 1 = k + ((stsL 1 bd).length + 1 + 1) := by omega
 rw [he] at hJ8
 first | exact hJ8 | simpa using hJ8
end
section
open Go Go.ChangeShapes Go.WideShapes Go.ChangeAt Go.RowKit m9
def Fd.sh (f : Fd) : Prop := psB f.ps = true ∧ rtB f.sec f.rt = true ∧ faS f.bd ∧ ndS f.bd ∧ (∀ x ∈ f.rt, x.nodes ≤ 9000) ∧ (stsL 1 f.bd).length ≤ 900000
def RelL (LL : List (Nat × List Tk)) (k : Nat) (x : Int × Value) (A : World) : Prop := ∃ d T, LL[k]? = some (d, T) ∧ x.1 = ((d : Nat) : Int) ∧ A.ownsRow 0 95 4 x.2 (zs T).length (cellsZ (zs T))
theorem own_ck {A A' : World} {B n : Nat} {e : TypeId} {size : Nat} {v : Value} {xs : List Value} (h : A.ownsRow B e size v n xs) (hc : Ck A A') : A'.ownsRow B e size v n xs := by
 refine ⟨h.1, ?_⟩
 rcases h.2 with h0 | ⟨g, cap, cur, hv, hg, hh, hr⟩
 ·exact Or.inl h0
 ·exact Or.inr ⟨g, cap, cur, hv, hg, hc _ _ _ _ hh, hr⟩
theorem relL_ck {LL : List (Nat × List Tk)} {k : Nat} {x : Int × Value} {A A' : World} (h : RelL LL k x A) (hc : Ck A A') : RelL LL k x A' := by
 obtain ⟨d, T, h1, h2, h3⟩ := h
 exact ⟨d, T, h1, h2, own_ck h3 hc⟩
theorem pgL_take (l : List Fd) (j : Nat) (h : j < l.length) : pgL (l.take (j + 1)) = pgL (l.take j) ++ fdL l[j] := by
 unfold pgL
 rw [List.take_succ_eq_append_getElem h, List.flatMap_append]
 simp
theorem pgL_split (l : List Fd) (j : Nat) (h : j < l.length) : ∃ L, pgL l = pgL (l.take j) ++ (fdL l[j] ++ L) := by
 refine ⟨pgL (l.drop (j + 1)), ?_⟩
 rw [← List.append_assoc, ← pgL_take l j h]
 unfold pgL
 rw [← List.flatMap_append, List.take_append_drop]
theorem fx_range {K : Fx} {w : World} {b o : Nat} (h : ∀ r u, K.cells[r]? = some u → w.cell? ⟨b, o + r, none⟩ = some u) : w.cell? ⟨b, o, none⟩ = some (.string (str K.nm)) ∧ w.cell? ⟨b, o + 1, none⟩ = some (.slice K.mp K.np K.cp) ∧ w.cell? ⟨b, o + 2, none⟩ = some (.slice K.mb K.nb K.cb) ∧ w.cell? ⟨b, o + 3, none⟩ = some (.bool K.sec) ∧ w.cell? ⟨b, o + 4, none⟩ = some (.slice K.mr K.nr K.cr) :=
 ⟨h 0 _ rfl, h 1 _ rfl, h 2 _ rfl, h 3 _ rfl, h 4 _ rfl⟩
theorem lines_seq (l : List Fd) (ma : Option Addr) (nl cap c : Nat) (w0 : World) (hTb : Tb w0) (hSw : SwOk w0) (hF : FdsAt (fun b => b < w0.heap.size) w0 l ma) (hn : l.length = nl) (hln : nl ≤ 140737488355328) (hok : ∀ f ∈ l, f.sh) (n : Nat) :
 SeqR 5 n Tryz.prog 38 #[.pointer (some ⟨c, 0, none⟩)] (fun x : Int × Value => #[.int .i64 x.1, x.2]) (RelL (pgL l)) (pgL l).length (fun A => Below w0.heap.size w0 A ∧ A.cell? ⟨c, 0, none⟩ = some (.slice ma nl cap)) := by
 intro lq J W ⟨hP, hc⟩ hJP hJK hY h0
 have hK : Tak lq (pgL l) w0 W J := ⟨fun k A h => (hJP k A h).1, hJK, fun m k d T v A hJ hLL ho hA => yield_any m (hY k (((d : Nat) : Int), v) A hJ ⟨d, T, hLL, rfl, ho⟩ (List.getElem?_eq_some_iff.1 hLL).1 hA), hTb, hSw, hP.size⟩
 have HK := Lib.hid hK
 have HN := Lib.hid hn
 have HF := Lib.hid hF
 have HOK := Lib.hid hok
 have hcl : c < W.heap.size := World.block_lt_of_cell? W _ hc
 clear hK hn hF hok hJP hJK hY
 refine callsIn_wide.2 ?_
 show Calls _ _ #[.func (.yield lq) #[] #[], .pointer (some ⟨c, 0, none⟩)] _ _
 go_enter Tryz.func38, Tryz.ntmps38
 go_wp2
 go_loopw [8] (fun i wr => ∃ j : Nat, j ≤ nl ∧ i = .int .i64 j ∧ J (pgL (l.take j)).length wr ∧ W.heap.size ≤ wr.heap.size) (fun i _ => nl - (intOf i).toNat)
 case atStart => exact ⟨0, by omega, rfl, by simpa [pgL] using h0, Nat.le_refl _⟩
 case round =>
  obtain ⟨j, hj, rfl, hJr, hWr⟩ := hrel
  by_cases hlt : j < nl
  ·have hlt' : j < l.length := by rw [HN.out]; exact hlt
   have hPr := HK.out.pre _ _ hJr
   obtain ⟨b, o, K, rfl, hbG, hKx, hKi, hcells⟩ := HF.out j hlt'
   obtain ⟨g0, g1, g2, g3, g4⟩ := fx_range (K := K) (b := b) (o := o + j * 5) (w := wr) (fun r u hu => (hPr.cell (p := ⟨b, o + j * 5 + r, none⟩) hbG).trans (hcells r u hu))
   have hbw : b < wr.heap.size := Nat.lt_of_lt_of_le hbG hPr.size
   obtain ⟨L2, hsp⟩ := pgL_split l j hlt'
   have hLx : LnAt (pgL l) 0 (pgL l) := fun i x hx => by rw [Nat.zero_add]; exact hx
   conv at hLx => arg 3; rw [hsp]
   have hLj := (hLx.app.2).app.1
   have hnx := pgL_take l j hlt'
   obtain ⟨k1, k2, k3, k4, k5, k6⟩ := HOK.out _ (List.getElem_mem hlt')
   rw [← hKx] at hLj hnx k1 k2 k3 k4 k5 k6
   rw [Nat.zero_add] at hLj
   have hcall := fun wF (hbF : Below wr.heap.size wr wF) => callsIn_wide.1 (func_in HK.out n K _ wF hKi k6 k1 k2 k3 k4 k5 hLj (HK.out.to hJr hbF) (Nat.le_trans hWr hbF.size))
   have HNX := Lib.hid hnx
   clear hLx hsp hLj hnx hKi hcells hKx hPr k1 k2 k3 k4 k5 k6
   obtain ⟨K0, K1, K2, K3, K4, K5, K6, K7, K8, K9, K10, K11⟩ := K
   simp only [Fx.cells] at *
   obtain ⟨W1, hW1⟩ : ∃ W1, wr.alloc (.cells #[.string (str K0), .slice K1 K2 K3, .slice K4 K5 K6, .bool K7, .slice K8 K9 K10] 43) = W1 := ⟨_, rfl⟩
   have hBF : Below wr.heap.size wr W1 := by rw [← hW1]; exact aB (Below.refl _ _) _
   have hF1 : rowG #[.string (str K0), .slice K1 K2 K3, .slice K4 K5 K6, .bool K7, .slice K8 K9 K10] W1 wr.heap.size := by rw [← hW1]; exact rowG_at _ _ _ _ rfl
   have hc2 := hcall W1 hBF
   obtain ⟨z0, z1, z2, z3, z4, zf, zl⟩ := fiveF hF1
   clear hcall
   go_wp2_with (go_at_call 39; (with_reducible refine hc2.mono ?_); (rintro e w5 ⟨rfl, hJ5, hK5⟩))
   go_roundw
   case rel => exact ⟨j + 1, by omega, by go_num, by rw [HNX.out, List.length_append]; exact hJ5, Nat.le_trans hWr (Nat.le_trans hBF.size hK5.size)⟩
   case measure => simp [intOf]; omega
  ·obtain rfl : j = nl := by omega
   go_wp2
   go_end0
   rw [List.take_of_length_le (by rw [HN.out]; exact Nat.le_refl _)] at hJr
   exact ⟨⟨_, rfl⟩, hJr⟩
theorem lines_any (m : Option Addr) (n cap : Nat) (w : World) : Calls Tryz.prog 19 #[.agg #[.slice m n cap]] w fun e w' => e = .returned (.func (.func 38) #[] #[.pointer (some ⟨w.heap.size, 0, none⟩)]) ∧ w' = w.alloc (.cells #[.slice m n cap] 24) := by
 go_enter Tryz.func19, Tryz.ntmps19
 go_wp2
 go_ret
 exact ⟨rfl, rfl⟩
end
section
theorem e0_len {ex : List Xp} (hex : ∀ e ∈ ex, mayB 40 e = true) (hd : ∀ x ∈ ex, x.nodes ≤ 9000) (h : 1 ≤ ex.length) : (e0T ex).length ≤ 45000 := by
 unfold e0T
 match ex, hex, hd, h with
 | a :: r, hex, hd, _ => exact xp_len (hex a (by simp)) (hd a (by simp))
theorem e1_len {ex : List Xp} (hex : ∀ e ∈ ex, mayB 40 e = true) (hd : ∀ x ∈ ex, x.nodes ≤ 9000) (h : 2 ≤ ex.length) : (e1T ex).length ≤ 45000 := by
 unfold e1T
 match ex, hex, hd, h with
 | a :: c :: r, hex, hd, _ => exact xp_len (hex c (by simp)) (hd c (by simp))
theorem stH_len {k : Nat} {nm fr : List UInt8} {sec mu : Bool} {ex : List Xp} {ar : List (List UInt8)} {bd el : List St} (hf : fitsB (.mk k nm fr sec mu ex ar bd el) = true) (hd : ∀ x ∈ ex, x.nodes ≤ 9000) : (stH k nm fr sec mu ex ar).length ≤ 400000 := by
 obtain ⟨⟨hk0, hk⟩, hM, har, hex⟩ := fits_parts hf
 have hs := sec_len sec
 have hkk : k = 1 ∨ k = 2 ∨ k = 3 ∨ k = 4 ∨ k = 5 ∨ k = 6 ∨ k = 7 ∨ k = 8 ∨ k = 9 ∨ k = 10 ∨ k = 11 ∨ k = 12 := by omega
 have h0 := e0_len hex hd
 have h1 := e1_len hex hd
 rcases hkk with rfl | rfl | rfl | rfl | rfl | rfl | rfl | rfl | rfl | rfl | rfl | rfl
 ·obtain ⟨-, -, -, -, h5, h6, -, -, -⟩ := met_parts (show metB (2, 0, true, false, 1, 1, 0, false, false) nm fr sec mu _ _ _ _ = true from hM)
  have h0 := h0 (by omega)
  simp [stH] <;> omega
 ·obtain ⟨-, -, -, -, h5, h6, -, -, -⟩ := met_parts (show metB (2, 0, false, false, 1, 1, 0, false, false) nm fr sec mu _ _ _ _ = true from hM)
  have h0 := h0 (by omega)
  simp [stH] <;> omega
 ·obtain ⟨-, -, -, -, h5, h6, -, -, -⟩ := met_parts (show metB (2, 0, true, false, 1, 1, 0, false, false) nm fr sec mu _ _ _ _ = true from hM)
  have h0 := h0 (by omega)
  simp [stH] <;> omega
 ·obtain ⟨-, -, -, -, h5, h6, -, -, -⟩ := met_parts (show metB (2, 0, false, false, 2, 2, 0, false, false) nm fr sec mu _ _ _ _ = true from hM)
  have h0 := h0 (by omega)
  have h1 := h1 (by omega)
  simp [stH] <;> omega
 ·obtain ⟨-, -, -, -, h5, h6, -, -, -⟩ := met_parts (show metB (0, 0, false, false, 1, 1, 0, true, true) nm fr sec mu _ _ _ _ = true from hM)
  have h0 := h0 (by omega)
  simp [stH] <;> omega
 ·obtain ⟨-, -, -, -, h5, h6, -, -, -⟩ := met_parts (show metB (0, 0, false, false, 1, 1, 0, true, false) nm fr sec mu _ _ _ _ = true from hM)
  have h0 := h0 (by omega)
  simp [stH] <;> omega
 ·obtain ⟨-, -, -, -, h5, h6, -, -, -⟩ := met_parts (show metB (2, 0, false, false, 1, 1, 0, true, false) nm fr sec mu _ _ _ _ = true from hM)
  have h0 := h0 (by omega)
  simp [stH] <;> omega
 ·obtain ⟨-, -, -, -, h5, h6, -, -, -⟩ := met_parts (show metB (2, 2, false, true, 2, 2, 0, true, false) nm fr sec mu _ _ _ _ = true from hM)
  have h0 := h0 (by omega)
  have h1 := h1 (by omega)
  simp [stH] <;> omega
 ·obtain ⟨-, -, -, -, h5, h6, -, -, -⟩ := met_parts (show metB (2, 2, false, false, 0, 0, 0, false, false) nm fr sec mu _ _ _ _ = true from hM)
  simp [stH] <;> omega
 ·obtain ⟨-, -, -, -, h5, h6, -, -, -⟩ := met_parts (show metB (2, 0, false, false, 1, 1, 0, false, false) nm fr sec mu _ _ _ _ = true from hM)
  have h0 := h0 (by omega)
  simp [stH] <;> omega
 ·obtain ⟨h1, h2, h3, h4, h5, h6, h7, h8, h9⟩ := met_parts (show metB (1, 2, false, false, 0, 8, 8, false, false) nm fr sec mu _ _ _ _ = true from hM)
  have hlx : ex.length ≤ 8 := by omega
  have hla : ar.length ≤ 8 := by omega
  have hc1 := com_len xpT 45000 ex (fun y hy => xp_len (hex y hy) (hd y hy))
  have hc2 := com_len (fun s => [nmT s]) 1 ar (fun y hy => by simp)
  have e1 : ex.length * (45000 + 1) ≤ 8 * 45001 := Nat.mul_le_mul hlx (Nat.le_refl _)
  have e2 : ar.length * (1 + 1) ≤ 8 * 2 := Nat.mul_le_mul hla (Nat.le_refl _)
  have e3 : (if nm = [] then ([] : List Tk) else [nmT nm, sg [61]]).length ≤ 2 := by split <;> simp
  rw [show stH 11 nm fr sec mu ex ar = wdT wCall :: ((if nm = [] then [] else [nmT nm, sg [61]]) ++ nmT fr :: sg [40] :: (comT xpT ex ++ sg [59] :: (comT (fun s => [nmT s]) ar ++ [sg [41], sg [59]]))) from rfl]
  simp only [List.length_cons, List.length_append, List.length_nil]
  omega
 ·obtain ⟨-, -, -, -, h5, h6, -, -, -⟩ := met_parts (show metB (0, 0, false, false, 0, 0, 0, false, false) nm fr sec mu _ _ _ _ = true from hM)
  simp [stH] <;> omega
def LnB (d : Nat) (L : List (Nat × List Tk)) : Prop := ∀ x ∈ L, x.1 ≤ d ∧ x.2.length ≤ 400000
theorem LnB.app {d : Nat} {a b : List (Nat × List Tk)} (h : LnB d a) (k : LnB d b) : LnB d (a ++ b) := fun x hx => (List.mem_append.1 hx).elim (h x) (k x)
theorem LnB.cons {d : Nat} {y : Nat × List Tk} {b : List (Nat × List Tk)} (h : y.1 ≤ d) (h2 : y.2.length ≤ 400000) (k : LnB d b) : LnB d (y :: b) := fun x hx => by
 rcases List.mem_cons.1 hx with rfl | hx
 ·exact ⟨h, h2⟩
 ·exact k x hx
theorem LnB.nil {d : Nat} : LnB d [] := fun x hx => by simp at hx
theorem blk_lines : ∀ (d : Nat) (ls : List St) (n m dp : Nat), blkC d ls n = some m → ndS ls → LnB (dp + d) (stsL dp ls) ∧ (stsL dp ls).length + 3 * m ≤ 3 * n := by
 intro d
 induction d with
 | zero =>
  intro ls n m dp h hd
  cases ls with
  | nil => simp only [blkC, Option.some.injEq] at h; subst h; exact ⟨by rw [stsL]; exact LnB.nil, by simp [stsL]⟩
  | cons s r => simp [blkC] at h
 | succ d ih =>
  intro ls
  induction ls with
  | nil => intro n m dp h hd; simp only [blkC_succ, rowC, Option.some.injEq] at h; subst h; exact ⟨by rw [stsL]; exact LnB.nil, by simp [stsL]⟩
  | cons s r ihr =>
   intro n m dp h hd
   rw [blkC_succ, rowC] at h
   obtain ⟨y, h1, h2⟩ := bind_parts h
   rw [← blkC_succ] at h2
   rw [ndS] at hd
   obtain ⟨h3, h4⟩ := ihr y m dp h2 hd.2
   obtain ⟨k, nm, fr, sec, mu, ex, ar, bd, el⟩ := s
   unfold oneC at h1
   by_cases c : n = 0 ∨ fitsB (.mk k nm fr sec mu ex ar bd el) = false
   ·rw [if_pos c] at h1; cases h1
   rw [if_neg c] at h1
   simp only [not_or, Bool.not_eq_false] at c
   obtain ⟨z, h5, h6⟩ := bind_parts h1
   simp only [St.bd, St.el] at h5 h6
   have hds := hd.1
   rw [St.nd] at hds
   obtain ⟨a1, a2⟩ := ih bd _ _ (dp + 1) h5 hds.2.1
   obtain ⟨b1, b2⟩ := ih el _ _ (dp + 1) h6 hds.2.2
   have hst := stH_len c.2 hds.1
   have e1 : dp + 1 + d = dp + (d + 1) := by omega
   rw [e1] at a1 b1
   have hlt := c.1
   rw [stsL, stL]
   by_cases c5 : 5 ≤ k ∧ k ≤ 8
   ·rw [if_pos c5]
    by_cases c6 : el.isEmpty = true
    ·rw [if_pos c6]
     refine ⟨LnB.app (LnB.cons (by simp <;> omega) hst (LnB.app a1 (LnB.app LnB.nil (LnB.cons (by simp <;> omega) (by simp) LnB.nil)))) h3, ?_⟩
     simp only [List.length_append, List.length_cons, List.length_nil]
     omega
    ·rw [if_neg c6]
     refine ⟨LnB.app (LnB.cons (by simp <;> omega) hst (LnB.app a1 (LnB.app (LnB.cons (by simp <;> omega) (by simp) b1) (LnB.cons (by simp <;> omega) (by simp) LnB.nil)))) h3, ?_⟩
     simp only [List.length_append, List.length_cons, List.length_nil]
     omega
   ·rw [if_neg c5]
    refine ⟨LnB.app (LnB.cons (by simp <;> omega) hst LnB.nil) h3, ?_⟩
    simp only [List.length_append, List.length_cons, List.length_nil]
    omega
def Fd.nd (f : Fd) : Prop := ndS f.bd ∧ ∀ x ∈ f.rt, x.nodes ≤ 9000
theorem fd_parts {f : Fd} {a b : Nat} (h : fdC f a = some b) (hd : f.nd) (ha : a ≤ 400) : f.sh ∧ b ≤ a ∧ LnB 41 (fdL f) ∧ (fdL f).length + 3 * b ≤ 3 * a + 2 := by
 obtain ⟨nm, ps, bd, sec, rt⟩ := f
 change (if (nmdB nm && psB ps && rtB sec rt) = true then blkC 40 bd a else none) = some b at h
 have c : (nmdB nm && psB ps && rtB sec rt) = true := Classical.byContradiction (fun c => by rw [if_neg c] at h; cases h)
 rw [if_pos c] at h
 simp only [Bool.and_eq_true] at c
 obtain ⟨⟨c1, c2⟩, c3⟩ := c
 obtain ⟨h1, h2⟩ := blk_lines 40 bd a b 1 h hd.1
 have hps : ps.length ≤ 8 := by unfold psB at c2; rw [Bool.and_eq_true] at c2; exact of_decide_eq_true c2.1
 have hcl := com_len pmT 3 ps (fun x _ => pm_len x)
 have hcl2 : ps.length * (3 + 1) ≤ 8 * 4 := Nat.mul_le_mul hps (Nat.le_refl _)
 have hle : b ≤ a := by omega
 have htl : (tlT ⟨nm, ps, bd, sec, rt⟩).length ≤ 400000 := by
  have hs := sec_len sec
  have h0 : rt.isEmpty = false → (e0T rt).length ≤ 45000 := by
   intro hne
   unfold rtB at c3
   cases rt with
   | nil => cases hne
   | cons e r =>
    rw [if_neg (by simp)] at c3
    simp only [Bool.and_eq_true, decide_eq_true_eq, List.all_eq_true, List.length_cons] at c3
    exact e0_len c3.2 hd.2 (by simp)
  unfold tlT
  simp only [List.length_cons, List.length_append]
  split
  ·simp
  ·rename_i hne
   have h0 := h0 (by simpa using hne)
   simp
   omega
 refine ⟨⟨c2, c3, blkC_fa _ _ _ _ h, hd.1, hd.2, by show (stsL 1 bd).length ≤ 900000; omega⟩, hle, ?_, ?_⟩
 ·refine LnB.cons (by simp) ?_ (LnB.app h1 (LnB.cons (by simp) htl LnB.nil))
  simp [hdT]
  omega
 ·simp [fdL]
  omega
theorem pg_lines : ∀ (l : List Fd) (a b : Nat), pgC l a = some b → a ≤ 400 → (∀ f ∈ l, f.nd) → (∀ f ∈ l, f.sh) ∧ LnB 41 (pgL l) ∧ (pgL l).length + 3 * b ≤ 3 * a + 2 * l.length
 | [], a, b, h, _, _ => by
   simp only [pgC, Option.some.injEq] at h
   subst h
   exact ⟨fun f hf => by simp at hf, LnB.nil, by simp [pgL]⟩
 | f :: r, a, b, h, ha, hd => by
   rw [pgC] at h
   obtain ⟨y, h1, h2⟩ := bind_parts h
   obtain ⟨p1, p2, p3, p4⟩ := fd_parts h1 (hd f (by simp)) ha
   obtain ⟨q1, q2, q3⟩ := pg_lines r y b h2 (by omega) (fun g hg => hd g (List.mem_cons_of_mem _ hg))
   refine ⟨fun g hg => (List.mem_cons.1 hg).elim (fun e => e ▸ p1) (q1 g), LnB.app p3 q2, ?_⟩
   rw [show pgL (f :: r) = fdL f ++ pgL r from rfl, List.length_append, List.length_cons]
   omega
theorem lns_len : ∀ (L : List (Nat × List Tk)), (∀ x ∈ L, x.1 ≤ 41 ∧ x.2.length ≤ 400000 ∧ Toks x.2) → (lnsT L).length ≤ 9000000 * L.length
 | [], _ => by simp [lnsT]
 | x :: r, h => by
   have h1 := h x (by simp)
   have h2 := lns_len r (fun y hy => h y (List.mem_cons_of_mem _ hy))
   have h3 := joinT_len h1.2.2
   rw [show lnsT (x :: r) = lnT x.1 x.2 ++ lnsT r from rfl, List.length_append, List.length_cons]
   have e : (lnT x.1 x.2).length = 2 * x.1 + ((joinT x.2).length + 1) := by simp [lnT]
   omega
theorem pg_all (l : List Fd) (h : pgB l = true) (hd : ∀ f ∈ l, f.nd) (hb : ∀ f ∈ l, f.nb) : (∀ f ∈ l, f.sh) ∧ (∀ x ∈ pgL l, x.1 ≤ 41 ∧ x.2.length ≤ 400000 ∧ Toks x.2) ∧ (pgL l).length ≤ 1300 := by
 unfold pgB at h
 rw [Bool.and_eq_true] at h
 have h16 := of_decide_eq_true h.1
 obtain ⟨b, hb'⟩ := Option.isSome_iff_exists.1 h.2
 obtain ⟨q1, q2, q3⟩ := pg_lines l 400 b hb' (Nat.le_refl _) hd
 have q4 := pgL_toks l 400 b hb' hb
 exact ⟨q1, fun x hx => ⟨(q2 x hx).1, (q2 x hx).2, q4 x hx⟩, by omega⟩
end
section
open Go Go.ChangeShapes Go.WideShapes Go.ChangeAt Go.RowKit m9
attribute [local go_sem] Oper.semAt_some
theorem ki_below0 {B : Nat} {w A A' : World} (hk : Ki 5 B A A') (hB : w.heap.size ≤ B) (h : Below w.heap.size w A) : Below w.heap.size w A' :=
 ⟨hk.os.trans h.os, hk.tape.trans h.tape, hk.output.trans h.output, Nat.le_trans h.size hk.size, fun j hj => by
  have hl : j < A.heap.size := Nat.lt_of_lt_of_le hj h.size
  have e1 : A.heap[j]? = some A.heap[j] := Array.getElem?_eq_getElem hl
  rw [hk.at' j _ e1 (.inl (by omega)), ← e1]
  exact h.block j hj⟩
theorem ki_builder {B b : Nat} {T : TypeId} {bs : List Value} {B0 : Nat} {A A' : World} (hk : Ki 5 B A A') (hb : b < B) (h : Lib.IsBuilderF T 5 B0 b bs A) : Lib.IsBuilderF T 5 B0 b bs A' := by
 have one : ∀ p, Lib.BuilderAtF T 5 B0 b p bs A → Lib.BuilderAtF T 5 B0 b p bs A' := fun p ⟨h1, v, h2, h3, h4⟩ => by
  refine ⟨h1, v, hk.at' b _ h2 (.inl hb), ⟨h3.1, ?_⟩, h4⟩
  rcases h3.2 with h0 | ⟨g, cap, cur, fz, hv, hg, hh, hr⟩
  ·exact .inl h0
  ·exact .inr ⟨g, cap, cur, fz, hv, hg, hk.at' g _ hh (.inr ⟨_, _, rfl⟩), hr⟩
 exact h.elim (fun h => .inl (one _ h)) (fun h => .inr (one _ h))
theorem below_builder {b : Nat} {T : TypeId} {bs : List Value} {B0 : Nat} {A A' : World} (hk : Below A.heap.size A A') (hb : b < A.heap.size) (h : Lib.IsBuilderF T 5 B0 b bs A) : Lib.IsBuilderF T 5 B0 b bs A' := ki_builder (B := A.heap.size) (ki_below hk) hb h
theorem repL (n : Nat) : Lib.repeatL [32, 32] n = List.replicate (2 * n) 32 := by
 induction n with
 | zero => rfl
 | succ n ih => rw [Lib.repeatL, ih, show 2 * (n + 1) = 2 * n + 1 + 1 by omega, List.replicate_succ, List.replicate_succ]; rfl
theorem own_rowAt {w : World} {B : Nat} {v : Value} {T : List Tk} (h : w.ownsRow B 95 4 v (zs T).length (cellsZ (zs T))) (hT : T ≠ []) : RowAt w v (T.map fun t => (t, 0)) := by
 have hp : 0 < (zs T).length := by rw [zs_len]; exact List.length_pos_iff.2 hT
 obtain ⟨g, cap, rfl, hg, hl⟩ := h.form hp
 refine ⟨g, 0, _, cap, rfl, by simp [zs], hl, fun i hi => ?_⟩
 have hi' : i < T.length := by simpa using hi
 have hz : i < (zs T).length := by rw [zs_len]; exact hi'
 obtain ⟨a0, a1, a2, a3⟩ := cellsZ_at (zs T) i hz
 have hm : (cellsZ (zs T)).length = (zs T).length * 4 := cellsZ_len _
 have e : (zs T)[i] = (T[i], 0) := by simp [zs]
 rw [e] at a0 a1 a2 a3
 simp only [List.getElem_map, Nat.zero_add]
 exact ⟨(h.cellAt (i * 4) (by omega)).trans a0, (h.cellAt (i * 4 + 1) (by omega)).trans a1, (h.cellAt (i * 4 + 2) (by omega)).trans a2, (h.cellAt (i * 4 + 3) (by omega)).trans a3⟩
theorem toks_kok {T : List Tk} (h : Toks T) : KOk (T.map fun t => (t, 0)) := fun x hx => by
 obtain ⟨t, ht, rfl⟩ := List.mem_map.1 hx
 obtain ⟨m, hm⟩ := h t ht
 rcases hm with ⟨h1, _, h2, _⟩ | ⟨h1, _, _, _, h2, _⟩ | ⟨h1, _, h2, _⟩
 ·exact ⟨by rcases h1 with h | h <;> simp [h], by simp [h2]⟩
 ·exact ⟨by simp [h1], h2⟩
 ·exact ⟨by simp [h1], by simp [h2]⟩
theorem stH_pos (k : Nat) (nm fr : List UInt8) (sec mu : Bool) (ex : List Xp) (ar : List (List UInt8)) : 0 < (stH k nm fr sec mu ex ar).length := by
 unfold stH
 by_cases h1 : k = 1
 ·rw [if_pos h1]; exact Nat.succ_pos _
 rw [if_neg h1]
 by_cases h2 : k = 2
 ·rw [if_pos h2]; exact Nat.succ_pos _
 rw [if_neg h2]
 by_cases h3 : k = 3
 ·rw [if_pos h3]; exact Nat.succ_pos _
 rw [if_neg h3]
 by_cases h4 : k = 4
 ·rw [if_pos h4]; exact Nat.succ_pos _
 rw [if_neg h4]
 by_cases h5 : k = 5
 ·rw [if_pos h5]; exact Nat.succ_pos _
 rw [if_neg h5]
 by_cases h6 : k = 6
 ·rw [if_pos h6]; exact Nat.succ_pos _
 rw [if_neg h6]
 by_cases h7 : k = 7
 ·rw [if_pos h7]; exact Nat.succ_pos _
 rw [if_neg h7]
 by_cases h8 : k = 8
 ·rw [if_pos h8]; exact Nat.succ_pos _
 rw [if_neg h8]
 by_cases h9 : k = 9
 ·rw [if_pos h9]; exact Nat.succ_pos _
 rw [if_neg h9]
 by_cases h10 : k = 10
 ·rw [if_pos h10]; exact Nat.succ_pos _
 rw [if_neg h10]
 by_cases h11 : k = 11
 ·rw [if_pos h11]; exact Nat.succ_pos _
 rw [if_neg h11]
 exact Nat.succ_pos _
theorem stH_ne (k : Nat) (nm fr : List UInt8) (sec mu : Bool) (ex : List Xp) (ar : List (List UInt8)) : stH k nm fr sec mu ex ar ≠ [] := List.length_pos_iff.1 (stH_pos k nm fr sec mu ex ar)
mutual
theorem stL_ne : ∀ (d : Nat) (s : St), ∀ x ∈ stL d s, x.2 ≠ []
 | d, .mk k nm fr sec mu ex ar bd el, x, hx => by
   rw [stL] at hx
   rcases List.mem_cons.1 hx with rfl | hx
   ·exact stH_ne _ _ _ _ _ _ _
   ·by_cases c : 5 ≤ k ∧ k ≤ 8
    ·rw [if_pos c] at hx
     rcases List.mem_append.1 hx with hx | hx
     ·exact stsL_ne (d + 1) bd x hx
     ·rcases List.mem_append.1 hx with hx | hx
      ·by_cases c2 : el.isEmpty = true
       ·rw [if_pos c2] at hx; simp at hx
       ·rw [if_neg c2] at hx
        rcases List.mem_cons.1 hx with rfl | hx
        ·simp
        ·exact stsL_ne (d + 1) el x hx
      ·rw [List.mem_singleton.1 hx]; simp
    ·rw [if_neg c] at hx; simp at hx
theorem stsL_ne : ∀ (d : Nat) (l : List St), ∀ x ∈ stsL d l, x.2 ≠ []
 | d, [], x, hx => by rw [stsL] at hx; simp at hx
 | d, s :: r, x, hx => by
   rw [stsL] at hx
   rcases List.mem_append.1 hx with hx | hx
   ·exact stL_ne d s x hx
   ·exact stsL_ne d r x hx
end
theorem pgL_ne (l : List Fd) : ∀ x ∈ pgL l, x.2 ≠ [] := fun x hx => by
 unfold pgL at hx
 obtain ⟨f, _, hx⟩ := List.mem_flatMap.1 hx
 unfold fdL at hx
 rcases List.mem_cons.1 hx with rfl | hx
 ·simp [hdT]
 ·rcases List.mem_append.1 hx with hx | hx
  ·exact stsL_ne 1 f.bd x hx
  ·rw [List.mem_singleton.1 hx]; simp [tlT]
theorem lns_take (L : List (Nat × List Tk)) (k : Nat) (d : Nat) (T : List Tk) (h : L[k]? = some (d, T)) : lnsT (L.take (k + 1)) = lnsT (L.take k) ++ lnT d T := by
 obtain ⟨hk, e⟩ := List.getElem?_eq_some_iff.1 h
 unfold lnsT
 rw [List.take_succ_eq_append_getElem hk, List.flatMap_append, e]
 simp
theorem lns_le (L : List (Nat × List Tk)) (k : Nat) : (lnsT (L.take k)).length ≤ (lnsT L).length := by
 unfold lnsT
 conv => rhs; rw [← List.take_append_drop k L, List.flatMap_append, List.length_append]
 omega
end
section
open Go Go.ChangeShapes Go.WideShapes Go.ChangeAt Go.RowKit m9
attribute [local go_sem] Oper.semAt_some
theorem own_others {A A' : World} {b B n : Nat} {v : Value} {xs : List Value} {T : TypeId} {bs : List Value} {B0 : Nat} (h : A.ownsRow B 95 4 v n xs) (hO : Lib.OthersKept 5 (some b) A A') (hb : Lib.IsBuilderF T 5 B0 b bs A) (hT : T ≠ 95) : A'.ownsRow B 95 4 v n xs := by
 obtain ⟨p, hp⟩ : ∃ p, A.heap[b]? = some (.cells p T (0, 0)) := by
  rcases hb with ⟨_, v, h2, _⟩ | ⟨_, v, h2, _⟩ <;> exact ⟨_, h2⟩
 refine ⟨h.1, ?_⟩
 rcases h.2 with h0 | ⟨g, cap, cur, hv, hg, hh, hr⟩
 ·exact Or.inl h0
 ·refine Or.inr ⟨g, cap, cur, hv, hg, hO g _ hh (fun e => ?_) (fun c fz e => ?_), hr⟩
  ·injection e with e
   subst e
   rw [hh] at hp
   cases hp
   exact hT rfl
  ·injection e with _ e2 _
   exact absurd e2 (by decide)
theorem bare_z (T : List Tk) : bare (T.map fun t => (t, 0)) = T := by
 unfold bare
 rw [List.map_map]
 exact (List.map_congr_left (fun x _ => rfl)).trans (List.map_id T)
theorem HasS.others {C : Array Value} {t : TypeId} {k b : Nat} {w w' : World} (h : HasS C t k w) (hO : Lib.OthersKept 5 (some b) w w') (hk : k ≠ b) (ht : t ≠ 5) : HasS C t k w' := hO k _ h (fun e => by injection e with e; exact hk e) (fun c fz e => by injection e with _ e2 _; exact ht e2)
theorem show_no (l : List Fd) (ma : Option Addr) (cap : Nat) (w : World) (hF : FdsAt (fun b => b < w.heap.size) w l ma) (hl : l.length ≤ 140737488355328) (hTb : Tb w) (h : pgB l = false) :
 Calls Tryz.prog 10 #[.agg #[.slice ma l.length cap]] w fun r w' => r = .returned (.tuple #[.string ⟨#[]⟩, .int .i64 2]) ∧ Below w.heap.size w w' := by
 obtain ⟨W, hW⟩ : ∃ W, w.alloc (.cells #[.slice ma l.length cap] 24) = W := ⟨_, rfl⟩
 have hBW : Below w.heap.size w W := by rw [← hW]; exact aB (Below.refl _ _) _
 have hr : rowG #[.slice ma l.length cap] W w.heap.size := by rw [← hW]; exact rowG_at _ _ _ _ rfl
 have u0 : W.cell? ⟨w.heap.size, 0, none⟩ = some (.slice ma l.length cap) := hr.1 0 (by simp)
 have hlt := hr.2.2
 have hc := chk_any l ma cap W ((hF.of hBW).mono (fun b hb => Nat.lt_of_lt_of_le hb hBW.size)) hl (hTb.of hBW)
 rw [h] at hc
 simp only [Bool.false_eq_true, if_false] at hc
 clear hF
 generalize l.length = N at *
 go_enter Tryz.func10, Tryz.ntmps10
 go_wp2_with (go_at_call 14; ((with_reducible refine hc.mono ?_); (rintro e w1 ⟨rfl, hb⟩)))
 go_ret2
 exact ⟨rfl, hBW.trans (hb.mono hBW.size)⟩
theorem show_yes (l : List Fd) (ma : Option Addr) (cap : Nat) (w : World) (hF : FdsAt (fun b => b < w.heap.size) w l ma) (hl : l.length ≤ 140737488355328) (hTb : Tb w) (hSw : SwOk w) (h : pgB l = true) (hd : ∀ f ∈ l, f.nd) (hnb : ∀ f ∈ l, f.nb) :
 Calls Tryz.prog 10 #[.agg #[.slice ma l.length cap]] w fun r w' => r = .returned (.tuple #[.string (str (shoT l)), .int .i64 0]) ∧ Below w.heap.size w w' := by
 have hdd : ∀ k : Nat, (Fence.wide.depth.isSome = true → 1 ≤ k) := room_none
 obtain ⟨W, hW⟩ : ∃ W, w.alloc (.cells #[.slice ma l.length cap] 24) = W := ⟨_, rfl⟩
 have hBW : Below w.heap.size w W := by rw [← hW]; exact aB (Below.refl _ _) _
 have hr : rowG #[.slice ma l.length cap] W w.heap.size := by rw [← hW]; exact rowG_at _ _ _ _ rfl
 have u0 : W.cell? ⟨w.heap.size, 0, none⟩ = some (.slice ma l.length cap) := hr.1 0 (by simp)
 have hlt := hr.2.2
 have hc := chk_any l ma cap W ((hF.of hBW).mono (fun b hb => Nat.lt_of_lt_of_le hb hBW.size)) hl (hTb.of hBW)
 rw [h] at hc
 simp only [if_true] at hc
 obtain ⟨hsh, hln, hct⟩ := pg_all l h hd hnb
 have hne := pgL_ne l
 have hsq := fun c n => lines_seq l ma l.length cap c w hTb hSw hF rfl hl hsh n
 have htot := lns_len (pgL l) hln
 have HTX : Hid (shoT l = lnsT (pgL l)) := Lib.hid rfl
 have HSX := Lib.hid (rfl : shoT l = shoT l)
 clear hF hsh h hd hnb
 generalize hLL : pgL l = LL at *
 generalize hST : shoT l = ST at *
 have hst : ST = lnsT LL := HTX.out
 have HST := Lib.hid hst
 clear HTX HSX hst hST hLL
 generalize l.length = N at *
 refine (callsIn_wide (n := 4)).1 ?_
 refine callsIn_of_wp_marks Tryz.func10 rfl trivial ?_
 simp only [Tryz.ntmps10, List.size_toArray, List.length_cons, List.length_nil, Nat.reduceAdd, Nat.reduceSub, Array.replicate_succ, Array.replicate_zero, List.push_toArray, List.append_toArray, List.nil_append, List.cons_append]
 gi_wp2_with (first | (refine ⟨trivial, ?_⟩; gi_at_call 14; (with_reducible refine (callsIn_wide.2 hc).mono ?_); clear hc; rintro e w1 ⟨rfl, hb1⟩; have u1 := stay hb1 u0; have hl1 := Nat.lt_of_lt_of_le hlt hb1.size) | (refine ⟨trivial, ?_⟩; gi_at_call 19; (with_reducible refine (callsIn_wide.2 (lines_any ma N cap _)).mono ?_); rintro e w2 ⟨rfl, hw2⟩))
 have hz2 : w2.heap.size = w1.heap.size + 1 + 1 := by rw [hw2]; simp
 have hbB : w.heap.size ≤ w1.heap.size := Nat.le_of_lt hl1
 have hB2 : Below w.heap.size w w2 := by rw [hw2]; exact ((hBW.trans (hb1.mono hBW.size)).alloc hbB _).alloc (by simp; omega) _
 have hbd0 : Lib.IsBuilderF 58 5 w1.heap.size w1.heap.size [] w2 := .inl ⟨Nat.le_refl _, .slice none 0 0, by rw [hw2]; exact (HasS.new #[.pointer none, .slice none 0 0] 58 w1).alloc _, World.ownsRowF_nil _ _ _ _, fun e => by cases e⟩
 have hc2 : HasS #[.slice ma N cap] 24 (w1.heap.size + 1) w2 := by rw [hw2]; have := HasS.new #[.slice ma N cap] 24 (w1.alloc (.cells #[.pointer none, .slice none 0 0] 58)); rw [World.size_alloc] at this; exact this
 rw [← hw2]
 clear hw2 u1
 refine range_r (e := 5) (by omega) (gf := 38) (lb := #[.pointer (some ⟨w1.heap.size + 1, 0, none⟩)]) rfl (enters_of Tryz.func38 (by kernel_rfl) rfl) (hsq (w1.heap.size + 1) 3)
  (fun A hb => ⟨hB2.trans (hb.mono hB2.size), (hc2.below hb).cell 0⟩) (fun _ => rfl) (fun k x A A' h hc => relL_ck h hc)
  (fun k A => Lib.IsBuilderF 58 5 w1.heap.size w1.heap.size (Lib.byteCells (lnsT (LL.take k))) A ∧ Below w.heap.size w A ∧ HasS #[.slice ma N cap] 24 (w1.heap.size + 1) A)
  (fun k A h => ⟨h.2.1, h.2.2.cell 0⟩)
  (fun k A A' h hk => ⟨ki_builder hk (by omega) h.1, ki_below0 hk (by omega) h.2.1, hk.at' _ _ h.2.2 (.inl (by omega))⟩)
  ⟨by simpa [lnsT, Lib.byteCells] using hbd0, hB2, hc2⟩
  (fun x a' A => a' = ⟨#[.agg #[.slice ma N cap], .pointer (some ⟨w.heap.size, 0, none⟩), .string ⟨#[]⟩, .int .i64 0, .int .i64 0, .pointer (some ⟨w1.heap.size, 0, none⟩), .int .i64 x.1, x.2, .agg #[.slice ma N cap], .int .i64 0, .int .i64 0, .bool false, undef, .agg #[.slice ma N cap], .func (.func 38) #[] #[.pointer (some ⟨w1.heap.size + 1, 0, none⟩)], .int .i64 x.1, x.2, undef, undef, undef, undef, undef, undef, undef, undef], []⟩)
  (fun x a' A A' h _ => h)
  ?assign ?body ?done
 case assign =>
  intro lq x A K hs hK
  gi_wp2
  exact hK _ _ (Below.refl _ _) rfl
 case body =>
  rintro lq k ⟨xi, xv⟩ a' A hs ⟨h1, h2, h3⟩ ⟨d, T, hk1, hxd, hown⟩ rfl hk
  simp only at hxd hown
  subst hxd
  have hmem := List.mem_of_getElem? hk1
  obtain ⟨hd41, htl, htk⟩ := hln _ hmem
  have hT0 := hne _ hmem
  simp only at hd41 htl htk hT0
  have hjl := joinT_len htk
  have htk1 := lns_take LL k d T hk1
  have hle := lns_le LL (k + 1)
  have hbl : w1.heap.size < A.heap.size := by omega
  have hbA : w1.heap.size ≤ A.heap.size := by omega
  have hP : (lnsT (LL.take k)).length + (2 * d + ((joinT T).length + 1)) ≤ 11700000000 := by
   have e : (lnT d T).length = 2 * d + ((joinT T).length + 1) := by simp [lnT]
   rw [htk1, List.length_append, e] at hle
   omega
  have HTK := Lib.hid htk1
  generalize hPe : lnsT (LL.take k) = P at *
  have HPE := Lib.hid hPe
  clear hPe htk1 hle hmem
  have hrs : (⟨(Lib.repeatL (⟨#[32, 32]⟩ : ByteArray).data.toList d).toArray⟩ : ByteArray) = str (List.replicate (2 * d) 32) := by rw [show (⟨#[32, 32]⟩ : ByteArray).data.toList = [32, 32] from rfl, repL]; rfl
  have hrp := bd_rp ⟨#[32, 32]⟩ d A (by omega) (by show 2 * d ≤ _; omega)
  rw [hrs] at hrp
  clear hrs
  gi_wp2_with (first | (refine ⟨trivial, ?_⟩; gi_at_call 21; refine (CallsIn.inRound lq (callsIn_wide.2 hrp)).mono ?_; clear hrp; rintro e A1 ⟨rfl, hb1a⟩; have hbd1 := below_builder hb1a hbl h1; have hs1 := Nat.le_trans hbA hb1a.size; have hws := bd_ws w1.heap.size w1.heap.size _ (str (List.replicate (2 * d) 32)) A1 hbd1 (by rw [Lib.byteCells_length, str_size, List.length_replicate]; omega) hs1) | (refine ⟨trivial, ?_⟩; gi_at_call 20; refine (CallsIn.inRound lq (callsIn_wide.2 hws)).mono ?_; clear hws; rintro e A2 ⟨rfl, hAt2, hB2a, hO2⟩; have hbd2 : Lib.IsBuilderF _ _ _ _ _ _ := .inr hAt2; have hs2 := Nat.le_trans hs1 hB2a.size; have hown1 := own_ck hown (fun j c t fz hj => (hb1a.block _ (lt_of_heap hj)).trans hj); have hown2 := own_others hown1 hO2 hbd1 (by decide); have hBA2 : Below w.heap.size w A2 := (h2.trans (hb1a.mono h2.size)).trans (hB2a.mono hbB); have hjn := join_any xv (T.map fun t => (t, 0)) A2 (own_rowAt hown2 hT0) (by simp; omega) (toks_kok htk) (by rw [bare_z]; omega) (hTb.of hBA2); (rw [bare_z] at hjn)) | (refine ⟨trivial, ?_⟩; gi_at_call 22; refine (CallsIn.inRound lq (callsIn_wide.2 hjn)).mono ?_; clear hjn; rintro e A3 ⟨rfl, hb3a⟩; have hbl2 : w1.heap.size < A2.heap.size := Nat.lt_of_lt_of_le hbl (Nat.le_trans hb1a.size hB2a.size); have hbd3 := below_builder hb3a hbl2 hbd2; have hs3 := Nat.le_trans hs2 hb3a.size; have hws2 := bd_ws w1.heap.size w1.heap.size _ (str (joinT T)) A3 hbd3 (by rw [List.length_append, Lib.byteCells_length, Lib.strCells_length, str_size, str_size, List.length_replicate]; omega) hs3) | (refine ⟨trivial, ?_⟩; gi_at_call 20; refine (CallsIn.inRound lq (callsIn_wide.2 hws2)).mono ?_; clear hws2; rintro e A4 ⟨rfl, hAt4, hB4a, hO4⟩; have hbd4 : Lib.IsBuilderF _ _ _ _ _ _ := .inr hAt4; have hs4 := Nat.le_trans hs3 hB4a.size; have hwb := bd_wb w1.heap.size w1.heap.size _ 10 A4 hbd4 (by rw [List.length_append, List.length_append, Lib.byteCells_length, Lib.strCells_length, Lib.strCells_length, str_size, str_size, List.length_replicate]; omega) hs4) | (refine ⟨trivial, ?_⟩; gi_at_call 23; refine (CallsIn.inRound lq (callsIn_wide.2 hwb)).mono ?_; clear hwb; rintro e A5 ⟨rfl, hAt5, hB5a, hO5⟩))
  have hbn : w1.heap.size < w2.heap.size := by omega
  have hBA3 : Below w.heap.size w A3 := hBA2.trans (hb3a.mono hBA2.size)
  have hBA5 : Below w.heap.size w A5 := (hBA3.trans (hB4a.mono hbB)).trans (hB5a.mono hbB)
  have hkp : Kp 5 w2.heap.size A A5 := (kp_below hb1a).trans ((kp_others hO2 hbn hB2a.size).trans ((kp_below hb3a).trans ((kp_others hO4 hbn hB4a.size).trans (kp_others hO5 hbn hB5a.size))))
  have hcn : w1.heap.size + 1 ≠ w1.heap.size := by omega
  have hc5 := ((((h3.below hb1a).others hO2 hcn (by decide)).below hb3a).others hO4 hcn (by decide)).others hO5 hcn (by decide)
  have hbs : Lib.byteCells P ++ Lib.strCells (str (List.replicate (2 * d) 32)) ++ Lib.strCells (str (joinT T)) ++ [.int .u8 10] = Lib.byteCells (lnsT (LL.take (k + 1))) := by
   rw [HTK.out]
   unfold lnT
   rw [Lib.byteCells_append, Lib.byteCells_append, Lib.byteCells_append, Lib.strCells_eq, Lib.strCells_eq, str_list, str_list, List.append_assoc, List.append_assoc]
   rfl
  rw [hbs] at hAt5
  exact ⟨hkp, .inr hAt5, hBA5, hc5⟩
 case done =>
  rintro D A hD ⟨h1, h2, h3⟩ hK
  rw [List.take_length] at h1
  have hstr : Calls Tryz.prog 24 #[.pointer (some ⟨w1.heap.size, 0, none⟩)] A fun e w' => e = .returned (.string ⟨(lnsT LL).toArray⟩) ∧ (Lib.IsBuilderF 58 5 w1.heap.size w1.heap.size (Lib.byteCells (lnsT LL)) w' ∧ Below w1.heap.size A w' ∧ Lib.OthersKept 5 (some w1.heap.size) A w') := Any.Builder_String_any_k { Llays105 with } LBuilder_Extra_105 w1.heap.size w1.heap.size (lnsT LL) A h1 (by have := (Array.getElem?_eq_some_iff.1 hK).1; omega)
  gi_wp2_with (refine ⟨trivial, ?_⟩; gi_at_call 24; (with_reducible refine (callsIn_wide.2 hstr).mono ?_); clear hstr; rintro e A7 ⟨rfl, hS7, hB7, hO7⟩)
  have hK7 : A7.heap[D]? = some (.deferred (some [])) := hO7 D _ hK (fun e => by injection e with e; omega) (fun c fz e => by cases e)
  have hBf := h2.trans (hB7.mono hbB)
  refine ⟨by simp, .inl ⟨_, _, rfl, run_takeDeferred hK7, ?_⟩⟩
  refine ⟨.tuple #[.string ⟨(lnsT LL).toArray⟩, .int .i64 0], ?_, by rw [HST.out]; rfl, hBf.trans ⟨rfl, rfl, rfl, by simp, fun j hj => World.putObj_heap_other (by omega)⟩⟩
  simp [results, Tryz.f10, go_sem]
end
section
open Go.ChangeShapes Go.WideShapes Go.ChangeAt Go.RowKit
def alF : Fd := ⟨[102], [⟨[110], false, false, false⟩], [.mk 1 [120] [] false false [.mk 2 0 [110] 0 []] [] [] []], false, [.mk 2 0 [120] 0 []]⟩
def alO : Fd := ⟨[], [], [], false, []⟩
def alT : List UInt8 := [102, 110, 32, 102, 32, 40, 32, 110, 117, 109, 32, 110, 32, 41, 32, 123, 10, 32, 32, 108, 101, 116, 32, 120, 32, 61, 32, 110, 32, 59, 10, 125, 32, 61, 32, 120, 32, 59, 10]
theorem alF_may : pgB [alF] = true := by decide +kernel
theorem alO_may : pgB [alO] = false := by decide +kernel
theorem alF_txt : shoT [alF] = alT := by decide +kernel
theorem alF_nd : ∀ f ∈ [alF], f.nd := fun f hf => by
 rw [List.mem_singleton.1 hf]
 refine ⟨?_, ?_⟩
 ·show ndS [.mk 1 [120] [] false false [.mk 2 0 [110] 0 []] [] [] []]
  rw [ndS, St.nd, ndS]
  exact ⟨⟨fun x hx => by rw [List.mem_singleton.1 hx]; decide, trivial, trivial⟩, trivial⟩
 ·intro x hx
  have hx' : x ∈ [Xp.mk 2 0 [120] 0 []] := hx
  rw [List.mem_singleton.1 hx']
  decide
theorem alF_nb : ∀ f ∈ [alF], f.nb := fun f hf => by
 rw [List.mem_singleton.1 hf]
 refine ⟨?_, ?_⟩
 ·show nbS [.mk 1 [120] [] false false [.mk 2 0 [110] 0 []] [] [] []]
  rw [nbS, St.nb, nbS, nbL, Xp.nb, nbL]
  exact ⟨⟨⟨⟨by omega, trivial⟩, trivial⟩, trivial, trivial⟩, trivial⟩
 ·show nbL [.mk 2 0 [120] 0 []]
  rw [nbL, Xp.nb, nbL]
  exact ⟨⟨by omega, trivial⟩, trivial⟩
def exC (c : UInt8) : Array Value := #[.int .u8 2, .int .u64 0, .string ⟨#[c]⟩, .int .u8 0, .slice none 0 0]
theorem ex_at {G : Nat → Prop} {W : World} {k : Nat} {c : UInt8} (h : HasS (exC c) 47 k W) (hG : G k) : KidsAt G W [.mk 2 0 [c] 0 []] (some ⟨k, 0, none⟩) :=
 .cons hG (h.cell 0) (h.cell 1) (h.cell 2) (h.cell 3) (h.cell 4) (by omega) (by simp) .nil .nil
theorem al_at {G : Nat → Prop} {W : World} {a2 a3 a4 a5 a6 : Nat} (h2 : HasS #[.string ⟨#[110]⟩, .bool false, .bool false, .bool false] 49 a2 W) (h3 : HasS (exC 110) 47 a3 W)
 (h4 : HasS #[.int .u8 1, .string ⟨#[120]⟩, .string ⟨#[]⟩, .bool false, .bool false, .slice (some ⟨a3, 0, none⟩) 1 1, .slice none 0 0, .slice none 0 0, .slice none 0 0] 52 a4 W) (h5 : HasS (exC 120) 47 a5 W)
 (h6 : HasS #[.string ⟨#[102]⟩, .slice (some ⟨a2, 0, none⟩) 1 1, .slice (some ⟨a4, 0, none⟩) 1 1, .bool false, .slice (some ⟨a5, 0, none⟩) 1 1] 43 a6 W) (g2 : G a2) (g3 : G a3) (g4 : G a4) (g5 : G a5) (g6 : G a6) : FdsAt G W [alF] (some ⟨a6, 0, none⟩) := by
 intro i hi
 obtain rfl : i = 0 := by simpa using hi
 refine ⟨a6, 0, ⟨[102], some ⟨a2, 0, none⟩, 1, 1, some ⟨a4, 0, none⟩, 1, 1, false, some ⟨a5, 0, none⟩, 1, 1, alF⟩, rfl, g6, rfl, ?_, ?_⟩
 ·change IsFd G W _ ⟨[102], [⟨[110], false, false, false⟩], [.mk 1 [120] [] false false [.mk 2 0 [110] 0 []] [] [] []], false, [.mk 2 0 [120] 0 []]⟩
  refine IsFd.mk (ps := [⟨[110], false, false, false⟩]) (bd := [.mk 1 [120] [] false false [.mk 2 0 [110] 0 []] [] [] []]) (mp := some ⟨a2, 0, none⟩) (mb := some ⟨a4, 0, none⟩) (mr := some ⟨a5, 0, none⟩) (cp := 1) (cb := 1) (cr := 1) (by simp) (by simp) (by simp) ?_ ?_ (ex_at h5 g5)
  ·intro j hj
   obtain rfl : j = 0 := by simpa using hj
   exact ⟨a2, 0, rfl, g2, h2.cell 0, h2.cell 1, h2.cell 2, h2.cell 3⟩
  ·exact .cons g4 (h4.cell 0) (h4.cell 1) (h4.cell 2) (h4.cell 3) (h4.cell 4) (h4.cell 5) (h4.cell 6) (h4.cell 7) (h4.cell 8) (by omega) (by simp) (by simp) (by simp) (by simp) (ex_at h3 g3) StrsAt.nil .nil .nil .nil
 ·intro r u hu
  have h := h6.cell r
  rw [show (0 + 0 * 5 + r : Nat) = r by omega, h, List.getElem?_toArray]
  exact hu
theorem alO_at {G : Nat → Prop} {W : World} {a : Nat} (h : HasS #[.string ⟨#[]⟩, .slice none 0 0, .slice none 0 0, .bool false, .slice none 0 0] 43 a W) (g : G a) : FdsAt G W [alO] (some ⟨a, 0, none⟩) := by
 intro i hi
 obtain rfl : i = 0 := by simpa using hi
 refine ⟨a, 0, ⟨[], none, 0, 0, none, 0, 0, false, none, 0, 0, alO⟩, rfl, g, rfl, ?_, ?_⟩
 ·change IsFd G W _ ⟨[], [], [], false, []⟩
  exact IsFd.mk (ps := []) (bd := []) (rt := []) (mp := none) (mb := none) (mr := none) (cp := 0) (cb := 0) (cr := 0) (by simp) (by simp) (by simp) (fun j hj => by simp at hj) .nil .nil
 ·intro r u hu
  have h := h.cell r
  rw [show (0 + 0 * 5 + r : Nat) = r by omega, h, List.getElem?_toArray]
  exact hu
theorem HasS.newE {C : Array Value} {t : TypeId} {w : World} {k : Nat} (h : k = w.heap.size) : HasS C t k (w.alloc (.cells C t)) := by subst h; exact HasS.new _ _ _
theorem alive09 (w : World) (hT : Tb w) (hS : SwOk w) : Calls Tryz.prog 8 #[] w fun e w' => e = .returned (.bool true) ∧ Below w.heap.size w w' := by
 obtain ⟨W1, hW1⟩ : ∃ W1, (w.alloc (.cells (exC 120) 47)).alloc (.cells (exC 110) 47) = W1 := ⟨_, rfl⟩
 obtain ⟨W2, hW2⟩ : ∃ W2, ((((W1.alloc (.cells #[.string ⟨#[110]⟩, .bool false, .bool false, .bool false] 49)).alloc (.cells (exC 110) 47)).alloc (.cells #[.int .u8 1, .string ⟨#[120]⟩, .string ⟨#[]⟩, .bool false, .bool false, .slice (some ⟨w.heap.size + 1 + 1 + 1, 0, none⟩) 1 1, .slice none 0 0, .slice none 0 0, .slice none 0 0] 52)).alloc (.cells (exC 120) 47)).alloc (.cells #[.string ⟨#[102]⟩, .slice (some ⟨w.heap.size + 1 + 1, 0, none⟩) 1 1, .slice (some ⟨w.heap.size + 1 + 1 + 1 + 1, 0, none⟩) 1 1, .bool false, .slice (some ⟨w.heap.size + 1 + 1 + 1 + 1 + 1, 0, none⟩) 1 1] 43) = W2 := ⟨_, rfl⟩
 have hz1 : W1.heap.size = w.heap.size + 1 + 1 := by rw [← hW1]; simp
 have hB1 : Below w.heap.size w W1 := by rw [← hW1]; exact aB (aB (Below.refl _ _) _) _
 have hB2 : Below W1.heap.size W1 W2 := by rw [← hW2]; exact aB (aB (aB (aB (aB (Below.refl _ _) _) _) _) _) _
 have hB := hB1.trans (hB2.mono hB1.size)
 have x0 : HasS (exC 120) 47 w.heap.size W1 := by rw [← hW1]; exact (HasS.new _ _ _).alloc _
 have x1 : HasS (exC 110) 47 (w.heap.size + 1) W1 := by rw [← hW1]; exact HasS.newE (by simp)
 have y2 : HasS #[.string ⟨#[110]⟩, .bool false, .bool false, .bool false] 49 (w.heap.size + 1 + 1) W2 := by rw [← hW2]; exact ((((HasS.newE hz1.symm).alloc _).alloc _).alloc _).alloc _
 have y3 : HasS (exC 110) 47 (w.heap.size + 1 + 1 + 1) W2 := by rw [← hW2]; exact (((HasS.newE (by simp only [World.size_alloc]; omega)).alloc _).alloc _).alloc _
 have y4 : HasS #[.int .u8 1, .string ⟨#[120]⟩, .string ⟨#[]⟩, .bool false, .bool false, .slice (some ⟨w.heap.size + 1 + 1 + 1, 0, none⟩) 1 1, .slice none 0 0, .slice none 0 0, .slice none 0 0] 52 (w.heap.size + 1 + 1 + 1 + 1) W2 := by rw [← hW2]; exact ((HasS.newE (by simp only [World.size_alloc]; omega)).alloc _).alloc _
 have y5 : HasS (exC 120) 47 (w.heap.size + 1 + 1 + 1 + 1 + 1) W2 := by rw [← hW2]; exact (HasS.newE (by simp only [World.size_alloc]; omega)).alloc _
 have y6 : HasS #[.string ⟨#[102]⟩, .slice (some ⟨w.heap.size + 1 + 1, 0, none⟩) 1 1, .slice (some ⟨w.heap.size + 1 + 1 + 1 + 1, 0, none⟩) 1 1, .bool false, .slice (some ⟨w.heap.size + 1 + 1 + 1 + 1 + 1, 0, none⟩) 1 1] 43 (w.heap.size + 1 + 1 + 1 + 1 + 1 + 1) W2 := by rw [← hW2]; exact HasS.newE (by simp only [World.size_alloc]; omega)
 have hF := al_at (G := fun b => b < W2.heap.size) y2 y3 y4 y5 y6 y2.lt y3.lt y4.lt y5.lt y6.lt
 have hs1 := show_yes [alF] _ 1 W2 hF (by simp) (hT.of hB) (hS.of hB) alF_may alF_nd alF_nb
 rw [alF_txt, show [alF].length = 1 from rfl, show str alT = { data := #[102, 110, 32, 102, 32, 40, 32, 110, 117, 109, 32, 110, 32, 41, 32, 123, 10, 32, 32, 108, 101, 116, 32, 120, 32, 61, 32, 110, 32, 59, 10, 125, 32, 61, 32, 120, 32, 59, 10] } from rfl] at hs1
 have hs2 : ∀ v1, Below w.heap.size w v1 → Calls Tryz.prog 10 #[.agg #[.slice (some ⟨v1.heap.size, 0, none⟩) 1 1]] (v1.alloc (.cells #[.string ⟨#[]⟩, .slice none 0 0, .slice none 0 0, .bool false, .slice none 0 0] 43)) fun r w' => r = .returned (.tuple #[.string ⟨#[]⟩, .int .i64 2]) ∧ Below (v1.alloc (.cells #[.string ⟨#[]⟩, .slice none 0 0, .slice none 0 0, .bool false, .slice none 0 0] 43)).heap.size (v1.alloc (.cells #[.string ⟨#[]⟩, .slice none 0 0, .slice none 0 0, .bool false, .slice none 0 0] 43)) w' := fun v1 hb => by
  have h := HasS.new #[.string ⟨#[]⟩, .slice none 0 0, .slice none 0 0, .bool false, .slice none 0 0] 43 v1
  have := show_no [alO] _ 1 _ (alO_at (G := fun b => b < (v1.alloc (.cells #[.string ⟨#[]⟩, .slice none 0 0, .slice none 0 0, .bool false, .slice none 0 0] 43)).heap.size) h h.lt) (by simp) ((hT.of hb).alloc _) alO_may
  exact this
 clear x0 x1 y2 y3 y4 y5 y6 hF hB1 hB2 hz1
 subst hW2
 subst hW1
 unfold exC at hs1 hB
 go_enter Tryz.func8, Tryz.ntmps8
 go_wp2_with (first | (go_at_call 10; ((with_reducible refine hs1.mono ?_); clear hs1; (rintro e v1 ⟨rfl, hb1⟩); have hBv := hB.trans (hb1.mono hB.size); have hs3 := hs2 v1 hBv; clear hs2)) | (go_at_call 10; ((with_reducible refine hs3.mono ?_); clear hs3; (rintro e v2 ⟨rfl, hb2⟩))))
 go_ret
 exact ⟨rfl, hBv.trans (((aB (Below.refl _ _) _).trans (hb2.mono (by simp))).mono hBv.size)⟩
end
end Go.Proofs.YtfbjljcmmbdhkaaGreatDoor
