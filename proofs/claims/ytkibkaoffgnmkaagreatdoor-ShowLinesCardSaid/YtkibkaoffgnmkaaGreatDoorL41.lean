/- The methods block and function of taker; lines. -/
import Derived.Test.YtkibkaoffgnmkaaGreatDoorL40
import Derived.Test.YtkibkaoffgnmkaaGreatDoorL20
import Derived.Test.YtkibkaoffgnmkaaGreatDoorL21
namespace Go.Proofs.YtkibkaoffgnmkaaGreatDoor
set_option linter.unusedVariables false
set_option linter.unusedSimpArgs false
set_option maxRecDepth 100000
set_option maxHeartbeats 200000000
section
open Go Go.ChangeShapes Go.WideShapes Go.ChangeAt Go.RowKit m9
theorem stsL_take (dp : Nat) : ∀ (ls : List St) (j : Nat) (h : j < ls.length), stsL dp (ls.take (j + 1)) = stsL dp (ls.take j) ++ stL dp ls[j]
 | s :: r, 0, _ => by simp [stsL]
 | s :: r, j + 1, h => by
  have h' : j < r.length := by simpa using h
  rw [List.take_succ_cons, List.take_succ_cons, stsL, stsL, stsL_take dp r j h', List.append_assoc]
  rfl
theorem stsL_split (dp : Nat) (ls : List St) (j : Nat) (h : j < ls.length) : ∃ L, stsL dp ls = stsL dp (ls.take j) ++ (stL dp ls[j] ++ L) := by
 have h0 : ∀ (a b : List St), stsL dp (a ++ b) = stsL dp a ++ stsL dp b := by
  intro a b
  induction a with
  | nil => rfl
  | cons x a ih => rw [List.cons_append, stsL, stsL, ih, List.append_assoc]
 refine ⟨stsL dp (ls.drop (j + 1)), ?_⟩
 conv => lhs; rw [← List.take_append_drop (j + 1) ls, h0, stsL_take dp ls j h, List.append_assoc]
theorem block_in {l : Nat} {LL : List (Nat × List Tk)} {w0 W : World} {J : Nat → World → Prop} (hK : Tak l LL w0 W J) {m : Nat} (hst : ∀ (n : Nat) (K : Sx) (dp k : Nat) (A : World), K.is (fun b => b < w0.heap.size) w0 → (stL dp K.x).length ≤ m → K.x.fa → K.x.nd → LnAt LL k (stL dp K.x) → J k A → W.heap.size ≤ A.heap.size → dp + m ≤ 1000000 →
  CallsIn Fence.wide n Tryz.prog 120 #[.func (.yield l) #[] #[], .agg K.cells.toArray, .int .i64 (dp : Int)] A fun r A' => r = .returned (.bool true) ∧ J (k + (stL dp K.x).length) A' ∧ Kp 5 W.heap.size A A') : TkB l LL w0 W J m := by
 intro n ls ma nl cap dp k A hn hlen hf hd hS hnl hL hJ hA hdp
 have HN := Lib.hid hn
 have HS := Lib.hid hS
 have HF := Lib.hid (faS_iff.1 hf)
 have HD := Lib.hid (ndS_iff.1 hd)
 have HL := Lib.hid hL
 have HK := Lib.hid hK
 have HST := Lib.hid hst
 have HLEN := Lib.hid hlen
 have HDP := Lib.hid hdp
 clear hn hS hf hd hL hst hlen hdp hK
 refine callsIn_wide.2 ?_
 go_enter Tryz.func66, Tryz.ntmps66
 go_wp2
 go_loopw [11] (fun i wr => ∃ j : Nat, j ≤ nl ∧ i = .int .i64 j ∧ J (k + (stsL dp (ls.take j)).length) wr ∧ Kp 5 W.heap.size A wr) (fun i _ => nl - (intOf i).toNat)
 case atStart => exact ⟨0, by omega, rfl, by simpa [stsL] using hJ, Kp.refl _ _ _⟩
 case round =>
  obtain ⟨j, hj, rfl, hJr, hKr⟩ := hrel
  by_cases hlt : j < nl
  ·have hlt' : j < ls.length := by rw [HN.out]; exact hlt
   have hPr := HK.out.pre _ _ hJr
   obtain ⟨b, o, K, rfl, hbG, hKx, hKi, -, -, -, -, -, -, -, hcells⟩ := sts_at ls ma HS.out j hlt'
   have hrg := sx_range (K := K) (b := b) (o := o + j * 9) (w := wr) (fun r u hu => (hPr.cell (p := ⟨b, o + j * 9 + r, none⟩) hbG).trans (hcells r u hu))
   have hbw : b < wr.heap.size := Nat.lt_of_lt_of_le hbG hPr.size
   obtain ⟨L2, hsp⟩ := stsL_split dp ls j hlt'
   have hLx := HL.out
   rw [hsp] at hLx
   have hln := HLEN.out
   rw [hsp, List.length_append, List.length_append] at hln
   have hLj := (hLx.app.2).app.1
   have hnx := stsL_take dp ls j hlt'
   rw [← hKx] at hLj hln hnx
   have hAr : W.heap.size ≤ wr.heap.size := Nat.le_trans hA hKr.size
   have hcall := fun wF (hbF : Below wr.heap.size wr wF) => callsIn_wide.1 (HST.out n K dp _ wF hKi (by omega) (by rw [hKx]; exact HF.out _ (List.getElem_mem hlt')) (by rw [hKx]; exact HD.out _ (List.getElem_mem hlt')) hLj (HK.out.to hJr hbF) (Nat.le_trans hAr hbF.size) HDP.out)
   have HNX := Lib.hid hnx
   clear hLx hsp hln hLj hnx hKi hcells hKx hPr
   obtain ⟨K0, K1, K2, K3, K4, K5, K6, K7, K8, K9, K10, K11, K12, K13, K14, K15, K16, K17⟩ := K
   simp only [Sx.cells] at *
   obtain ⟨W1, hW1⟩ : ∃ W1, wr.alloc (.cells #[.int .u8 (K0 : Int), .string (str K1), .string (str K2), .bool K3, .bool K4, .slice K5 K6 K7, .slice K8 K9 K10, .slice K11 K12 K13, .slice K14 K15 K16] 52) = W1 := ⟨_, rfl⟩
   have hBF : Below wr.heap.size wr W1 := by rw [← hW1]; exact aB (Below.refl _ _) _
   have hF : rowG #[.int .u8 (K0 : Int), .string (str K1), .string (str K2), .bool K3, .bool K4, .slice K5 K6 K7, .slice K8 K9 K10, .slice K11 K12 K13, .slice K14 K15 K16] W1 wr.heap.size := by rw [← hW1]; exact rowG_at _ _ _ _ rfl
   have hc2 := hcall W1 hBF
   obtain ⟨z0, z1, z2, z3, z4, z5, z6, z7, z8⟩ := nineq hF
   have zl := hF.2.2
   clear hcall
   go_wp2_with (first | (with_reducible refine ld9o rfl _ rfl b (o + j * 9) rfl hrg ?_) | (go_at_call 120; (with_reducible refine hc2.mono ?_); (rintro e w5 ⟨rfl, hJ5, hK5⟩)))
   go_roundw
   case rel => exact ⟨j + 1, by omega, by go_num, by rw [HNX.out, List.length_append, ← Nat.add_assoc]; exact hJ5, hKr.trans ((kp_below hBF).trans hK5)⟩
   case measure => simp [intOf]; omega
  ·obtain rfl : j = nl := by omega
   go_wp2
   go_ret
   rw [List.take_of_length_le (by rw [HN.out]; exact Nat.le_refl _)] at hJr
   exact ⟨rfl, hJr, hKr⟩
theorem tblock_any {l : Nat} {LL : List (Nat × List Tk)} {w0 W : World} {J : Nat → World → Prop} (hK : Tak l LL w0 W J) : ∀ m, TkB l LL w0 W J m := by
 intro m
 induction m with
 | zero =>
  refine block_in hK (fun n K dp k A _ hlen => ?_)
  exfalso
  generalize K.x = x at hlen
  obtain ⟨kk, nm, fr, sec, mu, ex, ar, bd, el⟩ := x
  rw [stL, List.length_cons] at hlen
  omega
 | succ m ih => exact block_in hK (fun n K dp k A h1 h2 h3 h4 h5 h6 h7 h8 => stmt_in hK ih n K dp k A h1 h2 h3 h4 h5 h6 h7 h8)
end
section
open Go Go.ChangeShapes Go.WideShapes Go.ChangeAt Go.RowKit m9
attribute [local go_sem] Oper.semAt_some
theorem tlJ_eq (sec : Bool) (rt : List Xp) (h : rt.length ≤ 1) : tlJ sec rt rt.length = if rt.isEmpty = true then [] else sg [61] :: (secT sec ++ e0T rt) := by
 match rt, h with
 | [], _ => rfl
 | [e], _ => simp [tlJ, e0T]
theorem pm_len (x : Pm) : (pmT x).length ≤ 3 := by
 have := sec_len x.sec
 unfold pmT
 split
 ·simp; omega
 ·split
  ·simp; omega
  ·split <;> simp <;> omega
theorem func_in {l : Nat} {LL : List (Nat × List Tk)} {w0 W : World} {J : Nat → World → Prop} (hK : Tak l LL w0 W J) (n : Nat) (K : Fx) (k : Nat) (A : World)
  (hKi : K.is (fun b => b < w0.heap.size) w0) (hlen : (stsL 1 K.x.bd).length ≤ 900000) (hpb : psB K.x.ps = true) (hrb : rtB K.x.sec K.x.rt = true) (hf : faS K.x.bd) (hd : ndS K.x.bd) (hdr : ∀ x ∈ K.x.rt, x.nodes ≤ 9000) (hL : LnAt LL k (fdL K.x)) (hJ : J k A) (hA : W.heap.size ≤ A.heap.size) :
  CallsIn Fence.wide n Tryz.prog 39 #[.func (.yield l) #[] #[], .agg K.cells.toArray] A fun r A' => r = .returned (.bool true) ∧ J (k + (fdL K.x).length) A' ∧ Kp 5 W.heap.size A A' := by
 have hdd : ∀ k : Nat, (Fence.wide.depth.isSome = true → 1 ≤ k) := room_none
 have hPA := hK.pre k A hJ
 obtain ⟨A1, hA1⟩ : ∃ A1, A.alloc (.cells K.cells.toArray 43) = A1 := ⟨_, rfl⟩
 have hB1 : Below A.heap.size A A1 := by rw [← hA1]; exact aB (Below.refl _ _) _
 have hS1 : HasS K.cells.toArray 43 A.heap.size A1 := by rw [← hA1]; exact HasS.new _ _ _
 obtain ⟨ps, bd, rt, hx, enp, enb, enr, hp, hbd, hr, hP, hBd, hRt⟩ := fx_all hKi
 rw [hx] at hlen hpb hrb hf hd hdr hL ⊢
 simp only at hlen hpb hrb hf hd hdr
 clear hx hKi
 have hfl : fdL ⟨K.nm, ps, bd, K.sec, rt⟩ = (0, hdT ⟨K.nm, ps, bd, K.sec, rt⟩) :: (stsL 1 bd ++ [(0, tlT ⟨K.nm, ps, bd, K.sec, rt⟩)]) := rfl
 rw [hfl] at hL ⊢
 obtain ⟨hL0, hL1⟩ := hL.cons
 obtain ⟨hLb, hL2⟩ := hL1.app
 obtain ⟨hLz, -⟩ := hL2.cons
 have hps : ps.length ≤ 8 := by unfold psB at hpb; rw [Bool.and_eq_true] at hpb; exact of_decide_eq_true hpb.1
 have hrl : rt.length ≤ 1 ∧ ∀ x ∈ rt, mayB 40 x = true := by
  unfold rtB at hrb
  by_cases h0 : rt.length = 0
  ·have : rt = [] := List.length_eq_zero_iff.1 h0
   subst this
   exact ⟨by simp, fun x hx => by simp at hx⟩
  ·rw [if_neg h0, Bool.and_eq_true, List.all_eq_true] at hrb
   exact ⟨Nat.le_of_eq (of_decide_eq_true hrb.1), hrb.2⟩
 have hhd : hdT ⟨K.nm, ps, bd, K.sec, rt⟩ = wdT wFn :: nmT K.nm :: sg [40] :: (comT pmT ps ++ [sg [41], sg [123]]) := rfl
 have htl : tlT ⟨K.nm, ps, bd, K.sec, rt⟩ = sg [125] :: (tlJ K.sec rt rt.length ++ [sg [59]]) := by rw [tlJ_eq _ _ hrl.1]; rfl
 rw [hhd] at hL0
 rw [htl] at hLz
 have hcl := com_len pmT 3 ps (fun x _ => pm_len x)
 have hcl2 : (comT pmT ps).length ≤ 900000 := by have : ps.length * (3 + 1) ≤ 8 * 4 := Nat.mul_le_mul hps (Nat.le_refl _); omega
 have htl2 : (tlJ K.sec rt rt.length).length ≤ 900000 := by
  rw [tlJ_eq _ _ hrl.1]
  match rt, hrl, hdr with
  | [], _, _ => simp
  | [e], h, h2 =>
   have h3 := xp_len (h.2 e (by simp)) (h2 e (by simp))
   have h4 := sec_len K.sec
   simp [e0T]
   omega
 have hP1 : Below w0.heap.size w0 A1 := hPA.trans (hB1.mono hPA.size)
 have hon := fun X (hb : Below w0.heap.size w0 X) => (only_below (S := fun j => w0.heap.size ≤ j) (hb : Below w0.heap.size w0 X) : Only (fun j => w0.heap.size ≤ j) w0 X)
 have hhead := head_any K.nm ps K.mp K.mb K.mr K.np K.cp K.nb K.cb K.nr K.cr K.sec A1.heap.size A1 ((hP.mv (G' := fun b => b < A1.heap.size) (fun b hb => Nat.lt_of_lt_of_le hb hP1.size) (fun b o v hg hc => (hP1.cell (p := ⟨b, o, none⟩) hg).trans hc))) enp.symm (by omega) (wr_self (hK.tb.of hP1)) hcl2
 have htail := fun X (hb : Below w0.heap.size w0 X) => tail_any K.nm rt K.mp K.mb K.mr K.np K.cp K.nb K.cb K.nr K.cr K.sec X.heap.size X ((hRt.mv (G' := fun b => b < X.heap.size) (fun b hb' => Nat.lt_of_lt_of_le hb' hb.size) (fun b o v hg hc => (hb.cell (p := ⟨b, o, none⟩) hg).trans hc))) enr.symm (by omega) hrl.2 (fun x hx => Nat.le_trans (hdr x hx) (by omega)) (wr_self (hK.tb.of hb)) htl2
 have hbk := fun A3 (h1 : J (k + 1) A3) (h2 : W.heap.size ≤ A3.heap.size) => tblock_any hK 900000 (n - 1) bd K.mb K.nb K.cb 1 (k + 1) A3 enb.symm hlen hf hd hBd hbd hLb h1 h2 (by omega)
 rw [show ((1 : Nat) : Int) = 1 from rfl] at hbk
 clear enp enb enr hp hbd hr hon hcl hcl2 htl2 hrl hps hdr hrb hpb hf hd hP hRt hBd hL hL1 hL2 hLb hfl hhd htl hPA
 obtain ⟨K0, K1, K2, K3, K4, K5, K6, K7, K8, K9, K10, K11⟩ := K
 simp only [Fx.cells] at *
 have hrow : ∀ X, HasS #[.string (str K0), .slice K1 K2 K3, .slice K4 K5 K6, .bool K7, .slice K8 K9 K10] 43 A.heap.size X → X.cell? ⟨A.heap.size, 0, none⟩ = some (.string (str K0)) ∧ X.cell? ⟨A.heap.size, 1, none⟩ = some (.slice K1 K2 K3) ∧ X.cell? ⟨A.heap.size, 2, none⟩ = some (.slice K4 K5 K6) ∧ X.cell? ⟨A.heap.size, 3, none⟩ = some (.bool K7) ∧ X.cell? ⟨A.heap.size, 4, none⟩ = some (.slice K8 K9 K10) ∧ A.heap.size < X.heap.size := fun X h => ⟨h.cell 0, h.cell 1, h.cell 2, h.cell 3, h.cell 4, h.lt⟩
 obtain ⟨t0, t1, t2, t3, t4, tl⟩ := hrow A1 hS1
 refine callsIn_of_wp Tryz.func39 rfl trivial ?_
 simp only [Tryz.ntmps39, List.size_toArray, List.length_cons, List.length_nil, Nat.reduceAdd, Nat.reduceSub, Array.replicate_succ, Array.replicate_zero, List.push_toArray, List.append_toArray, List.nil_append, List.cons_append]
 gi_wp2_with (first | (refine ⟨trivial, hdd _, ?_⟩; gi_at_call 65; (with_reducible refine (callsIn_wide.2 hhead).mono ?_); clear hhead t0 t1 t2 t3 t4; rintro e A2 ⟨l2, rfl, hT2⟩; have hB2 : Below A1.heap.size A1 A2 := hT2.only.below (fun j hj => (nil_own j hj).elim) (Nat.le_refl _); have hB02 := hB1.trans (hB2.mono hB1.size); have hO2 := own_base (Nat.zero_le _) hT2.own; (obtain ⟨fn, tmps, assign, body, hy, hR⟩ := hK.y (n - 1) k 0 _ l2 A2 (hK.to hJ hB02) hL0 hO2 (Nat.le_trans hA hB02.size)); (rw [show ((0 : Nat) : Int) = 0 from rfl] at hy); have hS2 := hS1.below hB2) | (refine ⟨hdd _, ?_⟩; refine (round_any hR).mono ?_; clear hR hy; rintro e A3 ⟨rfl, hJ3, hK3⟩; have hA3 := Nat.le_trans (Nat.le_trans hA hB02.size) hK3.size; have hS3 := hS2.kp hK3 hA (by decide); (obtain ⟨-, -, c2, -, -, cl3⟩ := hrow A3 hS3); have hb3 := hbk A3 hJ3 hA3; clear hbk) | (refine ⟨trivial, hdd _, ?_⟩; gi_at_call 66; (with_reducible refine hb3.mono ?_); clear hb3 c2; rintro e A4 ⟨rfl, hJ4, hK4⟩; have hA4 := Nat.le_trans hA3 hK4.size; have hS4 := hS3.kp hK4 hA (by decide); (obtain ⟨d0, d1, d2, d3, d4, dl⟩ := hrow A4 hS4); have ht4 := htail A4 (hK.pre _ _ hJ4); clear htail) | (refine ⟨trivial, hdd _, ?_⟩; gi_at_call 67; (with_reducible refine (callsIn_wide.2 ht4).mono ?_); clear ht4 d0 d1 d2 d3 d4; rintro e A5 ⟨l5, rfl, hT5⟩; have hB5 : Below A4.heap.size A4 A5 := hT5.only.below (fun j hj => (nil_own j hj).elim) (Nat.le_refl _); have hO5 := own_base (Nat.zero_le _) hT5.own; (obtain ⟨fn2, tmps2, assign2, body2, hy2, hR2⟩ := hK.y (n - 1) _ 0 _ l5 A5 (hK.to hJ4 hB5) hLz hO5 (Nat.le_trans hA4 hB5.size)); (rw [show ((0 : Nat) : Int) = 0 from rfl] at hy2)) | (refine ⟨hdd _, ?_⟩; refine (round_any hR2).mono ?_; clear hR2 hy2; rintro e A8 ⟨rfl, hJ8, hK8⟩))
 go_ret
 refine ⟨rfl, ?_, (kp_below hB02).trans (hK3.trans (hK4.trans ((kp_below hB5).trans hK8)))⟩
 have he : k + 1 + (stsL 1 bd).length + 1 = k + ((stsL 1 bd).length + 1 + 1) := by omega
 rw [he] at hJ8
 first | exact hJ8 | simpa using hJ8
end
section
open Go Go.ChangeShapes Go.WideShapes Go.ChangeAt Go.RowKit m9
def Fd.sh (f : Fd) : Prop := psB f.ps = true ∧ rtB f.sec f.rt = true ∧ faS f.bd ∧ ndS f.bd ∧ (∀ x ∈ f.rt, x.nodes ≤ 9000) ∧ (stsL 1 f.bd).length ≤ 900000
def RelL (LL : List (Nat × List Tk)) (k : Nat) (x : Int × Value) (A : World) : Prop := ∃ d T, LL[k]? = some (d, T) ∧ x.1 = ((d : Nat) : Int) ∧ A.ownsRow 0 95 4 x.2 (zs T).length (cellsZ (zs T))
theorem own_ck {A A' : World} {B n : Nat} {e : TypeId} {size : Nat} {v : Value} {xs : List Value} (h : A.ownsRow B e size v n xs) (hc : Ck A A') : A'.ownsRow B e size v n xs := by
 refine ⟨h.1, ?_⟩
 rcases h.2 with h0 | ⟨g, cap, cur, hv, hg, hh, hr⟩
 ·exact Or.inl h0
 ·exact Or.inr ⟨g, cap, cur, hv, hg, hc _ _ _ _ hh, hr⟩
theorem relL_ck {LL : List (Nat × List Tk)} {k : Nat} {x : Int × Value} {A A' : World} (h : RelL LL k x A) (hc : Ck A A') : RelL LL k x A' := by
 obtain ⟨d, T, h1, h2, h3⟩ := h
 exact ⟨d, T, h1, h2, own_ck h3 hc⟩
theorem pgL_take (l : List Fd) (j : Nat) (h : j < l.length) : pgL (l.take (j + 1)) = pgL (l.take j) ++ fdL l[j] := by
 unfold pgL
 rw [List.take_succ_eq_append_getElem h, List.flatMap_append]
 simp
theorem pgL_split (l : List Fd) (j : Nat) (h : j < l.length) : ∃ L, pgL l = pgL (l.take j) ++ (fdL l[j] ++ L) := by
 refine ⟨pgL (l.drop (j + 1)), ?_⟩
 rw [← List.append_assoc, ← pgL_take l j h]
 unfold pgL
 rw [← List.flatMap_append, List.take_append_drop]
theorem fx_range {K : Fx} {w : World} {b o : Nat} (h : ∀ r u, K.cells[r]? = some u → w.cell? ⟨b, o + r, none⟩ = some u) : w.cell? ⟨b, o, none⟩ = some (.string (str K.nm)) ∧ w.cell? ⟨b, o + 1, none⟩ = some (.slice K.mp K.np K.cp) ∧ w.cell? ⟨b, o + 2, none⟩ = some (.slice K.mb K.nb K.cb) ∧ w.cell? ⟨b, o + 3, none⟩ = some (.bool K.sec) ∧ w.cell? ⟨b, o + 4, none⟩ = some (.slice K.mr K.nr K.cr) :=
 ⟨h 0 _ rfl, h 1 _ rfl, h 2 _ rfl, h 3 _ rfl, h 4 _ rfl⟩
theorem lines_seq (l : List Fd) (ma : Option Addr) (nl cap c : Nat) (w0 : World) (hTb : Tb w0) (hSw : SwOk w0) (hF : FdsAt (fun b => b < w0.heap.size) w0 l ma) (hn : l.length = nl) (hln : nl ≤ 140737488355328) (hok : ∀ f ∈ l, f.sh) (n : Nat) :
  SeqR 5 n Tryz.prog 38 #[.pointer (some ⟨c, 0, none⟩)] (fun x : Int × Value => #[.int .i64 x.1, x.2]) (RelL (pgL l)) (pgL l).length (fun A => Below w0.heap.size w0 A ∧ A.cell? ⟨c, 0, none⟩ = some (.slice ma nl cap)) := by
 intro lq J W ⟨hP, hc⟩ hJP hJK hY h0
 have hK : Tak lq (pgL l) w0 W J := ⟨fun k A h => (hJP k A h).1, hJK, fun m k d T v A hJ hLL ho hA => yield_any m (hY k (((d : Nat) : Int), v) A hJ ⟨d, T, hLL, rfl, ho⟩ (List.getElem?_eq_some_iff.1 hLL).1 hA), hTb, hSw, hP.size⟩
 have HK := Lib.hid hK
 have HN := Lib.hid hn
 have HF := Lib.hid hF
 have HOK := Lib.hid hok
 have hcl : c < W.heap.size := World.block_lt_of_cell? W _ hc
 clear hK hn hF hok hJP hJK hY
 refine callsIn_wide.2 ?_
 show Calls _ _ #[.func (.yield lq) #[] #[], .pointer (some ⟨c, 0, none⟩)] _ _
 go_enter Tryz.func38, Tryz.ntmps38
 go_wp2
 go_loopw [8] (fun i wr => ∃ j : Nat, j ≤ nl ∧ i = .int .i64 j ∧ J (pgL (l.take j)).length wr ∧ W.heap.size ≤ wr.heap.size) (fun i _ => nl - (intOf i).toNat)
 case atStart => exact ⟨0, by omega, rfl, by simpa [pgL] using h0, Nat.le_refl _⟩
 case round =>
  obtain ⟨j, hj, rfl, hJr, hWr⟩ := hrel
  by_cases hlt : j < nl
  ·have hlt' : j < l.length := by rw [HN.out]; exact hlt
   have hPr := HK.out.pre _ _ hJr
   obtain ⟨b, o, K, rfl, hbG, hKx, hKi, hcells⟩ := HF.out j hlt'
   obtain ⟨g0, g1, g2, g3, g4⟩ := fx_range (K := K) (b := b) (o := o + j * 5) (w := wr) (fun r u hu => (hPr.cell (p := ⟨b, o + j * 5 + r, none⟩) hbG).trans (hcells r u hu))
   have hbw : b < wr.heap.size := Nat.lt_of_lt_of_le hbG hPr.size
   obtain ⟨L2, hsp⟩ := pgL_split l j hlt'
   have hLx : LnAt (pgL l) 0 (pgL l) := fun i x hx => by rw [Nat.zero_add]; exact hx
   conv at hLx => arg 3; rw [hsp]
   have hLj := (hLx.app.2).app.1
   have hnx := pgL_take l j hlt'
   obtain ⟨k1, k2, k3, k4, k5, k6⟩ := HOK.out _ (List.getElem_mem hlt')
   rw [← hKx] at hLj hnx k1 k2 k3 k4 k5 k6
   rw [Nat.zero_add] at hLj
   have hcall := fun wF (hbF : Below wr.heap.size wr wF) => callsIn_wide.1 (func_in HK.out n K _ wF hKi k6 k1 k2 k3 k4 k5 hLj (HK.out.to hJr hbF) (Nat.le_trans hWr hbF.size))
   have HNX := Lib.hid hnx
   clear hLx hsp hLj hnx hKi hcells hKx hPr k1 k2 k3 k4 k5 k6
   obtain ⟨K0, K1, K2, K3, K4, K5, K6, K7, K8, K9, K10, K11⟩ := K
   simp only [Fx.cells] at *
   obtain ⟨W1, hW1⟩ : ∃ W1, wr.alloc (.cells #[.string (str K0), .slice K1 K2 K3, .slice K4 K5 K6, .bool K7, .slice K8 K9 K10] 43) = W1 := ⟨_, rfl⟩
   have hBF : Below wr.heap.size wr W1 := by rw [← hW1]; exact aB (Below.refl _ _) _
   have hF1 : rowG #[.string (str K0), .slice K1 K2 K3, .slice K4 K5 K6, .bool K7, .slice K8 K9 K10] W1 wr.heap.size := by rw [← hW1]; exact rowG_at _ _ _ _ rfl
   have hc2 := hcall W1 hBF
   obtain ⟨z0, z1, z2, z3, z4, zf, zl⟩ := fiveF hF1
   clear hcall
   go_wp2_with (go_at_call 39; (with_reducible refine hc2.mono ?_); (rintro e w5 ⟨rfl, hJ5, hK5⟩))
   go_roundw
   case rel => exact ⟨j + 1, by omega, by go_num, by rw [HNX.out, List.length_append]; exact hJ5, Nat.le_trans hWr (Nat.le_trans hBF.size hK5.size)⟩
   case measure => simp [intOf]; omega
  ·obtain rfl : j = nl := by omega
   go_wp2
   go_end0
   rw [List.take_of_length_le (by rw [HN.out]; exact Nat.le_refl _)] at hJr
   exact ⟨⟨_, rfl⟩, hJr⟩
theorem lines_any (m : Option Addr) (n cap : Nat) (w : World) : Calls Tryz.prog 19 #[.agg #[.slice m n cap]] w fun e w' => e = .returned (.func (.func 38) #[] #[.pointer (some ⟨w.heap.size, 0, none⟩)]) ∧ w' = w.alloc (.cells #[.slice m n cap] 24) := by
 go_enter Tryz.func19, Tryz.ntmps19
 go_wp2
 go_ret
 exact ⟨rfl, rfl⟩
end
end Go.Proofs.YtkibkaoffgnmkaaGreatDoor
