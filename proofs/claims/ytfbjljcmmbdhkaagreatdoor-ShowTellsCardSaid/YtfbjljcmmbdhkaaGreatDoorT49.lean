/- The document's Show: programs. -/
import Derived.Test.YtfbjljcmmbdhkaaGreatDoorT47
import Derived.Test.YtfbjljcmmbdhkaaGreatDoorT34
import Derived.Test.YtfbjljcmmbdhkaaGreatDoorT39
namespace Go.Proofs.YtfbjljcmmbdhkaaGreatDoor
set_option linter.unusedVariables false
set_option linter.unusedSimpArgs false
set_option maxRecDepth 100000
set_option maxHeartbeats 200000000
open Go.ChangeShapes Go.WideShapes Go.ChangeAt Go.RowKit
theorem rshoT_take (l : List Fd) (j : Nat) (h : j < l.length) : rshoT (l.take (j + 1)) = rshoT (l.take j) ++ rfdT l[j] := by
 unfold rshoT
 rw [List.take_succ_eq_append_getElem h, List.flatMap_append]
 simp
theorem rshoT_split (l : List Fd) (j : Nat) (h : j < l.length) : (rshoT (l.take j)).length + (rfdT l[j]).length ≤ (rshoT l).length := by
 have h1 := rshoT_take l j h
 have h2 : rshoT l = rshoT (l.take (j + 1)) ++ rshoT (l.drop (j + 1)) := by
  unfold rshoT
  rw [← List.flatMap_append, List.take_append_drop]
 rw [h2, h1, List.length_append, List.length_append]
 omega
def FdOk (f : Fd) : Prop := psB f.ps = true ∧ rtB f.sec f.rt = true ∧ faS f.bd ∧ ndS f.bd ∧ (∀ x ∈ f.rt, x.nodes ≤ 9000) ∧ (stsL 1 f.bd).length ≤ 900000 ∧ f.nb
theorem sl_eq {B : Nat} {a b : World} {l l' : Value} {T T' : List (List UInt8)} (h : Sl B a b l l' T) (e : T' = T) : Sl B a b l l' T' := e ▸ h
theorem HasS.row {C : Array Value} {t : TypeId} {k : Nat} {w : World} (h : HasS C t k w) : ∀ i (hi : i < C.size), w.cell? ⟨k, i, none⟩ = some C[i] := fun i hi => by rw [h.cell i]; simp [hi]
theorem rshow_any (l : List Fd) (hok : ∀ f ∈ l, FdOk f) (hlen : (rshoT l).length ≤ 40000000000) (hl : l.length ≤ 140737488355328) (ma : Option Addr) (cap : Nat) (w : World) (hF : FdsAt (fun b => b < w.heap.size) w l ma) :
 Calls Tryz.prog 13 #[.agg #[.slice ma l.length cap]] w fun r w' => r = .returned (.string (str (rshoT l))) ∧ Below w.heap.size w w' := by
 have HF := Lib.hid hF
 have HOK := Lib.hid hok
 have HLN := Lib.hid hlen
 obtain ⟨N, hN⟩ : ∃ N, N = l.length := ⟨_, rfl⟩
 rw [← hN] at hl ⊢
 have HN := Lib.hid hN
 clear hF hok hlen hN
 obtain ⟨W, hW⟩ : ∃ W, w.alloc (.cells #[.slice ma N cap] 24) = W := ⟨_, rfl⟩
 have hBW : Below w.heap.size w W := by rw [← hW]; exact aB (Below.refl _ _) _
 have hrW : rowG #[.slice ma N cap] W w.heap.size := by rw [← hW]; exact rowG_at _ _ _ _ rfl
 obtain ⟨W2, hW2⟩ : ∃ W2, W.alloc (.cells #[.string ⟨#[]⟩] 76) = W2 := ⟨_, rfl⟩
 have hB2 : Below W.heap.size W W2 := by rw [← hW2]; exact aB (Below.refl _ _) _
 have hp2 : rowG #[.string (str [])] W2 W.heap.size := by rw [← hW2]; exact rowG_at _ _ _ _ rfl
 have hr2 := rowG_b hrW hB2
 have hBw2 := tr hBW hB2
 obtain ⟨pb, hpb⟩ : ∃ pb, pb = W.heap.size := ⟨_, rfl⟩
 have hwp : w.heap.size < pb := by rw [hpb]; exact hrW.2.2
 rw [← hpb] at hp2
 go_enter Tryz.func13, Tryz.ntmps13
 go_wp2
 rw [← hpb]
 clear hW hW2 hB2 hBW hrW hpb
 go_loopw [4] (fun iv wr => ∃ (j : Nat) (X : List UInt8), j ≤ N ∧ iv = .int .i64 (j : Int) ∧ rowG #[.string (str X)] wr pb ∧ Only (fun j => j = pb) W2 wr ∧ Hid (X = rshoT (l.take j))) (fun iv _ => N - (intOf iv).toNat)
 case atStart => exact ⟨0, [], Nat.zero_le _, rfl, hp2, Only.refl _ _, Lib.hid (by simp [rshoT])⟩
 case round =>
  obtain ⟨j, X, hj, rfl, hrr, hO, HX⟩ := hrel
  have hBr : Below w.heap.size w wr := hBw2.trans (hO.below (fun j hj => by rw [hj]; exact Nat.le_of_lt hwp) hBw2.size)
  have hrp := rowG_only hr2 hO (by omega)
  have hpl := hrr.2.2
  by_cases hlt : j < N
  ·have hlt' : j < l.length := by rw [← HN.out]; exact hlt
   obtain ⟨b, o, K, hma, hbG, hKx, hKi, hcells⟩ := HF.out j hlt'
   subst hma
   obtain ⟨ps, bd, rt, hx, enp, enb, enr, hnp, hnb, hnr, hP, hBd, hRt⟩ := fx_all hKi
   have hcl := fun r u hu => (hBr.cell (p := ⟨b, o + j * 5 + r, none⟩) hbG).trans (hcells r u hu)
   obtain ⟨k1, k2, k3, k4, k5, k6, k7⟩ := HOK.out _ (List.getElem_mem hlt')
   have htk := rshoT_take l j hlt'
   have hsp := rshoT_split l j hlt'
   rw [← hKx, hx] at k1 k2 k3 k4 k5 k6 k7 htk hsp
   simp only at k1 k2 k3 k4 k5 k6 k7
   clear hKx hx hKi
   obtain ⟨K0, K1, K2, K3, K4, K5, K6, K7, K8, K9, K10, K11⟩ := K
   simp only at *
   have HENP := Lib.hid enp
   have HENB := Lib.hid enb
   have HENR := Lib.hid enr
   clear enp enb enr
   have g0 := hcl 0 _ rfl; have g1 := hcl 1 _ rfl; have g2 := hcl 2 _ rfl; have g3 := hcl 3 _ rfl; have g4 := hcl 4 _ rfl
   simp only [Nat.add_zero] at g0
   have hbw : b < wr.heap.size := Nat.lt_of_lt_of_le hbG hBr.size
   have hp8 : ps.length ≤ 8 := by unfold psB at k1; rw [Bool.and_eq_true] at k1; exact of_decide_eq_true k1.1
   have hpr := psR_len ps
   clear hcl hcells
   have hrf : rfdT ⟨K0, ps, bd, K7, rt⟩ = rlnT 0 ([wFn, K0, [40]] ++ psR ps ++ [[41], [123]]) ++ (rssT 1 bd ++ rlnT 0 (ftR ⟨K0, ps, bd, K7, rt⟩)) := by
    show rlnT 0 (fhR ⟨K0, ps, bd, K7, rt⟩) ++ _ = _
    rw [show fhR ⟨K0, ps, bd, K7, rt⟩ = [wFn, K0, [40]] ++ psR ps ++ [[41], [123]] from by simp [fhR]]
   obtain ⟨FH, hFH⟩ : ∃ FH, FH = [wFn, K0, [40]] ++ psR ps ++ [[41], [123]] := ⟨_, rfl⟩
   obtain ⟨FT, hFT⟩ : ∃ FT, FT = ftR ⟨K0, ps, bd, K7, rt⟩ := ⟨_, rfl⟩
   rw [← hFH, ← hFT] at hrf
   rw [hrf] at htk hsp
   have hXl : X.length + (rlnT 0 FH).length + (rssT 1 bd).length + (rlnT 0 FT).length ≤ 40000000000 := by
    have h1 := HLN.out
    have h2 := HX.out
    rw [← h2] at hsp
    simp only [List.length_append] at hsp
    omega
   have HTK := Lib.hid htk
   have HFT := Lib.hid hFT
   clear htk hsp hrf hFT
   -- the function, boxed
   obtain ⟨W3, hW3⟩ : ∃ W3, wr.alloc (.cells #[.string (str K0), .slice K1 K2 K3, .slice K4 K5 K6, .bool K7, .slice K8 K9 K10] 43) = W3 := ⟨_, rfl⟩
   have hB3 : Below wr.heap.size wr W3 := by rw [← hW3]; exact aB (Below.refl _ _) _
   have hS3 : HasS #[.string (str K0), .slice K1 K2 K3, .slice K4 K5 K6, .bool K7, .slice K8 K9 K10] 43 wr.heap.size W3 := by rw [← hW3]; exact HasS.new _ _ _
   have hr3 := rowG_b hrr hB3
   have hBw3 := tr hBr hB3
   have hp3 : pb < W3.heap.size := hr3.2.2
   have hfb := hS3.lt
   have v0 : wr.cell? ⟨w.heap.size, 0, none⟩ = some (.slice (some ⟨b, o, none⟩) N cap) := hrp.1 0 (by simp)
   have vl := hrp.2.2
   go_wp2
   have hFi : ∀ w', Below W3.heap.size W3 w' → w'.cell? ⟨wr.heap.size, 0, none⟩ = some (.string (str K0)) ∧ w'.cell? ⟨wr.heap.size, 1, none⟩ = some (.slice K1 K2 K3) := fun w' h => ⟨(hS3.below h).cell 0, (hS3.below h).cell 1⟩
   have hv0 : Below W3.heap.size W3 W3.drew := ⟨rfl, rfl, rfl, Nat.le_refl _, fun _ _ => rfl⟩
   refine region_KN (fun w' => Below W3.heap.size W3 w') (by kernel_rfl) ?_
   have q : Pq [0, 1, 3, 4] := trivial
   iterate 4
    refine tkN q rfl (by kernel_rfl) hv0 fun K hK => ?_
    replace q := q.tl
    apply Exists.intro
    refine ⟨Or.inl ⟨by kernel_rfl, fun w' hf => ?_⟩, ?_⟩
    ·obtain ⟨s0, s1⟩ := hFi _ hf
     go_simp
     try exact rfl
    go_simp
    refine hK _ ?_
    clear hK K
   clear hFi q
   have hpm := fun v (hv : Below W3.heap.size W3 v) => rparams_any ps K1 K2 K3 v HENP.out.symm (by have := HENP.out; omega) (hP.mv (fun b hb => Nat.lt_of_lt_of_le hb (tr hBw3 hv).size) (fun b o u hb hc => ((tr hBw3 hv).cell (p := ⟨b, o, none⟩) hb).trans hc))
   apply wpAnyK_two (k1 := 2) (k2 := 5) (by kernel_rfl)
   case' h1 =>
    refine wpOp_step rfl (fun K hK => ?_)
    go_simp
    have hv1 := aB hv0 (.cells (strC [wFn, K0, [40]]).toArray 9)
    refine hK _ _ ⟨hv1, ?_⟩
    clear hK K
    have hob := own_strs W3.drew W3.heap.size (Nat.le_refl _) [wFn, K0, [40]] 3 rfl (by decide)
    refine wpAnyK_one (k := 5) (by kernel_rfl) ?_
    refine wpOp_step rfl (fun K hK => ?_)
    go_simp
    go_at_call 29
    refine (hpm _ hv1).mono ?_
    rintro r v2 ⟨l2, rfl, hSp⟩
    have hbp : Below _ _ v2 := hSp.only.below (fun j hj => by cases hj) (Nat.le_refl _)
    have hv2 := tr hv1 hbp
    obtain ⟨m2, c2, rfl⟩ := row_form hSp.own
    have hl2 := strs_own hSp.own rfl
    have ho2 := own_of hob hbp
    refine hK _ _ ⟨hv2, ?_⟩
    clear hK K hSp hbp hob hv1
   case' h2 =>
    refine wpOp_step rfl (fun K hK => ?_)
    go_simp
    go_at_call 29
    refine (hpm _ hv0).mono ?_
    rintro r v1 ⟨l2, rfl, hSp⟩
    have hbp : Below _ _ v1 := hSp.only.below (fun j hj => by cases hj) (Nat.le_refl _)
    have hv1 := tr hv0 hbp
    obtain ⟨m2, c2, rfl⟩ := row_form hSp.own
    have hl1 := strs_own hSp.own rfl
    refine hK _ _ ⟨hv1, ?_⟩
    clear hK K
    refine wpAnyK_one (k := 2) (by kernel_rfl) ?_
    refine wpOp_step rfl (fun K hK => ?_)
    go_simp
    have hv2 := aB hv1 (.cells (strC [wFn, K0, [40]]).toArray 9)
    refine hK _ _ ⟨hv2, ?_⟩
    have ho2 := own_strs v1 W3.heap.size hv1.size [wFn, K0, [40]] 3 rfl (by decide)
    have hl2 := hl1.mv (G' := fun _ => True) (fun b h => trivial) (fun b o u h hc => stay (aB (Below.refl v1.heap.size v1) (.cells (strC [wFn, K0, [40]]).toArray 9)) hc)
    clear hK K hSp hbp hl1
   all_goals
    refine wpAnyK_one (k := 6) (by kernel_rfl) ?_
    refine wpOp_step rfl (fun K hK => ?_)
    refine stSlR rfl _ _ rfl W3.heap.size _ [wFn, K0, [40]] (psR ps) _ _ _ rfl rfl hl2 ho2 (by simp only [List.length_cons, List.length_nil]; omega) hv2.size ?_
    intro l4 V4 hS4
    have hv4 : Below W3.heap.size W3 V4 := hv2.trans (hS4.only.below (fun j hj => by cases hj; first | exact Nat.le_refl _ | exact hv1.size) hv2.size)
    have ho4 := hS4.own
    refine hK _ _ ⟨hv4, ?_⟩
    clear hK K
    refine wpAnyK_one (k := 7) (by kernel_rfl) ?_
    refine wpOp_step rfl (fun K hK => ?_)
    go_simp
    refine hK _ _ ⟨hv4, ?_⟩
    clear hK K
    refine wpAnyK_done (by kernel_rfl) ⟨rfl, ?_⟩
    clear hS4 hl2 ho2 hpm hv2
    have hlb : ∀ j, l4.ownBlock = some j → W3.heap.size ≤ j := fun j hj => (own_lt ho4 hj).1
    obtain ⟨T4, hT4⟩ : ∃ T4, T4 = [wFn, K0, [40]] ++ psR ps := ⟨_, rfl⟩
    have hT4l : T4.length ≤ 50 := by rw [hT4, List.length_append]; simp only [List.length_cons, List.length_nil]; omega
    rw [← hT4] at ho4 hFH
    clear hT4
    have HFH := Lib.hid hFH
    clear hFH
    go_wp2_with (at_builtin; refine wpSl rfl _ _ rfl W3.heap.size l4 T4 [[41], [123]] _ 2 2 V4.heap.size rfl rfl (ho4.alloc _) rfl rfl (news_ok (strC [[41], [123]]) 9 V4) (by decide) (by omega) (Nat.le_trans hv4.size (by simp)) ?_)
    intro g5 cap5 V5 hS5 ho5 hg5
    replace hS5 : Sl W3.heap.size (V4.alloc (.cells #[.string ⟨#[41]⟩, .string ⟨#[123]⟩] 9)) V5 l4 (.slice (some ⟨g5, 0, none⟩) (T4.length + 2) cap5) FH := by rw [HFH.out]; exact hS5
    have hfl : FH.length = T4.length + 2 := by rw [HFH.out]; simp
    have hfl2 : FH.length ≤ 100 := by omega
    have hv5 : Below W3.heap.size W3 V5 := hv4.trans ((hS5.pre (aB (Below.refl _ _) _)).only.below (fun j hj => hlb j hj) hv4.size)
    have hst5 := strs_own (a := some ⟨g5, 0, none⟩) (M := FH.length) (c := cap5) (l := FH) (w := V5) (B := W3.heap.size) (by have := hS5.own; rw [← hfl] at this; exact this) rfl
    have hr5 := rowG_b hr3 hv5
    have hj1 := jn_le_rln 0 FH
    have hln := rline_any X 0 FH pb _ (some ⟨g5, 0, none⟩) cap5 V5 hr5 hfl (strs_pen hst5 hp3) (by omega) (by omega) (by omega)
    rw [show ((0 : Nat) : Int) = 0 from rfl] at hln
    clear hS5 ho5 hg5 ho4
    -- the head's line
    have hrtl : rt = [] ∨ ∃ e, rt = [e] ∧ mayB 40 e = true := by
     unfold rtB at k2
     match rt, k2 with
     | [], _ => exact .inl rfl
     | [e], h => exact .inr ⟨e, rfl, by simpa using h⟩
     | e :: f :: r, h => simp at h
    rcases hrtl with rfl | ⟨e, rfl, hme⟩
    ·have n0 : ¬ (0 : Int) < (K9 : Int) := by rw [HENR.out]; simp
     go_wp2_with (first | (go_at_call 30; ((with_reducible refine hln.mono ?_); clear hln; (rintro r v6 ⟨rfl, hr6, hO6⟩); have hO6b := (only_below (S := fun j => j = pb) hv5).trans hO6; have hS6 := hS3.onlyS hO6b (by omega); have hB6 : Below w.heap.size w v6 := hBw3.trans (hO6b.below (fun j hj => by rw [hj]; exact Nat.le_of_lt hwp) hBw3.size); have u2 : v6.cell? ⟨wr.heap.size, 2, none⟩ = some (.slice K4 K5 K6) := hS6.cell 2; have ul := hS6.lt; have hst := smp_any w pb (Nat.le_of_lt hwp) 900000 bd K4 K5 K6 1 _ v6 HENB.out.symm k6 k3 k4 k7.1 hBd hnb hB6 hr6 (by decide) (by rw [List.length_append]; omega); (rw [show ((1 : Nat) : Int) = 1 from rfl] at hst))) | (go_at_call 31; ((with_reducible refine hst.mono ?_); clear hst u2 ul; (rintro r v7 ⟨rfl, hr7, hO7⟩); have hO7b := hO6b.trans hO7; have hS7 := hS3.onlyS hO7b (by omega); obtain ⟨W8, hW8⟩ : ∃ W8, v7.alloc (.cells #[.string ⟨#[125]⟩] 9) = W8 := ⟨_, rfl⟩; have hB8 : Below v7.heap.size v7 W8 := (by rw [← hW8]; exact aB (Below.refl _ _) _); have hS8 := hS7.below hB8; have u4 : W8.cell? ⟨wr.heap.size, 4, none⟩ = some (.slice K8 K9 K10) := hS8.cell 4; have ul := hS8.lt; have ho8 : W8.ownsRow W3.heap.size 9 1 (.slice (some ⟨v7.heap.size, 0, none⟩) 1 1) 1 (strC [[125]]) := (by rw [← hW8]; exact own_strs v7 _ hO7b.size [[125]] 1 rfl (by decide)); have hO8s : W3.heap.size ≤ W8.heap.size := Nat.le_trans hO7b.size hB8.size)) | (at_builtin; refine wpSl rfl _ _ rfl W3.heap.size (.slice (some ⟨v7.heap.size, 0, none⟩) 1 1) [[125]] [[59]] 1 1 1 W8.heap.size rfl rfl (ho8.alloc _) rfl rfl (news_ok (strC [[59]]) 9 W8) (by decide) (by decide) (Nat.le_trans hO8s (by simp)) ?_))
     intro g9 cap9 V9 hS9 ho9 hg9
     have hr8 := rowG_b hr7 hB8
     have hO8 := hO7b.trans (only_below hB8)
     have hBw8 : Below w.heap.size w W8 := hBw3.trans (hO8.below (fun j hj => by rw [hj]; exact Nat.le_of_lt hwp) hBw3.size)
     have h78 : W3.heap.size ≤ v7.heap.size := hO7b.size
     have h8p : pb < v7.heap.size := Nat.lt_of_lt_of_le hp3 h78
     have hHX : X ++ rlnT 0 FH ++ rssT 1 bd ++ rlnT 0 FT = rshoT (l.take (j + 1)) := by rw [HTK.out, ← HX.out]; simp only [List.append_assoc]
     have HHX := Lib.hid hHX
     have hjt := jn_le_rln 0 FT
     clear hHX hB8 hO7b hO7 hO6b hO6 hS7 hS6 hr7 hr6 hB6
     have hFTe : FT = [[125]] ++ [[59]] := by rw [HFT.out]; rfl
     replace hS9 := sl_eq hS9 hFTe
     have hz9 := hS9.pre (aB (Below.refl W8.heap.size W8) _)
     have hr9 := rowG_only hr8 hz9.only (fun e => by simp only [Value.ownBlock, Option.some.injEq] at e; omega)
     have hft : FT.length = 1 + 1 := by rw [hFTe]; rfl
     have hst9 := strs_own (a := some ⟨g9, 0, none⟩) (M := FT.length) (c := cap9) (l := FT) (w := V9) (B := W3.heap.size) (by have := hS9.own; rw [hft] at this ⊢; exact this) rfl
     have hlz := rline_any _ 0 FT pb _ (some ⟨g9, 0, none⟩) cap9 V9 hr9 hft (strs_pen hst9 hp3) (by decide) (by decide) (by simp only [List.length_append]; omega)
     rw [show ((0 : Nat) : Int) = 0 from rfl] at hlz
     have hB9 : Below w.heap.size w V9 := hBw8.trans (hz9.only.below (fun j hj => by cases hj; exact Nat.le_trans hBw3.size h78) hBw8.size)
     have hO9 : Only (fun j => j = pb) W3 V9 := hO8.old hz9.only (fun j hj => by cases hj; exact .inr h78)
     go_wp2_with (go_at_call 30; ((with_reducible refine hlz.mono ?_); clear hlz; (rintro r v10 ⟨rfl, hr10, hO10⟩)))
     go_roundw
     case rel => exact ⟨j + 1, _, by omega, by go_num, hr10, hO.trans ((only_below hB3).trans (hO9.trans hO10)), HHX⟩
     case measure => simp [intOf]; omega
    ·have n0 : (0 : Int) < (K9 : Int) := by rw [HENR.out]; simp
     go_wp2_with (first | (go_at_call 30; ((with_reducible refine hln.mono ?_); clear hln; (rintro r v6 ⟨rfl, hr6, hO6⟩); have hO6b := (only_below (S := fun j => j = pb) hv5).trans hO6; have hS6 := hS3.onlyS hO6b (by omega); have hB6 : Below w.heap.size w v6 := hBw3.trans (hO6b.below (fun j hj => by rw [hj]; exact Nat.le_of_lt hwp) hBw3.size); have u2 : v6.cell? ⟨wr.heap.size, 2, none⟩ = some (.slice K4 K5 K6) := hS6.cell 2; have ul := hS6.lt; have hst := smp_any w pb (Nat.le_of_lt hwp) 900000 bd K4 K5 K6 1 _ v6 HENB.out.symm k6 k3 k4 k7.1 hBd hnb hB6 hr6 (by decide) (by rw [List.length_append]; omega); (rw [show ((1 : Nat) : Int) = 1 from rfl] at hst))) | (go_at_call 31; ((with_reducible refine hst.mono ?_); clear hst u2 ul; (rintro r v7 ⟨rfl, hr7, hO7⟩); have hO7b := hO6b.trans hO7; have hS7 := hS3.onlyS hO7b (by omega); obtain ⟨W8, hW8⟩ : ∃ W8, v7.alloc (.cells #[.string ⟨#[125]⟩] 9) = W8 := ⟨_, rfl⟩; have hB8 : Below v7.heap.size v7 W8 := (by rw [← hW8]; exact aB (Below.refl _ _) _); have hS8 := hS7.below hB8; have u4 : W8.cell? ⟨wr.heap.size, 4, none⟩ = some (.slice K8 K9 K10) := hS8.cell 4; have ul := hS8.lt; have ho8 : W8.ownsRow W3.heap.size 9 1 (.slice (some ⟨v7.heap.size, 0, none⟩) 1 1) 1 (strC [[125]]) := (by rw [← hW8]; exact own_strs v7 _ hO7b.size [[125]] 1 rfl (by decide)); have hO8s : W3.heap.size ≤ W8.heap.size := Nat.le_trans hO7b.size hB8.size)))
     have hr8 := rowG_b hr7 hB8
     have hO8 := hO7b.trans (only_below hB8)
     have hBw8 : Below w.heap.size w W8 := hBw3.trans (hO8.below (fun j hj => by rw [hj]; exact Nat.le_of_lt hwp) hBw3.size)
     have h78 : W3.heap.size ≤ v7.heap.size := hO7b.size
     have h8p : pb < v7.heap.size := Nat.lt_of_lt_of_le hp3 h78
     have hHX : X ++ rlnT 0 FH ++ rssT 1 bd ++ rlnT 0 FT = rshoT (l.take (j + 1)) := by rw [HTK.out, ← HX.out]; simp only [List.append_assoc]
     have HHX := Lib.hid hHX
     have hjt := jn_le_rln 0 FT
     clear hHX hB8 hO7b hO7 hO6b hO6 hS7 hS6 hr7 hr6 hB6
     obtain ⟨rb, ro, rfl⟩ := kids_some hRt (by simp)
     obtain ⟨m0, c0, q0⟩ := kidIn hRt 0 (by simp)
     simp only [Nat.zero_mul, Nat.add_zero, List.getElem_cons_zero] at q0
     have hx0 := rxP_of hme (k5 e (by simp)) (nbL_iff.1 k7.2 e (by simp)) q0.is
     have q8 := q0.of hBw8
     have e9 : K9 = 1 := HENR.out
     subst e9
     have hFTe : FT = [[125], [61]] ++ secR K7 ++ [exR e] ++ [[59]] := by rw [HFT.out]; simp [ftR]
     have hFi : ∀ w', Below W8.heap.size W8 w' → w'.cell? ⟨wr.heap.size, 3, none⟩ = some (.bool K7) ∧ w'.cell? ⟨wr.heap.size, 4, none⟩ = some (.slice (some ⟨rb, ro, none⟩) 1 K10) ∧ w'.cell? ⟨rb, ro, none⟩ = some (.int .u8 (e.k : Int)) ∧ w'.cell? ⟨rb, ro + 1, none⟩ = some (.int .u64 (e.n : Int)) ∧ w'.cell? ⟨rb, ro + 2, none⟩ = some (.string (str e.s)) ∧ w'.cell? ⟨rb, ro + 3, none⟩ = some (.int .u8 (e.o : Int)) ∧ w'.cell? ⟨rb, ro + 4, none⟩ = some (.slice m0 e.l.length c0) ∧ rb < w'.heap.size := fun w' h => ⟨(hS8.below h).cell 3, (hS8.below h).cell 4, (q8.of h).c0, (q8.of h).c1, (q8.of h).c2, (q8.of h).c3, (q8.of h).c4, (q8.of h).lt'⟩
     have hv0 : Below W8.heap.size W8 W8.drew := ⟨rfl, rfl, rfl, Nat.le_refl _, fun _ _ => rfl⟩
     refine region_KN (fun w' => Below W8.heap.size W8 w') (by kernel_rfl) ?_
     have q : Pq [1, 2, 4, 5, 6, 7] := trivial
     iterate 6
      refine tkN q rfl (by kernel_rfl) hv0 fun K hK => ?_
      replace q := q.tl
      apply Exists.intro
      refine ⟨Or.inl ⟨by kernel_rfl, fun w' hf => ?_⟩, ?_⟩
      ·obtain ⟨s3, s4, z0, z1, z2, z3, z4, zl⟩ := hFi _ hf
       go_simp
       try exact rfl
      go_simp
      refine hK _ ?_
      clear hK K
     clear hFi q
     have h8s := hO8.size
     refine wpAnyK_one (k := 0) (by kernel_rfl) ?_
     refine wpOp_step rfl (fun K hK => ?_)
     go_simp
     have hv1 := aB hv0 (.cells (strC [[125], [61]]).toArray 9)
     refine hK _ _ ⟨hv1, ?_⟩
     clear hK K
     have ho1 := own_strs W8.drew W3.heap.size h8s [[125], [61]] 2 rfl (by decide)
     have hcs := rsecret9 K7 W3.heap.size (.slice (some ⟨W8.heap.size, 0, none⟩) 2 2) [[125], [61]] _ ho1 (Nat.le_trans h8s hv1.size) (by simp)
     refine wpAnyK_one (k := 3) (by kernel_rfl) ?_
     refine wpOp_step rfl (fun K hK => ?_)
     go_simp
     go_at_call 32
     refine hcs.mono ?_
     rintro r y2 ⟨l2, rfl, hS2⟩
     have hv2 : Below W8.heap.size W8 y2 := hv1.trans (hS2.only.below (fun j hj => by cases hj; exact Nat.le_refl _) hv1.size)
     refine hK _ _ ⟨hv2, ?_⟩
     clear hK K hcs ho1
     refine wpAnyK_one (k := 8) (by kernel_rfl) ?_
     refine wpOp_step rfl (fun K hK => ?_)
     go_simp
     go_at_call 33
     with_reducible refine (hx0.go _ (tr hBw8 hv2)).mono ?_
     rintro r y3 ⟨rfl, hb3⟩
     have hv3 := tr hv2 hb3
     refine hK _ _ ⟨hv3, ?_⟩
     clear hK K
     refine wpAnyK_one (k := 9) (by kernel_rfl) ?_
     refine wpOp_step rfl (fun K hK => ?_)
     go_simp
     refine hK _ _ ⟨aB hv3 _, ?_⟩
     clear hK K
     refine wpAnyK_one (k := 10) (by kernel_rfl) ?_
     refine wpOp_step rfl (fun K hK => ?_)
     have ho3 := (own_of hS2.own hb3).alloc (.cells (strC [exR e]).toArray 9)
     have hsl := secR_len K7
     refine stSl rfl _ _ rfl W3.heap.size l2 ([[125], [61]] ++ secR K7) [exR e] _ 1 1 y3.heap.size rfl rfl ho3 rfl rfl (news_ok (strC [exR e]) 9 y3) (by decide) (by simp only [List.length_append, List.length_cons, List.length_nil]; omega) (Nat.le_trans h8s (Nat.le_trans hv3.size (by simp))) ?_
     intro g5 cap5' y5 hS5' hg5'
     have hS6' := hS5'.pre (aB (Below.refl _ _) _)
     have hl2 : ∀ j, l2.ownBlock = some j → W8.heap.size ≤ j := fun j hj => (hS2.blk j hj).elim (fun h => by cases h; exact Nat.le_refl _) (fun h => Nat.le_trans hv1.size h)
     have hv5' : Below W8.heap.size W8 y5 := hv3.trans (hS6'.only.below hl2 hv3.size)
     obtain ⟨l5, hl5⟩ : ∃ l5, l5 = Value.slice (some ⟨g5, 0, none⟩) (([[125], [61]] ++ secR K7).length + 1) cap5' := ⟨_, rfl⟩
     rw [← hl5] at hS6' ⊢
     have hb5 : ∀ j, l5.ownBlock = some j → W8.heap.size ≤ j := fun j hj => (hS6'.blk j hj).elim (hl2 j) (fun h => Nat.le_trans hv3.size h)
     obtain ⟨T5, hT5⟩ : ∃ T5, T5 = [[125], [61]] ++ secR K7 ++ [exR e] := ⟨_, rfl⟩
     have hT5l : T5.length ≤ 10 := by rw [hT5]; simp only [List.length_append, List.length_cons, List.length_nil]; omega
     replace hS6' := sl_eq hS6' hT5
     rw [← hT5] at hFTe
     clear hT5
     have ho5' := hS6'.own
     refine hK _ _ ⟨hv5', ?_⟩
     clear hK K hS5' hg5' hl5 hS6' ho3 hS2
     refine wpAnyK_one (k := 11) (by kernel_rfl) ?_
     refine wpOp_step rfl (fun K hK => ?_)
     go_simp
     refine hK _ _ ⟨hv5', ?_⟩
     clear hK K
     refine wpAnyK_done (by kernel_rfl) ⟨rfl, ?_⟩
     go_wp2_with (at_builtin; refine wpSl rfl _ _ rfl W3.heap.size l5 T5 [[59]] _ 1 1 y5.heap.size rfl rfl (ho5'.alloc _) rfl rfl (news_ok (strC [[59]]) 9 y5) (by decide) (by omega) (Nat.le_trans h8s (Nat.le_trans hv5'.size (by simp))) ?_)
     intro g9 cap9 V9 hS9 ho9 hg9
     replace hS9 := sl_eq hS9 hFTe
     have hz9 := hS9.pre (aB (Below.refl y5.heap.size y5) _)
     have hv9 : Below W8.heap.size W8 V9 := hv5'.trans (hz9.only.below hb5 hv5'.size)
     have hr9 := rowG_b hr8 hv9
     have hft : FT.length = T5.length + 1 := by rw [hFTe]; simp
     have hst9 := strs_own (a := some ⟨g9, 0, none⟩) (M := FT.length) (c := cap9) (l := FT) (w := V9) (B := W3.heap.size) (by have := hS9.own; rw [← hft] at this; exact this) rfl
     have hlz := rline_any _ 0 FT pb _ (some ⟨g9, 0, none⟩) cap9 V9 hr9 hft (strs_pen hst9 hp3) (by omega) (by decide) (by simp only [List.length_append]; omega)
     rw [show ((0 : Nat) : Int) = 0 from rfl] at hlz
     go_wp2_with (go_at_call 30; ((with_reducible refine hlz.mono ?_); clear hlz; (rintro r v10 ⟨rfl, hr10, hO10⟩)))
     go_roundw
     case rel => exact ⟨j + 1, _, by omega, by go_num, hr10, hO.trans ((only_below hB3).trans ((hO8.trans (only_below hv9)).trans hO10)), HHX⟩
     case measure => simp [intOf]; omega
  ·obtain rfl : j = N := by omega
   have v0 : wr.cell? ⟨w.heap.size, 0, none⟩ = some (.slice ma j cap) := hrp.1 0 (by simp)
   have vl := hrp.2.2
   have c0 : wr.cell? ⟨pb, 0, none⟩ = some (.string (str X)) := hrr.1 0 (by simp)
   go_wp2
   go_ret
   have hX := HX.out
   rw [List.take_of_length_le (by rw [HN.out]; exact Nat.le_refl _)] at hX
   rw [← hX]
   exact ⟨rfl, hBr⟩
end Go.Proofs.YtfbjljcmmbdhkaaGreatDoor
