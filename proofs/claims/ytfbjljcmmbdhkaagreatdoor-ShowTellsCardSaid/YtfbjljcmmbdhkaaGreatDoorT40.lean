/- The document's Show: a call's line. -/
import Derived.Test.YtfbjljcmmbdhkaaGreatDoorT38
namespace Go.Proofs.YtfbjljcmmbdhkaaGreatDoor
set_option linter.unusedVariables false
set_option linter.unusedSimpArgs false
set_option maxRecDepth 100000
set_option maxHeartbeats 200000000
open Go.ChangeShapes Go.WideShapes Go.ChangeAt Go.RowKit
theorem sl_apart {B : Nat} {w w3 : World} {a : Option Addr} {M c : Nat} {L : List (List UInt8)} {l3 : Value} (h : Sl B w3 w (.slice none 0 0) (.slice a M c) L) (hM : M = L.length) (hl : ∀ j, l3.ownBlock = some j → j < w3.heap.size) : StrsAt (fun b => b < w.heap.size ∧ ¬ l3.ownBlock = some b) w L a := fun i hi => by
 subst hM
 obtain ⟨b, o, e, ⟨h1, h2⟩, hc⟩ := strs_own h.own rfl i hi
 subst e
 refine ⟨b, o, rfl, ⟨h2, fun e => ?_⟩, hc⟩
 rcases h.blk b rfl with h3 | h3
 ·cases h3
 ·have := hl b e; omega
theorem exR_take {l : List Xp} {j : Nat} (h : j < l.length) : (l.take (j + 1)).map exR = (l.take j).map exR ++ [exR l[j]] := by
 rw [List.take_succ_eq_append_getElem h, List.map_append]; rfl
theorem sl_below {B : Nat} {a b : World} {l l' : Value} {T : List (List UInt8)} (h : Sl B a b l l' T) (hn : ∀ j, l.ownBlock = some j → B ≤ j) (hB : B ≤ a.heap.size) : Below B a b := h.only.below hn hB
theorem rcalled_any (nm fr : List UInt8) (sec mu : Bool) (ex : List Xp) (ar : List (List UInt8)) (mx ma mb ml : Option Addr) (nx cx na ca nb cb nl cl : Nat) (w0 : World)
 (hX : KidsAt (fun b => b < w0.heap.size) w0 ex mx) (hR : ∀ x ∈ ex, ∀ v, IsB w0 v x → RxP w0 x v) (hA : StrsAt (fun b => b < w0.heap.size) w0 ar ma) (hnx : ex.length = nx) (hna : ar.length = na) (hx8 : nx ≤ 8) (ha8 : na ≤ 8) :
 Calls Tryz.prog 81 #[.agg #[.int .u8 11, .string (str nm), .string (str fr), .bool sec, .bool mu, .slice mx nx cx, .slice ma na ca, .slice mb nb cb, .slice ml nl cl]] w0 (HdP w0 ([wCall] ++ (if nm = [] then [] else [nm, [61]]) ++ [fr, [40]] ++ comR (ex.map exR) ++ [[59]] ++ comR ar ++ [[41], [59]])) := by
 obtain ⟨sn, hsn⟩ : ∃ sn, sn = str nm := ⟨_, rfl⟩
 obtain ⟨E, hE⟩ : ∃ E, E = (if nm = [] then [] else [nm, [61]]) := ⟨_, rfl⟩
 have hE2 : E.length ≤ 2 := by rw [hE]; split <;> simp
 rw [← hE, ← hsn]
 obtain ⟨W, hWe⟩ : ∃ W, w0.alloc (.cells #[.int .u8 11, .string sn, .string (str fr), .bool sec, .bool mu, .slice mx nx cx, .slice ma na ca, .slice mb nb cb, .slice ml nl cl] 52) = W := ⟨_, rfl⟩
 have hBw : Below w0.heap.size w0 W := by rw [← hWe]; exact aB (Below.refl _ _) _
 have hrW : rowG #[.int .u8 11, .string sn, .string (str fr), .bool sec, .bool mu, .slice mx nx cx, .slice ma na ca, .slice mb nb cb, .slice ml nl cl] W w0.heap.size := by rw [← hWe]; exact rowG_at _ _ _ _ rfl
 obtain ⟨W1, hW1⟩ : ∃ W1, W.alloc (.cells #[.string ⟨#[99, 97, 108, 108]⟩] 9) = W1 := ⟨_, rfl⟩
 have hB1 : Below W.heap.size W W1 := by rw [← hW1]; exact aB (Below.refl _ _) _
 have hB1w := tr hBw hB1
 have hr1 := rowG_b hrW hB1
 have ho1 : W1.ownsRow w0.heap.size 9 1 (.slice (some ⟨W.heap.size, 0, none⟩) 1 1) 1 (strC [wCall]) := by rw [← hW1]; exact own_strs W _ hBw.size [wCall] 1 rfl (by decide)
 have hW0 : w0.heap.size ≤ W.heap.size := hBw.size
 have hne0 : ¬ (Value.slice (some ⟨W.heap.size, 0, none⟩) 1 1).ownBlock = some w0.heap.size := fun e => by
  have h1 := hrW.2.2
  simp only [Value.ownBlock, Option.some.injEq] at e
  omega
 have t1 : W1.cell? ⟨w0.heap.size, 1, none⟩ = some (.string sn) := hr1.1 1 (by simp)
 have t2 : W1.cell? ⟨w0.heap.size, 2, none⟩ = some (.string (str fr)) := hr1.1 2 (by simp)
 have hl1 := hr1.2.2
 have HX := Lib.hid hX
 have HR := Lib.hid hR
 have HA := Lib.hid hA
 have HN := Lib.hid hnx
 have HNA := Lib.hid hna
 clear hX hR hA hnx hna
 by_cases hnm : nm = []
 case' pos =>
  have hne : sn.toList.isEmpty = true := by rw [hsn, strE]; simpa using hnm
  have hE0 : E = [] := by rw [hE, if_pos hnm]
  clear hsn hE hnm
  go_enter Tryz.func81, Tryz.ntmps81
  go_wp2_with (at_builtin; refine wpSl rfl _ _ rfl w0.heap.size (.slice (some ⟨W.heap.size, 0, none⟩) 1 1) [wCall] [fr, [40]] 1 2 2 W1.heap.size rfl rfl (ho1.alloc _) rfl rfl (news_ok (strC [fr, [40]]) 9 W1) (by decide) (by decide) (Nat.le_trans hB1w.size (by simp)) ?_)
  intro g3 cap3 w3 hS3 ho3 hg3
  replace hS3 := hS3.pre (aB (Below.refl _ _) _)
  obtain ⟨lv, hlv⟩ : ∃ lv, lv = Value.slice (some ⟨g3, 0, none⟩) (1 + 2) cap3 := ⟨_, rfl⟩
  rw [← hlv] at hS3 ⊢
  replace hS3 : Sl w0.heap.size W1 w3 (.slice (some ⟨W.heap.size, 0, none⟩) 1 1) lv ([wCall] ++ E ++ [fr, [40]]) := by rw [hE0]; exact hS3
  clear hlv ho3 hg3 hE0
 case' neg =>
  have hne : sn.toList.isEmpty = false := by rw [hsn, strE]; simpa using hnm
  have hE0 : E = [nm, [61]] := by rw [hE, if_neg hnm]
  subst hsn
  clear hE hnm
  go_enter Tryz.func81, Tryz.ntmps81
  go_wp2_with (at_builtin; refine wpSl rfl _ _ rfl w0.heap.size (.slice (some ⟨W.heap.size, 0, none⟩) 1 1) [wCall] [nm, [61]] 1 2 2 W1.heap.size rfl rfl (ho1.alloc _) rfl rfl (news_ok (strC [nm, [61]]) 9 W1) (by decide) (by decide) (Nat.le_trans hB1w.size (by simp)) ?_)
  intro gA capA wA hSA hoA hgA
  replace hSA := hSA.pre (aB (Below.refl _ _) _)
  obtain ⟨lA, hlA⟩ : ∃ lA, lA = Value.slice (some ⟨gA, 0, none⟩) (1 + 2) capA := ⟨_, rfl⟩
  rw [← hlA] at hSA ⊢
  clear hlA hoA hgA t1 t2 hl1
  have hrA := rowG_only hr1 hSA.only hne0
  have t2 : wA.cell? ⟨w0.heap.size, 2, none⟩ = some (.string (str fr)) := hrA.1 2 (by simp)
  have hl1 := hrA.2.2
  have hBA : w0.heap.size ≤ wA.heap.size := Nat.le_trans hB1w.size hSA.only.size
  go_wp2_with (at_builtin; refine wpSl rfl _ _ rfl w0.heap.size lA ([wCall] ++ [nm, [61]]) [fr, [40]] 3 2 2 wA.heap.size rfl rfl (hSA.own.alloc _) rfl rfl (news_ok (strC [fr, [40]]) 9 wA) (by decide) (by decide) (Nat.le_trans hBA (by simp)) ?_)
  intro g3 cap3 w3 hS3 ho3 hg3
  replace hS3 := hSA.trans (hS3.pre (aB (Below.refl _ _) _))
  obtain ⟨lv, hlv⟩ : ∃ lv, lv = Value.slice (some ⟨g3, 0, none⟩) (3 + 2) cap3 := ⟨_, rfl⟩
  rw [← hlv] at hS3 ⊢
  replace hS3 : Sl w0.heap.size W1 w3 (.slice (some ⟨W.heap.size, 0, none⟩) 1 1) lv ([wCall] ++ E ++ [fr, [40]]) := by rw [hE0]; exact hS3
  clear hlv ho3 hg3 hE0 hSA hrA hBA
 all_goals
  obtain ⟨T3, hT3⟩ : ∃ T3, T3 = [wCall] ++ E ++ [fr, [40]] := ⟨_, rfl⟩
  have hT3l : T3.length ≤ 5 := by rw [hT3]; simp; omega
  rw [← hT3] at hS3
  have HT3 := Lib.hid hT3
  clear hT3 hE2 t2 hl1 hne
  have hr3 := rowG_only hr1 hS3.only hne0
  have hB3 : Below w0.heap.size w0 w3 := hB1w.trans (sl_below hS3 (fun j hj => by cases hj; exact hW0) hB1w.size)
  have hlv3 : ∀ j, lv.ownBlock = some j → w0.heap.size ≤ j ∧ j < w3.heap.size := fun j hj => own_lt hS3.own hj
  have hnv : ¬ lv.ownBlock = some w0.heap.size := fun e => (hS3.blk _ e).elim hne0 (fun h => by have := hr1.2.2; omega)
  have hoS := hS3.own
  clear hS3 ho1 hr1 hB1w hB1 hW1 hWe hrW hBw
  go_wp2
  go_loopw [4, 5] (fun av iv wr => ∃ (j : Nat) (la : Value), j ≤ nx ∧ iv = .int .i64 (j : Int) ∧ la = av ∧ Sl w0.heap.size w3 wr (.slice none 0 0) la ((ex.take j).map exR)) (fun _ iv _ => nx - (intOf iv).toNat)
  case atStart => exact ⟨0, _, Nat.zero_le _, rfl, rfl, Sl.refl (World.ownsRow_nil _ _ _ _)⟩
  case round =>
   obtain ⟨j, la, hj, rfl, rfl, hSa⟩ := hrel
   have hBa : Below w3.heap.size w3 wr := hSa.only.below (fun j hj => by cases hj) (Nat.le_refl _)
   have hra := rowG_b hr3 hBa
   have v5 : wr.cell? ⟨w0.heap.size, 5, none⟩ = some (.slice mx nx cx) := hra.1 5 (by simp)
   have hla := hra.2.2
   have hBa0 := tr hB3 hBa
   by_cases hlt : j < nx
   ·have hlt' : j < ex.length := by rw [HN.out]; exact hlt
    obtain ⟨b, o, hma⟩ := kids_some HX.out (by omega)
    subst hma
    obtain ⟨m1, k1, hki⟩ := kidIn HX.out j hlt'
    have hrx := HR.out _ (List.getElem_mem hlt') _ hki.is
    have hk2 := hki.of hBa0
    obtain ⟨y0, y1, y2, y3, y4, yl⟩ := (⟨hk2.c0, hk2.c1, hk2.c2, hk2.c3, hk2.c4, hk2.lt'⟩ : _ ∧ _ ∧ _ ∧ _ ∧ _ ∧ _)
    have hnx := exR_take hlt'
    clear hki hk2
    obtain ⟨x, hx⟩ : ∃ x, x = ex[j] := ⟨_, rfl⟩
    rw [← hx] at y0 y1 y2 y3 y4 hnx hrx
    have HNX := Lib.hid hnx
    have hex := hrx.go wr hBa0
    clear hx hnx hrx
    obtain ⟨TJ, hTJ⟩ : ∃ TJ, TJ = (ex.take j).map exR := ⟨_, rfl⟩
    have hl8 : TJ.length + 1 ≤ 1000000 := by rw [hTJ, List.length_map, List.length_take]; omega
    rw [← hTJ] at hSa
    have HTJ := Lib.hid hTJ
    clear hTJ
    go_wp2_with (first | (go_at_call 33; ((with_reducible refine hex.mono ?_); (rintro r v1 ⟨rfl, hb1⟩))) | (at_builtin; refine wpSl rfl _ _ rfl w0.heap.size la TJ [exR x] _ 1 1 v1.heap.size rfl rfl ((own_of hSa.own hb1).alloc _) rfl rfl (news_ok (strC [exR x]) 9 v1) (by decide) hl8 (Nat.le_trans hBa0.size (Nat.le_trans hb1.size (by simp))) ?_))
    intro g cap w5 hS5 ho5 hg5
    replace hS5 := (hS5.pre (aB (Below.refl _ _) _)).pre hb1
    have hS6 := hSa.trans hS5
    have hS8 : Sl w0.heap.size w3 w5 (.slice none 0 0) (.slice (some ⟨g, 0, none⟩) (TJ.length + 1) cap) ((ex.take (j + 1)).map exR) := by rw [HNX.out, ← HTJ.out]; exact hS6
    go_wp2
    go_roundw
    case rel => exact ⟨j + 1, _, by omega, by go_num, rfl, hS8⟩
    case measure => simp [intOf]; omega
   ·obtain rfl : j = nx := by omega
    rw [List.take_of_length_le (by rw [HN.out]; exact Nat.le_refl _)] at hSa
    have hel : (ex.map exR).length ≤ 8 := by rw [List.length_map, HN.out]; exact hx8
    obtain ⟨XL, hXL⟩ : ∃ XL, XL = ex.map exR := ⟨_, rfl⟩
    rw [← hXL] at hSa hel
    have HXL := Lib.hid hXL
    obtain ⟨nX, hnX⟩ : ∃ nX, XL.length = nX := ⟨_, rfl⟩
    rw [hnX] at hel
    have hoa := hSa.own
    rw [hnX] at hoa
    obtain ⟨aa, c2, rfl⟩ := row_form hoa
    have hP := sl_apart hSa hnX.symm (fun j hj => (hlv3 j hj).2)
    have hcm1 := rcommas9 XL aa nX c2 w0.heap.size lv T3 wr hnX hP hBa0.size (by omega) (own_of hoS hBa) (by omega)
    have hcl1 := comR_len XL
    have hcl2 := comR_len ar
    have hnl := HNA.out
    clear hXL hSa hP hoa
    go_wp2_with (first | (go_at_call 128; ((with_reducible refine hcm1.mono ?_); clear hcm1; (rintro r v4 ⟨l4, rfl, hS4⟩); (obtain ⟨T4, hT4⟩ : ∃ T4, T4 = T3 ++ comR XL := ⟨_, rfl⟩); have hT4l : T4.length ≤ 100 := (by rw [hT4, List.length_append]; omega); (rw [← hT4] at hS4); have HT4 := Lib.hid hT4; clear hT4)) | (at_builtin; refine wpSl rfl _ _ rfl w0.heap.size l4 T4 [[59]] _ 1 1 v4.heap.size rfl rfl (hS4.own.alloc _) rfl rfl (news_ok (strC [[59]]) 9 v4) (by decide) (by omega) (Nat.le_trans hBa0.size (Nat.le_trans hS4.only.size (by simp))) ?_))
    intro g5 cap5 v5 hS5 ho5 hg5
    replace hS5 := hS4.trans (hS5.pre (aB (Below.refl _ _) _))
    obtain ⟨l5, hl5⟩ : ∃ l5, l5 = Value.slice (some ⟨g5, 0, none⟩) (T4.length + 1) cap5 := ⟨_, rfl⟩
    rw [← hl5] at hS5 ⊢
    obtain ⟨T5, hT5⟩ : ∃ T5, T5 = T4 ++ [[59]] := ⟨_, rfl⟩
    have hT5l : T5.length ≤ 101 := by rw [hT5, List.length_append]; simp; omega
    rw [← hT5] at hS5
    have HT5 := Lib.hid hT5
    clear hT5
    clear hl5 ho5 hg5 hS4 hla
    have hr5 := rowG_only hra hS5.only hnv
    have v6 : v5.cell? ⟨w0.heap.size, 6, none⟩ = some (.slice ma na ca) := hr5.1 6 (by simp)
    have hla := hr5.2.2
    have hB5 : Below w0.heap.size w0 v5 := hBa0.trans (sl_below hS5 (fun j hj => (hlv3 j hj).1) hBa0.size)
    have hA5 : StrsAt (fun b => b < v5.heap.size ∧ ¬ l5.ownBlock = some b) v5 ar ma := HA.out.mv (fun b h => ⟨Nat.lt_of_lt_of_le h hB5.size, fun e => by have := (own_lt hS5.own e).1; omega⟩) (fun b o v h hc => stay hB5 hc)
    have hcm2 := rcommas9 ar ma na ca w0.heap.size l5 _ v5 HNA.out hA5 hB5.size (by omega) hS5.own (by omega)
    go_wp2_with (first | (go_at_call 128; ((with_reducible refine hcm2.mono ?_); clear hcm2; (rintro r v6 ⟨l6, rfl, hS6⟩); replace hS6 := hS5.trans hS6; (obtain ⟨T6, hT6⟩ : ∃ T6, T6 = T5 ++ comR ar := ⟨_, rfl⟩); have hT6l : T6.length ≤ 200 := (by rw [hT6, List.length_append]; omega); (rw [← hT6] at hS6); have HT6 := Lib.hid hT6; clear hT6)) | (at_builtin; refine wpSl rfl _ _ rfl w0.heap.size l6 T6 [[41], [59]] _ 2 2 v6.heap.size rfl rfl (hS6.own.alloc _) rfl rfl (news_ok (strC [[41], [59]]) 9 v6) (by decide) (by omega) (Nat.le_trans hBa0.size (Nat.le_trans hS6.only.size (by simp))) ?_))
    intro g7 cap7 v7 hS7 ho7 hg7
    replace hS7 := hS6.trans (hS7.pre (aB (Below.refl _ _) _))
    go_wp2
    go_ret
    exact hd_own hBa0 hS7 (by simp) (fun j hj => (hlv3 j hj).1) (by rw [HT6.out, HT5.out, HT4.out, HT3.out, HXL.out]; simp)
end Go.Proofs.YtfbjljcmmbdhkaaGreatDoor
