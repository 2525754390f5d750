/- Contract of head: a function's first line. -/
import Derived.Test.YtkibkaoffgnmkaaGreatDoorL26
namespace Go.Proofs.YtkibkaoffgnmkaaGreatDoor
set_option linter.unusedVariables false
set_option linter.unusedSimpArgs false
set_option maxRecDepth 100000
set_option maxHeartbeats 200000000
open Go.ChangeShapes Go.WideShapes Go.ChangeAt Go.RowKit
def tgN (b : Bool) : Nat := bif b then 0 else 1
theorem tgN_t : tgN true = 0 := rfl
theorem tgN_f : tgN false = 1 := rfl
def nilV : Value := .slice none 0 0
theorem nil_own (j : Nat) : ¬ (Value.slice none 0 0).ownBlock = some j := fun h => by cases h
theorem tl_nil (B : Nat) (W : World) : Tl B W W.drew (.slice none 0 0) (.slice none 0 0) [] := ⟨World.ownsRow_nil _ _ _ _, od1, fun j hj => .inl hj⟩
theorem head_any (nm : List UInt8) (ps : List Pm) (mp mb mr : Option Addr) (np cp nb cb nr cr : Nat) (sec : Bool) (B : Nat) (w0 : World) (hP : PmsAt (fun b => b < B) w0 ps mp) (hn : ps.length = np) (hpl : ps.length ≤ 140737488355328) (hW : Wr B w0) (hb : (comT pmT ps).length ≤ 900000) :
  Calls Tryz.prog 65 #[.agg #[.string (str nm), .slice mp np cp, .slice mb nb cb, .bool sec, .slice mr nr cr]] w0 fun r w' => ∃ l', r = .returned l' ∧ Tl B w0 w' (.slice none 0 0) l' (zs (wdT wFn :: nmT nm :: sg [40] :: (comT pmT ps ++ [sg [41], sg [123]]))) := by
 obtain ⟨W, hWe⟩ : ∃ W, w0.alloc (.cells #[.string (str nm), .slice mp np cp, .slice mb nb cb, .bool sec, .slice mr nr cr] 43) = W := ⟨_, rfl⟩
 have hBw : Below w0.heap.size w0 W := by rw [← hWe]; exact aB (Below.refl _ _) _
 have hrW : rowG #[.string (str nm), .slice mp np cp, .slice mb nb cb, .bool sec, .slice mr nr cr] W w0.heap.size := by rw [← hWe]; exact rowG_at _ _ _ _ rfl
 have hB0 : B ≤ W.heap.size := Nat.le_trans hW.le hBw.size
 go_enter Tryz.func65, Tryz.ntmps65
 go_wp2
 have hFi : ∀ w', Only (fun j => (Value.slice none 0 0).ownBlock = some j) W w' → w'.cell? ⟨w0.heap.size, 0, none⟩ = some (.string (str nm)) ∧ True := fun w' h => ⟨(rowG_only hrW h (nil_own _)).1 0 (by simp), trivial⟩
 have hF0 : Only (fun j => (Value.slice none 0 0).ownBlock = some j) W W.drew := od1
 have hT00 := tl_nil B W
 refine region_KN (fun w' => Only (fun j => (Value.slice none 0 0).ownBlock = some j) W w') (by kernel_rfl) ?_
 have q : Pq [2, 3] := trivial
 iterate 2
  refine tkN q rfl (by kernel_rfl) hF0 fun K hK => ?_
  replace q := q.tl
  apply Exists.intro
  refine ⟨Or.inl ⟨by kernel_rfl, fun w' hf => ?_⟩, ?_⟩
  ·obtain ⟨s0, -⟩ := hFi _ hf
   go_simp
   try exact rfl
  go_simp
  refine hK _ ?_
  clear hK K
 refine wpAnyK_inv (fun fu L a w => ∃ (c0 c1 c2 c3 s0 : Bool) (l1 l2 l3 l4 : Value) (K0 : Nat), fu = 1 + (tgN c0 + tgN c1 + tgN c2 + tgN c3 + tgN s0) ∧ L = #[c0, c1, true, true, c2, s0, c3, false] ∧ a = ⟨#[.agg #[.string (str nm), .slice mp np cp, .slice mb nb cb, .bool sec, .slice mr nr cr], .pointer (some ⟨w0.heap.size, 0, none⟩), .slice none 0 0, undef, (bif c0 then l1 else undef), (bif c1 then l2 else undef), .pointer (some ⟨w0.heap.size, 0, none⟩), .string (str nm), (bif c2 then l3 else undef), (bif s0 then .slice (some ⟨K0, 0, none⟩) 1 1 else undef), (bif c3 then l4 else undef), undef, undef, undef, undef, undef, undef], []⟩ ∧ ((c1 = true → c0 = true) ∧ (c2 = true → c1 = true) ∧ (c3 = true → c2 = true) ∧ (c3 = true → s0 = true)) ∧ Tl B W w (.slice none 0 0) (bif c3 then l4 else (bif c2 then l3 else (bif c1 then l2 else (bif c0 then l1 else (.slice none 0 0))))) (bif c3 then ([] ++ zs ([wdT wFn]) ++ zs ([nmT nm]) ++ zs ([sg [40]])) else (bif c2 then ([] ++ zs ([wdT wFn]) ++ zs ([nmT nm])) else (bif c1 then ([] ++ zs ([wdT wFn])) else (bif c0 then ([]) else ([]))))) ∧ ((s0 = true → HasS (strC [[40]]).toArray 9 K0 w))) ?_ _ _ _ _ ⟨false, false, false, false, false, undef, undef, undef, undef, 0, rfl, rfl, rfl, ⟨(by simp), (by simp), (by simp), (by simp)⟩, hT00, (by simp)⟩
 intro fu L a w hI
 obtain ⟨c0, c1, c2, c3, s0, l1, l2, l3, l4, K0, rfl, rfl, rfl, ⟨e0, e1, e2, e3⟩, hTc, a0⟩ := hI
 by_cases hall : (c0 = true ∧ c1 = true ∧ c2 = true ∧ c3 = true ∧ s0 = true)
 rotate_left
 ·right
  refine ⟨0 + (tgN c0 + tgN c1 + tgN c2 + tgN c3 + tgN s0), by omega, ?_, ?_⟩
  ·intro hr
   have nin : ∀ j, j ∉ Region.ready _ _ _ := fun j hj => by rw [hr] at hj; cases hj
   obtain rfl := bt fun h : s0 = false => nin 5 (rd h rfl rfl)
   obtain rfl := bt fun h : c0 = false => nin 0 (rd h rfl rfl)
   obtain rfl := bt fun h : c1 = false => nin 1 (rd h rfl rfl)
   obtain rfl := bt fun h : c2 = false => nin 4 (rd h rfl rfl)
   obtain rfl := bt fun h : c3 = false => nin 6 (rd h rfl rfl)
   exact hall ⟨rfl, rfl, rfl, rfl, rfl⟩
  ·intro i hi
   obtain ⟨h0, o, ho, hd⟩ := mem_ready.1 hi
   have hiN : i < 8 := by simpa using (Array.getElem?_eq_some_iff.1 ho).1
   have hcN : i = 0 ∨ i = 1 ∨ i = 2 ∨ i = 3 ∨ i = 4 ∨ i = 5 ∨ i = 6 ∨ i = 7 := by omega
   clear hi hiN
   rcases hcN with rfl | rfl | rfl | rfl | rfl | rfl | rfl | rfl
   ·simp at ho h0
    subst ho
    simp [Region.binds] at hd
    subst h0
    refine wpOp_step rfl (fun K' hK => ?_)
    clear hd
    obtain rfl := bff e0
    obtain rfl := bff e1
    obtain rfl := bff e2
    simp only [cond_true, cond_false] at hTc
    have hOj := hTc.only
    have hBj := Nat.le_trans hB0 hOj.size
    go_simp
    have hTn : Tl B W (w.alloc (.cells #[] 95)) (.slice none 0 0) (.slice (some ⟨w.heap.size, 0, none⟩) 0 0) ([]) := ⟨own_built w _ hBj, hOj.trans (only_below (aB (Below.refl _ _) _)), fun j hj => .inr (by cases hj; exact hOj.size)⟩
    refine hK _ _ ⟨hTn.only, true, false, false, false, s0, (.slice (some ⟨w.heap.size, 0, none⟩) 0 0), l2, l3, l4, K0, by simp only [tgN_t, tgN_f] <;> omega, rfl, rfl, (by and_intros <;> first | assumption | exact fun _ => rfl | exact fun h => by cases h), hTn, (fun h => HasS.alloc (a0 h) _)⟩
   ·simp at ho h0
    subst ho
    simp [Region.binds] at hd
    subst h0
    refine wpOp_step rfl (fun K' hK => ?_)
    obtain rfl : c0 = true := by simp [hd]
    clear hd
    obtain rfl := bff e1
    obtain rfl := bff e2
    simp only [cond_true, cond_false] at hTc
    have hOj := hTc.only
    have hBj := Nat.le_trans hB0 hOj.size
    go_simp
    go_at_call 115
    rw [show ({ data := #[102, 110] } : ByteArray) = str wFn from rfl]
    with_reducible refine (rword_any wFn B _ _ _ hTc.own hBj (by simp)).mono ?_
    rintro r' w' ⟨l', rfl, hTx⟩
    have hTn := hTc.trans hTx
    refine hK _ _ ⟨hTn.only, true, true, false, false, s0, l1, l', l3, l4, K0, by simp only [tgN_t, tgN_f] <;> omega, rfl, rfl, (by and_intros <;> first | assumption | exact fun _ => rfl | exact fun h => by cases h), hTn, (fun h => HasS.call (a0 h) (by decide) hTc.own hTx.only)⟩
   ·simp at h0
   ·simp at h0
   ·simp at ho h0
    subst ho
    simp [Region.binds] at hd
    subst h0
    refine wpOp_step rfl (fun K' hK => ?_)
    obtain rfl : c1 = true := by simp [hd]
    clear hd
    obtain rfl := e0 rfl
    obtain rfl := bff e2
    simp only [cond_true, cond_false] at hTc
    have hOj := hTc.only
    have hBj := Nat.le_trans hB0 hOj.size
    go_simp
    go_at_call 116
    with_reducible refine (rname_any nm B _ _ _ hTc.own hBj (by simp [zs])).mono ?_
    rintro r' w' ⟨l', rfl, hTx⟩
    have hTn := hTc.trans hTx
    refine hK _ _ ⟨hTn.only, true, true, true, false, s0, l1, l2, l', l4, K0, by simp only [tgN_t, tgN_f] <;> omega, rfl, rfl, (by and_intros <;> first | assumption | exact fun _ => rfl | exact fun h => by cases h), hTn, (fun h => HasS.call (a0 h) (by decide) hTc.own hTx.only)⟩
   ·simp at ho h0
    subst ho
    simp [Region.binds] at hd
    subst h0
    refine wpOp_step rfl (fun K' hK => ?_)
    go_simp
    refine hK _ _ ⟨(hTc.alloc _).only, c0, c1, c2, c3, true, l1, l2, l3, l4, w.heap.size, by simp only [tgN_t, tgN_f] <;> omega, rfl, rfl, (by and_intros <;> first | assumption | exact fun _ => rfl | exact fun h => by cases h), hTc.alloc _, (fun _ => HasS.new _ _ _)⟩
   ·simp at ho h0
    subst ho
    simp [Region.binds] at hd
    subst h0
    refine wpOp_step rfl (fun K' hK => ?_)
    obtain rfl : c2 = true := by simp [hd]
    obtain rfl : s0 = true := by simp [hd]
    clear hd
    obtain rfl := e1 rfl
    obtain rfl := e0 rfl
    simp only [cond_true, cond_false] at hTc
    have hOj := hTc.only
    have hBj := Nat.le_trans hB0 hOj.size
    go_simp
    go_at_call 117
    with_reducible refine (rsign_c 1 (a0 rfl) hTc hBj rfl (by simp [zs])).mono ?_
    rintro r' w' ⟨l', rfl, hTx⟩
    have hTn := hTc.trans hTx
    refine hK _ _ ⟨hTn.only, true, true, true, true, true, l1, l2, l3, l', K0, by simp only [tgN_t, tgN_f] <;> omega, rfl, rfl, (by and_intros <;> first | assumption | exact fun _ => rfl | exact fun h => by cases h), hTn, (fun h => HasS.call (a0 h) (by decide) hTc.own hTx.only)⟩
   ·exact (hall (by simp at ho; subst ho; simp [Region.binds] at hd <;> simp_all)).elim
 obtain ⟨rfl, rfl, rfl, rfl, rfl⟩ := hall
 left
 simp only [cond_true, cond_false] at hTc
 have hTe := hTc
 clear hTc e0 e1 e2 e3 a0
 refine wpAnyK_one (k := 7) (by kernel_rfl) ?_
 refine wpOp_step rfl (fun K hK => ?_)
 go_simp
 refine hK _ _ ⟨hTe.only, ?_⟩
 clear hK K
 refine wpAnyK_done (by kernel_rfl) ⟨rfl, ?_⟩
 clear hFi hF0 hT00
 have hr := rowG_only hrW hTe.only (nil_own _)
 have hOn : Only (fun j => B ≤ j) w0 w := (only_below hBw).trans (hTe.only.mono (fun j h => (nil_own _ h).elim))
 have u1 : w.cell? ⟨w0.heap.size, 1, none⟩ = some (.slice mp np cp) := hr.1 1 (by simp)
 have hlw := hr.2.2
 have hBe : B ≤ w.heap.size := Nat.le_trans hB0 hTe.only.size
 have hlm : (([] ++ zs [wdT wFn] ++ zs [nmT nm] ++ zs [sg [40]] : List (Tk × Int))).length + (comT pmT ps).length ≤ 999990 := by simp [zs]; omega
 have hls := rlist_pm ps mp np cp B l4 _ w hn (hP.only hOn (fun b hb h => by have hb' : b < B := hb; have h' : B ≤ b := h; omega)) (hW.only hOn (fun _ h => h)) hpl hTe.own hlm
 go_wp2_with (first | (go_at_call 118; ((with_reducible refine hls.mono ?_); (rintro e v1 ⟨q1, rfl, hT1⟩); have hsg := rsign_any [[41], [123]] v1.heap.size 2 B q1 _ (v1.alloc (.cells #[.string { data := #[41] }, .string { data := #[123] }] 9)) rfl (hasS_strs (ss := [[41], [123]]) (HasS.new (strC [[41], [123]]).toArray 9 v1)) (by simp) (own_new hT1.own (.inl (Nat.le_refl _))) (hT1.own.alloc _) (Nat.le_trans (Nat.le_trans hBe hT1.only.size) (by simp)) (by simp [zs]; omega))) | (go_at_call 117; ((with_reducible refine hsg.mono ?_); (rintro e v2 ⟨q2, rfl, hT2⟩))))
 go_ret
 have hz := ((hTe.trans hT1).trans (hT2.pre (aB (Below.refl _ _) _))).pre hBw
 rw [show [] ++ zs [wdT wFn] ++ zs [nmT nm] ++ zs [sg [40]] ++ zs (comT pmT ps) ++ zs ([[41], [123]].map sg) = zs (wdT wFn :: nmT nm :: sg [40] :: (comT pmT ps ++ [sg [41], sg [123]])) from by simp [zs]] at hz
 exact ⟨_, rfl, hz⟩
structure Bg (B : Nat) (rb : Nat) (w w' : World) (l l' : Value) (T' : List (Tk × Int)) : Prop where
 own : w'.ownsRow B 95 4 l' T'.length (cellsZ T')
 box : rowG #[l'] w' rb
 only : Only (fun j => l.ownBlock = some j ∨ j = rb) w w'
def nmO (s : List UInt8) : List Tk := if s = [] then [] else [nmT s]
def wdO (s : List UInt8) : List Tk := if s = [] then [] else [wdT s]
theorem str_nil_ne {s : List UInt8} (h : s ≠ []) : (str s).toList.isEmpty = false := by
 rw [ByteArray.toList_eq, str_list]
 cases s with
 | nil => exact absurd rfl h
 | cons a r => rfl
theorem bg_own {w w' : World} {B n : Nat} {e : TypeId} {size : Nat} {l : Value} {xs : List Value} {rb : Nat} (h : w.ownsRow B e size l n xs) (ho : Only (fun j => j = rb) w w') (hb : rb < B) : w'.ownsRow B e size l n xs := own_only h ho (fun j hj e => by subst e; exact own_new h (.inr hb) hj)
theorem row_set0' {c : Value} (v : Value) {w : World} {k : Nat} (h : rowG #[c] w k) : rowG #[v] (w.setCell ⟨k, 0, none⟩ v) k := by simpa using row_set (i := 0) (by simp) v h
theorem put_nm (s : List UInt8) (rb : Nat) (B : Nat) (l : Value) (T : List (Tk × Int)) (w : World) (hr : rowG #[l] w rb) (ho : w.ownsRow B 95 4 l T.length (cellsZ T)) (hB : B ≤ w.heap.size) (hrb : rb < B) (hl : T.length ≤ 1000000) :
  Calls Tryz.prog 181 #[.int .u8 1, .string (str s), .pointer (some ⟨rb, 0, none⟩)] w fun e w' => e = .returned (.tuple #[]) ∧ ∃ l', Bg B rb w w' l l' (T ++ zs (nmO s)) := by
 obtain ⟨i0, hi, hz0, hz1, hz2⟩ := info_parts infoT
 have c0 : w.cell? ⟨rb, 0, none⟩ = some l := hr.1 0 (by simp)
 have f0 := hr.2.1 0
 have hrl := hr.2.2
 obtain ⟨sa, sc, hform⟩ : ∃ sa sc, l = .slice sa T.length sc := by
  rcases ho.2 with ⟨h1, h2⟩ | ⟨g, cap, cur, h1, _⟩
  ·exact ⟨none, 0, by rw [h1, h2]⟩
  ·exact ⟨_, _, h1⟩
 by_cases hs : s = []
 ·subst hs
  rw [show str [] = ⟨#[]⟩ from rfl]
  go_enter Tryz.func181, Tryz.ntmps181
  go_wp2
  go_end0
  exact ⟨rfl, l, by simpa [nmO, zs] using ho, hr, Only.refl _ _⟩
 ·have hne := str_nil_ne hs
  have he : nmO s = [nmT s] := if_neg hs
  rw [he]
  obtain ⟨M, hM⟩ : ∃ M, M = T.length := ⟨_, rfl⟩
  rw [← hM] at ho hl
  have HM := Lib.hid hM
  clear hM hform
  go_enter Tryz.func181, Tryz.ntmps181
  go_wp2_with (at_builtin; refine wpList_append_lies _ rfl _ _ 63 rfl B 95 i0 _ 4 40 Tryz.underlying63 hi hz0 hz1 hz2 rfl (by decide) l M (cellsZ T) rfl (ho.alloc _) ⟨w.heap.size, 0, none⟩ 1 1 (cellsZ (zs [nmT s])) rfl rfl ?cN ?c0 (by decide) ?c1 ?c2 ?c3 _ rfl ?_)
  case cN => first | exact news_ok (cellsZ (zs [nmT s])) 95 w | exact fun j u h => h
  case c0 => exact cellsZ_one _
  case c1 => unfold maxLen; omega
  case c2 => omega
  case c3 => first | omega | (simp; omega)
  intro g cap' w5 hown hgrow hat hlt
  have hT := (tl_append hown HM.out rfl hgrow hat (by simp)).pre (aB (Below.refl w.heap.size w) (.cells (cellsZ (zs [nmT s])).toArray 95))
  have hr5 := rowG_only hr hT.only (own_new ho (.inr hrb))
  have d0 : w5.cell? ⟨rb, 0, none⟩ = some l := hr5.1 0 (by simp)
  have e0 := hr5.2.1 0
  have hrl5 := hr5.2.2
  go_wp2
  go_end0
  exact ⟨rfl, .slice (some ⟨g, 0, none⟩) (M + 1) cap', bg_own hT.own ((Only.refl _ _).setCell rfl) hrb, row_set0' _ hr5, (hT.only.mono (fun j h => .inl h)).setCell (.inr rfl)⟩
theorem put_wd (s : List UInt8) (rb : Nat) (B : Nat) (l : Value) (T : List (Tk × Int)) (w : World) (hr : rowG #[l] w rb) (ho : w.ownsRow B 95 4 l T.length (cellsZ T)) (hB : B ≤ w.heap.size) (hrb : rb < B) (hl : T.length ≤ 1000000) :
  Calls Tryz.prog 181 #[.int .u8 2, .string (str s), .pointer (some ⟨rb, 0, none⟩)] w fun e w' => e = .returned (.tuple #[]) ∧ ∃ l', Bg B rb w w' l l' (T ++ zs (wdO s)) := by
 obtain ⟨i0, hi, hz0, hz1, hz2⟩ := info_parts infoT
 have c0 : w.cell? ⟨rb, 0, none⟩ = some l := hr.1 0 (by simp)
 have f0 := hr.2.1 0
 have hrl := hr.2.2
 obtain ⟨sa, sc, hform⟩ : ∃ sa sc, l = .slice sa T.length sc := by
  rcases ho.2 with ⟨h1, h2⟩ | ⟨g, cap, cur, h1, _⟩
  ·exact ⟨none, 0, by rw [h1, h2]⟩
  ·exact ⟨_, _, h1⟩
 by_cases hs : s = []
 ·subst hs
  rw [show str [] = ⟨#[]⟩ from rfl]
  go_enter Tryz.func181, Tryz.ntmps181
  go_wp2
  go_end0
  exact ⟨rfl, l, by simpa [wdO, zs] using ho, hr, Only.refl _ _⟩
 ·have hne := str_nil_ne hs
  have he : wdO s = [wdT s] := if_neg hs
  rw [he]
  obtain ⟨M, hM⟩ : ∃ M, M = T.length := ⟨_, rfl⟩
  rw [← hM] at ho hl
  have HM := Lib.hid hM
  clear hM hform
  go_enter Tryz.func181, Tryz.ntmps181
  go_wp2_with (at_builtin; refine wpList_append_lies _ rfl _ _ 63 rfl B 95 i0 _ 4 40 Tryz.underlying63 hi hz0 hz1 hz2 rfl (by decide) l M (cellsZ T) rfl (ho.alloc _) ⟨w.heap.size, 0, none⟩ 1 1 (cellsZ (zs [wdT s])) rfl rfl ?cN ?c0 (by decide) ?c1 ?c2 ?c3 _ rfl ?_)
  case cN => first | exact news_ok (cellsZ (zs [wdT s])) 95 w | exact fun j u h => h
  case c0 => exact cellsZ_one _
  case c1 => unfold maxLen; omega
  case c2 => omega
  case c3 => first | omega | (simp; omega)
  intro g cap' w5 hown hgrow hat hlt
  have hT := (tl_append hown HM.out rfl hgrow hat (by simp)).pre (aB (Below.refl w.heap.size w) (.cells (cellsZ (zs [wdT s])).toArray 95))
  have hr5 := rowG_only hr hT.only (own_new ho (.inr hrb))
  have d0 : w5.cell? ⟨rb, 0, none⟩ = some l := hr5.1 0 (by simp)
  have e0 := hr5.2.1 0
  have hrl5 := hr5.2.2
  go_wp2
  go_end0
  exact ⟨rfl, .slice (some ⟨g, 0, none⟩) (M + 1) cap', bg_own hT.own ((Only.refl _ _).setCell rfl) hrb, row_set0' _ hr5, (hT.only.mono (fun j h => .inl h)).setCell (.inr rfl)⟩
end Go.Proofs.YtkibkaoffgnmkaaGreatDoor
