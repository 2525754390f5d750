/- Contract of the reader's kid: what is read becomes the last kid of what it is read into. -/
import Derived.Test.YtfbjljcmmbdhkaaGreatDoorD14
import Derived.Deep.AppendLies
import Derived.Laws.OwnMore
import Derived.OneCell
import Derived.Test.YtfbjljcmmbdhkaaGreatDoorD12
import Derived.Test.YtfbjljcmmbdhkaaGreatDoorD11
namespace Go.Proofs.YtfbjljcmmbdhkaaGreatDoor
set_option linter.unusedVariables false
set_option linter.unusedSimpArgs false
set_option maxRecDepth 100000
set_option maxHeartbeats 200000000
open Go.ChangeShapes Go.WideShapes Go.ChangeAt Go.RowKit
theorem qQe : (Tryz.prog.info? 47).map (fun i => (i.zero, i.size, i.bytes)) = some (some (.agg #[.int .u8 0, .int .u64 0, .string ⟨#[]⟩, .int .u8 0, .slice none 0 0]), 5, 64) := by kernel_rfl
theorem Only.cut {S : Nat → Prop} {a b : World} (h : Only (fun j => S j ∨ a.heap.size ≤ j) a b) : Only S a b :=
 ⟨h.os, h.tape, h.output, h.size, fun j hj hs => h.block j hj (fun hh => hh.elim hs (fun h1 => absurd hj (by omega)))⟩
theorem yXh {P : Program} {md : Region.Mode} {ops : Array Oper} {Q : Exit → Act → World → Prop} {F F' : World → Prop} {st : Nat} : ∀ (f : Nat) (L : Array Bool) (a : Act) (w : World), L.getD st true = true → zZs P md ops Q F' f L a w → zJl P md ops Q F st f L a w
 | 0, _, _, _, _, h => h
 | f + 1, L, a, w, hs, h => ⟨h.1, fun i hi => wpOp_mono (fun a' w' hk => by
    have hs' : (L.setIfInBounds i true).getD st true = true := by
     by_cases e : i = st
     ·subst e
      simp only [Array.getD_eq_getD_getElem?, Array.getElem?_setIfInBounds, if_true]
      split <;> simp
     ·rw [getD_set_ne true e]; exact hs
    exact ⟨fun h0 => (by rw [hs'] at h0; cases h0), yXh f _ a' w' hs' hk.2⟩) (h.2 i hi)⟩
theorem yJk {w : World} {B n : Nat} {e : TypeId} {size : Nat} {l : Value} {xs : List Value} {c : Nat} (h : w.ownsRow B e size l n xs) (hc : w.heap.size ≤ c ∨ c < B) : ¬ l.ownBlock = some c := fun e => by
 have := zQu h e
 omega
structure KdC (w1 w' : World) (rb eb B : Nat) (v : Value) (T : List (Tk × Int)) (q d : Int) (c0 c1 c2 c3 lv lv' : Value) (N : Nat) (xs : List Value) : Prop where
 rd : IsRd w' rb v T q d
 bx : Bx w' eb rb (ob v T) c0 c1 c2 c3 lv'
 own : w'.ownsRow B 47 5 lv' N xs
 blk : ∀ j, lv'.ownBlock = some j → lv.ownBlock = some j ∨ w1.heap.size ≤ j
 only : Only (fun j => j = eb ∨ lv.ownBlock = some j) w1 w'
theorem xXq {w : World} {rb eb B : Nat} {v : Value} {T : List (Tk × Int)} {p d : Int} {c0 c1 c2 c3 : Value} {X : Int → Int → Int → ByteArray → Option Addr → Nat → Nat → Int → Int → Int → World → Prop}
 (hI : Calls Tryz.prog 178 #[.pointer (some ⟨rb, 0, none⟩)] w fun e w1 => ∃ k n o s ma m cap c q d', e = .returned (.tuple #[.agg #[.int .u8 k, .int .u64 n, .string s, .int .u8 o, .slice ma m cap], .int .i64 c]) ∧ IsRd w1 rb v T q d' ∧ Only (fun j => j = rb) w w1 ∧ X k n o s ma m cap c q d' w1)
 (hx : Bx w eb rb (ob v T) c0 c1 c2 c3 (.slice none 0 0)) (ho : w.ownsRow B 47 5 (.slice none 0 0) 0 []) (hn : ¬ (.slice none 0 0 : Value).ownBlock = some eb) (hB : B ≤ w.heap.size) (hrb : rb < B) (hv : ∀ j, ob v T = some j → j < B) :
 Calls Tryz.prog 199 #[.pointer (some ⟨rb, 0, none⟩), .pointer (some ⟨eb, 0, none⟩)] w fun e w' => ∃ k n o s ma m cap c q d' w1, X k n o s ma m cap c q d' w1 ∧ Only (fun j => j = rb) w w1 ∧ e = .returned (.int .i64 c) ∧ ∃ lv', KdC w1 w' rb eb B v T q d' c0 c1 c2 c3 (.slice none 0 0) lv' 1 [.int .u8 k, .int .u64 n, .string s, .int .u8 o, .slice ma m cap] := by
 obtain ⟨i0, hi, hz0, hz1, hz2⟩ := info_parts qQe
 have hap := fun c (hc : c < B) => yJk ho (.inr hc)
 go_enter Tryz.func199, Tryz.ntmps199
 go_wp2_with (go_at_call 178; ((with_reducible refine hI.mono ?_); (rintro e w1 ⟨k, n, o, s, ma, m, cap, c, q, d', rfl, hR1, hO1, hXX⟩)))
 have hx1 := hx.only hO1 hx.n1
 have ho1 := zQy ho hO1 (fun j hj e => by have := zQu ho hj; omega)
 have hB1 : B ≤ w1.heap.size := Nat.le_trans hB hO1.size
 clear hI
 obtain ⟨W, hW⟩ : ∃ W, w1.alloc (.cells #[.int .u8 k, .int .u64 n, .string s, .int .u8 o, .slice ma m cap] 47) = W := ⟨_, rfl⟩
 have hBw : Below w1.heap.size w1 W := by rw [← hW]; exact aB (Below.refl _ _) _
 have b0 : W.cell? ⟨w1.heap.size, 0, none⟩ = some (.int .u8 k) := by rw [← hW]; exact zQp _ _ _ 0
 have b1 : W.cell? ⟨w1.heap.size, 1, none⟩ = some (.int .u64 n) := by rw [← hW]; exact zQp _ _ _ 1
 have b2 : W.cell? ⟨w1.heap.size, 2, none⟩ = some (.string s) := by rw [← hW]; exact zQp _ _ _ 2
 have b3 : W.cell? ⟨w1.heap.size, 3, none⟩ = some (.int .u8 o) := by rw [← hW]; exact zQp _ _ _ 3
 have b4 : W.cell? ⟨w1.heap.size, 4, none⟩ = some (.slice ma m cap) := by rw [← hW]; exact zQp _ _ _ 4
 have hzW : w1.heap.size < W.heap.size := by rw [← hW]; simp
 rw [hW]
 clear hW
 have hx2 := hx1.of hBw
 have ho2 := zXk ho1 hBw
 have hRW := hR1.of hBw
 have hel : eb < w1.heap.size := hx1.row.2.2
 have hn2 : ¬ (.slice none 0 0 : Value).ownBlock = some w1.heap.size := yJk ho1 (.inl (Nat.le_refl _))
 have e4 : W.cell? ⟨eb, 4, none⟩ = some (.slice none 0 0) := hx2.row.1 4 (by simp)
 have hFi : ∀ w', Only (fun j => (.slice none 0 0 : Value).ownBlock = some j ∨ W.heap.size ≤ j) W w' → w'.cell? ⟨eb, 4, none⟩ = some (.slice none 0 0) ∧ w'.cell? ⟨w1.heap.size, 0, none⟩ = some (.int .u8 k) ∧ w'.cell? ⟨w1.heap.size, 1, none⟩ = some (.int .u64 n) ∧ w'.cell? ⟨w1.heap.size, 2, none⟩ = some (.string s) ∧ w'.cell? ⟨w1.heap.size, 3, none⟩ = some (.int .u8 o) ∧ w'.cell? ⟨w1.heap.size, 4, none⟩ = some (.slice ma m cap) ∧ eb < w'.heap.size ∧ w1.heap.size < w'.heap.size := fun w' h => ⟨h.cut.cell hn e4, h.cut.cell hn2 b0, h.cut.cell hn2 b1, h.cut.cell hn2 b2, h.cut.cell hn2 b3, h.cut.cell hn2 b4, Nat.lt_of_lt_of_le (by omega) h.size, Nat.lt_of_lt_of_le hzW h.size⟩
 have hF0 : Only (fun j => (.slice none 0 0 : Value).ownBlock = some j ∨ W.heap.size ≤ j) W W.drew := od1
 have ho3 : W.drew.ownsRow B 47 5 (.slice none 0 0) 0 [] := zQy ho2 (od1 (S := fun _ => False)) (fun _ _ h => h)
 have hBW : B ≤ W.heap.size := Nat.le_trans hB1 hBw.size
 refine zKc (fun w' => Only (fun j => (.slice none 0 0 : Value).ownBlock = some j ∨ W.heap.size ≤ j) W w') 7 (by kernel_rfl) ?_
 have q9 : Pq [0, 1, 2, 3, 4, 5] := trivial
 iterate 6
  refine tkF q9 rfl (by kernel_rfl) (fun _ _ _ _ h => h) hF0 fun K hK => ?_
  replace q9 := q9.tl
  apply Exists.intro
  refine ⟨Or.inl ⟨by kernel_rfl, fun w' hf => ?_⟩, ?_⟩
  ·obtain ⟨s4, k0, k1, k2, k3, k4, kl, km⟩ := hFi _ hf
   go_simp
   try exact rfl
  go_simp
  refine hK _ ?_
  clear hK K
 refine zQv (k := 6) (by kernel_rfl) ?_
 refine wpOp_step rfl (fun K hK => ?_)
 go_simp
 have hF6 : Only (fun j => (.slice none 0 0 : Value).ownBlock = some j ∨ W.heap.size ≤ j) W (W.drew.alloc (.cells #[.int .u8 0, .int .u64 0, .string ⟨#[]⟩, .int .u8 0, .slice none 0 0] 47)) := hF0.trans (zQd (aB (Below.refl _ _) _))
 have ho6 : (W.drew.alloc (.cells #[.int .u8 0, .int .u64 0, .string ⟨#[]⟩, .int .u8 0, .slice none 0 0] 47)).ownsRow B 47 5 (.slice none 0 0) 0 [] := World.ownsRow.alloc ho3 _
 refine hK _ _ ⟨fun _ => hF6, ?_⟩
 clear hK K
 refine zQv (k := 7) (by kernel_rfl) ?_
 refine wpOp_step rfl (fun K hK => ?_)
 refine step_append_lies _ rfl (.tmp 15) (.tmp 18) 41 rfl B 47 i0 _ 5 64 Tryz.underlying41 hi hz0 hz1 hz2 rfl (by decide) (.slice none 0 0) 0 [] rfl ho6 ⟨W.drew.heap.size, 0, none⟩ 1 1 [.int .u8 0, .int .u64 0, .string ⟨#[]⟩, .int .u8 0, .slice none 0 0] rfl rfl (zXe [.int .u8 0, .int .u64 0, .string ⟨#[]⟩, .int .u8 0, .slice none 0 0] 47 W.drew) (by intro u hu; simp at hu; rcases hu with rfl | rfl | rfl | rfl | rfl <;> rfl) (by decide) (by unfold maxLen; omega) (by omega) (Nat.le_trans hBW hF6.size) _ rfl ?_
 intro g cap' w5 hown hgrow hat hlt
 have hG5 : (.slice none 0 0 : Value).ownBlock = some g ∨ W.heap.size ≤ g := hat.imp id (fun h => by rw [h]; exact hF6.size)
 have hF5 : Only (fun j => (.slice none 0 0 : Value).ownBlock = some j ∨ W.heap.size ≤ j) W w5 := hF6.trans ((zXc hgrow).mono fun j hj => .inl hj.symm)
 have hge : ¬ g = eb := fun e => hG5.elim (fun h => hn (by rw [h, e])) (fun h => by omega)
 have hge' : ¬ eb = g := fun e => hge e.symm
 have hx5 := hx2.only hF5.cut hn
 go_simp
 refine hK _ _ ⟨fun h => (Bool.false_ne_true (h.symm.trans (by kernel_rfl))).elim, ?_⟩
 clear hK K
 refine yXh (F' := fun _ => True) _ _ _ _ (by kernel_rfl) ?_
 have hFin : ∀ wZ, Bx wZ eb rb (ob v T) c0 c1 c2 c3 (.slice (some ⟨g, 0, none⟩) 1 cap') → wZ.ownsRow B 47 5 (.slice (some ⟨g, 0, none⟩) 1 cap') 1 [.int .u8 k, .int .u64 n, .string s, .int .u8 o, .slice ma m cap] → Only (fun j => j = eb ∨ j = g) w5 wZ → KdC w1 wZ rb eb B v T q d' c0 c1 c2 c3 (.slice none 0 0) (.slice (some ⟨g, 0, none⟩) 1 cap') 1 [.int .u8 k, .int .u64 n, .string s, .int .u8 o, .slice ma m cap] := fun wZ hxZ hoZ hOZ => by
  have hbk : ∀ j, (Value.slice (some ⟨g, 0, none⟩) 1 cap').ownBlock = some j → (.slice none 0 0 : Value).ownBlock = some j ∨ W.heap.size ≤ j := fun j hj => by
   simp only [Value.ownBlock, Option.some.injEq] at hj
   subst hj
   exact hG5
  have hrl : ∀ c, c < B → ¬ (.slice none 0 0 : Value).ownBlock = some c := hap
  have hgB : ¬ g < B := fun h => hG5.elim (hrl _ h) (fun h1 => by omega)
  have hR5 : IsRd w5 rb v T q d' := hRW.only hF5.cut (hrl _ hrb) (fun j hj => hrl _ (hv j hj))
  have hRZ : IsRd wZ rb v T q d' := hR5.only hOZ (fun e => e.elim (fun e => hx.n1 e.symm) (fun e => hgB (by rw [← e]; exact hrb))) (fun j hj e => e.elim (fun e => hx.n2 (by rw [hj, e])) (fun e => hgB (by rw [← e]; exact hv j hj)))
  refine ⟨hRZ, hxZ, hoZ, fun j hj => (hbk j hj).imp id (fun h => Nat.le_trans hBw.size h), ?_⟩
  have hA : Only (fun j => (j = eb ∨ (.slice none 0 0 : Value).ownBlock = some j) ∨ w1.heap.size ≤ j) w1 wZ := ((zQd hBw).trans (hF5.cut.mono fun j hj => .inl (.inr hj))).trans (hOZ.mono fun j hj => by
   rcases hj with rfl | rfl
   ·exact .inl (.inl rfl)
   ·exact hG5.elim (fun h => .inl (.inr h)) (fun h => .inr (Nat.le_trans hBw.size h)))
  exact hA.cut
 have q9 : Pq [8, 10, 11] := trivial
 iterate 3
  refine tkK q9 rfl (by kernel_rfl) (fun _ _ _ _ h => h) trivial fun K hK => ?_
  replace q9 := q9.tl
  apply Exists.intro
  refine ⟨Or.inl ⟨by kernel_rfl, fun w' hf => ?_⟩, ?_⟩
  ·skip
   go_simp
   try exact rfl
  go_simp
  refine hK _ ?_
  clear hK K
 refine zKv (k1 := 9) (k2 := 12) (by kernel_rfl) ?_ ?_
 ·refine wpOp_step rfl (fun K hK => ?_)
  have z0 : w5.cell? ⟨g, 0, none⟩ = some (.int .u8 0) := hown.cellAt 0 (by decide)
  have z1 : w5.cell? ⟨g, 1, none⟩ = some (.int .u64 0) := hown.cellAt 1 (by decide)
  have z2 : w5.cell? ⟨g, 2, none⟩ = some (.string ⟨#[]⟩) := hown.cellAt 2 (by decide)
  have z3 : w5.cell? ⟨g, 3, none⟩ = some (.int .u8 0) := hown.cellAt 3 (by decide)
  have z4 : w5.cell? ⟨g, 4, none⟩ = some (.slice none 0 0) := hown.cellAt 4 (by decide)
  have zf0 := hown.frozenAt 0
  have zf1 := hown.frozenAt 1
  have zf2 := hown.frozenAt 2
  have zf3 := hown.frozenAt 3
  have zf4 := hown.frozenAt 4
  have hgl := World.block_lt_of_cell? _ _ z0
  go_simp
  have hO9 : Only (fun j => j = eb ∨ j = g) w5 (((((w5.setCell ⟨g, 0, none⟩ (.int .u8 k)).setCell ⟨g, 1, none⟩ (.int .u64 n)).setCell ⟨g, 2, none⟩ (.string s)).setCell ⟨g, 3, none⟩ (.int .u8 o)).setCell ⟨g, 4, none⟩ (.slice ma m cap)) := (((((Only.refl _ w5).setCell (.inr rfl)).setCell (.inr rfl)).setCell (.inr rfl)).setCell (.inr rfl)).setCell (.inr rfl)
  have ho9 : (((((w5.setCell ⟨g, 0, none⟩ (.int .u8 k)).setCell ⟨g, 1, none⟩ (.int .u64 n)).setCell ⟨g, 2, none⟩ (.string s)).setCell ⟨g, 3, none⟩ (.int .u8 o)).setCell ⟨g, 4, none⟩ (.slice ma m cap)).ownsRow B 47 5 (.slice (some ⟨g, 0, none⟩) 1 cap') 1 [.int .u8 k, .int .u64 n, .string s, .int .u8 o, .slice ma m cap] := (((((hown.stored 0 (.int .u8 k)).1.stored 1 (.int .u64 n)).1.stored 2 (.string s)).1.stored 3 (.int .u8 o)).1.stored 4 (.slice ma m cap)).1
  have hO9g : Only (fun j => j = g) w5 (((((w5.setCell ⟨g, 0, none⟩ (.int .u8 k)).setCell ⟨g, 1, none⟩ (.int .u64 n)).setCell ⟨g, 2, none⟩ (.string s)).setCell ⟨g, 3, none⟩ (.int .u8 o)).setCell ⟨g, 4, none⟩ (.slice ma m cap)) := (((((Only.refl (fun j => j = g) w5).setCell rfl).setCell rfl).setCell rfl).setCell rfl).setCell rfl
  have hx9 := hx5.only hO9g hge'
  obtain ⟨w9, hw9⟩ : ∃ w9, (((((w5.setCell ⟨g, 0, none⟩ (.int .u8 k)).setCell ⟨g, 1, none⟩ (.int .u64 n)).setCell ⟨g, 2, none⟩ (.string s)).setCell ⟨g, 3, none⟩ (.int .u8 o)).setCell ⟨g, 4, none⟩ (.slice ma m cap)) = w9 := ⟨_, rfl⟩
  rw [hw9] at hO9 ho9 hx9
  rw [hw9]
  clear hw9 hO9g
  refine hK _ _ ⟨trivial, ?_⟩
  clear hK K
  refine zQe (k := 12) (by kernel_rfl) ?_
  refine wpOp_step rfl (fun K hK => ?_)
  obtain ⟨q0, q1, q2, q3, q4, qel, qef⟩ := hx9.e
  have qf4 := qef 4
  go_simp
  refine hK _ _ ⟨trivial, ?_⟩
  clear hK K
  refine zQq (by kernel_rfl) ?_
  have hxZ : Bx (w9.setCell ⟨eb, 4, none⟩ (.slice (some ⟨g, 0, none⟩) 1 cap')) eb rb (ob v T) c0 c1 c2 c3 (.slice (some ⟨g, 0, none⟩) 1 cap') := ⟨zXs 4 (by omega) _ hx9.row, hx.n1, hx.n2⟩
  have hoZ := ownsRow_setCell_other ho9 (a := ⟨eb, 4, none⟩) (by simp only [Value.ownBlock, ne_eq, Option.some.injEq]; exact hge) (.slice (some ⟨g, 0, none⟩) 1 cap')
  have hOZ : Only (fun j => j = eb ∨ j = g) w5 (w9.setCell ⟨eb, 4, none⟩ (.slice (some ⟨g, 0, none⟩) 1 cap')) := hO9.setCell (.inl rfl)
  go_wp2
  go_ret
  exact ⟨k, n, o, s, ma, m, cap, c, q, d', w1, hXX, hO1, rfl, .slice (some ⟨g, 0, none⟩) 1 cap', hFin _ hxZ hoZ hOZ⟩
 ·refine wpOp_step rfl (fun K hK => ?_)
  obtain ⟨q0, q1, q2, q3, q4, qel, qef⟩ := hx5.e
  have qf4 := qef 4
  go_simp
  have hxC : Bx (w5.setCell ⟨eb, 4, none⟩ (.slice (some ⟨g, 0, none⟩) 1 cap')) eb rb (ob v T) c0 c1 c2 c3 (.slice (some ⟨g, 0, none⟩) 1 cap') := ⟨zXs 4 (by omega) _ hx5.row, hx.n1, hx.n2⟩
  have hoC := ownsRow_setCell_other hown (a := ⟨eb, 4, none⟩) (by simp only [Value.ownBlock, ne_eq, Option.some.injEq]; exact hge) (.slice (some ⟨g, 0, none⟩) 1 cap')
  have hOC : Only (fun j => j = eb ∨ j = g) w5 (w5.setCell ⟨eb, 4, none⟩ (.slice (some ⟨g, 0, none⟩) 1 cap')) := (Only.refl _ w5).setCell (.inl rfl)
  obtain ⟨wC, hwC⟩ : ∃ wC, w5.setCell ⟨eb, 4, none⟩ (.slice (some ⟨g, 0, none⟩) 1 cap') = wC := ⟨_, rfl⟩
  rw [hwC] at hxC hoC hOC
  rw [hwC]
  clear hwC q0 q1 q2 q3 q4 qel qef qf4
  refine hK _ _ ⟨trivial, ?_⟩
  clear hK K
  refine zQe (k := 9) (by kernel_rfl) ?_
  refine wpOp_step rfl (fun K hK => ?_)
  have z0 : wC.cell? ⟨g, 0, none⟩ = some (.int .u8 0) := hoC.cellAt 0 (by decide)
  have z1 : wC.cell? ⟨g, 1, none⟩ = some (.int .u64 0) := hoC.cellAt 1 (by decide)
  have z2 : wC.cell? ⟨g, 2, none⟩ = some (.string ⟨#[]⟩) := hoC.cellAt 2 (by decide)
  have z3 : wC.cell? ⟨g, 3, none⟩ = some (.int .u8 0) := hoC.cellAt 3 (by decide)
  have z4 : wC.cell? ⟨g, 4, none⟩ = some (.slice none 0 0) := hoC.cellAt 4 (by decide)
  have zf0 := hoC.frozenAt 0
  have zf1 := hoC.frozenAt 1
  have zf2 := hoC.frozenAt 2
  have zf3 := hoC.frozenAt 3
  have zf4 := hoC.frozenAt 4
  have hgl := World.block_lt_of_cell? _ _ z0
  go_simp
  refine hK _ _ ⟨trivial, ?_⟩
  clear hK K
  refine zQq (by kernel_rfl) ?_
  have hoZ : (((((wC.setCell ⟨g, 0, none⟩ (.int .u8 k)).setCell ⟨g, 1, none⟩ (.int .u64 n)).setCell ⟨g, 2, none⟩ (.string s)).setCell ⟨g, 3, none⟩ (.int .u8 o)).setCell ⟨g, 4, none⟩ (.slice ma m cap)).ownsRow B 47 5 (.slice (some ⟨g, 0, none⟩) 1 cap') 1 [.int .u8 k, .int .u64 n, .string s, .int .u8 o, .slice ma m cap] := (((((hoC.stored 0 (.int .u8 k)).1.stored 1 (.int .u64 n)).1.stored 2 (.string s)).1.stored 3 (.int .u8 o)).1.stored 4 (.slice ma m cap)).1
  have hOZ : Only (fun j => j = eb ∨ j = g) w5 (((((wC.setCell ⟨g, 0, none⟩ (.int .u8 k)).setCell ⟨g, 1, none⟩ (.int .u64 n)).setCell ⟨g, 2, none⟩ (.string s)).setCell ⟨g, 3, none⟩ (.int .u8 o)).setCell ⟨g, 4, none⟩ (.slice ma m cap)) := ((((hOC.setCell (.inr rfl)).setCell (.inr rfl)).setCell (.inr rfl)).setCell (.inr rfl)).setCell (.inr rfl)
  have hO9g : Only (fun j => j = g) wC (((((wC.setCell ⟨g, 0, none⟩ (.int .u8 k)).setCell ⟨g, 1, none⟩ (.int .u64 n)).setCell ⟨g, 2, none⟩ (.string s)).setCell ⟨g, 3, none⟩ (.int .u8 o)).setCell ⟨g, 4, none⟩ (.slice ma m cap)) := (((((Only.refl (fun j => j = g) wC).setCell rfl).setCell rfl).setCell rfl).setCell rfl).setCell rfl
  have hxZ := hxC.only hO9g hge'
  go_wp2
  go_ret
  exact ⟨k, n, o, s, ma, m, cap, c, q, d', w1, hXX, hO1, rfl, .slice (some ⟨g, 0, none⟩) 1 cap', hFin _ hxZ hoZ hOZ⟩
theorem xXp {w : World} {rb eb B : Nat} {v : Value} {T : List (Tk × Int)} {p d : Int} {c0 c1 c2 c3 : Value} {g0 cap0 : Nat} {x0 x1 x2 x3 x4 : Value} {X : Int → Int → Int → ByteArray → Option Addr → Nat → Nat → Int → Int → Int → World → Prop}
 (hI : Calls Tryz.prog 178 #[.pointer (some ⟨rb, 0, none⟩)] w fun e w1 => ∃ k n o s ma m cap c q d', e = .returned (.tuple #[.agg #[.int .u8 k, .int .u64 n, .string s, .int .u8 o, .slice ma m cap], .int .i64 c]) ∧ IsRd w1 rb v T q d' ∧ Only (fun j => j = rb) w w1 ∧ X k n o s ma m cap c q d' w1)
 (hx : Bx w eb rb (ob v T) c0 c1 c2 c3 (.slice (some ⟨g0, 0, none⟩) 1 cap0)) (ho : w.ownsRow B 47 5 (.slice (some ⟨g0, 0, none⟩) 1 cap0) 1 [x0, x1, x2, x3, x4]) (hn : ¬ (.slice (some ⟨g0, 0, none⟩) 1 cap0 : Value).ownBlock = some eb) (hB : B ≤ w.heap.size) (hrb : rb < B) (hv : ∀ j, ob v T = some j → j < B) :
 Calls Tryz.prog 199 #[.pointer (some ⟨rb, 0, none⟩), .pointer (some ⟨eb, 0, none⟩)] w fun e w' => ∃ k n o s ma m cap c q d' w1, X k n o s ma m cap c q d' w1 ∧ Only (fun j => j = rb) w w1 ∧ e = .returned (.int .i64 c) ∧ ∃ lv', KdC w1 w' rb eb B v T q d' c0 c1 c2 c3 (.slice (some ⟨g0, 0, none⟩) 1 cap0) lv' 2 [x0, x1, x2, x3, x4, .int .u8 k, .int .u64 n, .string s, .int .u8 o, .slice ma m cap] := by
 obtain ⟨i0, hi, hz0, hz1, hz2⟩ := info_parts qQe
 have hap := fun c (hc : c < B) => yJk ho (.inr hc)
 go_enter Tryz.func199, Tryz.ntmps199
 go_wp2_with (go_at_call 178; ((with_reducible refine hI.mono ?_); (rintro e w1 ⟨k, n, o, s, ma, m, cap, c, q, d', rfl, hR1, hO1, hXX⟩)))
 have hx1 := hx.only hO1 hx.n1
 have ho1 := zQy ho hO1 (fun j hj e => by have := zQu ho hj; omega)
 have hB1 : B ≤ w1.heap.size := Nat.le_trans hB hO1.size
 clear hI
 obtain ⟨W, hW⟩ : ∃ W, w1.alloc (.cells #[.int .u8 k, .int .u64 n, .string s, .int .u8 o, .slice ma m cap] 47) = W := ⟨_, rfl⟩
 have hBw : Below w1.heap.size w1 W := by rw [← hW]; exact aB (Below.refl _ _) _
 have b0 : W.cell? ⟨w1.heap.size, 0, none⟩ = some (.int .u8 k) := by rw [← hW]; exact zQp _ _ _ 0
 have b1 : W.cell? ⟨w1.heap.size, 1, none⟩ = some (.int .u64 n) := by rw [← hW]; exact zQp _ _ _ 1
 have b2 : W.cell? ⟨w1.heap.size, 2, none⟩ = some (.string s) := by rw [← hW]; exact zQp _ _ _ 2
 have b3 : W.cell? ⟨w1.heap.size, 3, none⟩ = some (.int .u8 o) := by rw [← hW]; exact zQp _ _ _ 3
 have b4 : W.cell? ⟨w1.heap.size, 4, none⟩ = some (.slice ma m cap) := by rw [← hW]; exact zQp _ _ _ 4
 have hzW : w1.heap.size < W.heap.size := by rw [← hW]; simp
 rw [hW]
 clear hW
 have hx2 := hx1.of hBw
 have ho2 := zXk ho1 hBw
 have hRW := hR1.of hBw
 have hel : eb < w1.heap.size := hx1.row.2.2
 have hn2 : ¬ (.slice (some ⟨g0, 0, none⟩) 1 cap0 : Value).ownBlock = some w1.heap.size := yJk ho1 (.inl (Nat.le_refl _))
 have e4 : W.cell? ⟨eb, 4, none⟩ = some (.slice (some ⟨g0, 0, none⟩) 1 cap0) := hx2.row.1 4 (by simp)
 have hFi : ∀ w', Only (fun j => (.slice (some ⟨g0, 0, none⟩) 1 cap0 : Value).ownBlock = some j ∨ W.heap.size ≤ j) W w' → w'.cell? ⟨eb, 4, none⟩ = some (.slice (some ⟨g0, 0, none⟩) 1 cap0) ∧ w'.cell? ⟨w1.heap.size, 0, none⟩ = some (.int .u8 k) ∧ w'.cell? ⟨w1.heap.size, 1, none⟩ = some (.int .u64 n) ∧ w'.cell? ⟨w1.heap.size, 2, none⟩ = some (.string s) ∧ w'.cell? ⟨w1.heap.size, 3, none⟩ = some (.int .u8 o) ∧ w'.cell? ⟨w1.heap.size, 4, none⟩ = some (.slice ma m cap) ∧ eb < w'.heap.size ∧ w1.heap.size < w'.heap.size := fun w' h => ⟨h.cut.cell hn e4, h.cut.cell hn2 b0, h.cut.cell hn2 b1, h.cut.cell hn2 b2, h.cut.cell hn2 b3, h.cut.cell hn2 b4, Nat.lt_of_lt_of_le (by omega) h.size, Nat.lt_of_lt_of_le hzW h.size⟩
 have hF0 : Only (fun j => (.slice (some ⟨g0, 0, none⟩) 1 cap0 : Value).ownBlock = some j ∨ W.heap.size ≤ j) W W.drew := od1
 have ho3 : W.drew.ownsRow B 47 5 (.slice (some ⟨g0, 0, none⟩) 1 cap0) 1 [x0, x1, x2, x3, x4] := zQy ho2 (od1 (S := fun _ => False)) (fun _ _ h => h)
 have hBW : B ≤ W.heap.size := Nat.le_trans hB1 hBw.size
 refine zKc (fun w' => Only (fun j => (.slice (some ⟨g0, 0, none⟩) 1 cap0 : Value).ownBlock = some j ∨ W.heap.size ≤ j) W w') 7 (by kernel_rfl) ?_
 have q9 : Pq [0, 1, 2, 3, 4, 5] := trivial
 iterate 6
  refine tkF q9 rfl (by kernel_rfl) (fun _ _ _ _ h => h) hF0 fun K hK => ?_
  replace q9 := q9.tl
  apply Exists.intro
  refine ⟨Or.inl ⟨by kernel_rfl, fun w' hf => ?_⟩, ?_⟩
  ·obtain ⟨s4, k0, k1, k2, k3, k4, kl, km⟩ := hFi _ hf
   go_simp
   try exact rfl
  go_simp
  refine hK _ ?_
  clear hK K
 refine zQv (k := 6) (by kernel_rfl) ?_
 refine wpOp_step rfl (fun K hK => ?_)
 go_simp
 have hF6 : Only (fun j => (.slice (some ⟨g0, 0, none⟩) 1 cap0 : Value).ownBlock = some j ∨ W.heap.size ≤ j) W (W.drew.alloc (.cells #[.int .u8 0, .int .u64 0, .string ⟨#[]⟩, .int .u8 0, .slice none 0 0] 47)) := hF0.trans (zQd (aB (Below.refl _ _) _))
 have ho6 : (W.drew.alloc (.cells #[.int .u8 0, .int .u64 0, .string ⟨#[]⟩, .int .u8 0, .slice none 0 0] 47)).ownsRow B 47 5 (.slice (some ⟨g0, 0, none⟩) 1 cap0) 1 [x0, x1, x2, x3, x4] := World.ownsRow.alloc ho3 _
 refine hK _ _ ⟨fun _ => hF6, ?_⟩
 clear hK K
 refine zQv (k := 7) (by kernel_rfl) ?_
 refine wpOp_step rfl (fun K hK => ?_)
 refine step_append_lies _ rfl (.tmp 15) (.tmp 18) 41 rfl B 47 i0 _ 5 64 Tryz.underlying41 hi hz0 hz1 hz2 rfl (by decide) (.slice (some ⟨g0, 0, none⟩) 1 cap0) 1 [x0, x1, x2, x3, x4] rfl ho6 ⟨W.drew.heap.size, 0, none⟩ 1 1 [.int .u8 0, .int .u64 0, .string ⟨#[]⟩, .int .u8 0, .slice none 0 0] rfl rfl (zXe [.int .u8 0, .int .u64 0, .string ⟨#[]⟩, .int .u8 0, .slice none 0 0] 47 W.drew) (by intro u hu; simp at hu; rcases hu with rfl | rfl | rfl | rfl | rfl <;> rfl) (by decide) (by unfold maxLen; omega) (by omega) (Nat.le_trans hBW hF6.size) _ rfl ?_
 intro g cap' w5 hown hgrow hat hlt
 have hG5 : (.slice (some ⟨g0, 0, none⟩) 1 cap0 : Value).ownBlock = some g ∨ W.heap.size ≤ g := hat.imp id (fun h => by rw [h]; exact hF6.size)
 have hF5 : Only (fun j => (.slice (some ⟨g0, 0, none⟩) 1 cap0 : Value).ownBlock = some j ∨ W.heap.size ≤ j) W w5 := hF6.trans ((zXc hgrow).mono fun j hj => .inl hj.symm)
 have hge : ¬ g = eb := fun e => hG5.elim (fun h => hn (by rw [h, e])) (fun h => by omega)
 have hge' : ¬ eb = g := fun e => hge e.symm
 have hx5 := hx2.only hF5.cut hn
 go_simp
 refine hK _ _ ⟨fun h => (Bool.false_ne_true (h.symm.trans (by kernel_rfl))).elim, ?_⟩
 clear hK K
 refine yXh (F' := fun _ => True) _ _ _ _ (by kernel_rfl) ?_
 have hFin : ∀ wZ, Bx wZ eb rb (ob v T) c0 c1 c2 c3 (.slice (some ⟨g, 0, none⟩) 2 cap') → wZ.ownsRow B 47 5 (.slice (some ⟨g, 0, none⟩) 2 cap') 2 [x0, x1, x2, x3, x4, .int .u8 k, .int .u64 n, .string s, .int .u8 o, .slice ma m cap] → Only (fun j => j = eb ∨ j = g) w5 wZ → KdC w1 wZ rb eb B v T q d' c0 c1 c2 c3 (.slice (some ⟨g0, 0, none⟩) 1 cap0) (.slice (some ⟨g, 0, none⟩) 2 cap') 2 [x0, x1, x2, x3, x4, .int .u8 k, .int .u64 n, .string s, .int .u8 o, .slice ma m cap] := fun wZ hxZ hoZ hOZ => by
  have hbk : ∀ j, (Value.slice (some ⟨g, 0, none⟩) 2 cap').ownBlock = some j → (.slice (some ⟨g0, 0, none⟩) 1 cap0 : Value).ownBlock = some j ∨ W.heap.size ≤ j := fun j hj => by
   simp only [Value.ownBlock, Option.some.injEq] at hj
   subst hj
   exact hG5
  have hrl : ∀ c, c < B → ¬ (.slice (some ⟨g0, 0, none⟩) 1 cap0 : Value).ownBlock = some c := hap
  have hgB : ¬ g < B := fun h => hG5.elim (hrl _ h) (fun h1 => by omega)
  have hR5 : IsRd w5 rb v T q d' := hRW.only hF5.cut (hrl _ hrb) (fun j hj => hrl _ (hv j hj))
  have hRZ : IsRd wZ rb v T q d' := hR5.only hOZ (fun e => e.elim (fun e => hx.n1 e.symm) (fun e => hgB (by rw [← e]; exact hrb))) (fun j hj e => e.elim (fun e => hx.n2 (by rw [hj, e])) (fun e => hgB (by rw [← e]; exact hv j hj)))
  refine ⟨hRZ, hxZ, hoZ, fun j hj => (hbk j hj).imp id (fun h => Nat.le_trans hBw.size h), ?_⟩
  have hA : Only (fun j => (j = eb ∨ (.slice (some ⟨g0, 0, none⟩) 1 cap0 : Value).ownBlock = some j) ∨ w1.heap.size ≤ j) w1 wZ := ((zQd hBw).trans (hF5.cut.mono fun j hj => .inl (.inr hj))).trans (hOZ.mono fun j hj => by
   rcases hj with rfl | rfl
   ·exact .inl (.inl rfl)
   ·exact hG5.elim (fun h => .inl (.inr h)) (fun h => .inr (Nat.le_trans hBw.size h)))
  exact hA.cut
 have q9 : Pq [8, 10, 11] := trivial
 iterate 3
  refine tkK q9 rfl (by kernel_rfl) (fun _ _ _ _ h => h) trivial fun K hK => ?_
  replace q9 := q9.tl
  apply Exists.intro
  refine ⟨Or.inl ⟨by kernel_rfl, fun w' hf => ?_⟩, ?_⟩
  ·skip
   go_simp
   try exact rfl
  go_simp
  refine hK _ ?_
  clear hK K
 refine zKv (k1 := 9) (k2 := 12) (by kernel_rfl) ?_ ?_
 ·refine wpOp_step rfl (fun K hK => ?_)
  have z0 : w5.cell? ⟨g, 5, none⟩ = some (.int .u8 0) := hown.cellAt 5 (by decide)
  have z1 : w5.cell? ⟨g, 6, none⟩ = some (.int .u64 0) := hown.cellAt 6 (by decide)
  have z2 : w5.cell? ⟨g, 7, none⟩ = some (.string ⟨#[]⟩) := hown.cellAt 7 (by decide)
  have z3 : w5.cell? ⟨g, 8, none⟩ = some (.int .u8 0) := hown.cellAt 8 (by decide)
  have z4 : w5.cell? ⟨g, 9, none⟩ = some (.slice none 0 0) := hown.cellAt 9 (by decide)
  have zf0 := hown.frozenAt 5
  have zf1 := hown.frozenAt 6
  have zf2 := hown.frozenAt 7
  have zf3 := hown.frozenAt 8
  have zf4 := hown.frozenAt 9
  have hgl := World.block_lt_of_cell? _ _ z0
  go_simp
  have hO9 : Only (fun j => j = eb ∨ j = g) w5 (((((w5.setCell ⟨g, 5, none⟩ (.int .u8 k)).setCell ⟨g, 6, none⟩ (.int .u64 n)).setCell ⟨g, 7, none⟩ (.string s)).setCell ⟨g, 8, none⟩ (.int .u8 o)).setCell ⟨g, 9, none⟩ (.slice ma m cap)) := (((((Only.refl _ w5).setCell (.inr rfl)).setCell (.inr rfl)).setCell (.inr rfl)).setCell (.inr rfl)).setCell (.inr rfl)
  have ho9 : (((((w5.setCell ⟨g, 5, none⟩ (.int .u8 k)).setCell ⟨g, 6, none⟩ (.int .u64 n)).setCell ⟨g, 7, none⟩ (.string s)).setCell ⟨g, 8, none⟩ (.int .u8 o)).setCell ⟨g, 9, none⟩ (.slice ma m cap)).ownsRow B 47 5 (.slice (some ⟨g, 0, none⟩) 2 cap') 2 [x0, x1, x2, x3, x4, .int .u8 k, .int .u64 n, .string s, .int .u8 o, .slice ma m cap] := (((((hown.stored 5 (.int .u8 k)).1.stored 6 (.int .u64 n)).1.stored 7 (.string s)).1.stored 8 (.int .u8 o)).1.stored 9 (.slice ma m cap)).1
  have hO9g : Only (fun j => j = g) w5 (((((w5.setCell ⟨g, 5, none⟩ (.int .u8 k)).setCell ⟨g, 6, none⟩ (.int .u64 n)).setCell ⟨g, 7, none⟩ (.string s)).setCell ⟨g, 8, none⟩ (.int .u8 o)).setCell ⟨g, 9, none⟩ (.slice ma m cap)) := (((((Only.refl (fun j => j = g) w5).setCell rfl).setCell rfl).setCell rfl).setCell rfl).setCell rfl
  have hx9 := hx5.only hO9g hge'
  obtain ⟨w9, hw9⟩ : ∃ w9, (((((w5.setCell ⟨g, 5, none⟩ (.int .u8 k)).setCell ⟨g, 6, none⟩ (.int .u64 n)).setCell ⟨g, 7, none⟩ (.string s)).setCell ⟨g, 8, none⟩ (.int .u8 o)).setCell ⟨g, 9, none⟩ (.slice ma m cap)) = w9 := ⟨_, rfl⟩
  rw [hw9] at hO9 ho9 hx9
  rw [hw9]
  clear hw9 hO9g
  refine hK _ _ ⟨trivial, ?_⟩
  clear hK K
  refine zQe (k := 12) (by kernel_rfl) ?_
  refine wpOp_step rfl (fun K hK => ?_)
  obtain ⟨q0, q1, q2, q3, q4, qel, qef⟩ := hx9.e
  have qf4 := qef 4
  go_simp
  refine hK _ _ ⟨trivial, ?_⟩
  clear hK K
  refine zQq (by kernel_rfl) ?_
  have hxZ : Bx (w9.setCell ⟨eb, 4, none⟩ (.slice (some ⟨g, 0, none⟩) 2 cap')) eb rb (ob v T) c0 c1 c2 c3 (.slice (some ⟨g, 0, none⟩) 2 cap') := ⟨zXs 4 (by omega) _ hx9.row, hx.n1, hx.n2⟩
  have hoZ := ownsRow_setCell_other ho9 (a := ⟨eb, 4, none⟩) (by simp only [Value.ownBlock, ne_eq, Option.some.injEq]; exact hge) (.slice (some ⟨g, 0, none⟩) 2 cap')
  have hOZ : Only (fun j => j = eb ∨ j = g) w5 (w9.setCell ⟨eb, 4, none⟩ (.slice (some ⟨g, 0, none⟩) 2 cap')) := hO9.setCell (.inl rfl)
  go_wp2
  go_ret
  exact ⟨k, n, o, s, ma, m, cap, c, q, d', w1, hXX, hO1, rfl, .slice (some ⟨g, 0, none⟩) 2 cap', hFin _ hxZ hoZ hOZ⟩
 ·refine wpOp_step rfl (fun K hK => ?_)
  obtain ⟨q0, q1, q2, q3, q4, qel, qef⟩ := hx5.e
  have qf4 := qef 4
  go_simp
  have hxC : Bx (w5.setCell ⟨eb, 4, none⟩ (.slice (some ⟨g, 0, none⟩) 2 cap')) eb rb (ob v T) c0 c1 c2 c3 (.slice (some ⟨g, 0, none⟩) 2 cap') := ⟨zXs 4 (by omega) _ hx5.row, hx.n1, hx.n2⟩
  have hoC := ownsRow_setCell_other hown (a := ⟨eb, 4, none⟩) (by simp only [Value.ownBlock, ne_eq, Option.some.injEq]; exact hge) (.slice (some ⟨g, 0, none⟩) 2 cap')
  have hOC : Only (fun j => j = eb ∨ j = g) w5 (w5.setCell ⟨eb, 4, none⟩ (.slice (some ⟨g, 0, none⟩) 2 cap')) := (Only.refl _ w5).setCell (.inl rfl)
  obtain ⟨wC, hwC⟩ : ∃ wC, w5.setCell ⟨eb, 4, none⟩ (.slice (some ⟨g, 0, none⟩) 2 cap') = wC := ⟨_, rfl⟩
  rw [hwC] at hxC hoC hOC
  rw [hwC]
  clear hwC q0 q1 q2 q3 q4 qel qef qf4
  refine hK _ _ ⟨trivial, ?_⟩
  clear hK K
  refine zQe (k := 9) (by kernel_rfl) ?_
  refine wpOp_step rfl (fun K hK => ?_)
  have z0 : wC.cell? ⟨g, 5, none⟩ = some (.int .u8 0) := hoC.cellAt 5 (by decide)
  have z1 : wC.cell? ⟨g, 6, none⟩ = some (.int .u64 0) := hoC.cellAt 6 (by decide)
  have z2 : wC.cell? ⟨g, 7, none⟩ = some (.string ⟨#[]⟩) := hoC.cellAt 7 (by decide)
  have z3 : wC.cell? ⟨g, 8, none⟩ = some (.int .u8 0) := hoC.cellAt 8 (by decide)
  have z4 : wC.cell? ⟨g, 9, none⟩ = some (.slice none 0 0) := hoC.cellAt 9 (by decide)
  have zf0 := hoC.frozenAt 5
  have zf1 := hoC.frozenAt 6
  have zf2 := hoC.frozenAt 7
  have zf3 := hoC.frozenAt 8
  have zf4 := hoC.frozenAt 9
  have hgl := World.block_lt_of_cell? _ _ z0
  go_simp
  refine hK _ _ ⟨trivial, ?_⟩
  clear hK K
  refine zQq (by kernel_rfl) ?_
  have hoZ : (((((wC.setCell ⟨g, 5, none⟩ (.int .u8 k)).setCell ⟨g, 6, none⟩ (.int .u64 n)).setCell ⟨g, 7, none⟩ (.string s)).setCell ⟨g, 8, none⟩ (.int .u8 o)).setCell ⟨g, 9, none⟩ (.slice ma m cap)).ownsRow B 47 5 (.slice (some ⟨g, 0, none⟩) 2 cap') 2 [x0, x1, x2, x3, x4, .int .u8 k, .int .u64 n, .string s, .int .u8 o, .slice ma m cap] := (((((hoC.stored 5 (.int .u8 k)).1.stored 6 (.int .u64 n)).1.stored 7 (.string s)).1.stored 8 (.int .u8 o)).1.stored 9 (.slice ma m cap)).1
  have hOZ : Only (fun j => j = eb ∨ j = g) w5 (((((wC.setCell ⟨g, 5, none⟩ (.int .u8 k)).setCell ⟨g, 6, none⟩ (.int .u64 n)).setCell ⟨g, 7, none⟩ (.string s)).setCell ⟨g, 8, none⟩ (.int .u8 o)).setCell ⟨g, 9, none⟩ (.slice ma m cap)) := ((((hOC.setCell (.inr rfl)).setCell (.inr rfl)).setCell (.inr rfl)).setCell (.inr rfl)).setCell (.inr rfl)
  have hO9g : Only (fun j => j = g) wC (((((wC.setCell ⟨g, 5, none⟩ (.int .u8 k)).setCell ⟨g, 6, none⟩ (.int .u64 n)).setCell ⟨g, 7, none⟩ (.string s)).setCell ⟨g, 8, none⟩ (.int .u8 o)).setCell ⟨g, 9, none⟩ (.slice ma m cap)) := (((((Only.refl (fun j => j = g) wC).setCell rfl).setCell rfl).setCell rfl).setCell rfl).setCell rfl
  have hxZ := hxC.only hO9g hge'
  go_wp2
  go_ret
  exact ⟨k, n, o, s, ma, m, cap, c, q, d', w1, hXX, hO1, rfl, .slice (some ⟨g, 0, none⟩) 2 cap', hFin _ hxZ hoZ hOZ⟩
abbrev zX : Value := .agg #[.int .u8 0, .int .u64 0, .string ⟨#[]⟩, .int .u8 0, .slice none 0 0]
abbrev vX (k n : Int) (s : ByteArray) (o : Int) (ma : Option Addr) (m cap : Nat) : Value := .agg #[.int .u8 k, .int .u64 n, .string s, .int .u8 o, .slice ma m cap]
def zQb (T : List (Tk × Int)) : List Tk := T.map (·.1)
theorem zJo {T : List (Tk × Int)} {p : Nat} {t : Tk} (h : (zQb T)[p]? = some t) : zXy T (p : Int) = t ∧ (0 : Int) ≤ p ∧ (p : Int) < T.length := by
 obtain ⟨hp, he⟩ := List.getElem?_eq_some_iff.1 h
 have hp' : p < T.length := by simpa [zQb] using hp
 refine ⟨?_, by omega, by omega⟩
 rw [xJh hp']
 simpa [zQb] using he
theorem yQz {T : List (Tk × Int)} {p : Nat} (h : (zQb T)[p]? = none) : zXy T (p : Int) = ⟨0, [], 0⟩ := by
 apply xXd
 have := List.getElem?_eq_none_iff.1 h
 simp [zQb] at this
 omega
def ExEr (w : World) (rb : Nat) (v : Value) (T : List (Tk × Int)) (c q : Int) (e : Ending) (w' : World) : Prop :=
 e = .returned (.tuple #[zX, .int .i64 c]) ∧ (∃ d', IsRd w' rb v T q d') ∧ Only (fun j => j = rb) w w'
def ExOk (w : World) (rb : Nat) (v : Value) (T : List (Tk × Int)) (d : Int) (x : Xp) (q : Int) (e : Ending) (w' : World) : Prop :=
 ∃ (k n : Int) (s : ByteArray) (o : Int) (ma : Option Addr) (m cap : Nat), e = .returned (.tuple #[vX k n s o ma m cap, .int .i64 0]) ∧ IsRd w' rb v T q d ∧ Only (fun j => j = rb) w w' ∧ IsE (fun b => w.heap.size ≤ b ∧ b < w'.heap.size) w' (vX k n s o ma m cap) x
def ExP (w : World) (rb : Nat) (v : Value) (T : List (Tk × Int)) (d : Int) (R : Ro) (e : Ending) (w' : World) : Prop :=
 match R with
 | .er c q => ExEr w rb v T (c : Int) (q : Int) e w'
 | .ok x q => ExOk w rb v T d x (q : Int) e w'
structure Kr1 (w : World) (eb B : Nat) (lv : Value) (x : Xp) : Prop where
 kid : ∃ (g cap' : Nat) (k n : Int) (s : ByteArray) (o : Int) (ma : Option Addr) (m cap : Nat), lv = .slice (some ⟨g, 0, none⟩) 1 cap' ∧ w.ownsRow B 47 5 lv 1 [.int .u8 k, .int .u64 n, .string s, .int .u8 o, .slice ma m cap] ∧ ¬ g = eb ∧
  IsE (fun c => B ≤ c ∧ c < w.heap.size ∧ ¬ c = eb ∧ ¬ c = g) w (vX k n s o ma m cap) x
structure Kr2 (w : World) (eb B : Nat) (lv : Value) (x y : Xp) : Prop where
 kid : ∃ (g cap' : Nat) (k n : Int) (s : ByteArray) (o : Int) (ma : Option Addr) (m cap : Nat) (k2 n2 : Int) (s2 : ByteArray) (o2 : Int) (ma2 : Option Addr) (m2 cap2 : Nat), lv = .slice (some ⟨g, 0, none⟩) 2 cap' ∧
  w.ownsRow B 47 5 lv 2 [.int .u8 k, .int .u64 n, .string s, .int .u8 o, .slice ma m cap, .int .u8 k2, .int .u64 n2, .string s2, .int .u8 o2, .slice ma2 m2 cap2] ∧ ¬ g = eb ∧
  IsE (fun c => B ≤ c ∧ c < w.heap.size ∧ ¬ c = eb ∧ ¬ c = g) w (vX k n s o ma m cap) x ∧ IsE (fun c => B ≤ c ∧ c < w.heap.size ∧ ¬ c = eb ∧ ¬ c = g) w (vX k2 n2 s2 o2 ma2 m2 cap2) y
theorem Kr1.only {w w' : World} {eb rb B : Nat} {lv : Value} {x : Xp} (h : Kr1 w eb B lv x) (ho : Only (fun j => j = rb ∨ j = eb) w w') (hr : rb < B) : Kr1 w' eb B lv x := by
 obtain ⟨g, cap', k, n, s, o, ma, m, cap, rfl, hown, hge, hE⟩ := h.kid
 have hg : B ≤ g := (zQu hown rfl).1
 refine ⟨g, cap', k, n, s, o, ma, m, cap, rfl, zQy hown ho (fun j hj e => ?_), hge, ?_⟩
 ·simp only [Value.ownBlock, Option.some.injEq] at hj
  subst hj
  rcases e with e | e
  ·omega
  ·exact hge e
 ·exact (hE.only ho (fun b hb e => by rcases e with e | e; · omega
                                      ·exact hb.2.2.1 e)).mono (fun b hb => ⟨hb.1, Nat.lt_of_lt_of_le hb.2.1 ho.size, hb.2.2⟩)
theorem Kr2.only {w w' : World} {eb rb B : Nat} {lv : Value} {x y : Xp} (h : Kr2 w eb B lv x y) (ho : Only (fun j => j = rb ∨ j = eb) w w') (hr : rb < B) : Kr2 w' eb B lv x y := by
 obtain ⟨g, cap', k, n, s, o, ma, m, cap, k2, n2, s2, o2, ma2, m2, cap2, rfl, hown, hge, hE, hE2⟩ := h.kid
 have hg : B ≤ g := (zQu hown rfl).1
 have hs : ∀ b, (B ≤ b ∧ b < w.heap.size ∧ ¬ b = eb ∧ ¬ b = g) → ¬ (b = rb ∨ b = eb) := fun b hb e => by
  rcases e with e | e
  ·omega
  ·exact hb.2.2.1 e
 refine ⟨g, cap', k, n, s, o, ma, m, cap, k2, n2, s2, o2, ma2, m2, cap2, rfl, zQy hown ho (fun j hj e => ?_), hge, (hE.only ho hs).mono (fun b hb => ⟨hb.1, Nat.lt_of_lt_of_le hb.2.1 ho.size, hb.2.2⟩), (hE2.only ho hs).mono (fun b hb => ⟨hb.1, Nat.lt_of_lt_of_le hb.2.1 ho.size, hb.2.2⟩)⟩
 simp only [Value.ownBlock, Option.some.injEq] at hj
 subst hj
 rcases e with e | e
 ·omega
 ·exact hge e
theorem jXh {G : Nat → Prop} {w : World} {g off : Nat} {k n : Int} {s : ByteArray} {o : Int} {ma : Option Addr} {m cap : Nat} {x : Xp} {r : List Xp} (hE : IsE G w (vX k n s o ma m cap) x) (hg : G g) (c0 : w.cell? ⟨g, off, none⟩ = some (.int .u8 k)) (c1 : w.cell? ⟨g, off + 1, none⟩ = some (.int .u64 n))
 (c2 : w.cell? ⟨g, off + 2, none⟩ = some (.string s)) (c3 : w.cell? ⟨g, off + 3, none⟩ = some (.int .u8 o)) (c4 : w.cell? ⟨g, off + 4, none⟩ = some (.slice ma m cap)) (hr : KidsAt G w r (some ⟨g, off + 5, none⟩)) : KidsAt G w (x :: r) (some ⟨g, off, none⟩) := by
 cases hE with
 | mk ho hl hk => exact .cons hg c0 c1 c2 c3 c4 ho hl hk hr
theorem Kr1.kids {w : World} {eb B : Nat} {lv : Value} {x : Xp} (h : Kr1 w eb B lv x) : ∃ g cap', lv = .slice (some ⟨g, 0, none⟩) 1 cap' ∧ KidsAt (fun b => B ≤ b ∧ b < w.heap.size) w [x] (some ⟨g, 0, none⟩) := by
 obtain ⟨g, cap', k, n, s, o, ma, m, cap, rfl, hown, hge, hE⟩ := h.kid
 have hg : B ≤ g ∧ g < w.heap.size := zQu hown rfl
 refine ⟨g, cap', rfl, jXh (hE.mono fun b hb => ⟨hb.1, hb.2.1⟩) ⟨hg.1, hg.2⟩ ?_ ?_ ?_ ?_ ?_ .nil⟩
 ·exact hown.cellAt 0 (by decide)
 ·exact hown.cellAt 1 (by decide)
 ·exact hown.cellAt 2 (by decide)
 ·exact hown.cellAt 3 (by decide)
 ·exact hown.cellAt 4 (by decide)
theorem Kr2.kids {w : World} {eb B : Nat} {lv : Value} {x y : Xp} (h : Kr2 w eb B lv x y) : ∃ g cap', lv = .slice (some ⟨g, 0, none⟩) 2 cap' ∧ KidsAt (fun b => B ≤ b ∧ b < w.heap.size) w [x, y] (some ⟨g, 0, none⟩) := by
 obtain ⟨g, cap', k, n, s, o, ma, m, cap, k2, n2, s2, o2, ma2, m2, cap2, rfl, hown, hge, hE, hE2⟩ := h.kid
 have hg : B ≤ g ∧ g < w.heap.size := zQu hown rfl
 refine ⟨g, cap', rfl, jXh (hE.mono fun b hb => ⟨hb.1, hb.2.1⟩) ⟨hg.1, hg.2⟩ ?_ ?_ ?_ ?_ ?_ (jXh (hE2.mono fun b hb => ⟨hb.1, hb.2.1⟩) ⟨hg.1, hg.2⟩ ?_ ?_ ?_ ?_ ?_ .nil)⟩
 ·exact hown.cellAt 0 (by decide)
 ·exact hown.cellAt 1 (by decide)
 ·exact hown.cellAt 2 (by decide)
 ·exact hown.cellAt 3 (by decide)
 ·exact hown.cellAt 4 (by decide)
 ·exact hown.cellAt 5 (by decide)
 ·exact hown.cellAt 6 (by decide)
 ·exact hown.cellAt 7 (by decide)
 ·exact hown.cellAt 8 (by decide)
 ·exact hown.cellAt 9 (by decide)
def KdE (w : World) (rb eb : Nat) (v : Value) (T : List (Tk × Int)) (B : Nat) (c q : Int) (e : Ending) (w' : World) : Prop :=
 e = .returned (.int .i64 c) ∧ (∃ d', IsRd w' rb v T q d') ∧ Only (fun j => j = rb ∨ j = eb ∨ B ≤ j) w w'
def Kd1 (w : World) (rb eb : Nat) (v : Value) (T : List (Tk × Int)) (B : Nat) (d : Int) (c0 c1 c2 c3 : Value) (x : Xp) (q : Int) (e : Ending) (w' : World) : Prop :=
 e = .returned (.int .i64 0) ∧ IsRd w' rb v T q d ∧ Only (fun j => j = rb ∨ j = eb ∨ B ≤ j) w w' ∧ ∃ lv', Bx w' eb rb (ob v T) c0 c1 c2 c3 lv' ∧ Kr1 w' eb B lv' x
def Kd2 (w : World) (rb eb : Nat) (v : Value) (T : List (Tk × Int)) (B : Nat) (d : Int) (c0 c1 c2 c3 : Value) (x y : Xp) (q : Int) (e : Ending) (w' : World) : Prop :=
 e = .returned (.int .i64 0) ∧ IsRd w' rb v T q d ∧ Only (fun j => j = rb ∨ j = eb ∨ B ≤ j) w w' ∧ ∃ lv', Bx w' eb rb (ob v T) c0 c1 c2 c3 lv' ∧ Kr2 w' eb B lv' x y
theorem jXi {w : World} {rb eb B : Nat} {v : Value} {T : List (Tk × Int)} {p d c q : Int} {c0 c1 c2 c3 : Value} (h : IsRd w rb v T p d) (hI : Calls Tryz.prog 178 #[.pointer (some ⟨rb, 0, none⟩)] w (ExEr w rb v T c q))
 (hx : Bx w eb rb (ob v T) c0 c1 c2 c3 (.slice none 0 0)) (hB : B = w.heap.size) : Calls Tryz.prog 199 #[.pointer (some ⟨rb, 0, none⟩), .pointer (some ⟨eb, 0, none⟩)] w (KdE w rb eb v T B c q) := by
 subst hB
 refine (xXq (p := p) (d := d) (B := w.heap.size) (X := fun k n o s ma m cap c' q' d' w1 => c' = c ∧ q' = q) (hI.mono fun e w1 ⟨he, ⟨d', hR⟩, hO⟩ => ⟨0, 0, 0, ⟨#[]⟩, none, 0, 0, c, q, d', he, hR, hO, rfl, rfl⟩) hx (World.ownsRow_nil _ _ _ _) (by simp [Value.ownBlock]) (Nat.le_refl _) h.lt (fun j hj => h.row.ob_lt hj)).mono ?_
 rintro e w' ⟨k, n, o, s, ma, m, cap, c', q', d', w1, ⟨rfl, rfl⟩, hO1, he, lv', hK⟩
 exact ⟨he, ⟨d', hK.rd⟩, (hO1.mono fun j hj => .inl hj).trans (hK.only.mono fun j hj => hj.elim (fun h => .inr (.inl h)) (fun h => by simp [Value.ownBlock] at h))⟩
theorem jXg {w : World} {rb eb B : Nat} {v : Value} {T : List (Tk × Int)} {p d q : Int} {x : Xp} {c0 c1 c2 c3 : Value} (h : IsRd w rb v T p d) (hI : Calls Tryz.prog 178 #[.pointer (some ⟨rb, 0, none⟩)] w (ExOk w rb v T d x q))
 (hx : Bx w eb rb (ob v T) c0 c1 c2 c3 (.slice none 0 0)) (hB : B = w.heap.size) : Calls Tryz.prog 199 #[.pointer (some ⟨rb, 0, none⟩), .pointer (some ⟨eb, 0, none⟩)] w (Kd1 w rb eb v T B d c0 c1 c2 c3 x q) := by
 subst hB
 refine (xXq (p := p) (d := d) (B := w.heap.size) (X := fun k n o s ma m cap c' q' d' w1 => c' = 0 ∧ q' = q ∧ d' = d ∧ IsE (fun b => w.heap.size ≤ b ∧ b < w1.heap.size) w1 (vX k n s o ma m cap) x) (hI.mono fun e w1 ⟨k, n, s, o, ma, m, cap, he, hR, hO, hE⟩ => ⟨k, n, o, s, ma, m, cap, 0, q, d, he, hR, hO, rfl, rfl, rfl, hE⟩) hx (World.ownsRow_nil _ _ _ _) (by simp [Value.ownBlock]) (Nat.le_refl _) h.lt (fun j hj => h.row.ob_lt hj)).mono ?_
 rintro e w' ⟨k, n, o, s, ma, m, cap, c', q', d', w1, ⟨rfl, rfl, rfl, hE⟩, hO1, he, lv', hK⟩
 have hel : eb < w.heap.size := hx.row.2.2
 obtain ⟨g, cap', rfl, hg1, hg2⟩ := hK.own.form (by omega)
 have hgw : w1.heap.size ≤ g := (hK.blk g rfl).elim (fun h => by simp [Value.ownBlock] at h) id
 have hsz := hO1.size
 refine ⟨he, hK.rd, (hO1.mono fun j hj => .inl hj).trans (hK.only.mono fun j hj => hj.elim (fun h => .inr (.inl h)) (fun h => by simp [Value.ownBlock] at h)), _, hK.bx, g, cap', k, n, s, o, ma, m, cap, rfl, hK.own, by omega, ?_⟩
 refine (hE.only hK.only (fun b hb e => ?_)).mono (fun b hb => ⟨hb.1, Nat.lt_of_lt_of_le hb.2 hK.only.size, by omega, by omega⟩)
 rcases e with e | e
 ·omega
 ·simp [Value.ownBlock] at e
theorem kid_er1 {w : World} {rb eb B : Nat} {v : Value} {T : List (Tk × Int)} {p d c q : Int} {x : Xp} {c0 c1 c2 c3 lv : Value} (h : IsRd w rb v T p d) (hI : Calls Tryz.prog 178 #[.pointer (some ⟨rb, 0, none⟩)] w (ExEr w rb v T c q))
 (hx : Bx w eb rb (ob v T) c0 c1 c2 c3 lv) (hk : Kr1 w eb B lv x) (hB : B ≤ w.heap.size) (hrb : rb < B) (hv : ∀ j, ob v T = some j → j < B) : Calls Tryz.prog 199 #[.pointer (some ⟨rb, 0, none⟩), .pointer (some ⟨eb, 0, none⟩)] w (KdE w rb eb v T B c q) := by
 obtain ⟨g, cap', k0, n0, s0, o0, ma0, m0, cap0, rfl, hown, hge, hE0⟩ := hk.kid
 have hg : B ≤ g ∧ g < w.heap.size := zQu hown rfl
 refine (xXp (p := p) (d := d) (B := B) (X := fun k n o s ma m cap c' q' d' w1 => c' = c ∧ q' = q) (hI.mono fun e w1 ⟨he, ⟨d', hR⟩, hO⟩ => ⟨0, 0, 0, ⟨#[]⟩, none, 0, 0, c, q, d', he, hR, hO, rfl, rfl⟩) hx hown (by simp only [Value.ownBlock, Option.some.injEq]; exact hge) hB hrb hv).mono ?_
 rintro e w' ⟨k, n, o, s, ma, m, cap, c', q', d', w1, ⟨rfl, rfl⟩, hO1, he, lv', hK⟩
 exact ⟨he, ⟨d', hK.rd⟩, (hO1.mono fun j hj => .inl hj).trans (hK.only.mono fun j hj => hj.elim (fun h => .inr (.inl h)) (fun h => by simp only [Value.ownBlock, Option.some.injEq] at h; exact .inr (.inr (by omega))))⟩
theorem kid_ok1 {w : World} {rb eb B : Nat} {v : Value} {T : List (Tk × Int)} {p d q : Int} {x y : Xp} {c0 c1 c2 c3 lv : Value} (h : IsRd w rb v T p d) (hI : Calls Tryz.prog 178 #[.pointer (some ⟨rb, 0, none⟩)] w (ExOk w rb v T d y q))
 (hx : Bx w eb rb (ob v T) c0 c1 c2 c3 lv) (hk : Kr1 w eb B lv x) (hB : B ≤ w.heap.size) (hrb : rb < B) (hv : ∀ j, ob v T = some j → j < B) : Calls Tryz.prog 199 #[.pointer (some ⟨rb, 0, none⟩), .pointer (some ⟨eb, 0, none⟩)] w (Kd2 w rb eb v T B d c0 c1 c2 c3 x y q) := by
 obtain ⟨g0, cap0', k0, n0, s0, o0, ma0, m0, cap0, rfl, hown, hge, hE0⟩ := hk.kid
 have hg0 : B ≤ g0 ∧ g0 < w.heap.size := zQu hown rfl
 have hel : eb < w.heap.size := hx.row.2.2
 refine (xXp (p := p) (d := d) (B := B) (X := fun k n o s ma m cap c' q' d' w1 => c' = 0 ∧ q' = q ∧ d' = d ∧ IsE (fun b => w.heap.size ≤ b ∧ b < w1.heap.size) w1 (vX k n s o ma m cap) y) (hI.mono fun e w1 ⟨k, n, s, o, ma, m, cap, he, hR, hO, hE⟩ => ⟨k, n, o, s, ma, m, cap, 0, q, d, he, hR, hO, rfl, rfl, rfl, hE⟩) hx hown (by simp only [Value.ownBlock, Option.some.injEq]; exact hge) hB hrb hv).mono ?_
 rintro e w' ⟨k, n, o, s, ma, m, cap, c', q', d', w1, ⟨rfl, rfl, rfl, hE⟩, hO1, he, lv', hK⟩
 obtain ⟨g, cap', rfl, hg1, hg2⟩ := hK.own.form (by omega)
 have hsz := hO1.size
 have hsz2 := hK.only.size
 have hgw : g0 = g ∨ w1.heap.size ≤ g := (hK.blk g rfl).imp (fun h => by simpa [Value.ownBlock] using h) id
 have hge' : ¬ g = eb := fun e => by
  rcases hgw with h1 | h1
  ·exact hge (by omega)
  ·omega
 refine ⟨he, hK.rd, (hO1.mono fun j hj => .inl hj).trans (hK.only.mono fun j hj => hj.elim (fun h => .inr (.inl h)) (fun h => by simp only [Value.ownBlock, Option.some.injEq] at h; exact .inr (.inr (by omega)))), _, hK.bx, g, cap', k0, n0, s0, o0, ma0, m0, cap0, k, n, s, o, ma, m, cap, rfl, hK.own, hge', ?_, ?_⟩
 ·refine ((hE0.only hO1 (fun b hb e => by omega)).only hK.only (fun b hb e => ?_)).mono (fun b hb => ⟨hb.1, by omega, hb.2.2.1, ?_⟩)
  ·rcases e with e | e
   ·exact hb.2.2.1 e
   ·simp only [Value.ownBlock, Option.some.injEq] at e; exact hb.2.2.2 e.symm
  ·intro e
   rcases hgw with h1 | h1
   ·exact hb.2.2.2 (by omega)
   ·omega
 ·refine (hE.only hK.only (fun b hb e => ?_)).mono (fun b hb => ⟨by omega, by omega, by omega, ?_⟩)
  ·rcases e with e | e
   ·omega
   ·simp only [Value.ownBlock, Option.some.injEq] at e; omega
  ·intro e
   rcases hgw with h1 | h1 <;> omega
def zJw (T : List (Tk × Int)) (p : Int) : Int := if p < 0 then 0 else (T.getD (min p.toNat (T.length - 1)) (⟨0, [], 0⟩, 0)).2
theorem place_any {w : World} {rb : Nat} {v : Value} {T : List (Tk × Int)} {p d : Int} (h : IsRd w rb v T p d) :
 Calls Tryz.prog 179 #[.pointer (some ⟨rb, 0, none⟩)] w fun e w' => e = .returned (.int .i64 (zJw T p)) ∧ Below w.heap.size w w' := by
 obtain ⟨ma, c, hv, hc⟩ := h.row.row
 subst hv
 have c0 := h.c0
 have c1 := h.c1
 have hlt := h.lt
 have hlen := h.len
 by_cases hp : p < 0
 ·have hpl : zJw T p = 0 := by unfold zJw; rw [if_pos hp]
  rw [hpl]
  clear hc h hpl
  go_enter Tryz.func179, Tryz.ntmps179
  go_wp2
  go_ret
  exact ⟨rfl, Below.refl _ _⟩
 ·by_cases hn : T.length = 0
  ·have hpl : zJw T p = 0 := by
    obtain rfl : T = [] := List.length_eq_zero_iff.1 hn
    unfold zJw; rw [if_neg hp]; rfl
   rw [hpl]
   rw [hn] at c0
   clear hc h hpl hn hlen
   go_enter Tryz.func179, Tryz.ntmps179
   go_wp2
   go_ret
   exact ⟨rfl, Below.refl _ _⟩
  ·obtain ⟨i, hi⟩ : ∃ i : Nat, i = min p.toNat (T.length - 1) := ⟨_, rfl⟩
   have hil : i < T.length := by omega
   obtain ⟨b, off, rfl, hb, _, _, _, q3⟩ := hc i hil
   have hpl : zJw T p = T[i].2 := by unfold zJw; rw [if_neg hp, ← hi, List.getD_eq_getElem?_getD, List.getElem?_eq_getElem hil]; rfl
   rw [hpl]
   generalize T[i].2 = z at q3
   obtain ⟨N, hN⟩ : ∃ N, N = T.length := ⟨_, rfl⟩
   rw [← hN] at c0 hlen hil hn hi
   have hN0 : ((N : Int) == 0) = false := by simp only [beq_eq_false_iff_ne]; omega
   have hw : IntKind.i64.wrap ((N : Int) - 1) = (N : Int) - 1 := by rw [IntKind.wrap_i64]; omega
   have hm : min p ((N : Int) - 1) = (i : Int) := by omega
   have hi0 : (0 : Int) ≤ (i : Int) := by omega
   have hiN : (i : Int) < (N : Int) := by omega
   clear hc h hpl hN hn hi
   go_enter Tryz.func179, Tryz.ntmps179
   go_wp2
   refine zXm (by kernel_rfl) (by kernel_rfl) ?_
   repeat (first
    | go_big_quiet_skip
    | (refine BigFrame.wpQuiet_want (by kernel_rfl) fun K hK => ?_
       apply Exists.intro
       refine ⟨fun w' hb' => ?_, ?_⟩
       ·have s0 := stay hb' c0
        have s1 := stay hb' c1
        have s2 := stay hb' q3
        go_simp
        first
         | exact rfl
         | exact ⟨rfl, hb'⟩
       go_simp
       refine hK _ ?_
       clear hK K))
   refine wpQuiet_nil ?_
   intro w1 hb1
   go_wp2
   go_ret
   exact ⟨rfl, hb1⟩
theorem yXx {a0 a1 a2 a3 a4 : Value} (c0 c1 c2 c3 c4 : Value) {w : World} {k : Nat} (h : rowG #[a0, a1, a2, a3, a4] w k) :
 rowG #[c0, c1, c2, c3, c4] (((((w.setCell ⟨k, 0, none⟩ c0).setCell ⟨k, 1, none⟩ c1).setCell ⟨k, 2, none⟩ c2).setCell ⟨k, 3, none⟩ c3).setCell ⟨k, 4, none⟩ c4) k :=
 zXs 4 (by omega) c4 (zXs 3 (by omega) c3 (zXs 2 (by omega) c2 (zXs 1 (by omega) c1 (zXs 0 (by omega) c0 h))))
theorem yZb (c0 c1 c2 c3 c4 : Value) (w : World) (k : Nat) : Only (fun j => j = k) w (((((w.setCell ⟨k, 0, none⟩ c0).setCell ⟨k, 1, none⟩ c1).setCell ⟨k, 2, none⟩ c2).setCell ⟨k, 3, none⟩ c3).setCell ⟨k, 4, none⟩ c4) :=
 ((((zXa w k 0 c0).trans (zXa _ k 1 c1)).trans (zXa _ k 2 c2)).trans (zXa _ k 3 c3)).trans (zXa _ k 4 c4)
theorem rd_new {w : World} {ma : Option Addr} {c0 : Nat} {T : List (Tk × Int)} {p : Int} (hv : RowZ w (.slice ma T.length c0) T) (hl : T.length ≤ 140737488355328) (h1 : -9223372036854775808 ≤ p) (h2 : p < 9223372036854775808) : IsRd ((w.alloc (.cells #[.int .u8 0, .int .u64 0, .string ⟨#[]⟩, .int .u8 0, .slice none 0 0] 47)).alloc (.cells #[.slice ma T.length c0, .int .i64 p, .int .i64 0] 234)) (w.heap.size + 1) (.slice ma T.length c0) T p 0 := by
 have hn := fun o => zQp (w.alloc (.cells #[.int .u8 0, .int .u64 0, .string ⟨#[]⟩, .int .u8 0, .slice none 0 0] 47)) #[.slice ma T.length c0, .int .i64 p, .int .i64 0] 234 o
 have hf := fun o => yZp (w.alloc (.cells #[.int .u8 0, .int .u64 0, .string ⟨#[]⟩, .int .u8 0, .slice none 0 0] 47)) #[.slice ma T.length c0, .int .i64 p, .int .i64 0] 234 o
 rw [World.size_alloc] at hn hf
 exact ⟨hn 0, hn 1, hn 2, hf, (hv.of (aB (Below.refl _ _) _)).of (aB (Below.refl _ _) _), fun e => by have := hv.ob_lt e; omega, hl, h1, h2⟩
theorem xXa {w : World} {ma : Option Addr} {c0 N : Nat} {p : Int} : Below w.heap.size w ((w.alloc (.cells #[.int .u8 0, .int .u64 0, .string ⟨#[]⟩, .int .u8 0, .slice none 0 0] 47)).alloc (.cells #[.slice ma N c0, .int .i64 p, .int .i64 0] 234)) := aB (aB (Below.refl _ _) _) _
theorem jJb {w : World} {ma : Option Addr} {c0 N : Nat} {p : Int} : rowG #[.int .u8 0, .int .u64 0, .string ⟨#[]⟩, .int .u8 0, .slice none 0 0] ((w.alloc (.cells #[.int .u8 0, .int .u64 0, .string ⟨#[]⟩, .int .u8 0, .slice none 0 0] 47)).alloc (.cells #[.slice ma N c0, .int .i64 p, .int .i64 0] 234)) w.heap.size := zQj (zQf _ _ _ _ rfl) _
theorem read_er {w : World} {ma : Option Addr} {c0 : Nat} {T : List (Tk × Int)} {p c q : Int} (hc0 : ¬ c = 0)
 (hX : Calls Tryz.prog 178 #[.pointer (some ⟨w.heap.size + 1, 0, none⟩)] ((w.alloc (.cells #[.int .u8 0, .int .u64 0, .string ⟨#[]⟩, .int .u8 0, .slice none 0 0] 47)).alloc (.cells #[.slice ma T.length c0, .int .i64 p, .int .i64 0] 234)) (ExEr ((w.alloc (.cells #[.int .u8 0, .int .u64 0, .string ⟨#[]⟩, .int .u8 0, .slice none 0 0] 47)).alloc (.cells #[.slice ma T.length c0, .int .i64 p, .int .i64 0] 234)) (w.heap.size + 1) (.slice ma T.length c0) T c q)) (hv : RowZ w (.slice ma T.length c0) T) :
 Calls Tryz.prog 161 #[.slice ma T.length c0, .int .i64 p] w fun e w' => e = .returned (.tuple #[.agg #[.int .u8 0, .int .u64 0, .string ⟨#[]⟩, .int .u8 0, .slice none 0 0], .int .i64 0, .iface 115 (.agg #[.int .i64 (zJw T q), .int .i64 c])]) ∧ Below w.heap.size w w' := by
 have hob : ∀ j, ob (.slice ma T.length c0) T = some j → j < w.heap.size := fun j hj => hv.ob_lt hj
 unfold ExEr at hX
 obtain ⟨N, hN⟩ : ∃ N, N = T.length := ⟨_, rfl⟩
 rw [← hN] at hX hob ⊢
 clear hN hv
 have hB0 : Below w.heap.size w ((w.alloc (.cells #[.int .u8 0, .int .u64 0, .string ⟨#[]⟩, .int .u8 0, .slice none 0 0] 47)).alloc (.cells #[.slice ma N c0, .int .i64 p, .int .i64 0] 234)) := xXa
 have hZ0 : rowG #[.int .u8 0, .int .u64 0, .string ⟨#[]⟩, .int .u8 0, .slice none 0 0] ((w.alloc (.cells #[.int .u8 0, .int .u64 0, .string ⟨#[]⟩, .int .u8 0, .slice none 0 0] 47)).alloc (.cells #[.slice ma N c0, .int .i64 p, .int .i64 0] 234)) w.heap.size := jJb
 go_enter Tryz.func161, Tryz.ntmps161
 go_wp2_with (first | (go_at_call 178; ((with_reducible refine hX.mono ?_); (rintro e x1 ⟨rfl, ⟨d', hR1⟩, hO1⟩); have hZZ := zQa hZ0 hO1 (by omega); have z0 := hZZ.1 0 (by simp); have z1 := hZZ.1 1 (by simp); have z2 := hZZ.1 2 (by simp); have z3 := hZZ.1 3 (by simp); have z4 := hZZ.1 4 (by simp); have y0 := hZZ.2.1 0; have y1 := hZZ.2.1 1; have y2 := hZZ.2.1 2; have y3 := hZZ.2.1 3; have y4 := hZZ.2.1 4; have hzl := hZZ.2.2; have h5 := yZb (.int .u8 0) (.int .u64 0) (.string ⟨#[]⟩) (.int .u8 0) (.slice none 0 0) x1 w.heap.size; have hRS := hR1.only h5 (by omega) (fun j hj e => by have := hob j hj; omega); have hZ5 := yXx (.int .u8 0) (.int .u64 0) (.string ⟨#[]⟩) (.int .u8 0) (.slice none 0 0) hZZ; have hBx : Below w.heap.size w x1 := hB0.trans (hO1.below (fun j hj => by omega) (by have := hB0.size; omega)); have hB5 : Below w.heap.size w (((((x1.setCell ⟨w.heap.size, 0, none⟩ (.int .u8 0)).setCell ⟨w.heap.size, 1, none⟩ (.int .u64 0)).setCell ⟨w.heap.size, 2, none⟩ (.string ⟨#[]⟩)).setCell ⟨w.heap.size, 3, none⟩ (.int .u8 0)).setCell ⟨w.heap.size, 4, none⟩ (.slice none 0 0)) := hBx.trans (h5.below (fun j hj => by omega) (by have := hBx.size; omega)))) | (go_at_call 179; ((with_reducible refine (place_any hRS).mono ?_); (rintro e x2 ⟨rfl, hb2⟩); have hZ6 := zQh hZ5 hb2; have u0 := hZ6.1 0 (by simp); have u1 := hZ6.1 1 (by simp); have u2 := hZ6.1 2 (by simp); have u3 := hZ6.1 3 (by simp); have u4 := hZ6.1 4 (by simp); have t0 := hZ6.2.1 0; have t1 := hZ6.2.1 1; have t2 := hZ6.2.1 2; have t3 := hZ6.2.1 3; have t4 := hZ6.2.1 4; have hul := hZ6.2.2)))
 have hB6 : Below w.heap.size w x2 := hB5.trans (hb2.mono hB5.size)
 have hB7 : Below w.heap.size w (((((x2.setCell ⟨w.heap.size, 0, none⟩ (.int .u8 0)).setCell ⟨w.heap.size, 1, none⟩ (.int .u64 0)).setCell ⟨w.heap.size, 2, none⟩ (.string ⟨#[]⟩)).setCell ⟨w.heap.size, 3, none⟩ (.int .u8 0)).setCell ⟨w.heap.size, 4, none⟩ (.slice none 0 0)) := hB6.trans ((yZb (.int .u8 0) (.int .u64 0) (.string ⟨#[]⟩) (.int .u8 0) (.slice none 0 0) x2 w.heap.size).below (fun j hj => by omega) (by have := hB6.size; omega))
 exact bodyPost_ret (jQb rfl _ _ w.heap.size _ _ _ _ _ _ _ rfl rfl rfl (yXx _ _ _ _ _ hZ6)) rfl ⟨rfl, hB7⟩
theorem read_ok {w : World} {ma : Option Addr} {c0 : Nat} {T : List (Tk × Int)} {p q : Int} {x : Xp}
 (hX : Calls Tryz.prog 178 #[.pointer (some ⟨w.heap.size + 1, 0, none⟩)] ((w.alloc (.cells #[.int .u8 0, .int .u64 0, .string ⟨#[]⟩, .int .u8 0, .slice none 0 0] 47)).alloc (.cells #[.slice ma T.length c0, .int .i64 p, .int .i64 0] 234)) (ExOk ((w.alloc (.cells #[.int .u8 0, .int .u64 0, .string ⟨#[]⟩, .int .u8 0, .slice none 0 0] 47)).alloc (.cells #[.slice ma T.length c0, .int .i64 p, .int .i64 0] 234)) (w.heap.size + 1) (.slice ma T.length c0) T 0 x q)) (hv : RowZ w (.slice ma T.length c0) T) :
 Calls Tryz.prog 161 #[.slice ma T.length c0, .int .i64 p] w fun e w' => (∃ (k n : Int) (s : ByteArray) (o : Int) (mk : Option Addr) (m cap : Nat), e = .returned (.tuple #[vX k n s o mk m cap, .int .i64 q, .nilIface]) ∧ IsE (fun b => w.heap.size ≤ b ∧ b < w'.heap.size) w' (vX k n s o mk m cap) x) ∧ Below w.heap.size w w' := by
 have hob : ∀ j, ob (.slice ma T.length c0) T = some j → j < w.heap.size := fun j hj => hv.ob_lt hj
 unfold ExOk at hX
 obtain ⟨N, hN⟩ : ∃ N, N = T.length := ⟨_, rfl⟩
 rw [← hN] at hX hob ⊢
 clear hN hv
 have hB0 : Below w.heap.size w ((w.alloc (.cells #[.int .u8 0, .int .u64 0, .string ⟨#[]⟩, .int .u8 0, .slice none 0 0] 47)).alloc (.cells #[.slice ma N c0, .int .i64 p, .int .i64 0] 234)) := xXa
 have hZ0 : rowG #[.int .u8 0, .int .u64 0, .string ⟨#[]⟩, .int .u8 0, .slice none 0 0] ((w.alloc (.cells #[.int .u8 0, .int .u64 0, .string ⟨#[]⟩, .int .u8 0, .slice none 0 0] 47)).alloc (.cells #[.slice ma N c0, .int .i64 p, .int .i64 0] 234)) w.heap.size := jJb
 go_enter Tryz.func161, Tryz.ntmps161
 go_wp2_with (go_at_call 178; ((with_reducible refine hX.mono ?_); (rintro e x1 ⟨k, n, s, o, mk, m, cap, rfl, hR1, hO1, hE1⟩); have hZZ := zQa hZ0 hO1 (by omega); have z0 := hZZ.1 0 (by simp); have z1 := hZZ.1 1 (by simp); have z2 := hZZ.1 2 (by simp); have z3 := hZZ.1 3 (by simp); have z4 := hZZ.1 4 (by simp); have y0 := hZZ.2.1 0; have y1 := hZZ.2.1 1; have y2 := hZZ.2.1 2; have y3 := hZZ.2.1 3; have y4 := hZZ.2.1 4; have hzl := hZZ.2.2))
 have h5 := yZb (.int .u8 k) (.int .u64 n) (.string s) (.int .u8 o) (.slice mk m cap) x1 w.heap.size
 have hRS := hR1.only h5 (by omega) (fun j hj e => by have := hob j hj; omega)
 have hZ5 := yXx (.int .u8 k) (.int .u64 n) (.string s) (.int .u8 o) (.slice mk m cap) hZZ
 have hBx : Below w.heap.size w x1 := hB0.trans (hO1.below (fun j hj => by omega) (by have := hB0.size; omega))
 have hB5 : Below w.heap.size w (((((x1.setCell ⟨w.heap.size, 0, none⟩ (.int .u8 k)).setCell ⟨w.heap.size, 1, none⟩ (.int .u64 n)).setCell ⟨w.heap.size, 2, none⟩ (.string s)).setCell ⟨w.heap.size, 3, none⟩ (.int .u8 o)).setCell ⟨w.heap.size, 4, none⟩ (.slice mk m cap)) := hBx.trans (h5.below (fun j hj => by omega) (by have := hBx.size; omega))
 have hl0 : w.heap.size + 2 = ((w.alloc (.cells #[.int .u8 0, .int .u64 0, .string ⟨#[]⟩, .int .u8 0, .slice none 0 0] 47)).alloc (.cells #[.slice ma N c0, .int .i64 p, .int .i64 0] 234)).heap.size := by simp
 have hE5 := hE1.only h5 (fun b hb e => by omega)
 obtain ⟨X5, hX5⟩ : ∃ X5, (((((x1.setCell ⟨w.heap.size, 0, none⟩ (.int .u8 k)).setCell ⟨w.heap.size, 1, none⟩ (.int .u64 n)).setCell ⟨w.heap.size, 2, none⟩ (.string s)).setCell ⟨w.heap.size, 3, none⟩ (.int .u8 o)).setCell ⟨w.heap.size, 4, none⟩ (.slice mk m cap)) = X5 := ⟨_, rfl⟩
 have hs5 : x1.heap.size = X5.heap.size := by rw [← hX5]; simp only [World.size_setCell]
 rw [hX5] at h5 hRS hZ5 hB5 hE5 ⊢
 clear hX5 z0 z1 z2 z3 z4 y0 y1 y2 y3 y4 hzl hZZ hR1 hE1
 have hFi : ∀ w', (rowG #[.int .u8 k, .int .u64 n, .string s, .int .u8 o, .slice mk m cap] w' w.heap.size ∧ w'.cell? ⟨w.heap.size + 1, 1, none⟩ = some (.int .i64 q) ∧ w.heap.size + 1 < w'.heap.size) → w'.cell? ⟨w.heap.size, 0, none⟩ = some (.int .u8 k) ∧ w'.cell? ⟨w.heap.size, 1, none⟩ = some (.int .u64 n) ∧ w'.cell? ⟨w.heap.size, 2, none⟩ = some (.string s) ∧ w'.cell? ⟨w.heap.size, 3, none⟩ = some (.int .u8 o) ∧ w'.cell? ⟨w.heap.size, 4, none⟩ = some (.slice mk m cap) ∧ w'.cell? ⟨w.heap.size + 1, 1, none⟩ = some (.int .i64 q) ∧ w.heap.size < w'.heap.size ∧ w.heap.size + 1 < w'.heap.size := fun w' h => ⟨h.1.1 0 (by simp), h.1.1 1 (by simp), h.1.1 2 (by simp), h.1.1 3 (by simp), h.1.1 4 (by simp), h.2.1, h.1.2.2, h.2.2⟩
 have hD : Only (fun _ => False) X5 X5.drew := od1
 have hF0 : rowG #[.int .u8 k, .int .u64 n, .string s, .int .u8 o, .slice mk m cap] X5.drew w.heap.size ∧ X5.drew.cell? ⟨w.heap.size + 1, 1, none⟩ = some (.int .i64 q) ∧ w.heap.size + 1 < X5.drew.heap.size := ⟨zQa hZ5 hD (fun h => h), hD.cell (a := ⟨w.heap.size + 1, 1, none⟩) (fun h => h) hRS.c1, hRS.lt⟩
 have hBd : Below w.heap.size w X5.drew := hB5.trans (hD.below (fun j hj => hj.elim) (by have := hB5.size; omega))
 have hEd := hE5.only hD (fun _ _ h => h)
 obtain ⟨Xd, hXd⟩ : ∃ Xd, X5.drew = Xd := ⟨_, rfl⟩
 refine zXi (fun w' => rowG #[.int .u8 k, .int .u64 n, .string s, .int .u8 o, .slice mk m cap] w' w.heap.size ∧ w'.cell? ⟨w.heap.size + 1, 1, none⟩ = some (.int .i64 q) ∧ w.heap.size + 1 < w'.heap.size) (by kernel_rfl) ?_
 rw [hXd] at hD hF0 hBd hEd ⊢
 have hsd : X5.heap.size = Xd.heap.size := by rw [← hXd]; rfl
 clear hXd
 have q9 : Pq [0, 1, 2] := trivial
 iterate 3
  refine tkN q9 rfl (by kernel_rfl) hF0 fun K hK => ?_
  replace q9 := q9.tl
  apply Exists.intro
  refine ⟨Or.inl ⟨by kernel_rfl, fun w' hf => ?_⟩, ?_⟩
  ·obtain ⟨z0, z1, z2, z3, z4, zq, zl, zr⟩ := hFi _ hf
   go_simp
   try exact rfl
  go_simp
  refine hK _ ?_
  clear hK K
 refine zQe (k := 3) (by kernel_rfl) ?_
 refine wpOp_step rfl (fun K hK => ?_)
 obtain ⟨z0, z1, z2, z3, z4, zq, zl, zr⟩ := hFi _ hF0
 have y0 := hF0.1.2.1 0
 have y1 := hF0.1.2.1 1
 have y2 := hF0.1.2.1 2
 have y3 := hF0.1.2.1 3
 have y4 := hF0.1.2.1 4
 go_simp
 have h9 := yZb (.int .u8 k) (.int .u64 n) (.string s) (.int .u8 o) (.slice mk m cap) Xd w.heap.size
 have hF9 : rowG #[.int .u8 k, .int .u64 n, .string s, .int .u8 o, .slice mk m cap] (((((Xd.setCell ⟨w.heap.size, 0, none⟩ (.int .u8 k)).setCell ⟨w.heap.size, 1, none⟩ (.int .u64 n)).setCell ⟨w.heap.size, 2, none⟩ (.string s)).setCell ⟨w.heap.size, 3, none⟩ (.int .u8 o)).setCell ⟨w.heap.size, 4, none⟩ (.slice mk m cap)) w.heap.size ∧ (((((Xd.setCell ⟨w.heap.size, 0, none⟩ (.int .u8 k)).setCell ⟨w.heap.size, 1, none⟩ (.int .u64 n)).setCell ⟨w.heap.size, 2, none⟩ (.string s)).setCell ⟨w.heap.size, 3, none⟩ (.int .u8 o)).setCell ⟨w.heap.size, 4, none⟩ (.slice mk m cap)).cell? ⟨w.heap.size + 1, 1, none⟩ = some (.int .i64 q) ∧ w.heap.size + 1 < (((((Xd.setCell ⟨w.heap.size, 0, none⟩ (.int .u8 k)).setCell ⟨w.heap.size, 1, none⟩ (.int .u64 n)).setCell ⟨w.heap.size, 2, none⟩ (.string s)).setCell ⟨w.heap.size, 3, none⟩ (.int .u8 o)).setCell ⟨w.heap.size, 4, none⟩ (.slice mk m cap)).heap.size := ⟨yXx _ _ _ _ _ hF0.1, h9.cell (a := ⟨w.heap.size + 1, 1, none⟩) (by simp) hF0.2.1, Nat.lt_of_lt_of_le hF0.2.2 h9.size⟩
 refine hK _ _ ⟨hF9, ?_⟩
 clear hK K
 refine zQe (k := 4) (by kernel_rfl) ?_
 refine wpOp_step rfl (fun K hK => ?_)
 go_simp
 refine hK _ _ ⟨hF9, ?_⟩
 clear hK K
 refine zQe (k := 5) (by kernel_rfl) ?_
 refine wpOp_step rfl (fun K hK => ?_)
 go_simp
 refine hK _ _ ⟨hF9, ?_⟩
 clear hK K
 refine zQq (by kernel_rfl) ⟨rfl, ?_⟩
 go_wp2
 have hB9 : Below w.heap.size w (((((Xd.setCell ⟨w.heap.size, 0, none⟩ (.int .u8 k)).setCell ⟨w.heap.size, 1, none⟩ (.int .u64 n)).setCell ⟨w.heap.size, 2, none⟩ (.string s)).setCell ⟨w.heap.size, 3, none⟩ (.int .u8 o)).setCell ⟨w.heap.size, 4, none⟩ (.slice mk m cap)) := hBd.trans (h9.below (fun j hj => by omega) (by have := hBd.size; omega))
 refine bodyPost_ret (jQb rfl _ _ w.heap.size _ _ _ _ _ _ _ rfl rfl rfl hF9.1) rfl ⟨⟨k, n, s, o, mk, m, cap, rfl, ?_⟩, hB9⟩
 refine (hEd.only h9 (fun b hb e => by omega)).mono (fun b hb => ⟨by omega, ?_⟩)
 have := h9.size
 omega
def agX (e : Xp) (ma : Option Addr) (cap : Nat) : Value := .agg #[.int .u8 (e.k : Int), .int .u64 (e.n : Int), .string (str e.s), .int .u8 (e.o : Int), .slice ma e.l.length cap]
def jZq (w : World) (e : Xp) (r : Ending) (w' : World) : Prop := (∃ ma cap, r = .returned (agX e ma cap) ∧ IsE (fun b => w.heap.size ≤ b ∧ b < w'.heap.size) w' (agX e ma cap) e) ∧ Below w.heap.size w w'
theorem yQc {g H : Nat} {w w5 : World} {lv : Value} (hg : w.grownBy w5 lv.ownBlock) (hat : lv.ownBlock = some g ∨ g = H) (hH : w.heap.size = H) {B : Nat} (L : List Kx)
 (h : ∀ K ∈ L, K.is (fun b => B ≤ b ∧ b < w.heap.size ∧ ¬ lv.ownBlock = some b) w) (n cap : Nat) :
 ∀ K ∈ L, K.is (fun b => B ≤ b ∧ b < w5.heap.size ∧ ¬ (Value.slice (some ⟨g, 0, none⟩) n cap).ownBlock = some b) w5 := by
 intro K hK
 have ho := zXc hg
 refine ((h K hK).only ho (fun b hb e => hb.2.2 e.symm)).mono (fun b hb => ⟨hb.1, Nat.lt_of_lt_of_le hb.2.1 ho.size, fun e => ?_⟩)
 simp only [Value.ownBlock, Option.some.injEq] at e
 subst e
 rcases hat with h1 | h1
 ·exact hb.2.2 h1
 ·omega
theorem yXw {w : World} {B M : Nat} {lv : Value} {L : List Kx} (h : w.ownsRow B 47 5 lv M (kxs L)) (hM : M = L.length) (hK : ∀ K ∈ L, K.is (fun b => B ≤ b ∧ b < w.heap.size ∧ ¬ lv.ownBlock = some b) w) :
 ∃ ma cap, lv = .slice ma M cap ∧ KidsAt (fun b => B ≤ b ∧ b < w.heap.size) w (L.map (·.x)) ma := by
 by_cases h0 : M = 0
 ·obtain rfl : L = [] := List.length_eq_zero_iff.1 (by omega)
  rcases h.2 with ⟨hv, _⟩ | ⟨g, cap, cur, hv, hb, hg, _⟩
  ·exact ⟨none, 0, by rw [hv, h0], .nil⟩
  ·exact ⟨_, _, hv, .nil⟩
 ·obtain ⟨g, cg, rfl, hg1, hg2⟩ := h.form (by omega)
  refine ⟨_, _, rfl, yKa ⟨hg1, hg2⟩ L 0 (fun j u hu => ?_) (fun K hk => (hK K hk).mono (fun b hb => ⟨hb.1, hb.2.1⟩))⟩
  rw [Nat.zero_add]
  obtain ⟨hj, _⟩ := List.getElem?_eq_some_iff.1 hu
  rw [jXd] at hj
  exact (h.cellAt j (by omega)).trans hu
end Go.Proofs.YtfbjljcmmbdhkaaGreatDoor
