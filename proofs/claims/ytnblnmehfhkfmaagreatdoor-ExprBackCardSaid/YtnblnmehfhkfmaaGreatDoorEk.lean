/- Contract of the reader's kid: what is read becomes the last kid of what it is read into. -/
import Derived.Test.YtnblnmehfhkfmaaGreatDoorEj
import Derived.Deep.AppendLies
import Derived.Laws.OwnMore
import Derived.OneCell
namespace Go.Proofs.YtnblnmehfhkfmaaGreatDoor
open Go.ChangeShapes Go.WideShapes Go.ChangeAt Go.RowKit
set_option linter.unusedVariables false
theorem infoX : (Tryz.prog.info? 25).map (fun i => (i.zero, i.size, i.bytes)) = some (some (.agg #[.int .u8 0, .int .u64 0, .string ⟨#[]⟩, .int .u8 0, .slice none 0 0]), 5, 64) := by kernel_rfl
theorem Only.cut {S : Nat → Prop} {a b : World} (h : Only (fun j => S j ∨ a.heap.size ≤ j) a b) : Only S a b :=
  ⟨h.os, h.tape, h.output, h.size, fun j hj hs => h.block j hj (fun hh => hh.elim hs (fun h1 => absurd hj (by omega)))⟩
theorem wpAnyF_of_K {P : Program} {md : Region.Mode} {ops : Array Oper} {Q : Exit → Act → World → Prop} {F F' : World → Prop} {st : Nat} : ∀ (f : Nat) (L : Array Bool) (a : Act) (w : World), L.getD st true = true → wpAnyK P md ops Q F' f L a w → wpAnyF P md ops Q F st f L a w
  | 0, _, _, _, _, h => h
  | f + 1, L, a, w, hs, h => ⟨h.1, fun i hi => wpOp_mono (fun a' w' hk => by
      have hs' : (L.setIfInBounds i true).getD st true = true := by
        by_cases e : i = st
        · subst e
          simp only [Array.getD_eq_getD_getElem?, Array.getElem?_setIfInBounds, if_true]
          split <;> simp
        · rw [getD_set_ne true e]; exact hs
      exact ⟨fun h0 => (by rw [hs'] at h0; cases h0), wpAnyF_of_K f _ a' w' hs' hk.2⟩) (h.2 i hi)⟩
theorem own_new' {w : World} {B n : Nat} {e : TypeId} {size : Nat} {l : Value} {xs : List Value} {c : Nat} (h : w.ownsRow B e size l n xs) (hc : w.heap.size ≤ c ∨ c < B) : ¬ l.ownBlock = some c := fun e => by
  have := own_lt h e
  omega
/-- What kid leaves, once the nested expression was read at w1. -/
structure KdC (w1 w' : World) (rb eb B : Nat) (v : Value) (T : List (Tk × Int)) (q d : Int) (c0 c1 c2 c3 lv lv' : Value) (N : Nat) (xs : List Value) : Prop where
  rd : IsRd w' rb v T q d
  bx : Bx w' eb rb (ob v T) c0 c1 c2 c3 lv'
  own : w'.ownsRow B 25 5 lv' N xs
  blk : ∀ j, lv'.ownBlock = some j → lv.ownBlock = some j ∨ w1.heap.size ≤ j
  only : Only (fun j => j = eb ∨ lv.ownBlock = some j) w1 w'
set_option maxRecDepth 100000 in
set_option maxHeartbeats 8000000 in
theorem kid_core0 {w : World} {rb eb B : Nat} {v : Value} {T : List (Tk × Int)} {p d : Int} {c0 c1 c2 c3 : Value} {X : Int → Int → Int → ByteArray → Option Addr → Nat → Nat → Int → Int → Int → World → Prop}
    (hI : Calls Tryz.prog 27 #[.pointer (some ⟨rb, 0, none⟩)] w fun e w1 => ∃ k n o s ma m cap c q d', e = .returned (.tuple #[.agg #[.int .u8 k, .int .u64 n, .string s, .int .u8 o, .slice ma m cap], .int .i64 c]) ∧ IsRd w1 rb v T q d' ∧ Only (fun j => j = rb) w w1 ∧ X k n o s ma m cap c q d' w1)
    (hx : Bx w eb rb (ob v T) c0 c1 c2 c3 (.slice none 0 0)) (ho : w.ownsRow B 25 5 (.slice none 0 0) 0 []) (hn : ¬ (.slice none 0 0 : Value).ownBlock = some eb) (hB : B ≤ w.heap.size) (hrb : rb < B) (hv : ∀ j, ob v T = some j → j < B) :
    Calls Tryz.prog 61 #[.pointer (some ⟨rb, 0, none⟩), .pointer (some ⟨eb, 0, none⟩)] w fun e w' => ∃ k n o s ma m cap c q d' w1, X k n o s ma m cap c q d' w1 ∧ Only (fun j => j = rb) w w1 ∧ e = .returned (.int .i64 c) ∧ ∃ lv', KdC w1 w' rb eb B v T q d' c0 c1 c2 c3 (.slice none 0 0) lv' 1 [.int .u8 k, .int .u64 n, .string s, .int .u8 o, .slice ma m cap] := by
  obtain ⟨i0, hi, hz0, hz1, hz2⟩ := info_parts infoX
  have hap := fun c (hc : c < B) => own_new' ho (.inr hc)
  go_enter Tryz.func61, Tryz.ntmps61
  go_wp2_with (go_at_call 27; ((with_reducible refine hI.mono ?_); (rintro e w1 ⟨k, n, o, s, ma, m, cap, c, q, d', rfl, hR1, hO1, hXX⟩)))
  have hx1 := hx.only hO1 hx.n1
  have ho1 := own_only ho hO1 (fun j hj e => by have := own_lt ho hj; omega)
  have hB1 : B ≤ w1.heap.size := Nat.le_trans hB hO1.size
  clear hI
  obtain ⟨W, hW⟩ : ∃ W, w1.alloc (.cells #[.int .u8 k, .int .u64 n, .string s, .int .u8 o, .slice ma m cap] 25) = W := ⟨_, rfl⟩
  have hBw : Below w1.heap.size w1 W := by rw [← hW]; exact aB (Below.refl _ _) _
  have b0 : W.cell? ⟨w1.heap.size, 0, none⟩ = some (.int .u8 k) := by rw [← hW]; exact new_cell _ _ _ 0
  have b1 : W.cell? ⟨w1.heap.size, 1, none⟩ = some (.int .u64 n) := by rw [← hW]; exact new_cell _ _ _ 1
  have b2 : W.cell? ⟨w1.heap.size, 2, none⟩ = some (.string s) := by rw [← hW]; exact new_cell _ _ _ 2
  have b3 : W.cell? ⟨w1.heap.size, 3, none⟩ = some (.int .u8 o) := by rw [← hW]; exact new_cell _ _ _ 3
  have b4 : W.cell? ⟨w1.heap.size, 4, none⟩ = some (.slice ma m cap) := by rw [← hW]; exact new_cell _ _ _ 4
  have hzW : w1.heap.size < W.heap.size := by rw [← hW]; simp
  rw [hW]
  clear hW
  have hx2 := hx1.of hBw
  have ho2 := own_of ho1 hBw
  have hRW := hR1.of hBw
  have hel : eb < w1.heap.size := hx1.row.2.2
  have hn2 : ¬ (.slice none 0 0 : Value).ownBlock = some w1.heap.size := own_new' ho1 (.inl (Nat.le_refl _))
  have e4 : W.cell? ⟨eb, 4, none⟩ = some (.slice none 0 0) := hx2.row.1 4 (by simp)
  have hFi : ∀ w', Only (fun j => (.slice none 0 0 : Value).ownBlock = some j ∨ W.heap.size ≤ j) W w' → w'.cell? ⟨eb, 4, none⟩ = some (.slice none 0 0) ∧ w'.cell? ⟨w1.heap.size, 0, none⟩ = some (.int .u8 k) ∧ w'.cell? ⟨w1.heap.size, 1, none⟩ = some (.int .u64 n) ∧ w'.cell? ⟨w1.heap.size, 2, none⟩ = some (.string s) ∧ w'.cell? ⟨w1.heap.size, 3, none⟩ = some (.int .u8 o) ∧ w'.cell? ⟨w1.heap.size, 4, none⟩ = some (.slice ma m cap) ∧ eb < w'.heap.size ∧ w1.heap.size < w'.heap.size := fun w' h => ⟨h.cut.cell hn e4, h.cut.cell hn2 b0, h.cut.cell hn2 b1, h.cut.cell hn2 b2, h.cut.cell hn2 b3, h.cut.cell hn2 b4, Nat.lt_of_lt_of_le (by omega) h.size, Nat.lt_of_lt_of_le hzW h.size⟩
  have hF0 : Only (fun j => (.slice none 0 0 : Value).ownBlock = some j ∨ W.heap.size ≤ j) W W.drew := od1
  have ho3 : W.drew.ownsRow B 25 5 (.slice none 0 0) 0 [] := own_only ho2 (od1 (S := fun _ => False)) (fun _ _ h => h)
  have hBW : B ≤ W.heap.size := Nat.le_trans hB1 hBw.size
  refine region_F (fun w' => Only (fun j => (.slice none 0 0 : Value).ownBlock = some j ∨ W.heap.size ≤ j) W w') 7 (by kernel_rfl) ?_
  refine wpAnyF_take (i := 0) rfl (by kernel_rfl) (by kernel_rfl) (by kernel_rfl) (by kernel_rfl) (by kernel_rfl) (fun _ _ _ _ h => h) hF0 (fun K hK => ?_)
  apply Exists.intro
  refine ⟨Or.inl ⟨by kernel_rfl, fun w' hf => ?_⟩, ?_⟩
  · obtain ⟨s4, k0, k1, k2, k3, k4, kl, km⟩ := hFi _ hf
    go_simp
    try exact rfl
  go_simp
  refine hK _ ?_
  clear hK K
  refine wpAnyF_take (i := 1) rfl (by kernel_rfl) (by kernel_rfl) (by kernel_rfl) (by kernel_rfl) (by kernel_rfl) (fun _ _ _ _ h => h) hF0 (fun K hK => ?_)
  apply Exists.intro
  refine ⟨Or.inl ⟨by kernel_rfl, fun w' hf => ?_⟩, ?_⟩
  · obtain ⟨s4, k0, k1, k2, k3, k4, kl, km⟩ := hFi _ hf
    go_simp
    try exact rfl
  go_simp
  refine hK _ ?_
  clear hK K
  refine wpAnyF_take (i := 2) rfl (by kernel_rfl) (by kernel_rfl) (by kernel_rfl) (by kernel_rfl) (by kernel_rfl) (fun _ _ _ _ h => h) hF0 (fun K hK => ?_)
  apply Exists.intro
  refine ⟨Or.inl ⟨by kernel_rfl, fun w' hf => ?_⟩, ?_⟩
  · obtain ⟨s4, k0, k1, k2, k3, k4, kl, km⟩ := hFi _ hf
    go_simp
    try exact rfl
  go_simp
  refine hK _ ?_
  clear hK K
  refine wpAnyF_take (i := 3) rfl (by kernel_rfl) (by kernel_rfl) (by kernel_rfl) (by kernel_rfl) (by kernel_rfl) (fun _ _ _ _ h => h) hF0 (fun K hK => ?_)
  apply Exists.intro
  refine ⟨Or.inl ⟨by kernel_rfl, fun w' hf => ?_⟩, ?_⟩
  · obtain ⟨s4, k0, k1, k2, k3, k4, kl, km⟩ := hFi _ hf
    go_simp
    try exact rfl
  go_simp
  refine hK _ ?_
  clear hK K
  refine wpAnyF_take (i := 4) rfl (by kernel_rfl) (by kernel_rfl) (by kernel_rfl) (by kernel_rfl) (by kernel_rfl) (fun _ _ _ _ h => h) hF0 (fun K hK => ?_)
  apply Exists.intro
  refine ⟨Or.inl ⟨by kernel_rfl, fun w' hf => ?_⟩, ?_⟩
  · obtain ⟨s4, k0, k1, k2, k3, k4, kl, km⟩ := hFi _ hf
    go_simp
    try exact rfl
  go_simp
  refine hK _ ?_
  clear hK K
  refine wpAnyF_take (i := 5) rfl (by kernel_rfl) (by kernel_rfl) (by kernel_rfl) (by kernel_rfl) (by kernel_rfl) (fun _ _ _ _ h => h) hF0 (fun K hK => ?_)
  apply Exists.intro
  refine ⟨Or.inl ⟨by kernel_rfl, fun w' hf => ?_⟩, ?_⟩
  · obtain ⟨s4, k0, k1, k2, k3, k4, kl, km⟩ := hFi _ hf
    go_simp
    try exact rfl
  go_simp
  refine hK _ ?_
  clear hK K
  refine wpAnyF_one (k := 6) (by kernel_rfl) ?_
  refine wpOp_step rfl (fun K hK => ?_)
  go_simp
  have hF6 : Only (fun j => (.slice none 0 0 : Value).ownBlock = some j ∨ W.heap.size ≤ j) W (W.drew.alloc (.cells #[.int .u8 0, .int .u64 0, .string ⟨#[]⟩, .int .u8 0, .slice none 0 0] 25)) := hF0.trans (only_below (aB (Below.refl _ _) _))
  have ho6 : (W.drew.alloc (.cells #[.int .u8 0, .int .u64 0, .string ⟨#[]⟩, .int .u8 0, .slice none 0 0] 25)).ownsRow B 25 5 (.slice none 0 0) 0 [] := World.ownsRow.alloc ho3 _
  refine hK _ _ ⟨fun _ => hF6, ?_⟩
  clear hK K
  refine wpAnyF_one (k := 7) (by kernel_rfl) ?_
  refine wpOp_step rfl (fun K hK => ?_)
  refine step_append_lies _ rfl (.tmp 15) (.tmp 18) 23 rfl B 25 i0 _ 5 64 Tryz.underlying23 hi hz0 hz1 hz2 rfl (by decide) (.slice none 0 0) 0 [] rfl ho6 ⟨W.drew.heap.size, 0, none⟩ 1 1 [.int .u8 0, .int .u64 0, .string ⟨#[]⟩, .int .u8 0, .slice none 0 0] rfl rfl (news_ok [.int .u8 0, .int .u64 0, .string ⟨#[]⟩, .int .u8 0, .slice none 0 0] 25 W.drew) (by intro u hu; simp at hu; rcases hu with rfl | rfl | rfl | rfl | rfl <;> rfl) (by decide) (by unfold maxLen; omega) (by omega) (Nat.le_trans hBW hF6.size) _ rfl ?_
  intro g cap' w5 hown hgrow hat hlt
  have hG5 : (.slice none 0 0 : Value).ownBlock = some g ∨ W.heap.size ≤ g := hat.imp id (fun h => by rw [h]; exact hF6.size)
  have hF5 : Only (fun j => (.slice none 0 0 : Value).ownBlock = some j ∨ W.heap.size ≤ j) W w5 := hF6.trans ((only_grown hgrow).mono fun j hj => .inl hj.symm)
  have hge : ¬ g = eb := fun e => hG5.elim (fun h => hn (by rw [h, e])) (fun h => by omega)
  have hge' : ¬ eb = g := fun e => hge e.symm
  have hx5 := hx2.only hF5.cut hn
  go_simp
  refine hK _ _ ⟨fun h => (Bool.false_ne_true (h.symm.trans (by kernel_rfl))).elim, ?_⟩
  clear hK K
  refine wpAnyF_of_K (F' := fun _ => True) _ _ _ _ (by kernel_rfl) ?_
  have hFin : ∀ wZ, Bx wZ eb rb (ob v T) c0 c1 c2 c3 (.slice (some ⟨g, 0, none⟩) 1 cap') → wZ.ownsRow B 25 5 (.slice (some ⟨g, 0, none⟩) 1 cap') 1 [.int .u8 k, .int .u64 n, .string s, .int .u8 o, .slice ma m cap] → Only (fun j => j = eb ∨ j = g) w5 wZ → KdC w1 wZ rb eb B v T q d' c0 c1 c2 c3 (.slice none 0 0) (.slice (some ⟨g, 0, none⟩) 1 cap') 1 [.int .u8 k, .int .u64 n, .string s, .int .u8 o, .slice ma m cap] := fun wZ hxZ hoZ hOZ => by
    have hbk : ∀ j, (Value.slice (some ⟨g, 0, none⟩) 1 cap').ownBlock = some j → (.slice none 0 0 : Value).ownBlock = some j ∨ W.heap.size ≤ j := fun j hj => by
      simp only [Value.ownBlock, Option.some.injEq] at hj
      subst hj
      exact hG5
    have hrl : ∀ c, c < B → ¬ (.slice none 0 0 : Value).ownBlock = some c := hap
    have hgB : ¬ g < B := fun h => hG5.elim (hrl _ h) (fun h1 => by omega)
    have hR5 : IsRd w5 rb v T q d' := hRW.only hF5.cut (hrl _ hrb) (fun j hj => hrl _ (hv j hj))
    have hRZ : IsRd wZ rb v T q d' := hR5.only hOZ (fun e => e.elim (fun e => hx.n1 e.symm) (fun e => hgB (by rw [← e]; exact hrb))) (fun j hj e => e.elim (fun e => hx.n2 (by rw [hj, e])) (fun e => hgB (by rw [← e]; exact hv j hj)))
    refine ⟨hRZ, hxZ, hoZ, fun j hj => (hbk j hj).imp id (fun h => Nat.le_trans hBw.size h), ?_⟩
    have hA : Only (fun j => (j = eb ∨ (.slice none 0 0 : Value).ownBlock = some j) ∨ w1.heap.size ≤ j) w1 wZ := ((only_below hBw).trans (hF5.cut.mono fun j hj => .inl (.inr hj))).trans (hOZ.mono fun j hj => by
      rcases hj with rfl | rfl
      · exact .inl (.inl rfl)
      · exact hG5.elim (fun h => .inl (.inr h)) (fun h => .inr (Nat.le_trans hBw.size h)))
    exact hA.cut
  refine wpAnyK_take (i := 8) rfl (by kernel_rfl) (by kernel_rfl) (by kernel_rfl) (fun _ _ _ _ h => h) trivial (fun K hK => ?_)
  apply Exists.intro
  refine ⟨Or.inl ⟨by kernel_rfl, fun w' hf => ?_⟩, ?_⟩
  · skip
    go_simp
    try exact rfl
  go_simp
  refine hK _ ?_
  clear hK K
  refine wpAnyK_take (i := 10) rfl (by kernel_rfl) (by kernel_rfl) (by kernel_rfl) (fun _ _ _ _ h => h) trivial (fun K hK => ?_)
  apply Exists.intro
  refine ⟨Or.inl ⟨by kernel_rfl, fun w' hf => ?_⟩, ?_⟩
  · skip
    go_simp
    try exact rfl
  go_simp
  refine hK _ ?_
  clear hK K
  refine wpAnyK_take (i := 11) rfl (by kernel_rfl) (by kernel_rfl) (by kernel_rfl) (fun _ _ _ _ h => h) trivial (fun K hK => ?_)
  apply Exists.intro
  refine ⟨Or.inl ⟨by kernel_rfl, fun w' hf => ?_⟩, ?_⟩
  · skip
    go_simp
    try exact rfl
  go_simp
  refine hK _ ?_
  clear hK K
  refine wpAnyK_two (k1 := 9) (k2 := 12) (by kernel_rfl) ?_ ?_
  · refine wpOp_step rfl (fun K hK => ?_)
    have z0 : w5.cell? ⟨g, 0, none⟩ = some (.int .u8 0) := hown.cellAt 0 (by decide)
    have z1 : w5.cell? ⟨g, 1, none⟩ = some (.int .u64 0) := hown.cellAt 1 (by decide)
    have z2 : w5.cell? ⟨g, 2, none⟩ = some (.string ⟨#[]⟩) := hown.cellAt 2 (by decide)
    have z3 : w5.cell? ⟨g, 3, none⟩ = some (.int .u8 0) := hown.cellAt 3 (by decide)
    have z4 : w5.cell? ⟨g, 4, none⟩ = some (.slice none 0 0) := hown.cellAt 4 (by decide)
    have zf0 := hown.frozenAt 0
    have zf1 := hown.frozenAt 1
    have zf2 := hown.frozenAt 2
    have zf3 := hown.frozenAt 3
    have zf4 := hown.frozenAt 4
    have hgl := World.block_lt_of_cell? _ _ z0
    go_simp
    have hO9 : Only (fun j => j = eb ∨ j = g) w5 (((((w5.setCell ⟨g, 0, none⟩ (.int .u8 k)).setCell ⟨g, 1, none⟩ (.int .u64 n)).setCell ⟨g, 2, none⟩ (.string s)).setCell ⟨g, 3, none⟩ (.int .u8 o)).setCell ⟨g, 4, none⟩ (.slice ma m cap)) := (((((Only.refl _ w5).setCell (.inr rfl)).setCell (.inr rfl)).setCell (.inr rfl)).setCell (.inr rfl)).setCell (.inr rfl)
    have ho9 : (((((w5.setCell ⟨g, 0, none⟩ (.int .u8 k)).setCell ⟨g, 1, none⟩ (.int .u64 n)).setCell ⟨g, 2, none⟩ (.string s)).setCell ⟨g, 3, none⟩ (.int .u8 o)).setCell ⟨g, 4, none⟩ (.slice ma m cap)).ownsRow B 25 5 (.slice (some ⟨g, 0, none⟩) 1 cap') 1 [.int .u8 k, .int .u64 n, .string s, .int .u8 o, .slice ma m cap] := (((((hown.stored 0 (.int .u8 k)).1.stored 1 (.int .u64 n)).1.stored 2 (.string s)).1.stored 3 (.int .u8 o)).1.stored 4 (.slice ma m cap)).1
    have hO9g : Only (fun j => j = g) w5 (((((w5.setCell ⟨g, 0, none⟩ (.int .u8 k)).setCell ⟨g, 1, none⟩ (.int .u64 n)).setCell ⟨g, 2, none⟩ (.string s)).setCell ⟨g, 3, none⟩ (.int .u8 o)).setCell ⟨g, 4, none⟩ (.slice ma m cap)) := (((((Only.refl (fun j => j = g) w5).setCell rfl).setCell rfl).setCell rfl).setCell rfl).setCell rfl
    have hx9 := hx5.only hO9g hge'
    obtain ⟨w9, hw9⟩ : ∃ w9, (((((w5.setCell ⟨g, 0, none⟩ (.int .u8 k)).setCell ⟨g, 1, none⟩ (.int .u64 n)).setCell ⟨g, 2, none⟩ (.string s)).setCell ⟨g, 3, none⟩ (.int .u8 o)).setCell ⟨g, 4, none⟩ (.slice ma m cap)) = w9 := ⟨_, rfl⟩
    rw [hw9] at hO9 ho9 hx9
    rw [hw9]
    clear hw9 hO9g
    refine hK _ _ ⟨trivial, ?_⟩
    clear hK K
    refine wpAnyK_one (k := 12) (by kernel_rfl) ?_
    refine wpOp_step rfl (fun K hK => ?_)
    obtain ⟨q0, q1, q2, q3, q4, qel, qef⟩ := hx9.e
    have qf4 := qef 4
    go_simp
    refine hK _ _ ⟨trivial, ?_⟩
    clear hK K
    refine wpAnyK_done (by kernel_rfl) ?_
    have hxZ : Bx (w9.setCell ⟨eb, 4, none⟩ (.slice (some ⟨g, 0, none⟩) 1 cap')) eb rb (ob v T) c0 c1 c2 c3 (.slice (some ⟨g, 0, none⟩) 1 cap') := ⟨row5_set 4 (by omega) _ hx9.row, hx.n1, hx.n2⟩
    have hoZ := ownsRow_setCell_other ho9 (a := ⟨eb, 4, none⟩) (by simp only [Value.ownBlock, ne_eq, Option.some.injEq]; exact hge) (.slice (some ⟨g, 0, none⟩) 1 cap')
    have hOZ : Only (fun j => j = eb ∨ j = g) w5 (w9.setCell ⟨eb, 4, none⟩ (.slice (some ⟨g, 0, none⟩) 1 cap')) := hO9.setCell (.inl rfl)
    go_wp2
    go_ret
    exact ⟨k, n, o, s, ma, m, cap, c, q, d', w1, hXX, hO1, rfl, .slice (some ⟨g, 0, none⟩) 1 cap', hFin _ hxZ hoZ hOZ⟩
  · refine wpOp_step rfl (fun K hK => ?_)
    obtain ⟨q0, q1, q2, q3, q4, qel, qef⟩ := hx5.e
    have qf4 := qef 4
    go_simp
    have hxC : Bx (w5.setCell ⟨eb, 4, none⟩ (.slice (some ⟨g, 0, none⟩) 1 cap')) eb rb (ob v T) c0 c1 c2 c3 (.slice (some ⟨g, 0, none⟩) 1 cap') := ⟨row5_set 4 (by omega) _ hx5.row, hx.n1, hx.n2⟩
    have hoC := ownsRow_setCell_other hown (a := ⟨eb, 4, none⟩) (by simp only [Value.ownBlock, ne_eq, Option.some.injEq]; exact hge) (.slice (some ⟨g, 0, none⟩) 1 cap')
    have hOC : Only (fun j => j = eb ∨ j = g) w5 (w5.setCell ⟨eb, 4, none⟩ (.slice (some ⟨g, 0, none⟩) 1 cap')) := (Only.refl _ w5).setCell (.inl rfl)
    obtain ⟨wC, hwC⟩ : ∃ wC, w5.setCell ⟨eb, 4, none⟩ (.slice (some ⟨g, 0, none⟩) 1 cap') = wC := ⟨_, rfl⟩
    rw [hwC] at hxC hoC hOC
    rw [hwC]
    clear hwC q0 q1 q2 q3 q4 qel qef qf4
    refine hK _ _ ⟨trivial, ?_⟩
    clear hK K
    refine wpAnyK_one (k := 9) (by kernel_rfl) ?_
    refine wpOp_step rfl (fun K hK => ?_)
    have z0 : wC.cell? ⟨g, 0, none⟩ = some (.int .u8 0) := hoC.cellAt 0 (by decide)
    have z1 : wC.cell? ⟨g, 1, none⟩ = some (.int .u64 0) := hoC.cellAt 1 (by decide)
    have z2 : wC.cell? ⟨g, 2, none⟩ = some (.string ⟨#[]⟩) := hoC.cellAt 2 (by decide)
    have z3 : wC.cell? ⟨g, 3, none⟩ = some (.int .u8 0) := hoC.cellAt 3 (by decide)
    have z4 : wC.cell? ⟨g, 4, none⟩ = some (.slice none 0 0) := hoC.cellAt 4 (by decide)
    have zf0 := hoC.frozenAt 0
    have zf1 := hoC.frozenAt 1
    have zf2 := hoC.frozenAt 2
    have zf3 := hoC.frozenAt 3
    have zf4 := hoC.frozenAt 4
    have hgl := World.block_lt_of_cell? _ _ z0
    go_simp
    refine hK _ _ ⟨trivial, ?_⟩
    clear hK K
    refine wpAnyK_done (by kernel_rfl) ?_
    have hoZ : (((((wC.setCell ⟨g, 0, none⟩ (.int .u8 k)).setCell ⟨g, 1, none⟩ (.int .u64 n)).setCell ⟨g, 2, none⟩ (.string s)).setCell ⟨g, 3, none⟩ (.int .u8 o)).setCell ⟨g, 4, none⟩ (.slice ma m cap)).ownsRow B 25 5 (.slice (some ⟨g, 0, none⟩) 1 cap') 1 [.int .u8 k, .int .u64 n, .string s, .int .u8 o, .slice ma m cap] := (((((hoC.stored 0 (.int .u8 k)).1.stored 1 (.int .u64 n)).1.stored 2 (.string s)).1.stored 3 (.int .u8 o)).1.stored 4 (.slice ma m cap)).1
    have hOZ : Only (fun j => j = eb ∨ j = g) w5 (((((wC.setCell ⟨g, 0, none⟩ (.int .u8 k)).setCell ⟨g, 1, none⟩ (.int .u64 n)).setCell ⟨g, 2, none⟩ (.string s)).setCell ⟨g, 3, none⟩ (.int .u8 o)).setCell ⟨g, 4, none⟩ (.slice ma m cap)) := ((((hOC.setCell (.inr rfl)).setCell (.inr rfl)).setCell (.inr rfl)).setCell (.inr rfl)).setCell (.inr rfl)
    have hO9g : Only (fun j => j = g) wC (((((wC.setCell ⟨g, 0, none⟩ (.int .u8 k)).setCell ⟨g, 1, none⟩ (.int .u64 n)).setCell ⟨g, 2, none⟩ (.string s)).setCell ⟨g, 3, none⟩ (.int .u8 o)).setCell ⟨g, 4, none⟩ (.slice ma m cap)) := (((((Only.refl (fun j => j = g) wC).setCell rfl).setCell rfl).setCell rfl).setCell rfl).setCell rfl
    have hxZ := hxC.only hO9g hge'
    go_wp2
    go_ret
    exact ⟨k, n, o, s, ma, m, cap, c, q, d', w1, hXX, hO1, rfl, .slice (some ⟨g, 0, none⟩) 1 cap', hFin _ hxZ hoZ hOZ⟩
set_option maxRecDepth 100000 in
set_option maxHeartbeats 8000000 in
theorem kid_core1 {w : World} {rb eb B : Nat} {v : Value} {T : List (Tk × Int)} {p d : Int} {c0 c1 c2 c3 : Value} {g0 cap0 : Nat} {x0 x1 x2 x3 x4 : Value} {X : Int → Int → Int → ByteArray → Option Addr → Nat → Nat → Int → Int → Int → World → Prop}
    (hI : Calls Tryz.prog 27 #[.pointer (some ⟨rb, 0, none⟩)] w fun e w1 => ∃ k n o s ma m cap c q d', e = .returned (.tuple #[.agg #[.int .u8 k, .int .u64 n, .string s, .int .u8 o, .slice ma m cap], .int .i64 c]) ∧ IsRd w1 rb v T q d' ∧ Only (fun j => j = rb) w w1 ∧ X k n o s ma m cap c q d' w1)
    (hx : Bx w eb rb (ob v T) c0 c1 c2 c3 (.slice (some ⟨g0, 0, none⟩) 1 cap0)) (ho : w.ownsRow B 25 5 (.slice (some ⟨g0, 0, none⟩) 1 cap0) 1 [x0, x1, x2, x3, x4]) (hn : ¬ (.slice (some ⟨g0, 0, none⟩) 1 cap0 : Value).ownBlock = some eb) (hB : B ≤ w.heap.size) (hrb : rb < B) (hv : ∀ j, ob v T = some j → j < B) :
    Calls Tryz.prog 61 #[.pointer (some ⟨rb, 0, none⟩), .pointer (some ⟨eb, 0, none⟩)] w fun e w' => ∃ k n o s ma m cap c q d' w1, X k n o s ma m cap c q d' w1 ∧ Only (fun j => j = rb) w w1 ∧ e = .returned (.int .i64 c) ∧ ∃ lv', KdC w1 w' rb eb B v T q d' c0 c1 c2 c3 (.slice (some ⟨g0, 0, none⟩) 1 cap0) lv' 2 [x0, x1, x2, x3, x4, .int .u8 k, .int .u64 n, .string s, .int .u8 o, .slice ma m cap] := by
  obtain ⟨i0, hi, hz0, hz1, hz2⟩ := info_parts infoX
  have hap := fun c (hc : c < B) => own_new' ho (.inr hc)
  go_enter Tryz.func61, Tryz.ntmps61
  go_wp2_with (go_at_call 27; ((with_reducible refine hI.mono ?_); (rintro e w1 ⟨k, n, o, s, ma, m, cap, c, q, d', rfl, hR1, hO1, hXX⟩)))
  have hx1 := hx.only hO1 hx.n1
  have ho1 := own_only ho hO1 (fun j hj e => by have := own_lt ho hj; omega)
  have hB1 : B ≤ w1.heap.size := Nat.le_trans hB hO1.size
  clear hI
  obtain ⟨W, hW⟩ : ∃ W, w1.alloc (.cells #[.int .u8 k, .int .u64 n, .string s, .int .u8 o, .slice ma m cap] 25) = W := ⟨_, rfl⟩
  have hBw : Below w1.heap.size w1 W := by rw [← hW]; exact aB (Below.refl _ _) _
  have b0 : W.cell? ⟨w1.heap.size, 0, none⟩ = some (.int .u8 k) := by rw [← hW]; exact new_cell _ _ _ 0
  have b1 : W.cell? ⟨w1.heap.size, 1, none⟩ = some (.int .u64 n) := by rw [← hW]; exact new_cell _ _ _ 1
  have b2 : W.cell? ⟨w1.heap.size, 2, none⟩ = some (.string s) := by rw [← hW]; exact new_cell _ _ _ 2
  have b3 : W.cell? ⟨w1.heap.size, 3, none⟩ = some (.int .u8 o) := by rw [← hW]; exact new_cell _ _ _ 3
  have b4 : W.cell? ⟨w1.heap.size, 4, none⟩ = some (.slice ma m cap) := by rw [← hW]; exact new_cell _ _ _ 4
  have hzW : w1.heap.size < W.heap.size := by rw [← hW]; simp
  rw [hW]
  clear hW
  have hx2 := hx1.of hBw
  have ho2 := own_of ho1 hBw
  have hRW := hR1.of hBw
  have hel : eb < w1.heap.size := hx1.row.2.2
  have hn2 : ¬ (.slice (some ⟨g0, 0, none⟩) 1 cap0 : Value).ownBlock = some w1.heap.size := own_new' ho1 (.inl (Nat.le_refl _))
  have e4 : W.cell? ⟨eb, 4, none⟩ = some (.slice (some ⟨g0, 0, none⟩) 1 cap0) := hx2.row.1 4 (by simp)
  have hFi : ∀ w', Only (fun j => (.slice (some ⟨g0, 0, none⟩) 1 cap0 : Value).ownBlock = some j ∨ W.heap.size ≤ j) W w' → w'.cell? ⟨eb, 4, none⟩ = some (.slice (some ⟨g0, 0, none⟩) 1 cap0) ∧ w'.cell? ⟨w1.heap.size, 0, none⟩ = some (.int .u8 k) ∧ w'.cell? ⟨w1.heap.size, 1, none⟩ = some (.int .u64 n) ∧ w'.cell? ⟨w1.heap.size, 2, none⟩ = some (.string s) ∧ w'.cell? ⟨w1.heap.size, 3, none⟩ = some (.int .u8 o) ∧ w'.cell? ⟨w1.heap.size, 4, none⟩ = some (.slice ma m cap) ∧ eb < w'.heap.size ∧ w1.heap.size < w'.heap.size := fun w' h => ⟨h.cut.cell hn e4, h.cut.cell hn2 b0, h.cut.cell hn2 b1, h.cut.cell hn2 b2, h.cut.cell hn2 b3, h.cut.cell hn2 b4, Nat.lt_of_lt_of_le (by omega) h.size, Nat.lt_of_lt_of_le hzW h.size⟩
  have hF0 : Only (fun j => (.slice (some ⟨g0, 0, none⟩) 1 cap0 : Value).ownBlock = some j ∨ W.heap.size ≤ j) W W.drew := od1
  have ho3 : W.drew.ownsRow B 25 5 (.slice (some ⟨g0, 0, none⟩) 1 cap0) 1 [x0, x1, x2, x3, x4] := own_only ho2 (od1 (S := fun _ => False)) (fun _ _ h => h)
  have hBW : B ≤ W.heap.size := Nat.le_trans hB1 hBw.size
  refine region_F (fun w' => Only (fun j => (.slice (some ⟨g0, 0, none⟩) 1 cap0 : Value).ownBlock = some j ∨ W.heap.size ≤ j) W w') 7 (by kernel_rfl) ?_
  refine wpAnyF_take (i := 0) rfl (by kernel_rfl) (by kernel_rfl) (by kernel_rfl) (by kernel_rfl) (by kernel_rfl) (fun _ _ _ _ h => h) hF0 (fun K hK => ?_)
  apply Exists.intro
  refine ⟨Or.inl ⟨by kernel_rfl, fun w' hf => ?_⟩, ?_⟩
  · obtain ⟨s4, k0, k1, k2, k3, k4, kl, km⟩ := hFi _ hf
    go_simp
    try exact rfl
  go_simp
  refine hK _ ?_
  clear hK K
  refine wpAnyF_take (i := 1) rfl (by kernel_rfl) (by kernel_rfl) (by kernel_rfl) (by kernel_rfl) (by kernel_rfl) (fun _ _ _ _ h => h) hF0 (fun K hK => ?_)
  apply Exists.intro
  refine ⟨Or.inl ⟨by kernel_rfl, fun w' hf => ?_⟩, ?_⟩
  · obtain ⟨s4, k0, k1, k2, k3, k4, kl, km⟩ := hFi _ hf
    go_simp
    try exact rfl
  go_simp
  refine hK _ ?_
  clear hK K
  refine wpAnyF_take (i := 2) rfl (by kernel_rfl) (by kernel_rfl) (by kernel_rfl) (by kernel_rfl) (by kernel_rfl) (fun _ _ _ _ h => h) hF0 (fun K hK => ?_)
  apply Exists.intro
  refine ⟨Or.inl ⟨by kernel_rfl, fun w' hf => ?_⟩, ?_⟩
  · obtain ⟨s4, k0, k1, k2, k3, k4, kl, km⟩ := hFi _ hf
    go_simp
    try exact rfl
  go_simp
  refine hK _ ?_
  clear hK K
  refine wpAnyF_take (i := 3) rfl (by kernel_rfl) (by kernel_rfl) (by kernel_rfl) (by kernel_rfl) (by kernel_rfl) (fun _ _ _ _ h => h) hF0 (fun K hK => ?_)
  apply Exists.intro
  refine ⟨Or.inl ⟨by kernel_rfl, fun w' hf => ?_⟩, ?_⟩
  · obtain ⟨s4, k0, k1, k2, k3, k4, kl, km⟩ := hFi _ hf
    go_simp
    try exact rfl
  go_simp
  refine hK _ ?_
  clear hK K
  refine wpAnyF_take (i := 4) rfl (by kernel_rfl) (by kernel_rfl) (by kernel_rfl) (by kernel_rfl) (by kernel_rfl) (fun _ _ _ _ h => h) hF0 (fun K hK => ?_)
  apply Exists.intro
  refine ⟨Or.inl ⟨by kernel_rfl, fun w' hf => ?_⟩, ?_⟩
  · obtain ⟨s4, k0, k1, k2, k3, k4, kl, km⟩ := hFi _ hf
    go_simp
    try exact rfl
  go_simp
  refine hK _ ?_
  clear hK K
  refine wpAnyF_take (i := 5) rfl (by kernel_rfl) (by kernel_rfl) (by kernel_rfl) (by kernel_rfl) (by kernel_rfl) (fun _ _ _ _ h => h) hF0 (fun K hK => ?_)
  apply Exists.intro
  refine ⟨Or.inl ⟨by kernel_rfl, fun w' hf => ?_⟩, ?_⟩
  · obtain ⟨s4, k0, k1, k2, k3, k4, kl, km⟩ := hFi _ hf
    go_simp
    try exact rfl
  go_simp
  refine hK _ ?_
  clear hK K
  refine wpAnyF_one (k := 6) (by kernel_rfl) ?_
  refine wpOp_step rfl (fun K hK => ?_)
  go_simp
  have hF6 : Only (fun j => (.slice (some ⟨g0, 0, none⟩) 1 cap0 : Value).ownBlock = some j ∨ W.heap.size ≤ j) W (W.drew.alloc (.cells #[.int .u8 0, .int .u64 0, .string ⟨#[]⟩, .int .u8 0, .slice none 0 0] 25)) := hF0.trans (only_below (aB (Below.refl _ _) _))
  have ho6 : (W.drew.alloc (.cells #[.int .u8 0, .int .u64 0, .string ⟨#[]⟩, .int .u8 0, .slice none 0 0] 25)).ownsRow B 25 5 (.slice (some ⟨g0, 0, none⟩) 1 cap0) 1 [x0, x1, x2, x3, x4] := World.ownsRow.alloc ho3 _
  refine hK _ _ ⟨fun _ => hF6, ?_⟩
  clear hK K
  refine wpAnyF_one (k := 7) (by kernel_rfl) ?_
  refine wpOp_step rfl (fun K hK => ?_)
  refine step_append_lies _ rfl (.tmp 15) (.tmp 18) 23 rfl B 25 i0 _ 5 64 Tryz.underlying23 hi hz0 hz1 hz2 rfl (by decide) (.slice (some ⟨g0, 0, none⟩) 1 cap0) 1 [x0, x1, x2, x3, x4] rfl ho6 ⟨W.drew.heap.size, 0, none⟩ 1 1 [.int .u8 0, .int .u64 0, .string ⟨#[]⟩, .int .u8 0, .slice none 0 0] rfl rfl (news_ok [.int .u8 0, .int .u64 0, .string ⟨#[]⟩, .int .u8 0, .slice none 0 0] 25 W.drew) (by intro u hu; simp at hu; rcases hu with rfl | rfl | rfl | rfl | rfl <;> rfl) (by decide) (by unfold maxLen; omega) (by omega) (Nat.le_trans hBW hF6.size) _ rfl ?_
  intro g cap' w5 hown hgrow hat hlt
  have hG5 : (.slice (some ⟨g0, 0, none⟩) 1 cap0 : Value).ownBlock = some g ∨ W.heap.size ≤ g := hat.imp id (fun h => by rw [h]; exact hF6.size)
  have hF5 : Only (fun j => (.slice (some ⟨g0, 0, none⟩) 1 cap0 : Value).ownBlock = some j ∨ W.heap.size ≤ j) W w5 := hF6.trans ((only_grown hgrow).mono fun j hj => .inl hj.symm)
  have hge : ¬ g = eb := fun e => hG5.elim (fun h => hn (by rw [h, e])) (fun h => by omega)
  have hge' : ¬ eb = g := fun e => hge e.symm
  have hx5 := hx2.only hF5.cut hn
  go_simp
  refine hK _ _ ⟨fun h => (Bool.false_ne_true (h.symm.trans (by kernel_rfl))).elim, ?_⟩
  clear hK K
  refine wpAnyF_of_K (F' := fun _ => True) _ _ _ _ (by kernel_rfl) ?_
  have hFin : ∀ wZ, Bx wZ eb rb (ob v T) c0 c1 c2 c3 (.slice (some ⟨g, 0, none⟩) 2 cap') → wZ.ownsRow B 25 5 (.slice (some ⟨g, 0, none⟩) 2 cap') 2 [x0, x1, x2, x3, x4, .int .u8 k, .int .u64 n, .string s, .int .u8 o, .slice ma m cap] → Only (fun j => j = eb ∨ j = g) w5 wZ → KdC w1 wZ rb eb B v T q d' c0 c1 c2 c3 (.slice (some ⟨g0, 0, none⟩) 1 cap0) (.slice (some ⟨g, 0, none⟩) 2 cap') 2 [x0, x1, x2, x3, x4, .int .u8 k, .int .u64 n, .string s, .int .u8 o, .slice ma m cap] := fun wZ hxZ hoZ hOZ => by
    have hbk : ∀ j, (Value.slice (some ⟨g, 0, none⟩) 2 cap').ownBlock = some j → (.slice (some ⟨g0, 0, none⟩) 1 cap0 : Value).ownBlock = some j ∨ W.heap.size ≤ j := fun j hj => by
      simp only [Value.ownBlock, Option.some.injEq] at hj
      subst hj
      exact hG5
    have hrl : ∀ c, c < B → ¬ (.slice (some ⟨g0, 0, none⟩) 1 cap0 : Value).ownBlock = some c := hap
    have hgB : ¬ g < B := fun h => hG5.elim (hrl _ h) (fun h1 => by omega)
    have hR5 : IsRd w5 rb v T q d' := hRW.only hF5.cut (hrl _ hrb) (fun j hj => hrl _ (hv j hj))
    have hRZ : IsRd wZ rb v T q d' := hR5.only hOZ (fun e => e.elim (fun e => hx.n1 e.symm) (fun e => hgB (by rw [← e]; exact hrb))) (fun j hj e => e.elim (fun e => hx.n2 (by rw [hj, e])) (fun e => hgB (by rw [← e]; exact hv j hj)))
    refine ⟨hRZ, hxZ, hoZ, fun j hj => (hbk j hj).imp id (fun h => Nat.le_trans hBw.size h), ?_⟩
    have hA : Only (fun j => (j = eb ∨ (.slice (some ⟨g0, 0, none⟩) 1 cap0 : Value).ownBlock = some j) ∨ w1.heap.size ≤ j) w1 wZ := ((only_below hBw).trans (hF5.cut.mono fun j hj => .inl (.inr hj))).trans (hOZ.mono fun j hj => by
      rcases hj with rfl | rfl
      · exact .inl (.inl rfl)
      · exact hG5.elim (fun h => .inl (.inr h)) (fun h => .inr (Nat.le_trans hBw.size h)))
    exact hA.cut
  refine wpAnyK_take (i := 8) rfl (by kernel_rfl) (by kernel_rfl) (by kernel_rfl) (fun _ _ _ _ h => h) trivial (fun K hK => ?_)
  apply Exists.intro
  refine ⟨Or.inl ⟨by kernel_rfl, fun w' hf => ?_⟩, ?_⟩
  · skip
    go_simp
    try exact rfl
  go_simp
  refine hK _ ?_
  clear hK K
  refine wpAnyK_take (i := 10) rfl (by kernel_rfl) (by kernel_rfl) (by kernel_rfl) (fun _ _ _ _ h => h) trivial (fun K hK => ?_)
  apply Exists.intro
  refine ⟨Or.inl ⟨by kernel_rfl, fun w' hf => ?_⟩, ?_⟩
  · skip
    go_simp
    try exact rfl
  go_simp
  refine hK _ ?_
  clear hK K
  refine wpAnyK_take (i := 11) rfl (by kernel_rfl) (by kernel_rfl) (by kernel_rfl) (fun _ _ _ _ h => h) trivial (fun K hK => ?_)
  apply Exists.intro
  refine ⟨Or.inl ⟨by kernel_rfl, fun w' hf => ?_⟩, ?_⟩
  · skip
    go_simp
    try exact rfl
  go_simp
  refine hK _ ?_
  clear hK K
  refine wpAnyK_two (k1 := 9) (k2 := 12) (by kernel_rfl) ?_ ?_
  · refine wpOp_step rfl (fun K hK => ?_)
    have z0 : w5.cell? ⟨g, 5, none⟩ = some (.int .u8 0) := hown.cellAt 5 (by decide)
    have z1 : w5.cell? ⟨g, 6, none⟩ = some (.int .u64 0) := hown.cellAt 6 (by decide)
    have z2 : w5.cell? ⟨g, 7, none⟩ = some (.string ⟨#[]⟩) := hown.cellAt 7 (by decide)
    have z3 : w5.cell? ⟨g, 8, none⟩ = some (.int .u8 0) := hown.cellAt 8 (by decide)
    have z4 : w5.cell? ⟨g, 9, none⟩ = some (.slice none 0 0) := hown.cellAt 9 (by decide)
    have zf0 := hown.frozenAt 5
    have zf1 := hown.frozenAt 6
    have zf2 := hown.frozenAt 7
    have zf3 := hown.frozenAt 8
    have zf4 := hown.frozenAt 9
    have hgl := World.block_lt_of_cell? _ _ z0
    go_simp
    have hO9 : Only (fun j => j = eb ∨ j = g) w5 (((((w5.setCell ⟨g, 5, none⟩ (.int .u8 k)).setCell ⟨g, 6, none⟩ (.int .u64 n)).setCell ⟨g, 7, none⟩ (.string s)).setCell ⟨g, 8, none⟩ (.int .u8 o)).setCell ⟨g, 9, none⟩ (.slice ma m cap)) := (((((Only.refl _ w5).setCell (.inr rfl)).setCell (.inr rfl)).setCell (.inr rfl)).setCell (.inr rfl)).setCell (.inr rfl)
    have ho9 : (((((w5.setCell ⟨g, 5, none⟩ (.int .u8 k)).setCell ⟨g, 6, none⟩ (.int .u64 n)).setCell ⟨g, 7, none⟩ (.string s)).setCell ⟨g, 8, none⟩ (.int .u8 o)).setCell ⟨g, 9, none⟩ (.slice ma m cap)).ownsRow B 25 5 (.slice (some ⟨g, 0, none⟩) 2 cap') 2 [x0, x1, x2, x3, x4, .int .u8 k, .int .u64 n, .string s, .int .u8 o, .slice ma m cap] := (((((hown.stored 5 (.int .u8 k)).1.stored 6 (.int .u64 n)).1.stored 7 (.string s)).1.stored 8 (.int .u8 o)).1.stored 9 (.slice ma m cap)).1
    have hO9g : Only (fun j => j = g) w5 (((((w5.setCell ⟨g, 5, none⟩ (.int .u8 k)).setCell ⟨g, 6, none⟩ (.int .u64 n)).setCell ⟨g, 7, none⟩ (.string s)).setCell ⟨g, 8, none⟩ (.int .u8 o)).setCell ⟨g, 9, none⟩ (.slice ma m cap)) := (((((Only.refl (fun j => j = g) w5).setCell rfl).setCell rfl).setCell rfl).setCell rfl).setCell rfl
    have hx9 := hx5.only hO9g hge'
    obtain ⟨w9, hw9⟩ : ∃ w9, (((((w5.setCell ⟨g, 5, none⟩ (.int .u8 k)).setCell ⟨g, 6, none⟩ (.int .u64 n)).setCell ⟨g, 7, none⟩ (.string s)).setCell ⟨g, 8, none⟩ (.int .u8 o)).setCell ⟨g, 9, none⟩ (.slice ma m cap)) = w9 := ⟨_, rfl⟩
    rw [hw9] at hO9 ho9 hx9
    rw [hw9]
    clear hw9 hO9g
    refine hK _ _ ⟨trivial, ?_⟩
    clear hK K
    refine wpAnyK_one (k := 12) (by kernel_rfl) ?_
    refine wpOp_step rfl (fun K hK => ?_)
    obtain ⟨q0, q1, q2, q3, q4, qel, qef⟩ := hx9.e
    have qf4 := qef 4
    go_simp
    refine hK _ _ ⟨trivial, ?_⟩
    clear hK K
    refine wpAnyK_done (by kernel_rfl) ?_
    have hxZ : Bx (w9.setCell ⟨eb, 4, none⟩ (.slice (some ⟨g, 0, none⟩) 2 cap')) eb rb (ob v T) c0 c1 c2 c3 (.slice (some ⟨g, 0, none⟩) 2 cap') := ⟨row5_set 4 (by omega) _ hx9.row, hx.n1, hx.n2⟩
    have hoZ := ownsRow_setCell_other ho9 (a := ⟨eb, 4, none⟩) (by simp only [Value.ownBlock, ne_eq, Option.some.injEq]; exact hge) (.slice (some ⟨g, 0, none⟩) 2 cap')
    have hOZ : Only (fun j => j = eb ∨ j = g) w5 (w9.setCell ⟨eb, 4, none⟩ (.slice (some ⟨g, 0, none⟩) 2 cap')) := hO9.setCell (.inl rfl)
    go_wp2
    go_ret
    exact ⟨k, n, o, s, ma, m, cap, c, q, d', w1, hXX, hO1, rfl, .slice (some ⟨g, 0, none⟩) 2 cap', hFin _ hxZ hoZ hOZ⟩
  · refine wpOp_step rfl (fun K hK => ?_)
    obtain ⟨q0, q1, q2, q3, q4, qel, qef⟩ := hx5.e
    have qf4 := qef 4
    go_simp
    have hxC : Bx (w5.setCell ⟨eb, 4, none⟩ (.slice (some ⟨g, 0, none⟩) 2 cap')) eb rb (ob v T) c0 c1 c2 c3 (.slice (some ⟨g, 0, none⟩) 2 cap') := ⟨row5_set 4 (by omega) _ hx5.row, hx.n1, hx.n2⟩
    have hoC := ownsRow_setCell_other hown (a := ⟨eb, 4, none⟩) (by simp only [Value.ownBlock, ne_eq, Option.some.injEq]; exact hge) (.slice (some ⟨g, 0, none⟩) 2 cap')
    have hOC : Only (fun j => j = eb ∨ j = g) w5 (w5.setCell ⟨eb, 4, none⟩ (.slice (some ⟨g, 0, none⟩) 2 cap')) := (Only.refl _ w5).setCell (.inl rfl)
    obtain ⟨wC, hwC⟩ : ∃ wC, w5.setCell ⟨eb, 4, none⟩ (.slice (some ⟨g, 0, none⟩) 2 cap') = wC := ⟨_, rfl⟩
    rw [hwC] at hxC hoC hOC
    rw [hwC]
    clear hwC q0 q1 q2 q3 q4 qel qef qf4
    refine hK _ _ ⟨trivial, ?_⟩
    clear hK K
    refine wpAnyK_one (k := 9) (by kernel_rfl) ?_
    refine wpOp_step rfl (fun K hK => ?_)
    have z0 : wC.cell? ⟨g, 5, none⟩ = some (.int .u8 0) := hoC.cellAt 5 (by decide)
    have z1 : wC.cell? ⟨g, 6, none⟩ = some (.int .u64 0) := hoC.cellAt 6 (by decide)
    have z2 : wC.cell? ⟨g, 7, none⟩ = some (.string ⟨#[]⟩) := hoC.cellAt 7 (by decide)
    have z3 : wC.cell? ⟨g, 8, none⟩ = some (.int .u8 0) := hoC.cellAt 8 (by decide)
    have z4 : wC.cell? ⟨g, 9, none⟩ = some (.slice none 0 0) := hoC.cellAt 9 (by decide)
    have zf0 := hoC.frozenAt 5
    have zf1 := hoC.frozenAt 6
    have zf2 := hoC.frozenAt 7
    have zf3 := hoC.frozenAt 8
    have zf4 := hoC.frozenAt 9
    have hgl := World.block_lt_of_cell? _ _ z0
    go_simp
    refine hK _ _ ⟨trivial, ?_⟩
    clear hK K
    refine wpAnyK_done (by kernel_rfl) ?_
    have hoZ : (((((wC.setCell ⟨g, 5, none⟩ (.int .u8 k)).setCell ⟨g, 6, none⟩ (.int .u64 n)).setCell ⟨g, 7, none⟩ (.string s)).setCell ⟨g, 8, none⟩ (.int .u8 o)).setCell ⟨g, 9, none⟩ (.slice ma m cap)).ownsRow B 25 5 (.slice (some ⟨g, 0, none⟩) 2 cap') 2 [x0, x1, x2, x3, x4, .int .u8 k, .int .u64 n, .string s, .int .u8 o, .slice ma m cap] := (((((hoC.stored 5 (.int .u8 k)).1.stored 6 (.int .u64 n)).1.stored 7 (.string s)).1.stored 8 (.int .u8 o)).1.stored 9 (.slice ma m cap)).1
    have hOZ : Only (fun j => j = eb ∨ j = g) w5 (((((wC.setCell ⟨g, 5, none⟩ (.int .u8 k)).setCell ⟨g, 6, none⟩ (.int .u64 n)).setCell ⟨g, 7, none⟩ (.string s)).setCell ⟨g, 8, none⟩ (.int .u8 o)).setCell ⟨g, 9, none⟩ (.slice ma m cap)) := ((((hOC.setCell (.inr rfl)).setCell (.inr rfl)).setCell (.inr rfl)).setCell (.inr rfl)).setCell (.inr rfl)
    have hO9g : Only (fun j => j = g) wC (((((wC.setCell ⟨g, 5, none⟩ (.int .u8 k)).setCell ⟨g, 6, none⟩ (.int .u64 n)).setCell ⟨g, 7, none⟩ (.string s)).setCell ⟨g, 8, none⟩ (.int .u8 o)).setCell ⟨g, 9, none⟩ (.slice ma m cap)) := (((((Only.refl (fun j => j = g) wC).setCell rfl).setCell rfl).setCell rfl).setCell rfl).setCell rfl
    have hxZ := hxC.only hO9g hge'
    go_wp2
    go_ret
    exact ⟨k, n, o, s, ma, m, cap, c, q, d', w1, hXX, hO1, rfl, .slice (some ⟨g, 0, none⟩) 2 cap', hFin _ hxZ hoZ hOZ⟩
end Go.Proofs.YtnblnmehfhkfmaaGreatDoor
