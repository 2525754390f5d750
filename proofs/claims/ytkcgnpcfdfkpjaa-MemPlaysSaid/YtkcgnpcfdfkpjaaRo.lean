/- Contract of the document's New. -/
import Derived.Test.YtkcgnpcfdfkpjaaRn
namespace Go.Proofs.Ytkcgnpcfdfkpjaa
open Go.ChangeShapes Go.WideShapes Go.ChangeAt Go.RowKit
set_option linter.unusedVariables false
theorem own_grow {base base' size size' n n' : Nat} {e e' : TypeId} {v v' : Value} {xs xs' : List Value} {w w' : World} (h : w.ownsRow base e size v n xs) (hg : w.grownBy w' v'.ownBlock) (ho : w.ownsRow base' e' size' v' n' xs') (hne : e ≠ e') : w'.ownsRow base e size v n xs := by
  have no : ∀ j C t, w.heap[j]? = some (.cells C t (0, 0)) → t ≠ e' → some j ≠ v'.ownBlock := by
    intro j C t hj ht he
    rcases ho.2 with ⟨rfl, _⟩ | ⟨g, cap, cur, rfl, hgb, hh, _⟩
    · cases he
    · simp only [Value.ownBlock, Option.some.injEq] at he
      rw [he, hh] at hj
      injection hj with hj
      injection hj with _ h2 _
      exact ht h2.symm
  refine ⟨h.1, ?_⟩
  rcases h.2 with h0 | ⟨g, cap, cur, hv, hgb, hh, hr⟩
  · exact Or.inl h0
  · exact Or.inr ⟨g, cap, cur, hv, hgb, by rw [hg.block g (Array.getElem?_eq_some_iff.1 hh).1 (no _ _ _ hh hne)]; exact hh, hr⟩
theorem own_setne {w : World} {base size n b o : Nat} {e : TypeId} {v u : Value} {xs : List Value} (h : w.ownsRow base e size v n xs) (hb : some b ≠ v.ownBlock) : (w.setCell ⟨b, o, none⟩ u).ownsRow base e size v n xs := by
  refine ⟨h.1, ?_⟩
  rcases h.2 with h0 | ⟨g, cap, cur, hv, hg, hh, hr⟩
  · exact Or.inl h0
  · exact Or.inr ⟨g, cap, cur, hv, hg, by rw [Below.heap_setCell _ _ _ _ (by simp only; intro e; subst e; subst hv; exact hb rfl)]; exact hh, hr⟩
theorem row_mid {a b c : Value} (d : Value) {w : World} {k : Nat} (h : rowG #[a, b, c] w k) : rowG #[a, d, c] (w.setCell ⟨k, 1, none⟩ d) k := by
  have q1 : w.cell? ⟨k, 1, none⟩ = some b := h.1 1 (by simp)
  refine ⟨fun i hi => ?_, fun i => by rw [World.frozen?_setCell]; exact h.2.1 i, by rw [World.size_setCell]; exact h.2.2⟩
  rw [cell_set _ q1 i]
  have hi' : i < 3 := hi
  by_cases e : i = 1
  · subst e; rfl
  · rw [if_neg e, h.1 i hi]
    have : i = 0 ∨ i = 2 := by omega
    rcases this with rfl | rfl <;> rfl
theorem row_last {a b c : Value} (d : Value) {w : World} {k : Nat} (h : rowG #[a, b, c] w k) : rowG #[a, b, d] (w.setCell ⟨k, 2, none⟩ d) k := by
  have q1 : w.cell? ⟨k, 2, none⟩ = some c := h.1 2 (by simp)
  refine ⟨fun i hi => ?_, fun i => by rw [World.frozen?_setCell]; exact h.2.1 i, by rw [World.size_setCell]; exact h.2.2⟩
  rw [cell_set _ q1 i]
  have hi' : i < 3 := hi
  by_cases e : i = 2
  · subst e; rfl
  · rw [if_neg e, h.1 i hi]
    have : i = 0 ∨ i = 1 := by omega
    rcases this with rfl | rfl <;> rfl
/-- While it goes on. -/
structure NwI (l : List Rg) (M base : Nat) (w0 : World) (vL : Value) (bs ts : Nat → Nat) (kb kt : Nat) (vB vT : Value) (w : World) : Prop where
  bel : Below w0.heap.size w0 w
  row : rowG #[vL, vB, vT] w M
  ownL : w.ownsRow base 36 3 vL l.length (rgsL l l.length)
  gl : some M ≠ vL.ownBlock
  hM : w0.heap.size ≤ M
  hb : w0.heap.size ≤ base
  rB : RowI l M 57 5 (.int .u8 0) bs kb vB w
  rT : RowI l M 49 4 (.bool false) ts kt vT w
theorem NwI.of {l : List Rg} {M base : Nat} {w0 : World} {vL : Value} {bs ts : Nat → Nat} {kb kt : Nat} {vB vT : Value} {w w' : World} (h : NwI l M base w0 vL bs ts kb kt vB vT w) (b : Below w.heap.size w w') : NwI l M base w0 vL bs ts kb kt vB vT w' :=
  ⟨below_trans' h.bel (Nat.le_refl _) b, rowG_b h.row b, own_of h.ownL b, h.gl, h.hM, h.hb, h.rB.of b, h.rT.of b⟩
theorem NwI.stepB {l : List Rg} {M base : Nat} {w0 : World} {vL : Value} {bs ts : Nat → Nat} {kb kt : Nat} {vB vT v' : Value} {w W w5 : World} {r : Obj} (h0 : NwI l M base w0 vL bs ts kb kt vB vT w) (hW : W = (w.drew.alloc (.cells (madeCells #[.int .u8 0] (rg l kb).s) 5)).alloc r) (hg : W.grownBy w5 vB.ownBlock) (ho : w5.ownsRow (M + 1) 57 1 v' (kb + 1) (slL l bs kb ++ [Value.slice (some ⟨w.heap.size, 0, none⟩) (rg l kb).s (rg l kb).s])) :
    NwI l M base w0 vL (put1 bs kb w.heap.size) ts (kb + 1) kt v' vT (w5.setCell ⟨M, 1, none⟩ v') := by
  have h := h0.of (bd1 (Below.refl _ _))
  have hsz : w.drew.heap.size = w.heap.size := rfl
  have hBW : Below w.drew.heap.size w.drew W := by rw [hW]; exact aBelow (aBelow (Below.refl _ _) _) _
  have hX := h.of hBW
  have hMl : M < W.heap.size := hX.row.2.2
  have hMn : some M ≠ vB.ownBlock := own_ne hX.rB.own (by omega)
  have more := h.rB.more h.row.2.2 hW hg (by decide) ho
  have row5 : rowG #[vL, vB, vT] w5 M := rowG_blk hX.row (hg.block M hMl hMn) (Nat.lt_of_lt_of_le hMl hg.size)
  have bel5 : Below w0.heap.size w0 w5 := hX.bel.grown hg hX.bel.size (fun k hk => by
    rcases hX.rB.own.2 with ⟨e, _⟩ | ⟨g, cap, cur, e, hgb, _⟩
    · rw [e] at hk; cases hk
    · rw [e] at hk; simp [Value.ownBlock] at hk; have := h.hM; omega)
  exact ⟨bel5.setCell h.hM v', row_mid v' row5, own_setne (own_grow hX.ownL hg hX.rB.own (by decide)) h.gl, h.gl, h.hM, h.hb, more.set 1 v', (hX.rT.grow hg hX.rB.own (by decide) (by decide)).set 1 v'⟩
theorem NwI.stepT {l : List Rg} {M base : Nat} {w0 : World} {vL : Value} {bs ts : Nat → Nat} {kb kt : Nat} {vB vT v' : Value} {w W w5 : World} {r : Obj} (h0 : NwI l M base w0 vL bs ts kb kt vB vT w) (hW : W = (w.drew.alloc (.cells (madeCells #[.bool false] (rg l kt).s) 4)).alloc r) (hg : W.grownBy w5 vT.ownBlock) (ho : w5.ownsRow (M + 1) 49 1 v' (kt + 1) (slL l ts kt ++ [Value.slice (some ⟨w.heap.size, 0, none⟩) (rg l kt).s (rg l kt).s])) :
    NwI l M base w0 vL bs (put1 ts kt w.heap.size) kb (kt + 1) vB v' (w5.setCell ⟨M, 2, none⟩ v') := by
  have h := h0.of (bd1 (Below.refl _ _))
  have hsz : w.drew.heap.size = w.heap.size := rfl
  have hBW : Below w.drew.heap.size w.drew W := by rw [hW]; exact aBelow (aBelow (Below.refl _ _) _) _
  have hX := h.of hBW
  have hMl : M < W.heap.size := hX.row.2.2
  have hMn : some M ≠ vT.ownBlock := own_ne hX.rT.own (by omega)
  have more := h.rT.more h.row.2.2 hW hg (by decide) ho
  have row5 : rowG #[vL, vB, vT] w5 M := rowG_blk hX.row (hg.block M hMl hMn) (Nat.lt_of_lt_of_le hMl hg.size)
  have bel5 : Below w0.heap.size w0 w5 := hX.bel.grown hg hX.bel.size (fun k hk => by
    rcases hX.rT.own.2 with ⟨e, _⟩ | ⟨g, cap, cur, e, hgb, _⟩
    · rw [e] at hk; cases hk
    · rw [e] at hk; simp [Value.ownBlock] at hk; have := h.hM; omega)
  exact ⟨bel5.setCell h.hM v', row_last v' row5, own_setne (own_grow hX.ownL hg hX.rT.own (by decide)) h.gl, h.gl, h.hM, h.hb, (hX.rB.grow hg hX.rT.own (by decide) (by decide)).set 2 v', more.set 2 v'⟩
/-- What lies at M while the row grows. -/
theorem NwI.at5 {l : List Rg} {M base : Nat} {w0 : World} {vL : Value} {bs ts : Nat → Nat} {kb kt : Nat} {vB vT v : Value} {w W w5 : World} {e : TypeId} {n : Nat} {xs : List Value} (h0 : NwI l M base w0 vL bs ts kb kt vB vT w) (hb : Below w.heap.size w W) (ho : W.ownsRow (M + 1) e 1 v n xs) (hg : W.grownBy w5 v.ownBlock) : w5.cell? ⟨M, 1, none⟩ = some vB ∧ w5.cell? ⟨M, 2, none⟩ = some vT ∧ w5.frozen? ⟨M, 1, none⟩ = false ∧ w5.frozen? ⟨M, 2, none⟩ = false := by
  have hX := h0.of hb
  have hMl : M < W.heap.size := hX.row.2.2
  have row5 : rowG #[vL, vB, vT] w5 M := rowG_blk hX.row (hg.block M hMl (own_ne ho (by omega))) (Nat.lt_of_lt_of_le hMl hg.size)
  exact ⟨row5.1 1 (by simp), row5.1 2 (by simp), row5.2.1 1, row5.2.1 2⟩
end Go.Proofs.Ytkcgnpcfdfkpjaa
