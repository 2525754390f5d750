/- A memory and the document's, with the same bytes: what goes on when both are written. -/
import Derived.Test.YtkcgnpcfdfkpjaaRp
import Derived.Test.YtkcgnpcfdfkpjaaRu
namespace Go.Proofs.Ytkcgnpcfdfkpjaa
open Go.ChangeShapes Go.WideShapes Go.ChangeAt Go.RowKit
set_option linter.unusedVariables false
structure Two (w : World) (x : Mm) (y : Mr) (B : Nat) (bv : Nat → Nat) (tv : Nat → Bool) : Prop where
  m : IsM w x bv tv
  r : IsR w y bv tv
  l : y.l = x.l
  v1 : B ≤ x.vb
  v2 : B ≤ x.tb
  v3 : ∀ j, y.bl j → B ≤ j
  v4 : B ≤ w.heap.size
  d1 : ¬ y.bl x.mb ∧ ¬ y.bl x.ab ∧ ¬ y.bl x.vb ∧ ¬ y.bl x.tb
  d2 : (y.rb ≠ x.vb ∧ y.rb ≠ x.tb) ∧ (y.lb ≠ x.vb ∧ y.lb ≠ x.tb) ∧ (y.bb ≠ x.vb ∧ y.bb ≠ x.tb) ∧ (y.ub ≠ x.vb ∧ y.ub ≠ x.tb)
theorem Two.of {w w' : World} {x : Mm} {y : Mr} {B : Nat} {bv : Nat → Nat} {tv : Nat → Bool} (h : Two w x y B bv tv) (hb : Below w.heap.size w w') : Two w' x y B bv tv :=
  { h with m := h.m.of hb, r := h.r.of hb, v4 := Nat.le_trans h.v4 hb.size }
/-- The document's stays when the memory is written. -/
theorem Two.keepR {w w1 w' : World} {x : Mm} {y : Mr} {B : Nat} {bv bu : Nat → Nat} {tv tu : Nat → Bool} (h : Two w x y B bv tv) (hr : IsR w1 y bu tu) (ho : Only (fun j => j = x.vb ∨ j = x.tb) w1 w') : IsR w' y bu tu :=
  hr.only ho (fun e => by rcases e with e | e; exact h.d2.1.1 e; exact h.d2.1.2 e) (fun e => by rcases e with e | e; exact h.d2.2.1.1 e; exact h.d2.2.1.2 e) (fun e => by rcases e with e | e; exact h.d2.2.2.1.1 e; exact h.d2.2.2.1.2 e) (fun e => by rcases e with e | e; exact h.d2.2.2.2.1 e; exact h.d2.2.2.2.2 e) (fun j hj e => by rcases e with e | e; (rw [e] at hj; exact h.d1.2.2.1 hj); (rw [e] at hj; exact h.d1.2.2.2 hj))
/-- The memory stays when the document's is written. -/
theorem Two.keepM {w w1 w' : World} {x : Mm} {y : Mr} {B : Nat} {bv bu : Nat → Nat} {tv tu : Nat → Bool} (h : Two w x y B bv tv) (hm : IsM w1 x bu tu) (ho : Only y.bl w1 w') : IsM w' x bu tu :=
  hm.only ho h.d1.1 h.d1.2.1 h.d1.2.2.1 h.d1.2.2.2
/-- Both are written. -/
def Two.S (x : Mm) (y : Mr) (j : Nat) : Prop := (j = x.vb ∨ j = x.tb) ∨ y.bl j
theorem Two.both {w w' : World} {x : Mm} {y : Mr} {B : Nat} {bv bu : Nat → Nat} {tv tu : Nat → Bool} (h : Two w x y B bv tv) (hm : IsM w' x bu tu) (hr : IsR w' y bu tu) (ho : Only (Two.S x y) w w') : Two w' x y B bu tu ∧ Below B w w' :=
  ⟨{ h with m := hm, r := hr, v4 := Nat.le_trans h.v4 ho.size }, ho.below (fun j hj => by
    rcases hj with (rfl | rfl) | hj
    · exact h.v1
    · exact h.v2
    · exact h.v3 j hj) h.v4⟩
theorem Two.new {w : World} {x : Mm} {y : Mr} {B : Nat} {bv : Nat → Nat} {tv : Nat → Bool} (h : Two w x y B bv tv) : ¬ Two.S x y w.heap.size := by
  intro hs
  rcases hs with (e | e) | ⟨i, hi, e | e⟩
  · have := h.m.lv; omega
  · have := h.m.lt; omega
  · have := h.r.lv i hi; omega
  · have := h.r.lt i hi; omega
theorem byT_tl (l : List Rg) (tv : Nat → Bool) (p : Nat) (n : Int) : ∃ q m, byT l tv p n = tl tv q m ∧ m ≤ 1048576 := by
  unfold byT
  cases h : byO l p n with
  | none => exact ⟨0, 0, rfl, by omega⟩
  | some q =>
    refine ⟨q, n.toNat, rfl, ?_⟩
    unfold byO at h
    split at h
    · cases h
    · omega
/-- A row of its own, as a slice. -/
theorem own_sl {w : World} {base n : Nat} {e : TypeId} {v : Value} {xs : List Value} (h : w.ownsRow base e 1 v n xs) : (n = 0 ∧ v = .slice none 0 0) ∨ ∃ g c, v = .slice (some ⟨g, 0, none⟩) n c ∧ base ≤ g ∧ g < w.heap.size ∧ (∀ j u, xs[j]? = some u → w.cell? ⟨g, j, none⟩ = some u) ∧ ∀ j, w.frozen? ⟨g, j, none⟩ = false := by
  rcases h.2 with ⟨hv, hx⟩ | ⟨g, cap, cur, hv, hgb, hh, hr⟩
  · left
    exact ⟨by first | exact hx | exact hx.1 | omega, by first | exact hv | exact hx⟩
  · right
    subst hv
    refine ⟨g, cap, rfl, hgb, (Array.getElem?_eq_some_iff.1 hh).1, fun j u hj => ?_, fun j => made_frozen hh j⟩
    have := h.cells (g := g) rfl j u hj
    rw [addp, Nat.zero_add] at this; exact this
end Go.Proofs.Ytkcgnpcfdfkpjaa
