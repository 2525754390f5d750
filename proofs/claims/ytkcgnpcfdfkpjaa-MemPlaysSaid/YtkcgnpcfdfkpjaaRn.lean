/- Contract of the document's New: what is laid while it goes on, plainly. -/
import Derived.Test.YtkcgnpcfdfkpjaaRt
import Derived.Test.YtkcgnpcfdfkpjaaNe
import Derived.Deep.AppendLies
import Derived.Deep.RegionLaw
namespace Go.Proofs.Ytkcgnpcfdfkpjaa
open Go.ChangeShapes Go.WideShapes Go.ChangeAt Go.RowKit
set_option linter.unusedVariables false
/-- The slices of the first k regions. -/
def slL (l : List Rg) (bs : Nat → Nat) (k : Nat) : List Value := (List.range k).map fun i => Value.slice (some ⟨bs i, 0, none⟩) (rg l i).s (rg l i).s
theorem slL_length (l : List Rg) (bs : Nat → Nat) (k : Nat) : (slL l bs k).length = k := by simp [slL]
theorem slL_succ (l : List Rg) (bs : Nat → Nat) (k : Nat) : slL l bs (k + 1) = slL l bs k ++ [Value.slice (some ⟨bs k, 0, none⟩) (rg l k).s (rg l k).s] := by unfold slL; rw [List.range_succ, List.map_append]; rfl
theorem slL_at (l : List Rg) (bs : Nat → Nat) (k i : Nat) (h : i < k) : (slL l bs k)[i]? = some (Value.slice (some ⟨bs i, 0, none⟩) (rg l i).s (rg l i).s) := by simp [slL, h]
theorem slL_congr (l : List Rg) (bs bs' : Nat → Nat) (k : Nat) (h : ∀ i < k, bs' i = bs i) : slL l bs' k = slL l bs k := by
  unfold slL
  exact List.map_congr_left fun i hi => by rw [h i (List.mem_range.1 hi)]
def put1 (bs : Nat → Nat) (k b : Nat) (i : Nat) : Nat := if i = k then b else bs i
theorem put1_at (bs : Nat → Nat) (k b : Nat) : put1 bs k b k = b := if_pos rfl
theorem put1_lt (bs : Nat → Nat) (k b i : Nat) (h : i < k) : put1 bs k b i = bs i := if_neg (by omega)
/-- A row of rows, k of them laid. -/
structure RowI (l : List Rg) (M : Nat) (e f : TypeId) (z : Value) (bs : Nat → Nat) (k : Nat) (v : Value) (w : World) : Prop where
  own : w.ownsRow (M + 1) e 1 v k (slL l bs k)
  blk : ∀ i < k, w.heap[bs i]? = some (.cells (madeCells #[z] (rg l i).s) f (0, 0))
  up : ∀ i < k, M < bs i
  inc : ∀ i j, i < j → j < k → bs i < bs j
theorem RowI.lt {l : List Rg} {M : Nat} {e f : TypeId} {z : Value} {bs : Nat → Nat} {k : Nat} {v : Value} {w : World} (h : RowI l M e f z bs k v w) (i : Nat) (hi : i < k) : bs i < w.heap.size := (Array.getElem?_eq_some_iff.1 (h.blk i hi)).1
theorem RowI.of {l : List Rg} {M : Nat} {e f : TypeId} {z : Value} {bs : Nat → Nat} {k : Nat} {v : Value} {w w' : World} (h : RowI l M e f z bs k v w) (hb : Below w.heap.size w w') : RowI l M e f z bs k v w' :=
  ⟨own_of h.own hb, fun i hi => (hb.block _ (h.lt i hi)).trans (h.blk i hi), h.up, h.inc⟩
theorem RowI.set {l : List Rg} {M : Nat} {e f : TypeId} {z : Value} {bs : Nat → Nat} {k : Nat} {v : Value} {w : World} (h : RowI l M e f z bs k v w) (o : Nat) (u : Value) : RowI l M e f z bs k v (w.setCell ⟨M, o, none⟩ u) :=
  ⟨own_set h.own (by omega), fun i hi => by rw [Below.heap_setCell _ _ _ _ (by have := h.up i hi; simp only; omega)]; exact h.blk i hi, h.up, h.inc⟩
/-- Another row grew. -/
theorem RowI.grow {l : List Rg} {M : Nat} {e f e' : TypeId} {z : Value} {bs : Nat → Nat} {k n' : Nat} {v v' : Value} {xs : List Value} {w w' : World} (h : RowI l M e f z bs k v w) (hg : w.grownBy w' v'.ownBlock) (ho : w.ownsRow (M + 1) e' 1 v' n' xs) (hne : e ≠ e') (hnf : f ≠ e') : RowI l M e f z bs k v w' := by
  have no : ∀ j C t, w.heap[j]? = some (.cells C t (0, 0)) → t ≠ e' → some j ≠ v'.ownBlock := by
    intro j C t hj ht he
    rcases ho.2 with ⟨rfl, _⟩ | ⟨g, cap, cur, rfl, hgb, hh, _⟩
    · cases he
    · simp only [Value.ownBlock, Option.some.injEq] at he
      rw [he, hh] at hj
      injection hj with hj
      injection hj with _ h2 _
      exact ht h2.symm
  refine ⟨⟨h.own.1, ?_⟩, fun i hi => (hg.block _ (h.lt i hi) (no _ _ _ (h.blk i hi) hnf)).trans (h.blk i hi), h.up, h.inc⟩
  rcases h.own.2 with h0 | ⟨g, cap, cur, hv, hgb, hh, hr⟩
  · exact Or.inl h0
  · exact Or.inr ⟨g, cap, cur, hv, hgb, by rw [hg.block g (Array.getElem?_eq_some_iff.1 hh).1 (no _ _ _ hh hne)]; exact hh, hr⟩
/-- It grew itself. -/
theorem RowI.more {l : List Rg} {M : Nat} {e f : TypeId} {z : Value} {bs : Nat → Nat} {k : Nat} {v v' : Value} {w W w' : World} {r : Obj} (h : RowI l M e f z bs k v w) (hM : M < w.heap.size) (hW : W = (w.alloc (.cells (madeCells #[z] (rg l k).s) f)).alloc r) (hg : W.grownBy w' v.ownBlock) (hf : f ≠ e) (ho : w'.ownsRow (M + 1) e 1 v' (k + 1) (slL l bs k ++ [Value.slice (some ⟨w.heap.size, 0, none⟩) (rg l k).s (rg l k).s])) :
    RowI l M e f z (put1 bs k w.heap.size) (k + 1) v' w' := by
  have hBW : Below w.heap.size w W := by rw [hW]; exact aBelow (aBelow (Below.refl _ _) _) _
  have hn : W.heap[w.heap.size]? = some (.cells (madeCells #[z] (rg l k).s) f (0, 0)) := by
    rw [hW, Below.heap_alloc _ _ _ (by simp)]
    show (w.heap.push _)[w.heap.size]? = _
    simp
  have ow := own_of h.own hBW
  have no : ∀ j C t, W.heap[j]? = some (.cells C t (0, 0)) → t ≠ e → some j ≠ v.ownBlock := by
    intro j C t hj ht he
    rcases ow.2 with ⟨rfl, _⟩ | ⟨g, cap, cur, rfl, hgb, hh, _⟩
    · cases he
    · simp only [Value.ownBlock, Option.some.injEq] at he
      rw [he, hh] at hj
      injection hj with hj
      injection hj with _ h2 _
      exact ht h2.symm
  have keep : ∀ i < k, w'.heap[bs i]? = some (.cells (madeCells #[z] (rg l i).s) f (0, 0)) := fun i hi => by
    have h1 := (hBW.block _ (h.lt i hi)).trans (h.blk i hi)
    exact (hg.block _ (Nat.lt_of_lt_of_le (h.lt i hi) hBW.size) (no _ _ _ h1 hf)).trans h1
  refine ⟨by rw [slL_succ, put1_at, slL_congr l bs _ k (fun i hi => put1_lt _ _ _ _ hi)]; exact ho, fun i hi => ?_, fun i hi => ?_, fun i j hij hj => ?_⟩
  · rcases Nat.lt_or_ge i k with h1 | h1
    · rw [put1_lt _ _ _ _ h1]; exact keep i h1
    · obtain rfl : i = k := by omega
      rw [put1_at]
      exact (hg.block _ (Array.getElem?_eq_some_iff.1 hn).1 (no _ _ _ hn hf)).trans hn
  · rcases Nat.lt_or_ge i k with h1 | h1
    · rw [put1_lt _ _ _ _ h1]; exact h.up i h1
    · obtain rfl : i = k := by omega
      rw [put1_at]; exact hM
  · rcases Nat.lt_or_ge j k with h1 | h1
    · rw [put1_lt _ _ _ _ h1, put1_lt _ _ _ _ (by omega)]; exact h.inc i j hij h1
    · obtain rfl : j = k := by omega
      rw [put1_at, put1_lt _ _ _ _ hij]; exact h.lt i hij
theorem RowI.none (l : List Rg) (M : Nat) (e f : TypeId) (z : Value) (bs : Nat → Nat) (w : World) : RowI l M e f z bs 0 (.slice none 0 0) w :=
  ⟨World.ownsRow_nil _ _ _ _, fun i hi => by omega, fun i hi => by omega, fun i j _ hj => by omega⟩
theorem news1 (w : World) (o1 : Obj) (v : Value) (t : TypeId) : ∀ j u, [v][j]? = some u → ((w.drew.alloc o1).alloc (.cells #[v] t)).cell? ((⟨w.heap.size + 1, 0, none⟩ : Addr).add j) = some u := fun j u hu => by
  rw [addp, Nat.zero_add, cb' (w.drew.alloc o1) #[v] t _ _ (by simp)]
  simpa using hu
/-- The cells of the regions, in a row. -/
def rgL (l : List Rg) (i : Nat) : List Value := [.int .u64 (rg l i).f, .int .u64 (rg l i).s, .int .u8 (rg l i).k]
def rgsL (l : List Rg) (k : Nat) : List Value := (List.range k).flatMap (rgL l)
theorem rgsL_succ (l : List Rg) (k : Nat) : rgsL l (k + 1) = rgsL l k ++ rgL l k := by unfold rgsL; rw [List.range_succ, List.flatMap_append]; simp
theorem rgsL_length (l : List Rg) (k : Nat) : (rgsL l k).length = k * 3 := by
  induction k with
  | zero => rfl
  | succ k ih => rw [rgsL_succ, List.length_append, ih]; simp only [rgL, List.length_cons, List.length_nil]; omega
theorem rgsL_at (l : List Rg) : ∀ k i j, i < k → j < 3 → (rgsL l k)[i * 3 + j]? = (rgL l i)[j]?
  | 0, i, j, h, _ => by omega
  | k + 1, i, j, h, hj => by
    rw [rgsL_succ]
    by_cases e : i < k
    · rw [List.getElem?_append_left (by rw [rgsL_length]; omega)]
      exact rgsL_at l k i j e hj
    · obtain rfl : i = k := by omega
      rw [List.getElem?_append_right (by rw [rgsL_length]; omega), rgsL_length]
      congr 1
      omega
theorem rgsL_cells {l : List Rg} {w : World} {b o : Nat} (hr : rowAt w b o l) : ∀ j u, (rgsL l l.length)[j]? = some u → w.cell? ((⟨b, o, none⟩ : Addr).add j) = some u := fun j u hu => by
  have hj : j < l.length * 3 := by
    have := (List.getElem?_eq_some_iff.1 hu).1
    rw [rgsL_length] at this; exact this
  have e := rgsL_at l l.length (j / 3) (j % 3) (by omega) (Nat.mod_lt _ (by omega))
  rw [show j / 3 * 3 + j % 3 = j by omega, hu] at e
  obtain ⟨c0, c1, c2⟩ := hr (j / 3) (by omega)
  have hm : j % 3 = 0 ∨ j % 3 = 1 ∨ j % 3 = 2 := by omega
  rw [addp]
  rcases hm with h | h | h <;> rw [h] at e <;> simp [rgL] at e <;> subst e
  · rw [show o + j = o + j / 3 * 3 by omega]; exact c0
  · rw [show o + j = o + j / 3 * 3 + 1 by omega]; exact c1
  · rw [show o + j = o + j / 3 * 3 + 2 by omega]; exact c2
theorem rgsL_one (l : List Rg) (k : Nat) : ∀ u ∈ rgsL l k, u.oneCell' = true := by
  intro u hu
  obtain ⟨i, _, hu⟩ := List.mem_flatMap.1 hu
  simp only [rgL, List.mem_cons, List.not_mem_nil, or_false] at hu
  rcases hu with rfl | rfl | rfl <;> rfl
theorem infoR : (Try.prog.info? 36).map (fun i => (i.zero, i.size, i.bytes)) = some (some (.agg #[.int .u64 0, .int .u64 0, .int .u8 0]), 3, 24) := by kernel_rfl
theorem infoSB : (Try.prog.info? 57).map (fun i => (i.zero, i.size, i.bytes)) = some (some (.slice none 0 0), 1, 24) := by kernel_rfl
theorem infoST : (Try.prog.info? 49).map (fun i => (i.zero, i.size, i.bytes)) = some (some (.slice none 0 0), 1, 24) := by kernel_rfl
end Go.Proofs.Ytkcgnpcfdfkpjaa
