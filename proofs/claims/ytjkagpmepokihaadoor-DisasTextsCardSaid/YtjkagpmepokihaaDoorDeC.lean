/- Blocks laid in a region that draws its order, of whatever cells. -/
import Derived.Test.YtjkagpmepokihaaDoorDeB
import Derived.Test.YtjkagpmepokihaaDoorTb
namespace Go.Proofs.YtjkagpmepokihaaDoor
open Go.ChangeShapes Go.WideShapes Go.ChangeAt Go.RowKit
set_option linter.unusedVariables false
def blkG (C : Array Value) (t : TypeId) (w1 : World) (k : Nat) (w : World) : Prop := w1.heap.size ≤ k ∧ w.heap[k]? = some (.cells C t (0, 0))
theorem blkG_lt {C : Array Value} {t : TypeId} {w1 w : World} {k : Nat} (h : blkG C t w1 k w) : k < w.heap.size := (Array.getElem?_eq_some_iff.1 h.2).1
theorem blkG_alloc {C : Array Value} {t : TypeId} {w1 w : World} {k : Nat} (o : Obj) (h : blkG C t w1 k w) : blkG C t w1 k (w.alloc o) := ⟨h.1, by rw [Below.heap_alloc _ _ _ (blkG_lt h)]; exact h.2⟩
theorem blkG_of {C : Array Value} {t : TypeId} {w1 w w' : World} {k : Nat} (hb : Below w.heap.size w w') (h : blkG C t w1 k w) : blkG C t w1 k w' := ⟨h.1, (hb.block k (blkG_lt h)).trans h.2⟩
theorem blkG_new (C : Array Value) (t : TypeId) {w1 w : World} (h : w1.heap.size ≤ w.heap.size) : blkG C t w1 w.heap.size (w.alloc (.cells C t)) := ⟨h, by show (w.heap.push _)[w.heap.size]? = _; simp⟩
theorem blkG_c {C : Array Value} {t : TypeId} {w1 w : World} {k : Nat} (h : blkG C t w1 k w) (o : Nat) : w.cell? ⟨k, o, none⟩ = C[o]? := by
  unfold World.cell?
  simp only [h.2]
  rfl
theorem blkG_fr {C : Array Value} {t : TypeId} {w1 w : World} {k : Nat} (h : blkG C t w1 k w) (o : Nat) : w.frozen? ⟨k, o, none⟩ = false := by simp [World.frozen?, h.2]
end Go.Proofs.YtjkagpmepokihaaDoor
