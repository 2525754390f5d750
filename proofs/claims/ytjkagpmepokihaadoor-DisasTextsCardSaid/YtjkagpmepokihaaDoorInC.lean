/- Words for regions that draw their order among calls and allocations: blocks that are new, cells that stay. -/
import Derived.Test.YtjkagpmepokihaaDoorInB
import Derived.Test.YtjkagpmepokihaaDoorReg
import Derived.Deep.RegionHeld3
import Derived.Deep.MidRow
namespace Go.Proofs.YtjkagpmepokihaaDoor
open Go.ChangeShapes Go.WideShapes Go.ChangeAt Go.RowKit
set_option linter.unusedVariables false
def tg (b : Bool) : Nat := if b then 0 else 1
theorem tg_t : tg true = 0 := rfl
theorem tg_f : tg false = 1 := rfl
def blk (w1 : World) (k : Nat) (w : World) : Prop := w1.heap.size ≤ k ∧ w.heap[k]? = some (.cells #[.int .u32 0, .int .i64 0] 84 (0, 0))
theorem bk {w w' : World} {p : Addr} {v : Value} (hb : Below w.heap.size w w') (h : w.cell? p = some v) : w'.cell? p = some v := (hb.cell (World.block_lt_of_cell? w p h)).trans h
theorem blk_lt {w1 w : World} {k : Nat} (h : blk w1 k w) : k < w.heap.size := by
  have := h.2
  rw [Array.getElem?_eq_some_iff] at this
  exact this.1
theorem blk_alloc {w1 w : World} {k : Nat} (o : Obj) (h : blk w1 k w) : blk w1 k (w.alloc o) := ⟨h.1, by rw [Below.heap_alloc _ _ _ (blk_lt h)]; exact h.2⟩
theorem blk_new {w1 w : World} (h : w1.heap.size ≤ w.heap.size) : blk w1 w.heap.size (w.alloc (.cells #[.int .u32 0, .int .i64 0] 84)) := ⟨h, by show (w.heap.push _)[w.heap.size]? = _; simp⟩
theorem blk_c0 {w1 w : World} {k : Nat} (h : blk w1 k w) : w.cell? ⟨k, 0, none⟩ = some (.int .u32 0) := by simp [World.cell?, h.2]
theorem blk_c1 {w1 w : World} {k : Nat} (h : blk w1 k w) : w.cell? ⟨k, 1, none⟩ = some (.int .i64 0) := by simp [World.cell?, h.2]
theorem blk_fr {w1 w : World} {k : Nat} (h : blk w1 k w) (o : Nat) : w.frozen? ⟨k, o, none⟩ = false := by simp [World.frozen?, h.2]
theorem ba {w : World} {p : Addr} {v : Value} (o : Obj) (h : w.cell? p = some v) : (w.alloc o).cell? p = some v := (World.cell?_alloc_some w p o (by rw [h]; rfl)).trans h
theorem cb (x : World) (C : Array Value) (t : TypeId) (b o : Nat) (hb : b = x.heap.size) : (x.alloc (.cells C t)).drew.cell? ⟨b, o, none⟩ = C[o]? := by
  subst hb
  have e : (x.alloc (.cells C t)).drew.heap[x.heap.size]? = some (.cells C t (0, 0)) := by show (x.heap.push _)[x.heap.size]? = _; simp
  unfold World.cell?
  simp only [e]
  rfl
theorem cb' (x : World) (C : Array Value) (t : TypeId) (b o : Nat) (hb : b = x.heap.size) : (x.alloc (.cells C t)).cell? ⟨b, o, none⟩ = C[o]? := cb x C t b o hb
theorem bd {w : World} {p : Addr} {v : Value} (h : w.cell? p = some v) : w.drew.cell? p = some v := h
theorem below_trans' {B : Nat} {W w w' : World} (h : Below B W w) (hB : B ≤ W.heap.size) (hb : Below w.heap.size w w') : Below B W w' := h.trans (hb.mono (Nat.le_trans hB h.size))
end Go.Proofs.YtjkagpmepokihaaDoor
