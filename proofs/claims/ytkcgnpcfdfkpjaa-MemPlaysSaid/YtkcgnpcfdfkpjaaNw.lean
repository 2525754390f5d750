/- Contract of room: bytes for all regions. -/
import Derived.Test.YtkcgnpcfdfkpjaaMl
import Derived.Deep.AppendLies
import Derived.Deep.RegionLaw
namespace Go.Proofs.Ytkcgnpcfdfkpjaa
open Go.ChangeShapes Go.WideShapes Go.ChangeAt Go.RowKit
set_option linter.unusedVariables false
theorem beg_bound {l : List Rg} (hs : ∀ j < l.length, (rg l j).s ≤ 1048576) : ∀ k, k ≤ l.length → beg l k ≤ k * 1048576
  | 0, _ => by simp [beg]
  | k + 1, h => by
    have := beg_bound hs k (by omega)
    have := hs k (by omega)
    rw [beg_succ l k (by omega)]
    omega
theorem info8 : (Try.prog.info? 5).map (fun i => (i.zero, i.size, i.bytes)) = some (some (.int .u8 0), 1, 1) := by kernel_rfl
/-- Two rows of zeros that are new. -/
def Rows2 (w w' : World) (T g1 g2 : Nat) : Prop := w.heap.size ≤ g1 ∧ w.heap.size ≤ g2 ∧ g1 ≠ g2 ∧ w'.heap[g1]? = some (.cells (madeCells #[.int .u8 0] T) 5 (0, 0)) ∧ w'.heap[g2]? = some (.cells (madeCells #[.bool false] T) 4 (0, 0))
theorem room_end {w wr : World} {g : Nat} {a0 a1 c0 c1 : Value} {A B : Obj} (R : rowG #[a0, a1] wr g) (hg : g = w.heap.size) (hB : Below w.heap.size w wr) :
    (((((wr.setCell ⟨g, 0, none⟩ c0).setCell ⟨g, 1, none⟩ c1).alloc A).alloc B).drew.cell? ⟨g, 0, none⟩ = some c0 ∧ ((((wr.setCell ⟨g, 0, none⟩ c0).setCell ⟨g, 1, none⟩ c1).alloc A).alloc B).drew.cell? ⟨g, 1, none⟩ = some c1) ∧
    ((((wr.setCell ⟨g, 0, none⟩ c0).setCell ⟨g, 1, none⟩ c1).alloc A).alloc B).drew.heap[wr.heap.size]? = some A ∧ ((((wr.setCell ⟨g, 0, none⟩ c0).setCell ⟨g, 1, none⟩ c1).alloc A).alloc B).drew.heap[wr.heap.size + 1]? = some B ∧
    Below w.heap.size w ((((wr.setCell ⟨g, 0, none⟩ c0).setCell ⟨g, 1, none⟩ c1).alloc A).alloc B).drew := by
  have R1 := row_two c0 c1 R
  obtain ⟨X, hX⟩ : ∃ X, (wr.setCell ⟨g, 0, none⟩ c0).setCell ⟨g, 1, none⟩ c1 = X := ⟨_, rfl⟩
  have hs : X.heap.size = wr.heap.size := by rw [← hX]; simp only [World.size_setCell]
  have hbX : Below w.heap.size w X := by rw [← hX]; exact sBelow (sBelow hB (by omega)) (by omega)
  rw [hX] at R1 ⊢
  have R2 := rowG_alloc (rowG_alloc R1 A) B
  refine ⟨⟨R2.1 0 (by simp), R2.1 1 (by simp)⟩, ?_, ?_, bd1 ((hbX.alloc hbX.size _).alloc (by have := hbX.size; simp; omega) _)⟩
  · rw [← hs]
    show ((X.alloc A).alloc B).heap[X.heap.size]? = some A
    rw [Below.heap_alloc _ _ _ (by simp)]; exact World.alloc_heap_new X A
  · rw [← hs]
    show ((X.alloc A).alloc B).heap[X.heap.size + 1]? = some B
    have := World.alloc_heap_new (X.alloc A) B
    rw [World.size_alloc] at this; exact this
set_option maxHeartbeats 1000000 in
theorem room_any (l : List Rg) (hl : MayL l) (hf : wfL l) (b o c : Nat) (w : World) (hr : rowAt w b o l) (hb : b < w.heap.size) :
    Calls Try.prog 22 #[.slice (some ⟨b, o, none⟩) l.length c] w fun e w' => (∃ g1 g2, e = .returned (.agg #[.slice (some ⟨g1, 0, none⟩) (tot l) (tot l), .slice (some ⟨g2, 0, none⟩) (tot l) (tot l)]) ∧ Rows2 w w' (tot l) g1 g2) ∧ Below w.heap.size w w' := by
  have hbb := beg_bound (may_sz hl)
  have hT : tot l ≤ 16777216 := by have := hbb l.length (Nat.le_refl _); have := hl.2.2; unfold tot; omega
  obtain ⟨w1, hw1⟩ : ∃ w1, w.alloc (.cells #[.slice none 0 0, .slice none 0 0] 59) = w1 := ⟨_, rfl⟩
  have hB1 : Below w.heap.size w w1 := by rw [← hw1]; exact aBelow (Below.refl _ _) _
  have hs1 : w1.heap.size = w.heap.size + 1 := by rw [← hw1]; simp
  have R1 : rowG #[.slice none 0 0, .slice none 0 0] w1 w.heap.size := by rw [← hw1]; exact rowG_new _ _ _
  have hm1 := run_make_row' (P := Try.prog) 57 5 (.int .u8 0) 1 Try.underlying57 info8 rfl .u64 .u64 (tot l) (by omega) (by omega)
  have hm2 := run_make_row' (P := Try.prog) 49 4 (.bool false) 1 Try.underlying49 infoB rfl .u64 .u64 (tot l) (by omega) (by omega)
  go_enter Try.func22, Try.ntmps22
  go_wp2
  go_loopw [8, 3] (fun i t wr => ∃ k : Nat, i = .int .i64 k ∧ t = .int .u64 (beg l k : Nat) ∧ k ≤ l.length ∧ Below w1.heap.size w1 wr) (fun i _ _ => l.length - (intOf i).toNat)
  case atStart => exact ⟨0, rfl, rfl, Nat.zero_le _, Below.refl _ _⟩
  case round =>
    obtain ⟨k, rfl, rfl, hk, hB⟩ := hrel
    have hBw := below_trans' hB1 (Nat.le_refl _) hB
    by_cases hlt : k < l.length
    · obtain ⟨c0, c1, c2⟩ := hr k hlt
      have c0 := stay hBw c0
      have c1 := stay hBw c1
      have c2 := stay hBw c2
      have hbs : b < wr.heap.size := Nat.lt_of_lt_of_le hb hBw.size
      have hbk := hbb (k + 1) hlt
      rw [beg_succ l k hlt] at hbk
      have hl16 := hl.2.2
      have hk20 : (k + 1) * 1048576 ≤ 17825792 := by omega
      have ea := add64 (beg l k) (rg l k).s (by omega)
      obtain ⟨v0, v1, v2⟩ := hf k
      go_wp2
      go_roundw
      case rel => exact ⟨k + 1, by go_num, by rw [beg_succ l k hlt]; simp, by omega, hB.alloc hB.size _⟩
      case measure => first | (simp [intOf]; done) | (simp [intOf]; omega)
    · obtain rfl : k = l.length := by omega
      rw [show beg l l.length = tot l from rfl]
      have R2 := rowG_b R1 hB
      have y0 : wr.cell? ⟨w.heap.size, 0, none⟩ = some (.slice none 0 0) := R2.1 0 (by simp)
      have y1 : wr.cell? ⟨w.heap.size, 1, none⟩ = some (.slice none 0 0) := R2.1 1 (by simp)
      have z0 := R2.2.1 0
      have z1 := R2.2.1 1
      have hws := hB.size
      have hws' : w.heap.size < wr.heap.size := by omega
      go_wp2
      go_region
      · obtain ⟨⟨q0, q1⟩, q2, q3, q4⟩ := room_end (c0 := .slice (some ⟨wr.heap.size, 0, none⟩) (tot l) (tot l)) (c1 := .slice (some ⟨wr.heap.size + 1, 0, none⟩) (tot l) (tot l)) (A := .cells (madeCells #[.int .u8 0] (tot l)) 5) (B := .cells (madeCells #[.bool false] (tot l)) 4) R2 rfl hBw
        go_wp2
        refine bodyPost_ret (res_str rfl _ _ w.heap.size _ _ rfl q0 q1) rfl ?_
        exact ⟨⟨_, _, rfl, by omega, by omega, by omega, q2, q3⟩, q4⟩
      · obtain ⟨⟨q0, q1⟩, q2, q3, q4⟩ := room_end (c0 := .slice (some ⟨wr.heap.size + 1, 0, none⟩) (tot l) (tot l)) (c1 := .slice (some ⟨wr.heap.size, 0, none⟩) (tot l) (tot l)) (A := .cells (madeCells #[.bool false] (tot l)) 4) (B := .cells (madeCells #[.int .u8 0] (tot l)) 5) R2 rfl hBw
        go_wp2
        refine bodyPost_ret (res_str rfl _ _ w.heap.size _ _ rfl q0 q1) rfl ?_
        exact ⟨⟨_, _, rfl, by omega, by omega, by omega, q3, q2⟩, q4⟩
end Go.Proofs.Ytkcgnpcfdfkpjaa
