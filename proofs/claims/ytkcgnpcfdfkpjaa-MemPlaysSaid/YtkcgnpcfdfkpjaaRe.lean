/- Contract of Mem.Regions, of a memory. -/
import Derived.Test.YtkcgnpcfdfkpjaaRn
import Derived.Test.YtkcgnpcfdfkpjaaBs
namespace Go.Proofs.Ytkcgnpcfdfkpjaa
open Go.ChangeShapes Go.WideShapes Go.ChangeAt Go.RowKit
set_option linter.unusedVariables false
theorem make_regions (n : Nat) (hn : n ≤ 16) (W : World) : (Instr.makeSlice 22 (.int .i64 (n : Int)) (.int .i64 (n : Int))).run Try.prog W = .ok (.slice (some ⟨W.heap.size, 0, none⟩) n n) (W.alloc (.cells (madeCells #[.int .u64 0, .int .u64 0, .int .u8 0] (n * 3)) 36)) := by
  obtain ⟨i, hi, hz, hs, hb⟩ := info_parts infoR
  have := run_makeSlice (P := Try.prog) (w := W) 22 36 i _ Try.underlying22 hi hz .i64 .i64 n n (by omega) (by omega) (by rw [hs]; simp; omega) (by rw [hb]; omega) (by omega)
  rw [hs, Int.toNat_natCast] at this
  exact this
/-- Cells that may be laid. -/
def Room (w : World) (g N : Nat) : Prop := (∀ j < N, ∃ u, w.cell? ⟨g, j, none⟩ = some u) ∧ (∀ j, w.frozen? ⟨g, j, none⟩ = false) ∧ g < w.heap.size
theorem room_set {w : World} {g N o : Nat} (v : Value) (h : Room w g N) (ho : o < N) : Room (w.setCell ⟨g, o, none⟩ v) g N := by
  obtain ⟨h1, h2, h3⟩ := h
  obtain ⟨u, hu⟩ := h1 o ho
  refine ⟨fun j hj => ?_, fun j => by rw [World.frozen?_setCell]; exact h2 j, by rw [World.size_setCell]; exact h3⟩
  rw [cell_set v hu j]
  by_cases e : j = o
  · rw [if_pos e]; exact ⟨_, rfl⟩
  · rw [if_neg e]; exact h1 j hj
theorem room_of {w w' : World} {g N : Nat} (h : Room w g N) (hb : Below w.heap.size w w') : Room w' g N :=
  ⟨fun j hj => by obtain ⟨u, hu⟩ := h.1 j hj; exact ⟨u, stay hb hu⟩, fun j => ((only_below (S := fun _ => False) hb).frozen (by exact h.2.2) (fun h => h)).trans (h.2.1 j), Nat.lt_of_lt_of_le h.2.2 hb.size⟩
theorem set3 {w : World} {g N k : Nat} {l : List Rg} (hR : Room w g N) (hN : k * 3 + 3 ≤ N) (hp : ∀ i < k, regAt w g (i * 3) (rg l i)) :
    Room (((w.setCell ⟨g, k * 3, none⟩ (.int .u64 (rg l k).f)).setCell ⟨g, k * 3 + 1, none⟩ (.int .u64 (rg l k).s)).setCell ⟨g, k * 3 + 2, none⟩ (.int .u8 (rg l k).k)) g N ∧ ∀ i < k + 1, regAt (((w.setCell ⟨g, k * 3, none⟩ (.int .u64 (rg l k).f)).setCell ⟨g, k * 3 + 1, none⟩ (.int .u64 (rg l k).s)).setCell ⟨g, k * 3 + 2, none⟩ (.int .u8 (rg l k).k)) g (i * 3) (rg l i) := by
  have r1 := room_set (.int .u64 (rg l k).f) hR (show k * 3 < N by omega)
  have r2 := room_set (.int .u64 (rg l k).s) r1 (show k * 3 + 1 < N by omega)
  have r3 := room_set (.int .u8 (rg l k).k) r2 (show k * 3 + 2 < N by omega)
  obtain ⟨u0, c0⟩ := hR.1 (k * 3) (by omega)
  obtain ⟨u1, c1⟩ := r1.1 (k * 3 + 1) (by omega)
  obtain ⟨u2, c2⟩ := r2.1 (k * 3 + 2) (by omega)
  refine ⟨r3, fun i hi => ?_⟩
  unfold regAt
  have s := fun j => (cell_set (.int .u8 (rg l k).k) c2 j)
  have s1 := fun j => (cell_set (.int .u64 (rg l k).s) c1 j)
  have s0 := fun j => (cell_set (.int .u64 (rg l k).f) c0 j)
  rcases Nat.lt_or_ge i k with h | h
  · obtain ⟨p0, p1, p2⟩ := hp i h
    refine ⟨?_, ?_, ?_⟩
    · rw [s, if_neg (by omega), s1, if_neg (by omega), s0, if_neg (by omega)]; exact p0
    · rw [s, if_neg (by omega), s1, if_neg (by omega), s0, if_neg (by omega)]; exact p1
    · rw [s, if_neg (by omega), s1, if_neg (by omega), s0, if_neg (by omega)]; exact p2
  · obtain rfl : i = k := by omega
    refine ⟨?_, ?_, ?_⟩
    · rw [s, if_neg (by omega), s1, if_neg (by omega), s0, if_pos rfl]
    · rw [s, if_neg (by omega), s1, if_pos rfl]
    · rw [s, if_pos rfl]
set_option maxHeartbeats 1000000 in
theorem regions_any {x : Mm} {bv : Nat → Nat} {tv : Nat → Bool} (w : World) (h : IsM w x bv tv) :
    Calls Try.prog 19 #[.pointer (some ⟨x.mb, 0, none⟩)] w fun e w' => (∃ g, e = .returned (.slice (some ⟨g, 0, none⟩) x.l.length x.l.length) ∧ rowAt w' g 0 x.l ∧ w.heap.size ≤ g ∧ g < w'.heap.size) ∧ Below w.heap.size w w' := by
  have hl16 := h.may.2.2
  have hmk := make_regions x.l.length hl16
  obtain ⟨g, hg⟩ : ∃ g, w.heap.size = g := ⟨_, rfl⟩
  obtain ⟨w1, hw1⟩ : ∃ w1, w.alloc (.cells (madeCells #[.int .u64 0, .int .u64 0, .int .u8 0] (x.l.length * 3)) 36) = w1 := ⟨_, rfl⟩
  have hB1 : Below w.heap.size w w1 := by rw [← hw1]; exact aBelow (Below.refl _ _) _
  have hR1 : Room w1 g (x.l.length * 3) := by
    rw [← hw1, ← hg]
    refine ⟨fun j hj => ⟨_, (nwc w _ _ j).trans (Array.getElem?_eq_getElem (by rw [size_madeCells]; exact hj))⟩, fun j => nwf w _ _ j, by simp⟩
  have hmk := hmk w
  rw [hw1] at hmk
  rw [hg] at hmk
  have hI1 := h.of hB1
  have s0 := h.ar.1
  go_enter Try.func19, Try.ntmps19
  have s1 := hI1.ar.1
  go_wp2
  go_loopw [19] (fun i wr => ∃ k : Nat, i = .int .i64 k ∧ k ≤ x.l.length ∧ Below w.heap.size w wr ∧ Room wr g (x.l.length * 3) ∧ ∀ i < k, regAt wr g (i * 3) (rg x.l i)) (fun i _ => x.l.length - (intOf i).toNat)
  case atStart => exact ⟨0, rfl, Nat.zero_le _, hB1, hR1, fun i hi => by omega⟩
  case round =>
    obtain ⟨k, rfl, hk, hB, hR, hp⟩ := hrel
    have hI := h.of hB
    by_cases hlt : k < x.l.length
    · obtain ⟨⟨c0, c1, c2⟩, c3, c4⟩ := hI.ar.2 k hlt
      obtain ⟨w2, hw2⟩ : ∃ w2, wr.alloc (.cells #[.int .u64 (rg x.l k).f, .int .u64 (rg x.l k).s, .int .u8 (rg x.l k).k, .slice (some ⟨x.vb, beg x.l k, none⟩) (rg x.l k).s (rg x.l k).s, .slice (some ⟨x.tb, beg x.l k, none⟩) (rg x.l k).s (rg x.l k).s] 66) = w2 := ⟨_, rfl⟩
      obtain ⟨ab, hab⟩ : ∃ b, wr.heap.size = b := ⟨_, rfl⟩
      have hB2 : Below wr.heap.size wr w2 := by rw [← hw2]; exact aBelow (Below.refl _ _) _
      have e0 : w2.cell? ⟨ab, 0, none⟩ = some (.int .u64 (rg x.l k).f) := by rw [← hw2, ← hab]; exact nwc _ _ _ _
      have e1 : w2.cell? ⟨ab, 1, none⟩ = some (.int .u64 (rg x.l k).s) := by rw [← hw2, ← hab]; exact nwc _ _ _ _
      have e2 : w2.cell? ⟨ab, 2, none⟩ = some (.int .u8 (rg x.l k).k) := by rw [← hw2, ← hab]; exact nwc _ _ _ _
      have hR2 := room_of hR hB2
      have hp2 : ∀ i < k, regAt w2 g (i * 3) (rg x.l i) := fun i hi => (hp i hi).of hB2
      obtain ⟨r3, p3⟩ := set3 (k := k) (l := x.l) hR2 (by omega) hp2
      obtain ⟨v0, z0⟩ := hR2.1 (k * 3) (by omega)
      obtain ⟨v1, z1⟩ := hR2.1 (k * 3 + 1) (by omega)
      obtain ⟨v2, z2⟩ := hR2.1 (k * 3 + 2) (by omega)
      have f0 := hR2.2.1 (k * 3)
      have f1 := hR2.2.1 (k * 3 + 1)
      have f2 := hR2.2.1 (k * 3 + 2)
      have i0 : (0 : Int) ≤ (k : Int) := by omega
      have i1 : (k : Int) < (x.l.length : Int) := by omega
      have hBw : Below w.heap.size w (((w2.setCell ⟨g, k * 3, none⟩ (.int .u64 (rg x.l k).f)).setCell ⟨g, k * 3 + 1, none⟩ (.int .u64 (rg x.l k).s)).setCell ⟨g, k * 3 + 2, none⟩ (.int .u8 (rg x.l k).k)) := (((below_trans' hB (Nat.le_refl _) hB2).setCell (by simp only; omega) _).setCell (by simp only; omega) _).setCell (by simp only; omega) _
      clear hR hp hR2 hp2 hI
      go_wp2
      go_roundw
      case rel => exact ⟨k + 1, by go_num, by omega, hBw, r3, p3⟩
      case measure => first | (simp [intOf]; done) | (simp [intOf]; omega)
    · obtain rfl : k = x.l.length := by omega
      go_wp2
      go_ret
      exact ⟨⟨g, rfl, fun i hi => by rw [Nat.zero_add]; exact hp i hi, by omega, hR.2.2⟩, hB⟩
end Go.Proofs.Ytkcgnpcfdfkpjaa
