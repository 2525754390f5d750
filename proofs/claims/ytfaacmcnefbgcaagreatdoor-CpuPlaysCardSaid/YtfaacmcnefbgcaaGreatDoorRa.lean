/- Contract of room: bytes for all regions. -/
import Derived.Test.YtfaacmcnefbgcaaGreatDoorQh
import Derived.Deep.AppendLies
import Derived.Deep.RegionLaw
namespace Go.Proofs.YtfaacmcnefbgcaaGreatDoor.m4
open Go.ChangeShapes Go.WideShapes Go.ChangeAt Go.RowKit
set_option linter.unusedVariables false
theorem beg_bound {l : List Rg} (hs : ∀ j < l.length, (rg l j).s ≤ 1048576) : ∀ k, k ≤ l.length → beg l k ≤ k * 1048576
  | 0, _ => by simp [beg]
  | k + 1, h => by
    have := beg_bound hs k (by omega)
    have := hs k (by omega)
    rw [beg_succ l k (by omega)]
    omega
theorem info8 : (Tryz.prog.info? 5).map (fun i => (i.zero, i.size, i.bytes)) = some (some (.int .u8 0), 1, 1) := by kernel_rfl
/-- Two rows of zeros that are new. -/
def Rows2 (w w' : World) (T g1 g2 : Nat) : Prop := w.heap.size ≤ g1 ∧ w.heap.size ≤ g2 ∧ g1 ≠ g2 ∧ w'.heap[g1]? = some (.cells (madeCells #[.int .u8 0] T) 5 (0, 0)) ∧ w'.heap[g2]? = some (.cells (madeCells #[.bool false] T) 4 (0, 0))
theorem room_end {w wr : World} {g : Nat} {a0 a1 c0 c1 : Value} {A B : Obj} (R : rowG #[a0, a1] wr g) (hg : g = w.heap.size) (hB : Below w.heap.size w wr) :
    (((((wr.setCell ⟨g, 0, none⟩ c0).setCell ⟨g, 1, none⟩ c1).alloc A).alloc B).drew.cell? ⟨g, 0, none⟩ = some c0 ∧ ((((wr.setCell ⟨g, 0, none⟩ c0).setCell ⟨g, 1, none⟩ c1).alloc A).alloc B).drew.cell? ⟨g, 1, none⟩ = some c1) ∧
    ((((wr.setCell ⟨g, 0, none⟩ c0).setCell ⟨g, 1, none⟩ c1).alloc A).alloc B).drew.heap[wr.heap.size]? = some A ∧ ((((wr.setCell ⟨g, 0, none⟩ c0).setCell ⟨g, 1, none⟩ c1).alloc A).alloc B).drew.heap[wr.heap.size + 1]? = some B ∧
    Below w.heap.size w ((((wr.setCell ⟨g, 0, none⟩ c0).setCell ⟨g, 1, none⟩ c1).alloc A).alloc B).drew := by
  have R1 := row_two c0 c1 R
  obtain ⟨X, hX⟩ : ∃ X, (wr.setCell ⟨g, 0, none⟩ c0).setCell ⟨g, 1, none⟩ c1 = X := ⟨_, rfl⟩
  have hs : X.heap.size = wr.heap.size := by rw [← hX]; simp only [World.size_setCell]
  have hbX : Below w.heap.size w X := by rw [← hX]; exact sBelow (sBelow hB (by omega)) (by omega)
  rw [hX] at R1 ⊢
  have R2 := rowG_alloc (rowG_alloc R1 A) B
  refine ⟨⟨R2.1 0 (by simp), R2.1 1 (by simp)⟩, ?_, ?_, bd1 ((hbX.alloc hbX.size _).alloc (by have := hbX.size; simp; omega) _)⟩
  · rw [← hs]
    show ((X.alloc A).alloc B).heap[X.heap.size]? = some A
    rw [Below.heap_alloc _ _ _ (by simp)]; exact World.alloc_heap_new X A
  · rw [← hs]
    show ((X.alloc A).alloc B).heap[X.heap.size + 1]? = some B
    have := World.alloc_heap_new (X.alloc A) B
    rw [World.size_alloc] at this; exact this
set_option maxHeartbeats 1000000 in
theorem room_any (l : List Rg) (hl : MayL l) (hf : wfL l) (b o c : Nat) (w : World) (hr : rowAt w b o l) (hb : b < w.heap.size) :
    Calls Tryz.prog 41 #[.slice (some ⟨b, o, none⟩) l.length c] w fun e w' => (∃ g1 g2, e = .returned (.agg #[.slice (some ⟨g1, 0, none⟩) (tot l) (tot l), .slice (some ⟨g2, 0, none⟩) (tot l) (tot l)]) ∧ Rows2 w w' (tot l) g1 g2) ∧ Below w.heap.size w w' := by
  have hbb := beg_bound (may_sz hl)
  have hT : tot l ≤ 16777216 := by have := hbb l.length (Nat.le_refl _); have := hl.2.2; unfold tot; omega
  obtain ⟨w1, hw1⟩ : ∃ w1, w.alloc (.cells #[.slice none 0 0, .slice none 0 0] 112) = w1 := ⟨_, rfl⟩
  have hB1 : Below w.heap.size w w1 := by rw [← hw1]; exact aBelow (Below.refl _ _) _
  have hs1 : w1.heap.size = w.heap.size + 1 := by rw [← hw1]; simp
  have R1 : rowG #[.slice none 0 0, .slice none 0 0] w1 w.heap.size := by rw [← hw1]; exact rowG_new _ _ _
  have hm1 := run_make_row' (P := Tryz.prog) 65 5 (.int .u8 0) 1 Tryz.underlying65 info8 rfl .u64 .u64 (tot l) (by omega) (by omega)
  have hm2 := run_make_row' (P := Tryz.prog) 98 4 (.bool false) 1 Tryz.underlying98 infoB rfl .u64 .u64 (tot l) (by omega) (by omega)
  go_enter Tryz.func41, Tryz.ntmps41
  go_wp2
  go_loopw [8, 3] (fun i t wr => ∃ k : Nat, i = .int .i64 k ∧ t = .int .u64 (beg l k : Nat) ∧ k ≤ l.length ∧ Below w1.heap.size w1 wr) (fun i _ _ => l.length - (intOf i).toNat)
  case atStart => exact ⟨0, rfl, rfl, Nat.zero_le _, Below.refl _ _⟩
  case round =>
    obtain ⟨k, rfl, rfl, hk, hB⟩ := hrel
    have hBw := below_trans' hB1 (Nat.le_refl _) hB
    by_cases hlt : k < l.length
    · obtain ⟨c0, c1, c2⟩ := hr k hlt
      have c0 := stay hBw c0
      have c1 := stay hBw c1
      have c2 := stay hBw c2
      have hbs : b < wr.heap.size := Nat.lt_of_lt_of_le hb hBw.size
      have hbk := hbb (k + 1) hlt
      rw [beg_succ l k hlt] at hbk
      have hl16 := hl.2.2
      have hk20 : (k + 1) * 1048576 ≤ 17825792 := by omega
      have ea := add64 (beg l k) (rg l k).s (by omega)
      obtain ⟨v0, v1, v2⟩ := hf k
      go_wp2
      go_roundw
      case rel => exact ⟨k + 1, by go_num, by rw [beg_succ l k hlt]; simp, by omega, hB.alloc hB.size _⟩
      case measure => first | (simp [intOf]; done) | (simp [intOf]; omega)
    · obtain rfl : k = l.length := by omega
      rw [show beg l l.length = tot l from rfl]
      have R2 := rowG_b R1 hB
      have y0 : wr.cell? ⟨w.heap.size, 0, none⟩ = some (.slice none 0 0) := R2.1 0 (by simp)
      have y1 : wr.cell? ⟨w.heap.size, 1, none⟩ = some (.slice none 0 0) := R2.1 1 (by simp)
      have z0 := R2.2.1 0
      have z1 := R2.2.1 1
      have hws := hB.size
      have hws' : w.heap.size < wr.heap.size := by omega
      go_wp2
      go_region
      · obtain ⟨⟨q0, q1⟩, q2, q3, q4⟩ := room_end (c0 := .slice (some ⟨wr.heap.size, 0, none⟩) (tot l) (tot l)) (c1 := .slice (some ⟨wr.heap.size + 1, 0, none⟩) (tot l) (tot l)) (A := .cells (madeCells #[.int .u8 0] (tot l)) 5) (B := .cells (madeCells #[.bool false] (tot l)) 4) R2 rfl hBw
        go_wp2
        refine bodyPost_ret (res_str rfl _ _ w.heap.size _ _ rfl q0 q1) rfl ?_
        exact ⟨⟨_, _, rfl, by omega, by omega, by omega, q2, q3⟩, q4⟩
      · obtain ⟨⟨q0, q1⟩, q2, q3, q4⟩ := room_end (c0 := .slice (some ⟨wr.heap.size + 1, 0, none⟩) (tot l) (tot l)) (c1 := .slice (some ⟨wr.heap.size, 0, none⟩) (tot l) (tot l)) (A := .cells (madeCells #[.bool false] (tot l)) 4) (B := .cells (madeCells #[.int .u8 0] (tot l)) 5) R2 rfl hBw
        go_wp2
        refine bodyPost_ret (res_str rfl _ _ w.heap.size _ _ rfl q0 q1) rfl ?_
        exact ⟨⟨_, _, rfl, by omega, by omega, by omega, q3, q2⟩, q4⟩
end Go.Proofs.YtfaacmcnefbgcaaGreatDoor.m4

/- Contract of mem.New. -/
namespace Go.Proofs.YtfaacmcnefbgcaaGreatDoor.m4
open Go.ChangeShapes Go.WideShapes Go.ChangeAt Go.RowKit
set_option linter.unusedVariables false
theorem maybe_no {w : World} {v : Value} {l : List Rg} (hv : SlOf w v l) (hf : wfL l) (hn : l.length ≤ 140737488355328) (h : ¬ MayL l) :
    Calls Tryz.prog 40 #[v] w fun e w' => e = .returned (.bool false) ∧ Below w.heap.size w w' := by
  by_cases hl : l.length < 1 ∨ 16 < l.length
  · rcases hv with ⟨h0, a, c, rfl⟩ | ⟨b, o, c, rfl, hr, hb, hc⟩
    · exact maybe_bad _ a 0 c rfl (by omega) (by omega) w
    · exact maybe_bad _ _ _ c rfl hl hn w
  · rcases hv with ⟨h0, a, c, rfl⟩ | ⟨b, o, c, rfl, hr, hb, hc⟩
    · subst h0; simp at hl
    · exact (maybe_any l hf b o c (by omega) (by omega) hc w hr hb).mono fun e w' ⟨⟨r, he, hr⟩, hb⟩ => ⟨by rw [he, Bool.eq_false_iff.2 (fun hh => h (hr.1 hh))], hb⟩
theorem new_no {w : World} {v : Value} {l : List Rg} (hv : SlOf w v l) (hf : wfL l) (hn : l.length ≤ 140737488355328) (h : ¬ MayL l) :
    Calls Tryz.prog 15 #[v] w fun e w' => e = .returned (.tuple #[.pointer none, .int .i64 2]) ∧ Below w.heap.size w w' := by
  have hM := maybe_no hv hf hn h
  go_enter Tryz.func15, Tryz.ntmps15
  go_wp2_with (go_at_call 40; (with_reducible refine hM.mono ?_); (rintro e w1 ⟨rfl, hb1⟩))
  go_ret2
  exact ⟨rfl, hb1⟩
/-- The cells of the areas. -/
def arL (l : List Rg) (V T i : Nat) : List Value := [.int .u64 (rg l i).f, .int .u64 (rg l i).s, .int .u8 (rg l i).k, .slice (some ⟨V, beg l i, none⟩) (rg l i).s (rg l i).s, .slice (some ⟨T, beg l i, none⟩) (rg l i).s (rg l i).s]
def arsL (l : List Rg) (V T k : Nat) : List Value := (List.range k).flatMap (arL l V T)
theorem arsL_succ (l : List Rg) (V T k : Nat) : arsL l V T (k + 1) = arsL l V T k ++ arL l V T k := by unfold arsL; rw [List.range_succ, List.flatMap_append]; simp
theorem arsL_length (l : List Rg) (V T k : Nat) : (arsL l V T k).length = k * 5 := by
  induction k with
  | zero => rfl
  | succ k ih => rw [arsL_succ, List.length_append, ih]; simp only [arL, List.length_cons, List.length_nil]; omega
theorem arsL_at (l : List Rg) (V T : Nat) : ∀ k i j, i < k → j < 5 → (arsL l V T k)[i * 5 + j]? = (arL l V T i)[j]?
  | 0, i, j, h, _ => by omega
  | k + 1, i, j, h, hj => by
    rw [arsL_succ]
    by_cases e : i < k
    · rw [List.getElem?_append_left (by rw [arsL_length]; omega)]
      exact arsL_at l V T k i j e hj
    · obtain rfl : i = k := by omega
      rw [List.getElem?_append_right (by rw [arsL_length]; omega), arsL_length]
      congr 1
      omega
theorem own_of {w w' : World} {base size n : Nat} {e : TypeId} {v : Value} {xs : List Value} (h : w.ownsRow base e size v n xs) (hb : Below w.heap.size w w') : w'.ownsRow base e size v n xs := by
  refine ⟨h.1, ?_⟩
  rcases h.2 with h0 | ⟨g, cap, cur, hv, hg, hh, hr⟩
  · exact Or.inl h0
  · refine Or.inr ⟨g, cap, cur, hv, hg, ?_, hr⟩
    have hlt : g < w.heap.size := (Array.getElem?_eq_some_iff.1 hh).1
    rw [hb.block g hlt]; exact hh
theorem own_ne {w : World} {base size n j : Nat} {e : TypeId} {v : Value} {xs : List Value} (h : w.ownsRow base e size v n xs) (hj : j < base) : some j ≠ v.ownBlock := by
  rcases h.2 with ⟨rfl, _⟩ | ⟨g, cap, cur, rfl, hg, _⟩
  · intro e; cases e
  · intro e; simp [Value.ownBlock] at e; omega
theorem own_far {w : World} {base size n : Nat} {e : TypeId} {v : Value} {xs : List Value} (h : w.ownsRow base e size v n xs) : some w.heap.size ≠ v.ownBlock := by
  rcases h.2 with ⟨rfl, _⟩ | ⟨g, cap, cur, rfl, hg, hh, _⟩
  · intro e; cases e
  · intro e
    have := (Array.getElem?_eq_some_iff.1 hh).1
    simp [Value.ownBlock] at e; omega
theorem own_set {w : World} {base size n b o : Nat} {e : TypeId} {v u : Value} {xs : List Value} (h : w.ownsRow base e size v n xs) (hb : b < base) : (w.setCell ⟨b, o, none⟩ u).ownsRow base e size v n xs := by
  refine ⟨h.1, ?_⟩
  rcases h.2 with h0 | ⟨g, cap, cur, hv, hg, hh, hr⟩
  · exact Or.inl h0
  · exact Or.inr ⟨g, cap, cur, hv, hg, by rw [Below.heap_setCell _ _ _ _ (by simp only; omega)]; exact hh, hr⟩
theorem own_one {w : World} {base size n : Nat} {e : TypeId} {v : Value} {xs : List Value} (h : w.ownsRow base e size v n xs) : v.oneCell' = true := by
  rcases h.2 with ⟨rfl, _⟩ | ⟨g, cap, cur, rfl, hg, _⟩ <;> rfl
def tg (b : Bool) : Nat := if b then 0 else 1
theorem tg_t : tg true = 0 := rfl
theorem tg_f : tg false = 1 := rfl
def blkG (C : Array Value) (t : TypeId) (w1 : World) (k : Nat) (w : World) : Prop := w1.heap.size ≤ k ∧ w.heap[k]? = some (.cells C t (0, 0))
theorem blkG_lt {C : Array Value} {t : TypeId} {w1 w : World} {k : Nat} (h : blkG C t w1 k w) : k < w.heap.size := (Array.getElem?_eq_some_iff.1 h.2).1
theorem blkG_alloc {C : Array Value} {t : TypeId} {w1 w : World} {k : Nat} (o : Obj) (h : blkG C t w1 k w) : blkG C t w1 k (w.alloc o) := ⟨h.1, by rw [Below.heap_alloc _ _ _ (blkG_lt h)]; exact h.2⟩
theorem blkG_of {C : Array Value} {t : TypeId} {w1 w w' : World} {k : Nat} (hb : Below w.heap.size w w') (h : blkG C t w1 k w) : blkG C t w1 k w' := ⟨h.1, (hb.block k (blkG_lt h)).trans h.2⟩
theorem blkG_new (C : Array Value) (t : TypeId) {w1 w : World} (h : w1.heap.size ≤ w.heap.size) : blkG C t w1 w.heap.size (w.alloc (.cells C t)) := ⟨h, by show (w.heap.push _)[w.heap.size]? = _; simp⟩
theorem blkG_c {C : Array Value} {t : TypeId} {w1 w : World} {k : Nat} (h : blkG C t w1 k w) (o : Nat) : w.cell? ⟨k, o, none⟩ = C[o]? := by
  unfold World.cell?
  simp only [h.2]
  rfl
theorem news5 {w w1 : World} (l : List Rg) (V T k kx : Nat) (t : TypeId) (h : blkG #[.int .u64 (rg l k).f, .int .u64 (rg l k).s, .int .u8 (rg l k).k, .slice (some ⟨V, beg l k, none⟩) (rg l k).s (rg l k).s, .slice (some ⟨T, beg l k, none⟩) (rg l k).s (rg l k).s] t w1 kx w) : ∀ j u, (arL l V T k)[j]? = some u → w.cell? ((⟨kx, 0, none⟩ : Addr).add j) = some u := fun j u hu => by
  rw [addp, Nat.zero_add, blkG_c h]
  simpa [arL] using hu
theorem arL_one (l : List Rg) (V T k : Nat) : ∀ u ∈ arL l V T k, u.oneCell' = true := by
  intro u hu
  simp only [arL, List.mem_cons, List.not_mem_nil, or_false] at hu
  rcases hu with rfl | rfl | rfl | rfl | rfl <;> rfl
theorem ba {w : World} {p : Addr} {v : Value} (o : Obj) (h : w.cell? p = some v) : (w.alloc o).cell? p = some v := (World.cell?_alloc_some w p o (by rw [h]; rfl)).trans h
theorem bd {w : World} {p : Addr} {v : Value} (h : w.cell? p = some v) : w.drew.cell? p = some v := h
theorem cfar {w : World} {b o j k : Nat} {u v : Value} (h : w.cell? ⟨j, k, none⟩ = some v) (hn : j ≠ b) : (w.setCell ⟨b, o, none⟩ u).cell? ⟨j, k, none⟩ = some v := (World.cell?_setCell_other (h := by intro e; injection e with e1 _ _; exact hn e1.symm) ..).trans h
theorem infoA : (Tryz.prog.info? 119).map (fun i => (i.zero, i.size, i.bytes)) = some (some (.agg #[.int .u64 0, .int .u64 0, .int .u8 0, .slice none 0 0, .slice none 0 0]), 5, 72) := by kernel_rfl
theorem made_cell {w : World} {g T k : Nat} {v : Value} {e : TypeId} (h : w.heap[g]? = some (.cells (madeCells #[v] T) e (0, 0))) (hk : k < T) : w.cell? ⟨g, k, none⟩ = some v := by
  rw [cell_of_row w g k _ e (0, 0) h, ← Array.getElem?_toList, toList_madeCells_one, List.getElem?_replicate, if_pos hk]
theorem made_frozen {w : World} {g : Nat} {C : Array Value} {e : TypeId} (h : w.heap[g]? = some (.cells C e (0, 0))) (k : Nat) : w.frozen? ⟨g, k, none⟩ = false := by
  unfold World.frozen?
  simp only [h]
  simp
set_option maxHeartbeats 4000000 in
set_option maxRecDepth 100000 in
theorem new_yes (l : List Rg) (hl : MayL l) (hf : wfL l) (b o c : Nat) (hlc : l.length ≤ c) (w0 : World) (hr : rowAt w0 b o l) (hb : b < w0.heap.size) :
    Calls Tryz.prog 15 #[.slice (some ⟨b, o, none⟩) l.length c] w0 fun e w' => (∃ x : Mm, e = .returned (.tuple #[.pointer (some ⟨x.mb, 0, none⟩), .int .i64 0]) ∧ x.l = l ∧ IsM w' x (fun _ => 0) (fun _ => false) ∧ w0.heap.size ≤ x.mb ∧ w0.heap.size ≤ x.ab ∧ w0.heap.size ≤ x.vb ∧ w0.heap.size ≤ x.tb) ∧ Below w0.heap.size w0 w' := by
  have hM := (maybe_any l hf b o c hl.2.1 hl.2.2 hlc w0 hr hb).mono (R' := fun e w' => e = .returned (.bool true) ∧ Below w0.heap.size w0 w') fun e w' ⟨⟨r, he, hr⟩, hb⟩ => ⟨by rw [he, hr.2 hl], hb⟩
  have hbb := beg_bound (may_sz hl)
  obtain ⟨i0, hi, hz0, hz1, hz2⟩ := info_parts infoA
  go_enter Tryz.func15, Tryz.ntmps15
  go_wp2_with (first | (go_at_call 40; (with_reducible refine hM.mono ?_); (rintro e w1 ⟨rfl, hb1⟩); have hR := room_any l hl hf b o c w1 (hr.of hb1) (Nat.lt_of_lt_of_le hb hb1.size)) | (go_at_call 41; (with_reducible refine hR.mono ?_); (rintro e w2 ⟨⟨V, T, rfl, hV, hT, hVT, hcV, hcT⟩, hb2⟩)))
  obtain ⟨gA, hgA⟩ : ∃ g, w2.heap.size = g := ⟨_, rfl⟩
  obtain ⟨w3, hw3⟩ : ∃ w3, (w2.alloc (.cells #[.slice (some ⟨V, 0, none⟩) (tot l) (tot l), .slice (some ⟨T, 0, none⟩) (tot l) (tot l)] 112)).alloc (.cells #[.slice none 0 0] 116) = w3 := ⟨_, rfl⟩
  have hB2 := below_trans' hb1 (Nat.le_refl _) hb2
  have hB3 : Below w2.heap.size w2 w3 := by rw [← hw3]; exact aBelow (aBelow (Below.refl _ _) _) _
  have hs3 : w3.heap.size = gA + 2 := by rw [← hw3, ← hgA]; simp
  have rA : rowG #[.slice (some ⟨V, 0, none⟩) (tot l) (tot l), .slice (some ⟨T, 0, none⟩) (tot l) (tot l)] w3 gA := by rw [← hw3, ← hgA]; exact rowG_alloc (rowG_new _ _ _) _
  have rM : rowG #[.slice none 0 0] w3 (gA + 1) := by rw [← hw3, ← hgA]; exact rowG_at _ _ _ _ (by simp)
  have hVl : V < gA := by rw [← hgA]; exact (Array.getElem?_eq_some_iff.1 hcV).1
  have hTl : T < gA := by rw [← hgA]; exact (Array.getElem?_eq_some_iff.1 hcT).1
  have hcV3 := (hB3.block V (by omega)).trans hcV
  have hcT3 := (hB3.block T (by omega)).trans hcT
  have hBw3 := below_trans' hB2 (Nat.le_refl _) hB3
  try rw [hw3]
  simp only [hgA]
  go_loopw [18, 6] (fun i t wr => ∃ (k : Nat) (va : Value), i = .int .i64 k ∧ t = .int .u64 (beg l k : Nat) ∧ k ≤ l.length ∧ Below w0.heap.size w0 wr ∧ gA + 2 ≤ wr.heap.size ∧ wr.heap[V]? = w2.heap[V]? ∧ wr.heap[T]? = w2.heap[T]? ∧ rowG #[.slice (some ⟨V, 0, none⟩) (tot l) (tot l), .slice (some ⟨T, 0, none⟩) (tot l) (tot l)] wr gA ∧ rowG #[va] wr (gA + 1) ∧ wr.ownsRow (gA + 2) 119 5 va k (arsL l V T k)) (fun i _ _ => l.length - (intOf i).toNat)
  case atStart => exact ⟨0, _, rfl, rfl, Nat.zero_le _, hBw3, by omega, hB3.block V (by omega), hB3.block T (by omega), rA, rM, World.ownsRow_nil _ _ _ _⟩
  case round =>
    obtain ⟨k, va, rfl, rfl, hk, hBw, hsz, hV', hT', rA, rM, hown⟩ := hrel
    by_cases hlt : k < l.length
    · obtain ⟨c0, c1, c2⟩ := hr k hlt
      have c0 := stay hBw c0
      have c1 := stay hBw c1
      have c2 := stay hBw c2
      have hbs : b < wr.heap.size := Nat.lt_of_lt_of_le hb hBw.size
      have hbk := hbb (k + 1) hlt
      rw [beg_succ l k hlt] at hbk
      have hl16 := hl.2.2
      have hk20 : (k + 1) * 1048576 ≤ 17825792 := by omega
      have ea := add64 (beg l k) (rg l k).s (by omega)
      have hin := beg_in hlt
      obtain ⟨v0, v1, v2⟩ := hf k
      obtain ⟨W, hW⟩ : ∃ W, wr.alloc (.cells #[.int .u64 (rg l k).f, .int .u64 (rg l k).s, .int .u8 (rg l k).k] 102) = W := ⟨_, rfl⟩
      have hBW : Below wr.heap.size wr W := by rw [← hW]; exact aBelow (Below.refl _ _) _
      have hsW : W.heap.size = wr.heap.size + 1 := by rw [← hW]; simp
      have r0 : W.cell? ⟨wr.heap.size, 0, none⟩ = some (.int .u64 (rg l k).f) := by rw [← hW]; exact nwc _ _ _ _
      have r1 : W.cell? ⟨wr.heap.size, 1, none⟩ = some (.int .u64 (rg l k).s) := by rw [← hW]; exact nwc _ _ _ _
      have r2 : W.cell? ⟨wr.heap.size, 2, none⟩ = some (.int .u8 (rg l k).k) := by rw [← hW]; exact nwc _ _ _ _
      have rA' := rowG_b rA hBW
      have rM' := rowG_b rM hBW
      have hown' := own_of hown hBW
      have s0 : W.cell? ⟨gA, 0, none⟩ = some (.slice (some ⟨V, 0, none⟩) (tot l) (tot l)) := rA'.1 0 (by simp)
      have s1 : W.cell? ⟨gA, 1, none⟩ = some (.slice (some ⟨T, 0, none⟩) (tot l) (tot l)) := rA'.1 1 (by simp)
      have m0 : W.cell? ⟨gA + 1, 0, none⟩ = some va := rM'.1 0 (by simp)
      have zm := rM'.2.1 0
      have hT24 : tot l ≤ 16777216 := by have := hbb l.length (Nat.le_refl _); have := hl.2.2; unfold tot; omega
      have hP := part_any V T 0 0 (tot l) (tot l) (tot l) (tot l) (beg l k) (rg l k).s (by omega) (by omega) (by omega)
      have hs0 : (rg l k).s ≠ 0 := by have := (hl.1 k hlt).1.1.2.2.1; omega
      have ho0 : off0 0 (beg l k) (rg l k).s = beg l k := by unfold off0; rw [if_neg hs0]; omega
      rw [ho0] at hP
      have hnr : some wr.heap.size ≠ va.ownBlock := own_far hown
      have hBW1 : Below W.heap.size W W.drew := bd1 (Below.refl _ _)
      have r0 := stay hBW1 r0
      have r1 := stay hBW1 r1
      have r2 := stay hBW1 r2
      have s0 := stay hBW1 s0
      have s1 := stay hBW1 s1
      have m0 := stay hBW1 m0
      have rM' := rowG_b rM' hBW1
      have rA' := rowG_b rA' hBW1
      have hown' := own_of hown' hBW1
      have hBw1 := bd1 (hBw.trans (hBW.mono hBw.size))
      have hV1 := (bd1 hBW).block V (by omega)
      have hT1 := (bd1 hBW).block T (by omega)
      have hsW1 : W.drew.heap.size = wr.heap.size + 1 := hsW
      go_wp2
      try rw [hW]
      refine wp_region_any (by kernel_rfl) ?_
      show wpAny _ _ _ _ _ _ _ (World.drew _)
      generalize hWd : W.drew = W1 at *
      clear hBW1 hWd
      refine wpAny_take (i := 0) (v := .pointer (some ⟨gA + 1, 0, none⟩)) rfl (by kernel_rfl) (by kernel_rfl) (by kernel_rfl) (fun _ _ _ h => h) (Or.inl ⟨by kernel_rfl, by intro w; go_simp⟩) ?_
      refine wpAny_inv (fun fu L a w => ∃ (b1 b2 b3 b4 b5 b6 b7 b8 b9 b10 b11 b12 : Bool) (kx : Nat), fu = 4 + (tg b1 + tg b2 + tg b3 + tg b4 + tg b5 + tg b6 + tg b7 + tg b8 + tg b9 + tg b10 + tg b11 + tg b12) ∧ L = #[true, b1, b2, b3, b4, b5, b6, b7, b8, b9, b10, b11, b12, false, false, false, false] ∧ a = ⟨#[.slice (some ⟨b, o, none⟩) l.length c, undef, .pointer none, .int .i64 0, .pointer (some ⟨gA, 0, none⟩), .pointer (some ⟨gA + 1, 0, none⟩), .int .u64 (beg l k : Nat), undef, .pointer (some ⟨wr.heap.size, 0, none⟩), .slice (some ⟨b, o, none⟩) l.length c, .bool true, .bool false, .slice (some ⟨b, o, none⟩) l.length c, .agg #[.slice (some ⟨V, 0, none⟩) (tot l) (tot l), .slice (some ⟨T, 0, none⟩) (tot l) (tot l)], .agg #[.slice none 0 0], .pointer (some ⟨gA + 1, 0, none⟩), .slice (some ⟨b, o, none⟩) l.length c, .int .i64 l.length, .int .i64 k, .bool true, .pointer (some ⟨b, o + k * 3, none⟩), .agg #[.int .u64 (rg l k).f, .int .u64 (rg l k).s, .int .u8 (rg l k).k], .pointer (some ⟨gA + 1, 0, none⟩), (bif b1 then .pointer (some ⟨gA + 1, 0, none⟩) else u23), (bif b2 then .pointer (some ⟨gA + 1, 0, none⟩) else u24), (bif b3 then .pointer (some ⟨gA + 1, 0, none⟩) else u25), (bif b4 then va else u26), (bif b5 then .agg #[.int .u64 (rg l k).f, .int .u64 (rg l k).s, .int .u8 (rg l k).k] else u27), (bif b6 then .agg #[.slice (some ⟨V, 0, none⟩) (tot l) (tot l), .slice (some ⟨T, 0, none⟩) (tot l) (tot l)] else u28), (bif b7 then .int .u64 (beg l k : Nat) else u29), (bif b8 then .pointer (some ⟨wr.heap.size, 1, none⟩) else u30), (bif b9 then .int .u64 (rg l k).s else u31), (bif b10 then .agg #[.slice (some ⟨V, beg l k, none⟩) (rg l k).s (rg l k).s, .slice (some ⟨T, beg l k, none⟩) (rg l k).s (rg l k).s] else u32), (bif b11 then .agg #[.int .u64 (rg l k).f, .int .u64 (rg l k).s, .int .u8 (rg l k).k, .slice (some ⟨V, beg l k, none⟩) (rg l k).s (rg l k).s, .slice (some ⟨T, beg l k, none⟩) (rg l k).s (rg l k).s] else u33), (bif b12 then .slice (some ⟨kx, 0, none⟩) 1 1 else u34), u35, u36, u37, u38, u39, u40, u41, u42, undef], []⟩ ∧ ((b2 = true → b1 = true) ∧ (b3 = true → b2 = true) ∧ (b4 = true → b3 = true) ∧ (b9 = true → b8 = true) ∧ (b10 = true → b6 = true) ∧ (b10 = true → b7 = true) ∧ (b10 = true → b9 = true) ∧ (b11 = true → b5 = true) ∧ (b11 = true → b10 = true) ∧ (b12 = true → b11 = true)) ∧ Below W1.heap.size W1 w ∧ ((b12 = true → blkG #[.int .u64 (rg l k).f, .int .u64 (rg l k).s, .int .u8 (rg l k).k, .slice (some ⟨V, beg l k, none⟩) (rg l k).s (rg l k).s, .slice (some ⟨T, beg l k, none⟩) (rg l k).s (rg l k).s] 119 W1 kx w))) ?_ _ _ _ _ ⟨false, false, false, false, false, false, false, false, false, false, false, false, 0, rfl, rfl, rfl, ⟨(by simp), (by simp), (by simp), (by simp), (by simp), (by simp), (by simp), (by simp), (by simp), (by simp)⟩, Below.refl _ _, (by simp)⟩
      intro fu L a w hI
      obtain ⟨b1, b2, b3, b4, b5, b6, b7, b8, b9, b10, b11, b12, kx, rfl, rfl, rfl, ⟨e0, e1, e2, e3, e4, e5, e6, e7, e8, e9⟩, hBe, a0⟩ := hI
      by_cases hall : (b1 = true ∧ b2 = true ∧ b3 = true ∧ b4 = true ∧ b5 = true ∧ b6 = true ∧ b7 = true ∧ b8 = true ∧ b9 = true ∧ b10 = true ∧ b11 = true ∧ b12 = true)
      rotate_left
      · right
        refine ⟨3 + (tg b1 + tg b2 + tg b3 + tg b4 + tg b5 + tg b6 + tg b7 + tg b8 + tg b9 + tg b10 + tg b11 + tg b12), by omega, ?_, ?_⟩
        · intro hr
          have nin : ∀ j, j ∉ Region.ready _ _ _ := fun j hj => by rw [hr] at hj; cases hj
          have t1 : b1 = true := by
            cases b1 with
            | true => rfl
            | false => exact absurd (mem_ready.2 ⟨rfl, _, rfl, by intro e he hb; simp at he; (try (rcases he with rfl | rfl | rfl | rfl <;> first | rfl | (simp [Region.binds] at hb))); (try (rcases he with rfl | rfl | rfl <;> first | rfl | (simp [Region.binds] at hb))); (try (rcases he with rfl | rfl <;> first | rfl | (simp [Region.binds] at hb))); (try (subst he; first | rfl | (simp [Region.binds] at hb)))⟩) (nin 1)
          subst t1
          have t2 : b2 = true := by
            cases b2 with
            | true => rfl
            | false => exact absurd (mem_ready.2 ⟨rfl, _, rfl, by intro e he hb; simp at he; (try (rcases he with rfl | rfl | rfl | rfl <;> first | rfl | (simp [Region.binds] at hb))); (try (rcases he with rfl | rfl | rfl <;> first | rfl | (simp [Region.binds] at hb))); (try (rcases he with rfl | rfl <;> first | rfl | (simp [Region.binds] at hb))); (try (subst he; first | rfl | (simp [Region.binds] at hb)))⟩) (nin 2)
          subst t2
          have t3 : b3 = true := by
            cases b3 with
            | true => rfl
            | false => exact absurd (mem_ready.2 ⟨rfl, _, rfl, by intro e he hb; simp at he; (try (rcases he with rfl | rfl | rfl | rfl <;> first | rfl | (simp [Region.binds] at hb))); (try (rcases he with rfl | rfl | rfl <;> first | rfl | (simp [Region.binds] at hb))); (try (rcases he with rfl | rfl <;> first | rfl | (simp [Region.binds] at hb))); (try (subst he; first | rfl | (simp [Region.binds] at hb)))⟩) (nin 3)
          subst t3
          have t4 : b4 = true := by
            cases b4 with
            | true => rfl
            | false => exact absurd (mem_ready.2 ⟨rfl, _, rfl, by intro e he hb; simp at he; (try (rcases he with rfl | rfl | rfl | rfl <;> first | rfl | (simp [Region.binds] at hb))); (try (rcases he with rfl | rfl | rfl <;> first | rfl | (simp [Region.binds] at hb))); (try (rcases he with rfl | rfl <;> first | rfl | (simp [Region.binds] at hb))); (try (subst he; first | rfl | (simp [Region.binds] at hb)))⟩) (nin 4)
          subst t4
          have t5 : b5 = true := by
            cases b5 with
            | true => rfl
            | false => exact absurd (mem_ready.2 ⟨rfl, _, rfl, by intro e he hb; simp at he; (try (rcases he with rfl | rfl | rfl | rfl <;> first | rfl | (simp [Region.binds] at hb))); (try (rcases he with rfl | rfl | rfl <;> first | rfl | (simp [Region.binds] at hb))); (try (rcases he with rfl | rfl <;> first | rfl | (simp [Region.binds] at hb))); (try (subst he; first | rfl | (simp [Region.binds] at hb)))⟩) (nin 5)
          subst t5
          have t6 : b6 = true := by
            cases b6 with
            | true => rfl
            | false => exact absurd (mem_ready.2 ⟨rfl, _, rfl, by intro e he hb; simp at he; (try (rcases he with rfl | rfl | rfl | rfl <;> first | rfl | (simp [Region.binds] at hb))); (try (rcases he with rfl | rfl | rfl <;> first | rfl | (simp [Region.binds] at hb))); (try (rcases he with rfl | rfl <;> first | rfl | (simp [Region.binds] at hb))); (try (subst he; first | rfl | (simp [Region.binds] at hb)))⟩) (nin 6)
          subst t6
          have t7 : b7 = true := by
            cases b7 with
            | true => rfl
            | false => exact absurd (mem_ready.2 ⟨rfl, _, rfl, by intro e he hb; simp at he; (try (rcases he with rfl | rfl | rfl | rfl <;> first | rfl | (simp [Region.binds] at hb))); (try (rcases he with rfl | rfl | rfl <;> first | rfl | (simp [Region.binds] at hb))); (try (rcases he with rfl | rfl <;> first | rfl | (simp [Region.binds] at hb))); (try (subst he; first | rfl | (simp [Region.binds] at hb)))⟩) (nin 7)
          subst t7
          have t8 : b8 = true := by
            cases b8 with
            | true => rfl
            | false => exact absurd (mem_ready.2 ⟨rfl, _, rfl, by intro e he hb; simp at he; (try (rcases he with rfl | rfl | rfl | rfl <;> first | rfl | (simp [Region.binds] at hb))); (try (rcases he with rfl | rfl | rfl <;> first | rfl | (simp [Region.binds] at hb))); (try (rcases he with rfl | rfl <;> first | rfl | (simp [Region.binds] at hb))); (try (subst he; first | rfl | (simp [Region.binds] at hb)))⟩) (nin 8)
          subst t8
          have t9 : b9 = true := by
            cases b9 with
            | true => rfl
            | false => exact absurd (mem_ready.2 ⟨rfl, _, rfl, by intro e he hb; simp at he; (try (rcases he with rfl | rfl | rfl | rfl <;> first | rfl | (simp [Region.binds] at hb))); (try (rcases he with rfl | rfl | rfl <;> first | rfl | (simp [Region.binds] at hb))); (try (rcases he with rfl | rfl <;> first | rfl | (simp [Region.binds] at hb))); (try (subst he; first | rfl | (simp [Region.binds] at hb)))⟩) (nin 9)
          subst t9
          have t10 : b10 = true := by
            cases b10 with
            | true => rfl
            | false => exact absurd (mem_ready.2 ⟨rfl, _, rfl, by intro e he hb; simp at he; (try (rcases he with rfl | rfl | rfl | rfl <;> first | rfl | (simp [Region.binds] at hb))); (try (rcases he with rfl | rfl | rfl <;> first | rfl | (simp [Region.binds] at hb))); (try (rcases he with rfl | rfl <;> first | rfl | (simp [Region.binds] at hb))); (try (subst he; first | rfl | (simp [Region.binds] at hb)))⟩) (nin 10)
          subst t10
          have t11 : b11 = true := by
            cases b11 with
            | true => rfl
            | false => exact absurd (mem_ready.2 ⟨rfl, _, rfl, by intro e he hb; simp at he; (try (rcases he with rfl | rfl | rfl | rfl <;> first | rfl | (simp [Region.binds] at hb))); (try (rcases he with rfl | rfl | rfl <;> first | rfl | (simp [Region.binds] at hb))); (try (rcases he with rfl | rfl <;> first | rfl | (simp [Region.binds] at hb))); (try (subst he; first | rfl | (simp [Region.binds] at hb)))⟩) (nin 11)
          subst t11
          have t12 : b12 = true := by
            cases b12 with
            | true => rfl
            | false => exact absurd (mem_ready.2 ⟨rfl, _, rfl, by intro e he hb; simp at he; (try (rcases he with rfl | rfl | rfl | rfl <;> first | rfl | (simp [Region.binds] at hb))); (try (rcases he with rfl | rfl | rfl <;> first | rfl | (simp [Region.binds] at hb))); (try (rcases he with rfl | rfl <;> first | rfl | (simp [Region.binds] at hb))); (try (subst he; first | rfl | (simp [Region.binds] at hb)))⟩) (nin 12)
          subst t12
          exact hall ⟨rfl, rfl, rfl, rfl, rfl, rfl, rfl, rfl, rfl, rfl, rfl, rfl⟩
        · intro i hi
          obtain ⟨h0, o, ho, hd⟩ := mem_ready.1 hi
          have hiN : i < 17 := by simpa using (Array.getElem?_eq_some_iff.1 ho).1
          have hcN : i = 0 ∨ i = 1 ∨ i = 2 ∨ i = 3 ∨ i = 4 ∨ i = 5 ∨ i = 6 ∨ i = 7 ∨ i = 8 ∨ i = 9 ∨ i = 10 ∨ i = 11 ∨ i = 12 ∨ i = 13 ∨ i = 14 ∨ i = 15 ∨ i = 16 := by omega
          clear hi hiN
          rcases hcN with rfl | rfl | rfl | rfl | rfl | rfl | rfl | rfl | rfl | rfl | rfl | rfl | rfl | rfl | rfl | rfl | rfl
          · simp at h0
          · simp at ho h0
            subst ho
            simp [Region.binds] at hd
            subst h0
            refine wpOp_step rfl (fun K' hK => ?_)
            go_simp
            exact hK _ _ ⟨true, b2, b3, b4, b5, b6, b7, b8, b9, b10, b11, b12, kx, by first | (simp only [tg_t, tg_f]; done) | (simp only [tg_t, tg_f]; omega), rfl, rfl, ⟨(by intro h; first | exact e0 h | rfl), (by intro h; first | exact e1 h | rfl), (by intro h; first | exact e2 h | rfl), (by intro h; first | exact e3 h | rfl), (by intro h; first | exact e4 h | rfl), (by intro h; first | exact e5 h | rfl), (by intro h; first | exact e6 h | rfl), (by intro h; first | exact e7 h | rfl), (by intro h; first | exact e8 h | rfl), (by intro h; first | exact e9 h | rfl)⟩, hBe, a0⟩
          · simp at ho h0
            subst ho
            simp [Region.binds] at hd
            subst h0
            refine wpOp_step rfl (fun K' hK => ?_)
            have g1 : b1 = true := by first | exact hd | exact hd.1 | exact hd.2 | exact hd.2.1 | exact hd.2.2 | exact hd.2.2.1 | exact hd.2.2.2
            clear hd
            subst g1
            go_simp
            exact hK _ _ ⟨true, true, b3, b4, b5, b6, b7, b8, b9, b10, b11, b12, kx, by first | (simp only [tg_t, tg_f]; done) | (simp only [tg_t, tg_f]; omega), rfl, rfl, ⟨(by intro h; first | exact e0 h | rfl), (by intro h; first | exact e1 h | rfl), (by intro h; first | exact e2 h | rfl), (by intro h; first | exact e3 h | rfl), (by intro h; first | exact e4 h | rfl), (by intro h; first | exact e5 h | rfl), (by intro h; first | exact e6 h | rfl), (by intro h; first | exact e7 h | rfl), (by intro h; first | exact e8 h | rfl), (by intro h; first | exact e9 h | rfl)⟩, hBe, a0⟩
          · simp at ho h0
            subst ho
            simp [Region.binds] at hd
            subst h0
            refine wpOp_step rfl (fun K' hK => ?_)
            have g2 : b2 = true := by first | exact hd | exact hd.1 | exact hd.2 | exact hd.2.1 | exact hd.2.2 | exact hd.2.2.1 | exact hd.2.2.2
            clear hd
            subst g2
            obtain rfl := e0 rfl
            go_simp
            exact hK _ _ ⟨true, true, true, b4, b5, b6, b7, b8, b9, b10, b11, b12, kx, by first | (simp only [tg_t, tg_f]; done) | (simp only [tg_t, tg_f]; omega), rfl, rfl, ⟨(by intro h; first | exact e0 h | rfl), (by intro h; first | exact e1 h | rfl), (by intro h; first | exact e2 h | rfl), (by intro h; first | exact e3 h | rfl), (by intro h; first | exact e4 h | rfl), (by intro h; first | exact e5 h | rfl), (by intro h; first | exact e6 h | rfl), (by intro h; first | exact e7 h | rfl), (by intro h; first | exact e8 h | rfl), (by intro h; first | exact e9 h | rfl)⟩, hBe, a0⟩
          · simp at ho h0
            subst ho
            simp [Region.binds] at hd
            subst h0
            refine wpOp_step rfl (fun K' hK => ?_)
            have g3 : b3 = true := by first | exact hd | exact hd.1 | exact hd.2 | exact hd.2.1 | exact hd.2.2 | exact hd.2.2.1 | exact hd.2.2.2
            clear hd
            subst g3
            obtain rfl := e1 rfl
            obtain rfl := e0 rfl
            have y0 := stay hBe m0
            go_simp
            exact hK _ _ ⟨true, true, true, true, b5, b6, b7, b8, b9, b10, b11, b12, kx, by first | (simp only [tg_t, tg_f]; done) | (simp only [tg_t, tg_f]; omega), rfl, rfl, ⟨(by intro h; first | exact e0 h | rfl), (by intro h; first | exact e1 h | rfl), (by intro h; first | exact e2 h | rfl), (by intro h; first | exact e3 h | rfl), (by intro h; first | exact e4 h | rfl), (by intro h; first | exact e5 h | rfl), (by intro h; first | exact e6 h | rfl), (by intro h; first | exact e7 h | rfl), (by intro h; first | exact e8 h | rfl), (by intro h; first | exact e9 h | rfl)⟩, hBe, a0⟩
          · simp at ho h0
            subst ho
            simp [Region.binds] at hd
            subst h0
            refine wpOp_step rfl (fun K' hK => ?_)
            have y0 := stay hBe r0
            have y1 := stay hBe r1
            have y2 := stay hBe r2
            go_simp
            exact hK _ _ ⟨b1, b2, b3, b4, true, b6, b7, b8, b9, b10, b11, b12, kx, by first | (simp only [tg_t, tg_f]; done) | (simp only [tg_t, tg_f]; omega), rfl, rfl, ⟨(by intro h; first | exact e0 h | rfl), (by intro h; first | exact e1 h | rfl), (by intro h; first | exact e2 h | rfl), (by intro h; first | exact e3 h | rfl), (by intro h; first | exact e4 h | rfl), (by intro h; first | exact e5 h | rfl), (by intro h; first | exact e6 h | rfl), (by intro h; first | exact e7 h | rfl), (by intro h; first | exact e8 h | rfl), (by intro h; first | exact e9 h | rfl)⟩, hBe, a0⟩
          · simp at ho h0
            subst ho
            simp [Region.binds] at hd
            subst h0
            refine wpOp_step rfl (fun K' hK => ?_)
            have y0 := stay hBe s0
            have y1 := stay hBe s1
            go_simp
            exact hK _ _ ⟨b1, b2, b3, b4, b5, true, b7, b8, b9, b10, b11, b12, kx, by first | (simp only [tg_t, tg_f]; done) | (simp only [tg_t, tg_f]; omega), rfl, rfl, ⟨(by intro h; first | exact e0 h | rfl), (by intro h; first | exact e1 h | rfl), (by intro h; first | exact e2 h | rfl), (by intro h; first | exact e3 h | rfl), (by intro h; first | exact e4 h | rfl), (by intro h; first | exact e5 h | rfl), (by intro h; first | exact e6 h | rfl), (by intro h; first | exact e7 h | rfl), (by intro h; first | exact e8 h | rfl), (by intro h; first | exact e9 h | rfl)⟩, hBe, a0⟩
          · simp at ho h0
            subst ho
            simp [Region.binds] at hd
            subst h0
            refine wpOp_step rfl (fun K' hK => ?_)
            go_simp
            exact hK _ _ ⟨b1, b2, b3, b4, b5, b6, true, b8, b9, b10, b11, b12, kx, by first | (simp only [tg_t, tg_f]; done) | (simp only [tg_t, tg_f]; omega), rfl, rfl, ⟨(by intro h; first | exact e0 h | rfl), (by intro h; first | exact e1 h | rfl), (by intro h; first | exact e2 h | rfl), (by intro h; first | exact e3 h | rfl), (by intro h; first | exact e4 h | rfl), (by intro h; first | exact e5 h | rfl), (by intro h; first | exact e6 h | rfl), (by intro h; first | exact e7 h | rfl), (by intro h; first | exact e8 h | rfl), (by intro h; first | exact e9 h | rfl)⟩, hBe, a0⟩
          · simp at ho h0
            subst ho
            simp [Region.binds] at hd
            subst h0
            refine wpOp_step rfl (fun K' hK => ?_)
            go_simp
            exact hK _ _ ⟨b1, b2, b3, b4, b5, b6, b7, true, b9, b10, b11, b12, kx, by first | (simp only [tg_t, tg_f]; done) | (simp only [tg_t, tg_f]; omega), rfl, rfl, ⟨(by intro h; first | exact e0 h | rfl), (by intro h; first | exact e1 h | rfl), (by intro h; first | exact e2 h | rfl), (by intro h; first | exact e3 h | rfl), (by intro h; first | exact e4 h | rfl), (by intro h; first | exact e5 h | rfl), (by intro h; first | exact e6 h | rfl), (by intro h; first | exact e7 h | rfl), (by intro h; first | exact e8 h | rfl), (by intro h; first | exact e9 h | rfl)⟩, hBe, a0⟩
          · simp at ho h0
            subst ho
            simp [Region.binds] at hd
            subst h0
            refine wpOp_step rfl (fun K' hK => ?_)
            have g8 : b8 = true := by first | exact hd | exact hd.1 | exact hd.2 | exact hd.2.1 | exact hd.2.2 | exact hd.2.2.1 | exact hd.2.2.2
            clear hd
            subst g8
            have y1 := stay hBe r1
            go_simp
            exact hK _ _ ⟨b1, b2, b3, b4, b5, b6, b7, true, true, b10, b11, b12, kx, by first | (simp only [tg_t, tg_f]; done) | (simp only [tg_t, tg_f]; omega), rfl, rfl, ⟨(by intro h; first | exact e0 h | rfl), (by intro h; first | exact e1 h | rfl), (by intro h; first | exact e2 h | rfl), (by intro h; first | exact e3 h | rfl), (by intro h; first | exact e4 h | rfl), (by intro h; first | exact e5 h | rfl), (by intro h; first | exact e6 h | rfl), (by intro h; first | exact e7 h | rfl), (by intro h; first | exact e8 h | rfl), (by intro h; first | exact e9 h | rfl)⟩, hBe, a0⟩
          · simp at ho h0
            subst ho
            simp [Region.binds] at hd
            subst h0
            refine wpOp_step rfl (fun K' hK => ?_)
            have g6 : b6 = true := by first | exact hd | exact hd.1 | exact hd.2 | exact hd.2.1 | exact hd.2.2 | exact hd.2.2.1 | exact hd.2.2.2
            have g7 : b7 = true := by first | exact hd | exact hd.1 | exact hd.2 | exact hd.2.1 | exact hd.2.2 | exact hd.2.2.1 | exact hd.2.2.2
            have g9 : b9 = true := by first | exact hd | exact hd.1 | exact hd.2 | exact hd.2.1 | exact hd.2.2 | exact hd.2.2.1 | exact hd.2.2.2
            clear hd
            subst g6 g7 g9
            obtain rfl := e3 rfl
            go_simp
            go_at_call 42; (with_reducible refine (hP _).mono ?_); rintro e w3 ⟨rfl, hbc⟩
            exact hK _ _ ⟨b1, b2, b3, b4, b5, true, true, true, true, true, b11, b12, kx, by first | (simp only [tg_t, tg_f]; done) | (simp only [tg_t, tg_f]; omega), rfl, rfl, ⟨(by intro h; first | exact e0 h | rfl), (by intro h; first | exact e1 h | rfl), (by intro h; first | exact e2 h | rfl), (by intro h; first | exact e3 h | rfl), (by intro h; first | exact e4 h | rfl), (by intro h; first | exact e5 h | rfl), (by intro h; first | exact e6 h | rfl), (by intro h; first | exact e7 h | rfl), (by intro h; first | exact e8 h | rfl), (by intro h; first | exact e9 h | rfl)⟩, (below_trans' hBe (Nat.le_refl _) hbc), (fun h => blkG_of hbc (a0 h))⟩
          · simp at ho h0
            subst ho
            simp [Region.binds] at hd
            subst h0
            refine wpOp_step rfl (fun K' hK => ?_)
            have g5 : b5 = true := by first | exact hd | exact hd.1 | exact hd.2 | exact hd.2.1 | exact hd.2.2 | exact hd.2.2.1 | exact hd.2.2.2
            have g10 : b10 = true := by first | exact hd | exact hd.1 | exact hd.2 | exact hd.2.1 | exact hd.2.2 | exact hd.2.2.1 | exact hd.2.2.2
            clear hd
            subst g5 g10
            obtain rfl := e4 rfl
            obtain rfl := e5 rfl
            obtain rfl := e6 rfl
            obtain rfl := e3 rfl
            go_simp
            exact hK _ _ ⟨b1, b2, b3, b4, true, true, true, true, true, true, true, b12, kx, by first | (simp only [tg_t, tg_f]; done) | (simp only [tg_t, tg_f]; omega), rfl, rfl, ⟨(by intro h; first | exact e0 h | rfl), (by intro h; first | exact e1 h | rfl), (by intro h; first | exact e2 h | rfl), (by intro h; first | exact e3 h | rfl), (by intro h; first | exact e4 h | rfl), (by intro h; first | exact e5 h | rfl), (by intro h; first | exact e6 h | rfl), (by intro h; first | exact e7 h | rfl), (by intro h; first | exact e8 h | rfl), (by intro h; first | exact e9 h | rfl)⟩, hBe, a0⟩
          · simp at ho h0
            subst ho
            simp [Region.binds] at hd
            subst h0
            refine wpOp_step rfl (fun K' hK => ?_)
            have g11 : b11 = true := by first | exact hd | exact hd.1 | exact hd.2 | exact hd.2.1 | exact hd.2.2 | exact hd.2.2.1 | exact hd.2.2.2
            clear hd
            subst g11
            obtain rfl := e7 rfl
            obtain rfl := e8 rfl
            obtain rfl := e4 rfl
            obtain rfl := e5 rfl
            obtain rfl := e6 rfl
            obtain rfl := e3 rfl
            go_simp
            exact hK _ _ ⟨b1, b2, b3, b4, true, true, true, true, true, true, true, true, w.heap.size, by first | (simp only [tg_t, tg_f]; done) | (simp only [tg_t, tg_f]; omega), rfl, rfl, ⟨(by intro h; first | exact e0 h | rfl), (by intro h; first | exact e1 h | rfl), (by intro h; first | exact e2 h | rfl), (by intro h; first | exact e3 h | rfl), (by intro h; first | exact e4 h | rfl), (by intro h; first | exact e5 h | rfl), (by intro h; first | exact e6 h | rfl), (by intro h; first | exact e7 h | rfl), (by intro h; first | exact e8 h | rfl), (by intro h; first | exact e9 h | rfl)⟩, (hBe.alloc hBe.size _), (fun _ => blkG_new _ _ hBe.size)⟩
          · exact (hall (by simp at ho; subst ho; simp [Region.binds] at hd <;> simp_all)).elim
          · exact (hall (by simp at ho; subst ho; simp [Region.binds] at hd <;> simp_all)).elim
          · exact (hall (by simp at ho; subst ho; simp [Region.binds] at hd <;> simp_all)).elim
          · exact (hall (by simp at ho; subst ho; simp [Region.binds] at hd <;> simp_all)).elim
      obtain ⟨rfl, rfl, rfl, rfl, rfl, rfl, rfl, rfl, rfl, rfl, rfl, rfl⟩ := hall
      left
      have d0 := a0 rfl
      have ow := own_of hown' hBe
      have rMw := rowG_b rM' hBe
      have rAw := rowG_b rA' hBe
      have hsw := hBe.size
      refine wpAny_ready (rs := [13]) (by kernel_rfl) (by simp) (AllReady.cons rfl (fun K hK => ?_) AllReady.nil)
      refine step_append_lies _ rfl (.tmp 26) (.tmp 34) 114 rfl (gA + 2) 119 i0 _ 5 72 Tryz.underlying114 hi hz0 hz1 hz2 rfl (by decide) va k (arsL l V T k) rfl ow ⟨kx, 0, none⟩ 1 1 (arL l V T k) rfl rfl (news5 l V T k kx _ d0) (arL_one l V T k) (by decide) (by unfold maxLen; omega) (by omega) (by omega) _ rfl ?_
      intro g cap w5 hown5 hgrow hat hlt5
      refine hK _ _ ?_
      clear hK K
      rw [← arsL_succ] at hown5
      have far : ∀ j, j < gA + 2 → w5.heap[j]? = w.heap[j]? := fun j hj => hgrow.block j (by omega) (own_ne hown hj)
      have hl5 : w.heap.size ≤ w5.heap.size := hgrow.size
      have rM5 : rowG #[va] w5 (gA + 1) := rowG_blk rMw (far _ (by omega)) (by omega)
      have rA5 := rowG_blk rAw (far gA (by omega)) (by omega)
      have n5 : w5.cell? ⟨gA + 1, 0, none⟩ = some va := rM5.1 0 (by simp)
      have z5 := rM5.2.1 0
      have hr5 : ∀ j v, w.cell? ⟨wr.heap.size, j, none⟩ = some v → w5.cell? ⟨wr.heap.size, j, none⟩ = some v := fun j v hv => (hgrow.cell_far ⟨wr.heap.size, j, none⟩ (by simp only; omega) hnr).trans hv
      have y1 := hr5 1 _ (stay hBe r1)
      refine wpAny_ready (rs := [14]) (by kernel_rfl) (by simp) (AllReady.cons rfl (fun K hK => ?_) AllReady.nil)
      go_simp
      refine hK _ _ ?_
      clear hK K
      refine wpAny_ready (rs := [15]) (by kernel_rfl) (by simp) (AllReady.cons rfl (fun K hK => ?_) AllReady.nil)
      go_simp
      refine hK _ _ ?_
      clear hK K
      refine wpAny_ready (rs := [16]) (by kernel_rfl) (by simp) (AllReady.cons rfl (fun K hK => ?_) AllReady.nil)
      go_simp
      refine hK _ _ ?_
      clear hK K
      refine wpAny_done (by kernel_rfl) ?_ _
      have hg0 := hB2.size
      have hw0 : w0.heap.size ≤ gA := by omega
      have hB5 : Below w0.heap.size w0 w5 := (hBw1.trans (hBe.mono hBw1.size)).trans ⟨hgrow.os, hgrow.tape, hgrow.output, hl5, fun j hj => far j (by omega)⟩
      have far6 : ∀ j, j < gA + 2 → j ≠ gA + 1 → (w5.setCell ⟨gA + 1, 0, none⟩ (.slice (some ⟨g, 0, none⟩) (k + 1) cap)).heap[j]? = w.heap[j]? := fun j hj hn => (Below.heap_setCell _ _ _ _ (by simp only; omega)).trans (far j hj)
      have hVw := (far6 V (by omega) (by omega)).trans ((hBe.block V (by omega)).trans hV1)
      have hTw := (far6 T (by omega) (by omega)).trans ((hBe.block T (by omega)).trans hT1)
      have rA6 := rowG_blk rA5 ((far6 gA (by omega) (by omega)).trans (far gA (by omega)).symm) (by simp only [World.size_setCell]; omega)
      have rM6 := row_one (.slice (some ⟨g, 0, none⟩) (k + 1) cap) rM5
      have own6 := own_set (b := gA + 1) (o := 0) (u := .slice (some ⟨g, 0, none⟩) (k + 1) cap) hown5 (by omega)
      have hB6 := sBelow (o := 0) (v := .slice (some ⟨g, 0, none⟩) (k + 1) cap) hB5 (show w0.heap.size ≤ gA + 1 by omega)
      have y6 := cfar (b := gA + 1) (o := 0) (u := .slice (some ⟨g, 0, none⟩) (k + 1) cap) y1 (by omega)
      have hs6 : gA + 2 ≤ (w5.setCell ⟨gA + 1, 0, none⟩ (.slice (some ⟨g, 0, none⟩) (k + 1) cap)).heap.size := by simp only [World.size_setCell]; omega
      generalize (w5.setCell ⟨gA + 1, 0, none⟩ (.slice (some ⟨g, 0, none⟩) (k + 1) cap)) = w6 at *
      go_wp2
      go_roundw
      case rel => exact ⟨k + 1, _, by go_num, by rw [beg_succ l k hlt]; simp, by omega, hB6, hs6, hVw.trans hV', hTw.trans hT', rA6, rM6, own6⟩
      case measure => first | (simp [intOf]; done) | (simp [intOf]; omega)
    · obtain rfl : k = l.length := by omega
      obtain ⟨g, cap, rfl, hg, hgl⟩ := hown.form (by have := hl.2.1; omega)
      have hcell : ∀ i j, i < l.length → j < 5 → wr.cell? ⟨g, i * 5 + j, none⟩ = (arL l V T i)[j]? := fun i j hi hj => by
        rw [← arsL_at l V T l.length i j hi hj]; exact hown.cellAt _ (by omega)
      have hVl' : V < wr.heap.size := by omega
      have hTl' : T < wr.heap.size := by omega
      have hA : IsM wr ⟨gA + 1, g, V, T, cap, l⟩ (fun _ => 0) (fun _ => false) :=
        ⟨⟨rM.1 0 (by simp), fun i hi => ⟨⟨hcell i 0 hi (by omega), hcell i 1 hi (by omega), hcell i 2 hi (by omega)⟩, hcell i 3 hi (by omega), hcell i 4 hi (by omega)⟩⟩,
          fun k hk => made_cell (hV'.trans hcV) hk, fun k hk => made_cell (hT'.trans hcT) hk, fun k => made_frozen (hV'.trans hcV) k, fun k => made_frozen (hT'.trans hcT) k, hVl', hTl', hVT, by simp only; omega, by simp only; omega, by simp only; omega, by simp only; omega, hl, hf, fun _ => by omega⟩
      have hg0 := hB2.size
      have hg1 := hb1.size
      go_wp2
      go_ret2
      exact ⟨⟨⟨gA + 1, g, V, T, cap, l⟩, rfl, rfl, hA, by simp only; omega, by simp only; omega, by simp only; omega, by simp only; omega⟩, hBw⟩
end Go.Proofs.YtfaacmcnefbgcaaGreatDoor.m4
