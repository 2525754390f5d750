/- Worlds in which only some blocks change; bytes of texts; contract of stretch.lay. -/
import Derived.Test.YtkcgnpcfdfkpjaaFi
import Derived.Lib.SlBuf
import Derived.Lib.LazyBuf
namespace Go.Proofs.Ytkcgnpcfdfkpjaa
open Go.ChangeShapes Go.WideShapes Go.ChangeAt Go.RowKit
set_option linter.unusedVariables false
/-- Of what lay before, only the blocks of S change. -/
structure Only (S : Nat → Prop) (w w' : World) : Prop where
  os : w'.os = w.os
  tape : w'.tape = w.tape
  output : w'.output = w.output
  size : w.heap.size ≤ w'.heap.size
  block : ∀ j, j < w.heap.size → ¬ S j → w'.heap[j]? = w.heap[j]?
theorem Only.refl (S : Nat → Prop) (w : World) : Only S w w := ⟨rfl, rfl, rfl, Nat.le_refl _, fun _ _ _ => rfl⟩
theorem Only.trans {S : Nat → Prop} {a b c : World} (h : Only S a b) (k : Only S b c) : Only S a c :=
  ⟨k.os.trans h.os, k.tape.trans h.tape, k.output.trans h.output, Nat.le_trans h.size k.size, fun j hj hs => (k.block j (Nat.lt_of_lt_of_le hj h.size) hs).trans (h.block j hj hs)⟩
theorem only_below {S : Nat → Prop} {w w' : World} (h : Below w.heap.size w w') : Only S w w' := ⟨h.os, h.tape, h.output, h.size, fun j hj _ => h.block j hj⟩
theorem Only.mono {S T : Nat → Prop} {w w' : World} (h : Only S w w') (hs : ∀ j, S j → T j) : Only T w w' := ⟨h.os, h.tape, h.output, h.size, fun j hj ht => h.block j hj (fun hh => ht (hs j hh))⟩
theorem Only.below {S : Nat → Prop} {w w' : World} {B : Nat} (h : Only S w w') (hS : ∀ j, S j → B ≤ j) (hB : B ≤ w.heap.size) : Below B w w' :=
  ⟨h.os, h.tape, h.output, h.size, fun j hj => h.block j (by omega) (fun hh => by have := hS j hh; omega)⟩
theorem Only.cell {S : Nat → Prop} {w w' : World} (h : Only S w w') {a : Addr} {v : Value} (hs : ¬ S a.block) (hc : w.cell? a = some v) : w'.cell? a = some v := by
  have e := h.block a.block (World.block_lt_of_cell? w _ hc) hs
  rw [← hc]; unfold World.cell?; rw [e]
theorem Only.frozen {S : Nat → Prop} {w w' : World} (h : Only S w w') {a : Addr} (hl : a.block < w.heap.size) (hs : ¬ S a.block) : w'.frozen? a = w.frozen? a := by
  have e := h.block a.block hl hs
  unfold World.frozen?; rw [e]
theorem Only.setCell {S : Nat → Prop} {w w' : World} (h : Only S w w') {b o : Nat} {v : Value} (hs : S b) : Only S w (w'.setCell ⟨b, o, none⟩ v) :=
  ⟨h.os, h.tape, h.output, by simp only [World.size_setCell]; exact h.size, fun j hj hn => (Below.heap_setCell _ _ _ _ (by simp only; intro e; subst e; exact hn hs)).trans (h.block j hj hn)⟩
theorem Only.setCells {S : Nat → Prop} {w : World} {b : Nat} (hs : S b) : ∀ (vs : List Value) (o : Nat) (w' : World), Only S w w' → Only S w (w'.setCells b o vs)
  | [], _, _, h => h
  | v :: r, o, w', h => Only.setCells hs r (o + 1) _ (h.setCell hs)
theorem frozen_setCells (b : Nat) : ∀ (vs : List Value) (o : Nat) (w : World) (a : Addr), (w.setCells b o vs).frozen? a = w.frozen? a
  | [], _, _, _ => rfl
  | v :: r, o, w, a => by
    show ((w.setCell ⟨b, o, none⟩ v).setCells b (o + 1) r).frozen? a = _
    rw [frozen_setCells b r]; exact World.frozen?_setCell ..
theorem cell_set {w : World} {b o : Nat} {u : Value} (v : Value) (h : w.cell? ⟨b, o, none⟩ = some u) (j : Nat) : (w.setCell ⟨b, o, none⟩ v).cell? ⟨b, j, none⟩ = if j = o then some v else w.cell? ⟨b, j, none⟩ := by
  by_cases e : j = o
  · subst e; rw [if_pos rfl]; exact World.cell?_setCell_same (h := h) ..
  · rw [if_neg e]; exact World.cell?_setCell_other (h := by intro h; injection h with _ h2 _; exact e h2.symm) ..
/-- Byte k of a text. -/
def bAt (s : ByteArray) (k : Nat) : Nat := (s.data.toList.getD k 0).toNat
theorem bAt_lt (s : ByteArray) (k : Nat) : bAt s k < 256 := UInt8.toNat_lt _
theorem bAt_eq (s : ByteArray) (k : Nat) (h : k < s.size) : (s[k]'h).toNat = bAt s k := by
  unfold bAt
  rw [List.getD_eq_getElem?_getD, List.getElem?_eq_getElem (by simpa using h)]
  rfl
/-- A stretch was laid. -/
structure Laid (vb tb q n : Nat) (f : Nat → Nat) (t : Bool) (w w' : World) : Prop where
  only : Only (fun j => j = vb ∨ j = tb) w w'
  vals : ∀ k, w'.cell? ⟨vb, k, none⟩ = if q ≤ k ∧ k < q + n then some (.int .u8 (f (k - q) : Nat)) else w.cell? ⟨vb, k, none⟩
  tnts : ∀ k, w'.cell? ⟨tb, k, none⟩ = if q ≤ k ∧ k < q + n then some (.bool t) else w.cell? ⟨tb, k, none⟩
  fv : ∀ k, w'.frozen? ⟨vb, k, none⟩ = w.frozen? ⟨vb, k, none⟩
  ft : ∀ k, w'.frozen? ⟨tb, k, none⟩ = w.frozen? ⟨tb, k, none⟩
theorem size8 (w : World) : (Go.sizeOf 5).run Try.prog w = .ok 1 w := by kernel_rfl
theorem cells_val (b : Nat) (q : Nat) (s : ByteArray) (w : World) (hc : ∀ j, j < s.size → (w.cell? ⟨b, q + j, none⟩).isSome = true) (k : Nat) :
    (w.setCells b q (s.data.toList.map fun x => Value.int .u8 (x.toNat : Int))).cell? ⟨b, k, none⟩ = if q ≤ k ∧ k < q + s.size then some (.int .u8 (bAt s (k - q) : Nat)) else w.cell? ⟨b, k, none⟩ := by
  have hl : (s.data.toList.map fun x => Value.int .u8 (x.toNat : Int)).length = s.size := by rw [List.length_map, ← Lib.size_eq]
  by_cases h : q ≤ k ∧ k < q + s.size
  · rw [if_pos h]
    have := World.cell?_setCells_in b (s.data.toList.map fun x => Value.int .u8 (x.toNat : Int)) q w (by rw [hl]; exact hc) (k - q) (by rw [hl]; omega)
    rw [show q + (k - q) = k by omega] at this
    rw [this]
    simp only [List.getElem_map]
    unfold bAt
    rw [List.getD_eq_getElem?_getD, List.getElem?_eq_getElem (by have := Lib.size_eq s; omega)]
    rfl
  · rw [if_neg h]
    exact World.cell?_setCells_out b _ q w _ (fun _ _ => by rw [hl]; simp only; omega)
set_option maxHeartbeats 1000000 in
theorem lay_any (vb tb q n : Nat) (s : ByteArray) (t : Bool) (hs : s.size = n) (hn : n ≤ 140737488355328) (w : World) (hv : ∀ k < n, (w.cell? ⟨vb, q + k, none⟩).isSome = true) (ht : ∀ k < n, ∃ b, w.cell? ⟨tb, q + k, none⟩ = some (.bool b))
    (hvf : ∀ k, w.frozen? ⟨vb, k, none⟩ = false) (htf : ∀ k, w.frozen? ⟨tb, k, none⟩ = false) (hne : vb ≠ tb) (hvl : vb < w.heap.size) (htl : tb < w.heap.size) :
    Calls Try.prog 32 #[.agg #[.slice (some ⟨vb, q, none⟩) n n, .slice (some ⟨tb, q, none⟩) n n], .string s, .bool t] w fun e w' => (∃ v, e = .returned v) ∧ Laid vb tb q n (bAt s) t w w' := by
  obtain ⟨w1, hw1⟩ : ∃ w1, w.alloc (.cells #[.slice (some ⟨vb, q, none⟩) n n, .slice (some ⟨tb, q, none⟩) n n] 59) = w1 := ⟨_, rfl⟩
  have hB1 : Below w.heap.size w w1 := by rw [← hw1]; exact aBelow (Below.refl _ _) _
  have a0 : w1.cell? ⟨w.heap.size, 0, none⟩ = some (.slice (some ⟨vb, q, none⟩) n n) := by rw [← hw1]; exact nwc _ _ _ _
  have a1 : w1.cell? ⟨w.heap.size, 1, none⟩ = some (.slice (some ⟨tb, q, none⟩) n n) := by rw [← hw1]; exact nwc _ _ _ _
  have e1 : ∀ k, w1.cell? ⟨vb, k, none⟩ = w.cell? ⟨vb, k, none⟩ := fun k => hB1.cell (by simpa using hvl)
  have e2 : ∀ k, w1.cell? ⟨tb, k, none⟩ = w.cell? ⟨tb, k, none⟩ := fun k => hB1.cell (by simpa using htl)
  have e3 : ∀ k, w1.frozen? ⟨vb, k, none⟩ = w.frozen? ⟨vb, k, none⟩ := fun k => (only_below (S := fun _ => False) hB1).frozen (by simpa using hvl) (fun h => h)
  have e4 : ∀ k, w1.frozen? ⟨tb, k, none⟩ = w.frozen? ⟨tb, k, none⟩ := fun k => (only_below (S := fun _ => False) hB1).frozen (by simpa using htl) (fun h => h)
  have hc1 : ∀ j, j < s.size → (w1.cell? ⟨vb, q + j, none⟩).isSome = true := fun j hj => by rw [e1]; exact hv j (by omega)
  have hr := run_copy_string (P := Try.prog) w1 57 9 3 5 vb q n n s Try.underlying57 size8 (by omega) hc1 (fun j _ => by rw [e3]; exact hvf _)
  obtain ⟨w2, hw2⟩ : ∃ w2, w1.setCells vb q (s.data.toList.map fun x => Value.int .u8 (x.toNat : Int)) = w2 := ⟨_, rfl⟩
  rw [hw2] at hr
  have v2 : ∀ k, w2.cell? ⟨vb, k, none⟩ = if q ≤ k ∧ k < q + n then some (.int .u8 (bAt s (k - q) : Nat)) else w.cell? ⟨vb, k, none⟩ := fun k => by
    rw [← hw2, cells_val vb q s w1 hc1 k, hs, e1]
  have o2 : Only (fun j => j = vb ∨ j = tb) w w2 := by
    rw [← hw2]; exact (only_below hB1).trans (Only.setCells (Or.inl rfl) _ _ _ (Only.refl _ _))
  have o12 : Only (fun j => j = vb) w1 w2 := by
    rw [← hw2]; exact Only.setCells (S := fun j => j = vb) rfl _ _ _ (Only.refl _ _)
  have t2 : ∀ k, w2.cell? ⟨tb, k, none⟩ = w.cell? ⟨tb, k, none⟩ := fun k => by
    rw [← hw2, World.cell?_setCells_out vb _ q w1 _ (fun h _ => absurd h.symm hne), e2]
  have fv2 : ∀ k, w2.frozen? ⟨vb, k, none⟩ = w.frozen? ⟨vb, k, none⟩ := fun k => by rw [← hw2, frozen_setCells, e3]
  have ft2 : ∀ k, w2.frozen? ⟨tb, k, none⟩ = w.frozen? ⟨tb, k, none⟩ := fun k => by rw [← hw2, frozen_setCells, e4]
  have b1 : w2.cell? ⟨w.heap.size, 1, none⟩ = some (.slice (some ⟨tb, q, none⟩) n n) := o12.cell (by simp only; omega) a1
  clear hw2
  go_enter Try.func32, Try.ntmps32
  go_wp2
  go_loopw [14] (fun i wr => ∃ k : Nat, i = .int .i64 k ∧ k ≤ n ∧ Only (fun j => j = vb ∨ j = tb) w wr ∧ Only (fun j => j = tb) w2 wr ∧ (∀ j, wr.cell? ⟨tb, j, none⟩ = if q ≤ j ∧ j < q + k then some (.bool t) else w.cell? ⟨tb, j, none⟩) ∧ (∀ j, wr.frozen? ⟨tb, j, none⟩ = w.frozen? ⟨tb, j, none⟩)) (fun i _ => n - (intOf i).toNat)
  case atStart => exact ⟨0, rfl, Nat.zero_le _, o2, Only.refl _ _, fun j => by rw [t2, if_neg (by omega)], ft2⟩
  case round =>
    obtain ⟨k, rfl, hk, ho, ho2, htk, hft⟩ := hrel
    have b1 : wr.cell? ⟨w.heap.size, 1, none⟩ = some (.slice (some ⟨tb, q, none⟩) n n) := ho2.cell (by simp only; omega) b1
    by_cases hlt : k < n
    · obtain ⟨ob, hob⟩ := ht k hlt
      have c0 : wr.cell? ⟨tb, q + k, none⟩ = some (.bool ob) := by rw [htk, if_neg (by omega)]; exact hob
      have z0 : wr.frozen? ⟨tb, q + k, none⟩ = false := by rw [hft]; exact htf _
      go_wp2
      go_roundw
      case rel => exact ⟨k + 1, by go_num, by omega, ho.setCell (Or.inr rfl), ho2.setCell rfl, fun j => by
        rw [cell_set _ c0 j, htk]
        by_cases e : j = q + k
        · rw [if_pos e, if_pos (by omega)]
        · rw [if_neg e]
          by_cases e2 : q ≤ j ∧ j < q + k
          · rw [if_pos e2, if_pos (by omega)]
          · rw [if_neg e2, if_neg (by omega)], fun j => by rw [World.frozen?_setCell, hft]⟩
      case measure => first | (simp [intOf]; done) | (simp [intOf]; omega)
    · obtain rfl : k = n := by omega
      go_wp2
      go_end0
      have hvs : ∀ j, wr.cell? ⟨vb, j, none⟩ = w2.cell? ⟨vb, j, none⟩ := fun j => by
        have e := ho2.block vb (Nat.lt_of_lt_of_le hvl o2.size) (by exact hne)
        unfold World.cell?; simp only [e]
      have hfs : ∀ j, wr.frozen? ⟨vb, j, none⟩ = w2.frozen? ⟨vb, j, none⟩ := fun j => ho2.frozen (Nat.lt_of_lt_of_le hvl o2.size) (by exact hne)
      exact ⟨⟨_, rfl⟩, ho, fun j => by rw [hvs, v2], htk, fun j => by rw [hfs, fv2], hft⟩
end Go.Proofs.Ytkcgnpcfdfkpjaa
