/- Worlds in which only some blocks change; bytes of texts; contract of stretch.lay. -/
import Derived.Test.YtfaacmcnefbgcaaGreatDoorFi
import Derived.Lib.SlBuf
import Derived.Lib.LazyBuf
import Derived.Shelf.RegionOpenPlain
import Derived.Lib.SliceRun
import Derived.Lib.SmallJoins
namespace Go.Proofs.YtfaacmcnefbgcaaGreatDoor.m4
open Go.ChangeShapes Go.WideShapes Go.ChangeAt Go.RowKit
set_option linter.unusedVariables false
/-- Of what lay before, only the blocks of S change. -/
structure Only (S : Nat → Prop) (w w' : World) : Prop where
  os : w'.os = w.os
  tape : w'.tape = w.tape
  output : w'.output = w.output
  size : w.heap.size ≤ w'.heap.size
  block : ∀ j, j < w.heap.size → ¬ S j → w'.heap[j]? = w.heap[j]?
theorem Only.refl (S : Nat → Prop) (w : World) : Only S w w := ⟨rfl, rfl, rfl, Nat.le_refl _, fun _ _ _ => rfl⟩
theorem Only.trans {S : Nat → Prop} {a b c : World} (h : Only S a b) (k : Only S b c) : Only S a c :=
  ⟨k.os.trans h.os, k.tape.trans h.tape, k.output.trans h.output, Nat.le_trans h.size k.size, fun j hj hs => (k.block j (Nat.lt_of_lt_of_le hj h.size) hs).trans (h.block j hj hs)⟩
theorem only_below {S : Nat → Prop} {w w' : World} (h : Below w.heap.size w w') : Only S w w' := ⟨h.os, h.tape, h.output, h.size, fun j hj _ => h.block j hj⟩
theorem Only.mono {S T : Nat → Prop} {w w' : World} (h : Only S w w') (hs : ∀ j, S j → T j) : Only T w w' := ⟨h.os, h.tape, h.output, h.size, fun j hj ht => h.block j hj (fun hh => ht (hs j hh))⟩
theorem Only.below {S : Nat → Prop} {w w' : World} {B : Nat} (h : Only S w w') (hS : ∀ j, S j → B ≤ j) (hB : B ≤ w.heap.size) : Below B w w' :=
  ⟨h.os, h.tape, h.output, h.size, fun j hj => h.block j (by omega) (fun hh => by have := hS j hh; omega)⟩
theorem Only.cell {S : Nat → Prop} {w w' : World} (h : Only S w w') {a : Addr} {v : Value} (hs : ¬ S a.block) (hc : w.cell? a = some v) : w'.cell? a = some v := by
  have e := h.block a.block (World.block_lt_of_cell? w _ hc) hs
  rw [← hc]; unfold World.cell?; rw [e]
theorem Only.frozen {S : Nat → Prop} {w w' : World} (h : Only S w w') {a : Addr} (hl : a.block < w.heap.size) (hs : ¬ S a.block) : w'.frozen? a = w.frozen? a := by
  have e := h.block a.block hl hs
  unfold World.frozen?; rw [e]
theorem Only.setCell {S : Nat → Prop} {w w' : World} (h : Only S w w') {b o : Nat} {v : Value} (hs : S b) : Only S w (w'.setCell ⟨b, o, none⟩ v) :=
  ⟨h.os, h.tape, h.output, by simp only [World.size_setCell]; exact h.size, fun j hj hn => (Below.heap_setCell _ _ _ _ (by simp only; intro e; subst e; exact hn hs)).trans (h.block j hj hn)⟩
theorem Only.setCells {S : Nat → Prop} {w : World} {b : Nat} (hs : S b) : ∀ (vs : List Value) (o : Nat) (w' : World), Only S w w' → Only S w (w'.setCells b o vs)
  | [], _, _, h => h
  | v :: r, o, w', h => Only.setCells hs r (o + 1) _ (h.setCell hs)
theorem frozen_setCells (b : Nat) : ∀ (vs : List Value) (o : Nat) (w : World) (a : Addr), (w.setCells b o vs).frozen? a = w.frozen? a
  | [], _, _, _ => rfl
  | v :: r, o, w, a => by
    show ((w.setCell ⟨b, o, none⟩ v).setCells b (o + 1) r).frozen? a = _
    rw [frozen_setCells b r]; exact World.frozen?_setCell ..
theorem cell_set {w : World} {b o : Nat} {u : Value} (v : Value) (h : w.cell? ⟨b, o, none⟩ = some u) (j : Nat) : (w.setCell ⟨b, o, none⟩ v).cell? ⟨b, j, none⟩ = if j = o then some v else w.cell? ⟨b, j, none⟩ := by
  by_cases e : j = o
  · subst e; rw [if_pos rfl]; exact World.cell?_setCell_same (h := h) ..
  · rw [if_neg e]; exact World.cell?_setCell_other (h := by intro h; injection h with _ h2 _; exact e h2.symm) ..
/-- Byte k of a text. -/
def bAt (s : ByteArray) (k : Nat) : Nat := (s.data.toList.getD k 0).toNat
theorem bAt_lt (s : ByteArray) (k : Nat) : bAt s k < 256 := UInt8.toNat_lt _
theorem bAt_eq (s : ByteArray) (k : Nat) (h : k < s.size) : (s[k]'h).toNat = bAt s k := by
  unfold bAt
  rw [List.getD_eq_getElem?_getD, List.getElem?_eq_getElem (by simpa using h)]
  rfl
/-- A stretch was laid. -/
structure Laid (vb tb q n : Nat) (f : Nat → Nat) (t : Bool) (w w' : World) : Prop where
  only : Only (fun j => j = vb ∨ j = tb) w w'
  vals : ∀ k, w'.cell? ⟨vb, k, none⟩ = if q ≤ k ∧ k < q + n then some (.int .u8 (f (k - q) : Nat)) else w.cell? ⟨vb, k, none⟩
  tnts : ∀ k, w'.cell? ⟨tb, k, none⟩ = if q ≤ k ∧ k < q + n then some (.bool t) else w.cell? ⟨tb, k, none⟩
  fv : ∀ k, w'.frozen? ⟨vb, k, none⟩ = w.frozen? ⟨vb, k, none⟩
  ft : ∀ k, w'.frozen? ⟨tb, k, none⟩ = w.frozen? ⟨tb, k, none⟩
theorem size8 (w : World) : (Go.sizeOf 5).run Tryz.prog w = .ok 1 w := by kernel_rfl
theorem cells_val (b : Nat) (q : Nat) (s : ByteArray) (w : World) (hc : ∀ j, j < s.size → (w.cell? ⟨b, q + j, none⟩).isSome = true) (k : Nat) :
    (w.setCells b q (s.data.toList.map fun x => Value.int .u8 (x.toNat : Int))).cell? ⟨b, k, none⟩ = if q ≤ k ∧ k < q + s.size then some (.int .u8 (bAt s (k - q) : Nat)) else w.cell? ⟨b, k, none⟩ := by
  have hl : (s.data.toList.map fun x => Value.int .u8 (x.toNat : Int)).length = s.size := by rw [List.length_map, ← Lib.size_eq]
  by_cases h : q ≤ k ∧ k < q + s.size
  · rw [if_pos h]
    have := World.cell?_setCells_in b (s.data.toList.map fun x => Value.int .u8 (x.toNat : Int)) q w (by rw [hl]; exact hc) (k - q) (by rw [hl]; omega)
    rw [show q + (k - q) = k by omega] at this
    rw [this]
    simp only [List.getElem_map]
    unfold bAt
    rw [List.getD_eq_getElem?_getD, List.getElem?_eq_getElem (by have := Lib.size_eq s; omega)]
    rfl
  · rw [if_neg h]
    exact World.cell?_setCells_out b _ q w _ (fun _ _ => by rw [hl]; simp only; omega)
set_option maxHeartbeats 1000000 in
theorem lay_any (vb tb q n : Nat) (s : ByteArray) (t : Bool) (hs : s.size = n) (hn : n ≤ 140737488355328) (w : World) (hv : ∀ k < n, (w.cell? ⟨vb, q + k, none⟩).isSome = true) (ht : ∀ k < n, ∃ b, w.cell? ⟨tb, q + k, none⟩ = some (.bool b))
    (hvf : ∀ k, w.frozen? ⟨vb, k, none⟩ = false) (htf : ∀ k, w.frozen? ⟨tb, k, none⟩ = false) (hne : vb ≠ tb) (hvl : vb < w.heap.size) (htl : tb < w.heap.size) :
    Calls Tryz.prog 45 #[.agg #[.slice (some ⟨vb, q, none⟩) n n, .slice (some ⟨tb, q, none⟩) n n], .string s, .bool t] w fun e w' => (∃ v, e = .returned v) ∧ Laid vb tb q n (bAt s) t w w' := by
  obtain ⟨w1, hw1⟩ : ∃ w1, w.alloc (.cells #[.slice (some ⟨vb, q, none⟩) n n, .slice (some ⟨tb, q, none⟩) n n] 112) = w1 := ⟨_, rfl⟩
  have hB1 : Below w.heap.size w w1 := by rw [← hw1]; exact aBelow (Below.refl _ _) _
  have a0 : w1.cell? ⟨w.heap.size, 0, none⟩ = some (.slice (some ⟨vb, q, none⟩) n n) := by rw [← hw1]; exact nwc _ _ _ _
  have a1 : w1.cell? ⟨w.heap.size, 1, none⟩ = some (.slice (some ⟨tb, q, none⟩) n n) := by rw [← hw1]; exact nwc _ _ _ _
  have e1 : ∀ k, w1.cell? ⟨vb, k, none⟩ = w.cell? ⟨vb, k, none⟩ := fun k => hB1.cell (by simpa using hvl)
  have e2 : ∀ k, w1.cell? ⟨tb, k, none⟩ = w.cell? ⟨tb, k, none⟩ := fun k => hB1.cell (by simpa using htl)
  have e3 : ∀ k, w1.frozen? ⟨vb, k, none⟩ = w.frozen? ⟨vb, k, none⟩ := fun k => (only_below (S := fun _ => False) hB1).frozen (by simpa using hvl) (fun h => h)
  have e4 : ∀ k, w1.frozen? ⟨tb, k, none⟩ = w.frozen? ⟨tb, k, none⟩ := fun k => (only_below (S := fun _ => False) hB1).frozen (by simpa using htl) (fun h => h)
  have hc1 : ∀ j, j < s.size → (w1.cell? ⟨vb, q + j, none⟩).isSome = true := fun j hj => by rw [e1]; exact hv j (by omega)
  have hr := run_copy_string (P := Tryz.prog) w1 65 9 3 5 vb q n n s Tryz.underlying65 size8 (by omega) hc1 (fun j _ => by rw [e3]; exact hvf _)
  obtain ⟨w2, hw2⟩ : ∃ w2, w1.setCells vb q (s.data.toList.map fun x => Value.int .u8 (x.toNat : Int)) = w2 := ⟨_, rfl⟩
  rw [hw2] at hr
  have v2 : ∀ k, w2.cell? ⟨vb, k, none⟩ = if q ≤ k ∧ k < q + n then some (.int .u8 (bAt s (k - q) : Nat)) else w.cell? ⟨vb, k, none⟩ := fun k => by
    rw [← hw2, cells_val vb q s w1 hc1 k, hs, e1]
  have o2 : Only (fun j => j = vb ∨ j = tb) w w2 := by
    rw [← hw2]; exact (only_below hB1).trans (Only.setCells (Or.inl rfl) _ _ _ (Only.refl _ _))
  have o12 : Only (fun j => j = vb) w1 w2 := by
    rw [← hw2]; exact Only.setCells (S := fun j => j = vb) rfl _ _ _ (Only.refl _ _)
  have t2 : ∀ k, w2.cell? ⟨tb, k, none⟩ = w.cell? ⟨tb, k, none⟩ := fun k => by
    rw [← hw2, World.cell?_setCells_out vb _ q w1 _ (fun h _ => absurd h.symm hne), e2]
  have fv2 : ∀ k, w2.frozen? ⟨vb, k, none⟩ = w.frozen? ⟨vb, k, none⟩ := fun k => by rw [← hw2, frozen_setCells, e3]
  have ft2 : ∀ k, w2.frozen? ⟨tb, k, none⟩ = w.frozen? ⟨tb, k, none⟩ := fun k => by rw [← hw2, frozen_setCells, e4]
  have b1 : w2.cell? ⟨w.heap.size, 1, none⟩ = some (.slice (some ⟨tb, q, none⟩) n n) := o12.cell (by simp only; omega) a1
  clear hw2
  go_enter Tryz.func45, Tryz.ntmps45
  go_wp2
  go_loopw [14] (fun i wr => ∃ k : Nat, i = .int .i64 k ∧ k ≤ n ∧ Only (fun j => j = vb ∨ j = tb) w wr ∧ Only (fun j => j = tb) w2 wr ∧ (∀ j, wr.cell? ⟨tb, j, none⟩ = if q ≤ j ∧ j < q + k then some (.bool t) else w.cell? ⟨tb, j, none⟩) ∧ (∀ j, wr.frozen? ⟨tb, j, none⟩ = w.frozen? ⟨tb, j, none⟩)) (fun i _ => n - (intOf i).toNat)
  case atStart => exact ⟨0, rfl, Nat.zero_le _, o2, Only.refl _ _, fun j => by rw [t2, if_neg (by omega)], ft2⟩
  case round =>
    obtain ⟨k, rfl, hk, ho, ho2, htk, hft⟩ := hrel
    have b1 : wr.cell? ⟨w.heap.size, 1, none⟩ = some (.slice (some ⟨tb, q, none⟩) n n) := ho2.cell (by simp only; omega) b1
    by_cases hlt : k < n
    · obtain ⟨ob, hob⟩ := ht k hlt
      have c0 : wr.cell? ⟨tb, q + k, none⟩ = some (.bool ob) := by rw [htk, if_neg (by omega)]; exact hob
      have z0 : wr.frozen? ⟨tb, q + k, none⟩ = false := by rw [hft]; exact htf _
      go_wp2
      go_roundw
      case rel => exact ⟨k + 1, by go_num, by omega, ho.setCell (Or.inr rfl), ho2.setCell rfl, fun j => by
        rw [cell_set _ c0 j, htk]
        by_cases e : j = q + k
        · rw [if_pos e, if_pos (by omega)]
        · rw [if_neg e]
          by_cases e2 : q ≤ j ∧ j < q + k
          · rw [if_pos e2, if_pos (by omega)]
          · rw [if_neg e2, if_neg (by omega)], fun j => by rw [World.frozen?_setCell, hft]⟩
      case measure => first | (simp [intOf]; done) | (simp [intOf]; omega)
    · obtain rfl : k = n := by omega
      go_wp2
      go_end0
      have hvs : ∀ j, wr.cell? ⟨vb, j, none⟩ = w2.cell? ⟨vb, j, none⟩ := fun j => by
        have e := ho2.block vb (Nat.lt_of_lt_of_le hvl o2.size) (by exact hne)
        unfold World.cell?; simp only [e]
      have hfs : ∀ j, wr.frozen? ⟨vb, j, none⟩ = w2.frozen? ⟨vb, j, none⟩ := fun j => ho2.frozen (Nat.lt_of_lt_of_le hvl o2.size) (by exact hne)
      exact ⟨⟨_, rfl⟩, ho, fun j => by rw [hvs, v2], htk, fun j => by rw [hfs, fv2], hft⟩
end Go.Proofs.YtfaacmcnefbgcaaGreatDoor.m4

/- Contracts of slices.Index, slices.Contains, slices.Clone at []bool. -/
namespace Go.Proofs.YtfaacmcnefbgcaaGreatDoor.m4
open Go.ChangeShapes Go.WideShapes Go.ChangeAt Go.RowKit
set_option linter.unusedVariables false
/-- Index answers a place of true, or -1. -/
def RI (e : Ending) (n : Nat) (p : Nat → Prop) : Prop := (∃ i : Nat, i < n ∧ p i ∧ e = .returned (.int .i64 i)) ∨ ((∀ i < n, ¬ p i) ∧ e = .returned (.int .i64 (-1)))
theorem index_any (tb q n c : Nat) (tv : Nat → Bool) (hn : n ≤ 140737488355328) (w : World) (hc : ∀ k < n, w.cell? ⟨tb, q + k, none⟩ = some (.bool (tv (q + k)))) (htl : tb < w.heap.size) :
    Calls Tryz.prog 158 #[.slice (some ⟨tb, q, none⟩) n c, .bool true] w fun e w' => RI e n (fun k => tv (q + k) = true) ∧ w = w' := by
  go_enter Tryz.func158, Tryz.ntmps158
  go_wp2
  go_loop [8] (fun i => ∃ k : Nat, i = .int .i64 k ∧ k ≤ n ∧ ∀ j < k, ¬ tv (q + j) = true) (fun i => n - (intOf i).toNat)
  case atStart => exact ⟨0, rfl, Nat.zero_le _, fun j hj => by omega⟩
  case round =>
    obtain ⟨k, rfl, hk, hj⟩ := hrel
    by_cases hlt : k < n
    · have c0 := hc k hlt
      cases hb : tv (q + k) with
      | true =>
        rw [hb] at c0
        go_wp2
        go_ret
        exact ⟨Or.inl ⟨k, hlt, hb, rfl⟩, rfl⟩
      | false =>
        rw [hb] at c0
        go_wp2
        go_round
        case rel => exact ⟨k + 1, by go_num, by omega, fun j hj' => by
          rcases Nat.lt_or_ge j k with h | h
          · exact hj j h
          · obtain rfl : j = k := by omega
            rw [hb]; exact Bool.false_ne_true⟩
        case measure => first | (simp [intOf]; done) | (simp [intOf]; omega)
    · obtain rfl : k = n := by omega
      go_wp2
      go_ret
      exact ⟨Or.inr ⟨hj, rfl⟩, rfl⟩
theorem contains_any (tb q n c : Nat) (tv : Nat → Bool) (hn : n ≤ 140737488355328) (w : World) (hc : ∀ k < n, w.cell? ⟨tb, q + k, none⟩ = some (.bool (tv (q + k)))) (htl : tb < w.heap.size) :
    Calls Tryz.prog 138 #[.slice (some ⟨tb, q, none⟩) n c, .bool true] w fun e w' => RB e (∃ k < n, tv (q + k) = true) ∧ w = w' := by
  have hI := index_any tb q n c tv hn w hc htl
  by_cases h : ∃ k < n, tv (q + k) = true
  · have hI' : Calls Tryz.prog 158 #[.slice (some ⟨tb, q, none⟩) n c, .bool true] w fun e w' => (∃ i : Nat, e = .returned (.int .i64 i)) ∧ w = w' := hI.mono fun e w' ⟨h1, h2⟩ => ⟨by
      rcases h1 with ⟨i, hi, hp, he⟩ | ⟨hno, _⟩
      · exact ⟨i, he⟩
      · obtain ⟨k, hk, hp⟩ := h
        exact absurd hp (hno k hk), h2⟩
    clear hI
    go_enter Tryz.func138, Tryz.ntmps138
    go_wp2_with (go_at_call 158; refine hI'.mono ?_; rintro e w' ⟨⟨i, rfl⟩, rfl⟩; have hi0 : (0 : Int) ≤ (i : Int) := (by omega))
    go_ret
    exact ⟨RB_d (by simp [h]), rfl⟩
  · have hI' : Calls Tryz.prog 158 #[.slice (some ⟨tb, q, none⟩) n c, .bool true] w fun e w' => e = .returned (.int .i64 (-1)) ∧ w = w' := hI.mono fun e w' ⟨h1, h2⟩ => ⟨by
      rcases h1 with ⟨i, hi, hp, he⟩ | ⟨hno, he⟩
      · exact absurd ⟨i, hi, hp⟩ h
      · exact he, h2⟩
    clear hI
    go_enter Tryz.func138, Tryz.ntmps138
    go_wp2_with (go_at_call 158; refine hI'.mono ?_; rintro e w' ⟨rfl, rfl⟩)
    go_ret
    exact ⟨RB_d (by simp [h]), rfl⟩
/-- The taints of a stretch. -/
def tl (tv : Nat → Bool) (q n : Nat) : List Value := (List.range n).map fun k => Value.bool (tv (q + k))
theorem tl_length (tv : Nat → Bool) (q n : Nat) : (tl tv q n).length = n := by simp [tl]
theorem tl_at (tv : Nat → Bool) (q n k : Nat) (h : k < n) : (tl tv q n)[k]? = some (.bool (tv (q + k))) := by simp [tl, h]
theorem infoB : (Tryz.prog.info? 4).map (fun i => (i.zero, i.size, i.bytes)) = some (some (.bool false), 1, 1) := by kernel_rfl
set_option maxRecDepth 100000 in
set_option maxHeartbeats 1000000 in
theorem clone_any (tb q n : Nat) (tv : Nat → Bool) (hn : n ≤ 1048576) (w : World) (hc : ∀ k < n, w.cell? ⟨tb, q + k, none⟩ = some (.bool (tv (q + k)))) (htl : tb < w.heap.size) :
    Calls Tryz.prog 82 #[.slice (some ⟨tb, q, none⟩) n n] w fun e w' => (∃ v, e = .returned v ∧ w'.ownsRow w.heap.size 4 1 v n (tl tv q n)) ∧ Below w.heap.size w w' := by
  obtain ⟨i0, hi, hz0, hz1, hz2⟩ := info_parts infoB
  have q49 : ∀ (w : World) (a : Option Addr) (n c n' c' : Nat), (binOp .eql 98 (.slice a n c) (.slice none n' c')).run Tryz.prog w = .ok (.bool a.isNone) w := fun w a n c n' c' => Lib.run_eql_slice_nil w _ _ a n c n' c' Tryz.underlying98
  have u49 : ∀ w, Sem.run Tryz.prog (underlying 98) w = .ok (TypeDesc.slice 4) w := run_underlying Tryz.underlying98
  go_enter Tryz.func82, Tryz.ntmps82
  go_wp2_with (at_builtin; refine wpList_append_own _ rfl _ _ 98 rfl w.heap.size 4 i0 (.bool false) 1 1 Tryz.underlying98 hi hz0 hz1 hz2 rfl (by decide) _ _ _ rfl (World.ownsRow_made w #[] 0 (Nat.le_refl _) (Nat.zero_le _) rfl) ⟨tb, q, none⟩ n n (tl tv q n) rfl ?qc1 ?qc2 ?qc3 ?qc4 ?qc5 ?qc6 ?_)
  case qc1 => rw [tl_length]; omega
  case qc2 =>
    intro j u hj
    have hjn : j < n := by
      have := (List.getElem?_eq_some_iff.1 hj).1
      rw [tl_length] at this; exact this
    rw [tl_at tv q n j hjn] at hj
    rw [addp]
    injection hj with hj
    subst hj
    exact stay (aBelow (Below.refl _ _) _) (hc j hjn)
  case qc3 => intro u hu; obtain ⟨x, _, rfl⟩ := List.mem_map.1 hu; rfl
  case qc4 => unfold maxLen; omega
  case qc5 => omega
  case qc6 => simp
  intro v' w1 hown hgrow hnil
  go_wp2
  go_ret
  refine ⟨⟨v', rfl, by simpa using hown⟩, ((Below.refl _ w).alloc (Nat.le_refl _) _).grown hgrow (by simp) (by intro k hk; simp [Value.ownBlock] at hk; omega)⟩
end Go.Proofs.YtfaacmcnefbgcaaGreatDoor.m4

/- What a memory answers, plainly: by its regions, the bytes and taints of its places. No conditions. -/
namespace Go.Proofs.YtfaacmcnefbgcaaGreatDoor.m4
open Go.RowKit
set_option linter.unusedVariables false
instance (r : Rg) (p n : Nat) : Decidable (r.has p n) := by unfold Rg.has; infer_instance
/-- The region that holds a stretch. -/
def hitI (l : List Rg) (p n : Nat) : Option Nat := (List.range l.length).find? fun i => decide ((rg l i).has p n)
theorem hit_none {l : List Rg} {p n : Nat} (h : hitI l p n = none) : ∀ j < l.length, ¬ (rg l j).has p n := fun j hj hh => by
  unfold hitI at h
  rw [List.find?_eq_none] at h
  exact absurd (decide_eq_true hh) (by simpa using h j (List.mem_range.2 hj))
theorem hit_some {l : List Rg} {p n i : Nat} (h : hitI l p n = some i) : i < l.length ∧ (rg l i).has p n := by
  unfold hitI at h
  have h1 := List.find?_some h
  have h2 := List.mem_of_find?_eq_some h
  exact ⟨List.mem_range.1 h2, by simpa using h1⟩
theorem has_one {l : List Rg} (hl : MayL l) {p n i j : Nat} (hi : i < l.length) (hj : j < l.length) (h1 : (rg l i).has p n) (h2 : (rg l j).has p n) : i = j := by
  obtain ⟨a1, a2, a3⟩ := h1
  obtain ⟨b1, b2, b3⟩ := h2
  rcases Nat.lt_trichotomy i j with h | h | h
  · exact absurd ⟨by omega, by omega⟩ ((hl.1 j hj).2 i h)
  · exact h
  · exact absurd ⟨by omega, by omega⟩ ((hl.1 i hi).2 j h)
theorem hit_is {l : List Rg} (hl : MayL l) {p n i : Nat} (h : hitI l p n = some i) : Hit l p n 1 i := by
  obtain ⟨h1, h2⟩ := hit_some h
  exact Or.inl ⟨rfl, h1, h2, fun j hj hne hh => hne (has_one hl hj h1 hh h2)⟩
theorem hit_isnt {l : List Rg} {p n : Nat} (h : hitI l p n = none) : Hit l p n 0 0 := Or.inr ⟨rfl, hit_none h⟩
theorem beg_succ (l : List Rg) (i : Nat) (h : i < l.length) : beg l (i + 1) = beg l i + (rg l i).s := by
  unfold beg
  rw [List.take_succ_eq_append_getElem h, List.map_append, List.sum_append]
  simp [rg, List.getD_eq_getElem?_getD, List.getElem?_eq_getElem h]
theorem beg_le (l : List Rg) : ∀ (j i : Nat), i ≤ j → j ≤ l.length → beg l i ≤ beg l j
  | 0, i, h, _ => by
    obtain rfl : i = 0 := by omega
    exact Nat.le_refl _
  | j + 1, i, h, hj => by
    rcases Nat.lt_or_ge j i with h1 | h1
    · obtain rfl : i = j + 1 := by omega
      exact Nat.le_refl _
    · have := beg_le l j i h1 (by omega)
      rw [beg_succ l j (by omega)]
      omega
def tot (l : List Rg) : Nat := beg l l.length
theorem beg_in {l : List Rg} {i : Nat} (h : i < l.length) : beg l i + (rg l i).s ≤ tot l := by
  rw [← beg_succ l i h]; exact beg_le l _ _ (by omega) (Nat.le_refl _)
/-- Where a stretch lies. -/
def pos (l : List Rg) (i p n : Nat) : Nat := off0 (beg l i) (p - (rg l i).f) n
theorem pos_in {l : List Rg} {p n i : Nat} (h : hitI l p n = some i) : beg l i ≤ pos l i p n ∧ pos l i p n + n ≤ beg l i + (rg l i).s := by
  obtain ⟨_, h2, h3, h4⟩ := hit_some h
  unfold pos off0
  split <;> omega
theorem pos_tot {l : List Rg} {p n i : Nat} (h : hitI l p n = some i) : pos l i p n + n ≤ tot l := Nat.le_trans (pos_in h).2 (beg_in (hit_some h).1)
def upd {α : Type} (g : Nat → α) (q n : Nat) (f : Nat → α) (k : Nat) : α := if q ≤ k ∧ k < q + n then f (k - q) else g k
/-- The number of n bytes. -/
def ldv (bv : Nat → Nat) (q : Nat) : Nat → Nat
  | 0 => 0
  | n + 1 => bv q + 256 * ldv bv (q + 1) n
def ldt (tv : Nat → Bool) (q n : Nat) : Bool := (List.range n).any fun k => tv (q + k)
theorem ldt_iff {tv : Nat → Bool} {q n : Nat} : ldt tv q n = true ↔ ∃ k < n, tv (q + k) = true := by
  unfold ldt; rw [List.any_eq_true]
  exact ⟨fun ⟨k, hk, h⟩ => ⟨k, List.mem_range.1 hk, h⟩, fun ⟨k, hk, h⟩ => ⟨k, List.mem_range.2 hk, h⟩⟩
theorem ldv_lt {bv : Nat → Nat} (hb : ∀ k, bv k < 256) : ∀ (n q : Nat), ldv bv q n < 256 ^ n
  | 0, q => by simp [ldv]
  | n + 1, q => by
    have := ldv_lt hb n (q + 1)
    have := hb q
    unfold ldv
    rw [Nat.pow_succ]
    omega
theorem ldv_lt64 {bv : Nat → Nat} (hb : ∀ k, bv k < 256) (n q : Nat) (hn : n ≤ 8) : ldv bv q n < 18446744073709551616 :=
  Nat.lt_of_lt_of_le (ldv_lt hb n q) (Nat.pow_le_pow_right (n := 256) (by omega) hn)
def numsAt (bv : Nat → Nat) (q n : Nat) : List Int := (List.range n).map fun k => ((bv (q + k) : Nat) : Int)
theorem numsAt_length (bv : Nat → Nat) (q n : Nat) : (numsAt bv q n).length = n := by simp [numsAt]
theorem numsAt_getD (bv : Nat → Nat) (q n k : Nat) (h : k < n) : (numsAt bv q n).getD k 0 = (bv (q + k) : Nat) := by simp [numsAt, List.getD_eq_getElem?_getD, h]
theorem wordv_nums {bv : Nat → Nat} (hb : ∀ k, bv k < 256) : ∀ (n q : Nat), wordv (strOfNums (numsAt bv q n)).data.toList = ldv bv q n
  | 0, q => rfl
  | n + 1, q => by
    rw [strOfNums_data]
    have e : numsAt bv q (n + 1) = ((bv q : Nat) : Int) :: numsAt bv (q + 1) n := by
      unfold numsAt
      rw [List.range_succ_eq_map, List.map_cons, List.map_map]
      congr 1
      exact List.map_congr_left fun k _ => by simp only [Function.comp]; rw [show q + (k + 1) = q + 1 + k by omega]
    have ih := wordv_nums hb n (q + 1)
    rw [strOfNums_data] at ih
    rw [e, List.map_cons, wordv, ih, ldv]
    congr 1
    rw [Int.toNat_natCast, UInt8.toNat_ofNat']
    exact Nat.mod_eq_of_lt (hb q)
/-- Load: the number, the taint, the error. -/
def ldF (l : List Rg) (bv : Nat → Nat) (tv : Nat → Bool) (p : Nat) (n : Int) : Nat × Bool × Int :=
  if n < 1 ∨ 8 < n then (0, false, 2) else match hitI l p n.toNat with
    | none => (0, false, 40)
    | some i => if (rg l i).k = 1 then (0, false, 40) else (ldv bv (pos l i p n.toNat) n.toNat, ldt tv (pos l i p n.toNat) n.toNat, 0)
/-- Byte k of a word. -/
def wb (v k : Nat) : Nat := v / 256 ^ k % 256
/-- Where a Store lays. -/
def stO (l : List Rg) (p : Nat) (n : Int) : Option Nat :=
  if n < 1 ∨ 8 < n then none else match hitI l p n.toNat with
    | none => none
    | some i => if (rg l i).k = 3 ∨ (rg l i).k = 4 then some (pos l i p n.toNat) else none
def stE (l : List Rg) (p : Nat) (n : Int) : Int := if n < 1 ∨ 8 < n then 2 else if (stO l p n).isSome then 0 else 40
def upO {α : Type} (o : Option Nat) (g : Nat → α) (n : Nat) (f : Nat → α) : Nat → α := match o with
  | none => g
  | some q => upd g q n f
def feF (l : List Rg) (bv : Nat → Nat) (p : Nat) : Nat × Int := if p % 4 ≠ 0 then (0, 40) else match hitI l p 4 with
  | none => (0, 40)
  | some i => if (rg l i).k = 1 then (ldv bv (pos l i p 4) 4, 0) else (0, 40)
def seO (l : List Rg) (p n : Nat) : Option Nat := match hitI l p n with
  | none => none
  | some i => some (pos l i p n)
def seE (l : List Rg) (p n : Nat) : Int := if (seO l p n).isSome then 0 else 40
/-- Bytes: from where on, how many; none: an error. -/
def byO (l : List Rg) (p : Nat) (n : Int) : Option Nat := if n < 0 ∨ 1048576 < n then none else seO l p n.toNat
def byE (l : List Rg) (p : Nat) (n : Int) : Int := if n < 0 ∨ 1048576 < n then 2 else if (byO l p n).isSome then 0 else 40
def byS (l : List Rg) (bv : Nat → Nat) (p : Nat) (n : Int) : ByteArray := match byO l p n with
  | none => ByteArray.empty
  | some q => strOfNums (numsAt bv q n.toNat)
def byT (l : List Rg) (tv : Nat → Bool) (p : Nat) (n : Int) : List Value := match byO l p n with
  | none => []
  | some q => tl tv q n.toNat
end Go.Proofs.YtfaacmcnefbgcaaGreatDoor.m4

/- Contracts of Mem.ofWord, Load, Store, Fetch, Set, Bytes, of a memory. -/
namespace Go.Proofs.YtfaacmcnefbgcaaGreatDoor.m4
open Go.ChangeShapes Go.WideShapes Go.ChangeAt Go.RowKit
set_option linter.unusedVariables false
/-- A memory, its bytes and taints. -/
structure IsM (w : World) (x : Mm) (bv : Nat → Nat) (tv : Nat → Bool) : Prop where
  ar : Ar w x
  vals : ∀ k < tot x.l, w.cell? ⟨x.vb, k, none⟩ = some (.int .u8 (bv k : Nat))
  tnts : ∀ k < tot x.l, w.cell? ⟨x.tb, k, none⟩ = some (.bool (tv k))
  fv : ∀ k, w.frozen? ⟨x.vb, k, none⟩ = false
  ft : ∀ k, w.frozen? ⟨x.tb, k, none⟩ = false
  lv : x.vb < w.heap.size
  lt : x.tb < w.heap.size
  ne : x.vb ≠ x.tb
  m1 : x.mb ≠ x.vb
  m2 : x.mb ≠ x.tb
  a1 : x.ab ≠ x.vb
  a2 : x.ab ≠ x.tb
  may : MayL x.l
  wf : wfL x.l
  b8 : ∀ k, bv k < 256
theorem IsM.of {w w' : World} {x : Mm} {bv : Nat → Nat} {tv : Nat → Bool} (h : IsM w x bv tv) (hb : Below w.heap.size w w') : IsM w' x bv tv :=
  { h with ar := h.ar.of hb, vals := fun k hk => stay hb (h.vals k hk), tnts := fun k hk => stay hb (h.tnts k hk), fv := (fun k => ((only_below (S := fun _ => False) hb).frozen (by exact h.lv) (fun h => h)).trans (h.fv k)), ft := (fun k => ((only_below (S := fun _ => False) hb).frozen (by exact h.lt) (fun h => h)).trans (h.ft k)), lv := Nat.lt_of_lt_of_le h.lv hb.size, lt := Nat.lt_of_lt_of_le h.lt hb.size }
theorem IsM.only {w w' : World} {x : Mm} {bv : Nat → Nat} {tv : Nat → Bool} {S : Nat → Prop} (h : IsM w x bv tv) (ho : Only S w w') (h1 : ¬ S x.mb) (h2 : ¬ S x.ab) (h3 : ¬ S x.vb) (h4 : ¬ S x.tb) : IsM w' x bv tv :=
  { h with ar := ⟨ho.cell h1 h.ar.1, fun i hi => ⟨⟨ho.cell h2 (h.ar.2 i hi).1.1, ho.cell h2 (h.ar.2 i hi).1.2.1, ho.cell h2 (h.ar.2 i hi).1.2.2⟩, ho.cell h2 (h.ar.2 i hi).2.1, ho.cell h2 (h.ar.2 i hi).2.2⟩⟩, vals := fun k hk => ho.cell h3 (h.vals k hk), tnts := fun k hk => ho.cell h4 (h.tnts k hk), fv := (fun k => (ho.frozen (by exact h.lv) h3).trans (h.fv k)), ft := (fun k => (ho.frozen (by exact h.lt) h4).trans (h.ft k)), lv := Nat.lt_of_lt_of_le h.lv ho.size, lt := Nat.lt_of_lt_of_le h.lt ho.size }
theorem upd_at {α : Type} {q n k : Nat} {f g : Nat → α} {c : α → Value} {o : Option Value} (h : ¬ (q ≤ k ∧ k < q + n) → o = some (c (g k))) : (if q ≤ k ∧ k < q + n then some (c (f (k - q))) else o) = some (c (upd g q n f k)) := by
  unfold upd
  by_cases e : q ≤ k ∧ k < q + n
  · rw [if_pos e, if_pos e]
  · rw [if_neg e, if_neg e]; exact h e
theorem upd_b8 {q n : Nat} {f g : Nat → Nat} (hg : ∀ k, g k < 256) (hf : ∀ k, f k < 256) (k : Nat) : upd g q n f k < 256 := by
  unfold upd
  by_cases e : q ≤ k ∧ k < q + n
  · rw [if_pos e]; exact hf _
  · rw [if_neg e]; exact hg k
theorem IsM.laid {w w' : World} {x : Mm} {bv : Nat → Nat} {tv : Nat → Bool} {q n : Nat} {f : Nat → Nat} {t : Bool} (h : IsM w x bv tv) (hL : Laid x.vb x.tb q n f t w w') (hf : ∀ k, f k < 256) :
    IsM w' x (upd bv q n f) (upd tv q n fun _ => t) :=
  { h with ar := ⟨hL.only.cell (by simp only; exact not_or.2 ⟨h.m1, h.m2⟩) h.ar.1, fun i hi => ⟨⟨hL.only.cell (by simp only; exact not_or.2 ⟨h.a1, h.a2⟩) (h.ar.2 i hi).1.1, hL.only.cell (by simp only; exact not_or.2 ⟨h.a1, h.a2⟩) (h.ar.2 i hi).1.2.1, hL.only.cell (by simp only; exact not_or.2 ⟨h.a1, h.a2⟩) (h.ar.2 i hi).1.2.2⟩, hL.only.cell (by simp only; exact not_or.2 ⟨h.a1, h.a2⟩) (h.ar.2 i hi).2.1, hL.only.cell (by simp only; exact not_or.2 ⟨h.a1, h.a2⟩) (h.ar.2 i hi).2.2⟩⟩, vals := (fun k hk => (hL.vals k).trans (upd_at (f := f) (g := bv) (c := fun n => Value.int .u8 (n : Nat)) (fun hh => by rw [h.vals k hk]))), tnts := (fun k hk => (hL.tnts k).trans (upd_at (f := fun _ => t) (g := tv) (c := Value.bool) (fun hh => by rw [h.tnts k hk]))), fv := (fun k => (hL.fv k).trans (h.fv k)), ft := (fun k => (hL.ft k).trans (h.ft k)), lv := Nat.lt_of_lt_of_le h.lv hL.only.size, lt := Nat.lt_of_lt_of_le h.lt hL.only.size, b8 := (fun k => upd_b8 h.b8 hf k) }
theorem may_in {l : List Rg} (h : MayL l) : inL l := fun i hi => by have := (h.1 i hi).1.2; omega
theorem may_sz {l : List Rg} (h : MayL l) : ∀ j < l.length, (rg l j).s ≤ 1048576 := fun j hj => (h.1 j hj).1.1.2.2.2
/-- What find answers: the piece from q on, or an error. -/
def pcV (x : Mm) (n : Nat) (e : Int) : Option Nat → Value
  | some q => .tuple #[.agg #[.slice (some ⟨x.vb, q, none⟩) n n, .slice (some ⟨x.tb, q, none⟩) n n], .int .i64 0]
  | none => .tuple #[.agg #[.slice none 0 0, .slice none 0 0], .int .i64 e]
def fdO (l : List Rg) (p n : Nat) (ok : Nat → Bool) : Option Nat := match hitI l p n with
  | none => none
  | some i => if ok (rg l i).k = true then some (pos l i p n) else none
theorem fdO_some {l : List Rg} {p n q : Nat} {ok : Nat → Bool} (h : fdO l p n ok = some q) : ∃ i, hitI l p n = some i ∧ q = pos l i p n ∧ ok (rg l i).k = true := by
  unfold fdO at h
  split at h
  · cases h
  · rename_i i hi
    split at h
    · rename_i ho
      exact ⟨i, hi, by injection h with h; exact h.symm, ho⟩
    · cases h
theorem fdO_tot {l : List Rg} {p n q : Nat} {ok : Nat → Bool} (h : fdO l p n ok = some q) : q + n ≤ tot l := by
  obtain ⟨i, hi, rfl, _⟩ := fdO_some h
  exact pos_tot hi
theorem fd_every {x : Mm} {bv : Nat → Nat} {tv : Nat → Bool} (p n : Nat) (hp : p < 18446744073709551616) (hn : n ≤ 9223372036854775807) (w : World) (h : IsM w x bv tv) :
    Calls Tryz.prog 43 #[.pointer (some ⟨x.mb, 0, none⟩), .int .u64 p, .int .i64 n, .func (.func 44) #[] #[]] w fun e w' => e = .returned (pcV x n 40 (fdO x.l p n (fun _ => true))) ∧ Below w.heap.size w w' := by
  cases hi : hitI x.l p n with
  | none =>
    have := find_every x h.wf (may_in h.may) h.may.2.2 (may_sz h.may) p n hp hn 0 0 (hit_isnt hi) _ (every_any _) w h.ar
    refine this.mono fun e w' ⟨h1, h2⟩ => ⟨?_, h2⟩
    rw [h1]; unfold fdO fndV; rw [hi, if_neg (by omega)]; rfl
  | some i =>
    have := find_every x h.wf (may_in h.may) h.may.2.2 (may_sz h.may) p n hp hn 1 i (hit_is h.may hi) _ (every_any _) w h.ar
    refine this.mono fun e w' ⟨h1, h2⟩ => ⟨?_, h2⟩
    rw [h1]; unfold fdO fndV; rw [hi]
    by_cases ho : (fun _ => true) (rg x.l i).k = true
    · rw [if_pos ⟨rfl, ho⟩]; show _ = Ending.returned (pcV x n 40 (if _ = true then _ else none)); rw [if_pos ho]; rfl
    · first | exact absurd rfl ho | (rw [if_neg (fun hh => ho hh.2)]; show _ = Ending.returned (pcV x n 40 (if _ = true then _ else none)); rw [if_neg ho]; rfl)
theorem fd_readable {x : Mm} {bv : Nat → Nat} {tv : Nat → Bool} (p n : Nat) (hp : p < 18446744073709551616) (hn : n ≤ 9223372036854775807) (w : World) (h : IsM w x bv tv) :
    Calls Tryz.prog 43 #[.pointer (some ⟨x.mb, 0, none⟩), .int .u64 p, .int .i64 n, .func (.func 137) #[] #[]] w fun e w' => e = .returned (pcV x n 40 (fdO x.l p n (fun k => (k : Int) != 1))) ∧ Below w.heap.size w w' := by
  cases hi : hitI x.l p n with
  | none =>
    have := find_readable x h.wf (may_in h.may) h.may.2.2 (may_sz h.may) p n hp hn 0 0 (hit_isnt hi) _ (readable_any _) w h.ar
    refine this.mono fun e w' ⟨h1, h2⟩ => ⟨?_, h2⟩
    rw [h1]; unfold fdO fndV; rw [hi, if_neg (by omega)]; rfl
  | some i =>
    have := find_readable x h.wf (may_in h.may) h.may.2.2 (may_sz h.may) p n hp hn 1 i (hit_is h.may hi) _ (readable_any _) w h.ar
    refine this.mono fun e w' ⟨h1, h2⟩ => ⟨?_, h2⟩
    rw [h1]; unfold fdO fndV; rw [hi]
    by_cases ho : (fun k => (k : Int) != 1) (rg x.l i).k = true
    · rw [if_pos ⟨rfl, ho⟩]; show _ = Ending.returned (pcV x n 40 (if _ = true then _ else none)); rw [if_pos ho]; rfl
    · first | exact absurd rfl ho | (rw [if_neg (fun hh => ho hh.2)]; show _ = Ending.returned (pcV x n 40 (if _ = true then _ else none)); rw [if_neg ho]; rfl)
theorem fd_writable {x : Mm} {bv : Nat → Nat} {tv : Nat → Bool} (p n : Nat) (hp : p < 18446744073709551616) (hn : n ≤ 9223372036854775807) (w : World) (h : IsM w x bv tv) :
    Calls Tryz.prog 43 #[.pointer (some ⟨x.mb, 0, none⟩), .int .u64 p, .int .i64 n, .func (.func 139) #[] #[]] w fun e w' => e = .returned (pcV x n 40 (fdO x.l p n (fun k => (k : Int) == 3 || (k : Int) == 4))) ∧ Below w.heap.size w w' := by
  cases hi : hitI x.l p n with
  | none =>
    have := find_writable x h.wf (may_in h.may) h.may.2.2 (may_sz h.may) p n hp hn 0 0 (hit_isnt hi) _ (writable_any _) w h.ar
    refine this.mono fun e w' ⟨h1, h2⟩ => ⟨?_, h2⟩
    rw [h1]; unfold fdO fndV; rw [hi, if_neg (by omega)]; rfl
  | some i =>
    have := find_writable x h.wf (may_in h.may) h.may.2.2 (may_sz h.may) p n hp hn 1 i (hit_is h.may hi) _ (writable_any _) w h.ar
    refine this.mono fun e w' ⟨h1, h2⟩ => ⟨?_, h2⟩
    rw [h1]; unfold fdO fndV; rw [hi]
    by_cases ho : (fun k => (k : Int) == 3 || (k : Int) == 4) (rg x.l i).k = true
    · rw [if_pos ⟨rfl, ho⟩]; show _ = Ending.returned (pcV x n 40 (if _ = true then _ else none)); rw [if_pos ho]; rfl
    · first | exact absurd rfl ho | (rw [if_neg (fun hh => ho hh.2)]; show _ = Ending.returned (pcV x n 40 (if _ = true then _ else none)); rw [if_neg ho]; rfl)
theorem fd_fetchable {x : Mm} {bv : Nat → Nat} {tv : Nat → Bool} (p n : Nat) (hp : p < 18446744073709551616) (hn : n ≤ 9223372036854775807) (w : World) (h : IsM w x bv tv) :
    Calls Tryz.prog 43 #[.pointer (some ⟨x.mb, 0, none⟩), .int .u64 p, .int .i64 n, .func (.func 88) #[] #[]] w fun e w' => e = .returned (pcV x n 40 (fdO x.l p n (fun k => (k : Int) == 1))) ∧ Below w.heap.size w w' := by
  cases hi : hitI x.l p n with
  | none =>
    have := find_fetchable x h.wf (may_in h.may) h.may.2.2 (may_sz h.may) p n hp hn 0 0 (hit_isnt hi) _ (fetchable_any _) w h.ar
    refine this.mono fun e w' ⟨h1, h2⟩ => ⟨?_, h2⟩
    rw [h1]; unfold fdO fndV; rw [hi, if_neg (by omega)]; rfl
  | some i =>
    have := find_fetchable x h.wf (may_in h.may) h.may.2.2 (may_sz h.may) p n hp hn 1 i (hit_is h.may hi) _ (fetchable_any _) w h.ar
    refine this.mono fun e w' ⟨h1, h2⟩ => ⟨?_, h2⟩
    rw [h1]; unfold fdO fndV; rw [hi]
    by_cases ho : (fun k => (k : Int) == 1) (rg x.l i).k = true
    · rw [if_pos ⟨rfl, ho⟩]; show _ = Ending.returned (pcV x n 40 (if _ = true then _ else none)); rw [if_pos ho]; rfl
    · first | exact absurd rfl ho | (rw [if_neg (fun hh => ho hh.2)]; show _ = Ending.returned (pcV x n 40 (if _ = true then _ else none)); rw [if_neg ho]; rfl)
end Go.Proofs.YtfaacmcnefbgcaaGreatDoor.m4
