/- Contracts of Mem.Bytes, and of Mem.Regions of no memory. -/
import Derived.Test.YtfaacmcnefbgcaaGreatDoorQh
import Derived.Deep.RegionWith
import Derived.Test.YtfaacmcnefbgcaaGreatDoorJj
import Derived.Test.YtfaacmcnefbgcaaGreatDoorRa
import Derived.Deep.AppendLies
import Derived.Deep.RegionLaw
import Derived.Test.YtfaacmcnefbgcaaGreatDoorQe
namespace Go.Proofs.YtfaacmcnefbgcaaGreatDoor.m4
open Go.ChangeShapes Go.WideShapes Go.ChangeAt Go.RowKit
set_option linter.unusedVariables false
theorem bytes_nil (p n : Int) (w : World) : Calls Tryz.prog 36 #[.pointer none, .int .u64 p, .int .i64 n] w fun e w' => e = .returned (.tuple #[.string ByteArray.empty, .slice none 0 0, .int .i64 1]) ∧ Below w.heap.size w w' := by
  go_enter Tryz.func36, Tryz.ntmps36
  go_wp2
  go_ret3
  exact ⟨rfl, Below.refl _ _⟩
theorem own_down {w : World} {b b' size n : Nat} {e : TypeId} {v : Value} {xs : List Value} (h : w.ownsRow b e size v n xs) (hb : b' ≤ b) : w.ownsRow b' e size v n xs := by
  refine ⟨h.1, ?_⟩
  rcases h.2 with h0 | ⟨g, cap, cur, hv, hg, hh, hr⟩
  · exact Or.inl h0
  · exact Or.inr ⟨g, cap, cur, hv, by omega, hh, hr⟩
/-- What Bytes answers. -/
def BsP (w : World) (s : ByteArray) (tl : List Value) (er : Int) (e : Ending) (w' : World) : Prop := (∃ v, e = .returned (.tuple #[.string s, v, .int .i64 er]) ∧ w'.ownsRow w.heap.size 4 1 v tl.length tl) ∧ Below w.heap.size w w'
theorem BsP.err {w w' : World} {er : Int} (hb : Below w.heap.size w w') : BsP w ByteArray.empty [] er (.returned (.tuple #[.string ByteArray.empty, .slice none 0 0, .int .i64 er])) w' := ⟨⟨_, rfl, World.ownsRow_nil _ _ _ _⟩, hb⟩
set_option maxHeartbeats 1000000 in
theorem bytes_m {x : Mm} {bv : Nat → Nat} {tv : Nat → Bool} (p : Nat) (n : Int) (hp : p < 18446744073709551616) (w : World) (h : IsM w x bv tv) :
    Calls Tryz.prog 36 #[.pointer (some ⟨x.mb, 0, none⟩), .int .u64 p, .int .i64 n] w (BsP w (byS x.l bv p n) (byT x.l tv p n) (byE x.l p n)) := by
  by_cases hn : n < 0 ∨ 1048576 < n
  · have e1 : byO x.l p n = none := by unfold byO; rw [if_pos hn]
    have e2 : byE x.l p n = 2 := by unfold byE; rw [if_pos hn]
    unfold byS byT
    rw [e1, e2]
    clear e1 e2
    by_cases h1 : n < 0
    · clear hn
      go_enter Tryz.func36, Tryz.ntmps36
      go_wp2
      go_ret3
      exact BsP.err (Below.refl _ _)
    · have h2 : 1048576 < n := by omega
      clear hn
      go_enter Tryz.func36, Tryz.ntmps36
      go_wp2
      go_ret3
      exact BsP.err (Below.refl _ _)
  · obtain ⟨m, rfl⟩ : ∃ m : Nat, n = m := ⟨n.toNat, by omega⟩
    have hm : m ≤ 1048576 := by omega
    have hF := fd_every p m hp (by omega) w h
    rw [fdO_every] at hF
    have e1 : byO x.l p m = seO x.l p m := by unfold byO; rw [if_neg hn, Int.toNat_natCast]
    have e2 : byE x.l p m = if (seO x.l p m).isSome then 0 else 40 := by unfold byE; rw [if_neg hn, e1]
    unfold byS byT
    rw [e1, e2]
    clear e1 e2 hn
    cases ho : seO x.l p m with
    | none =>
      rw [ho] at hF
      simp only [pcV] at hF
      rw [show (if (none : Option Nat).isSome = true then (0 : Int) else 40) = 40 from rfl]
      go_enter Tryz.func36, Tryz.ntmps36
      go_wp2_with (go_at_call 43; (with_reducible refine hF.mono ?_); (rintro e w1 ⟨rfl, hb1⟩))
      go_ret3
      exact BsP.err (aBelow hb1 _)
    | some q =>
      have hq := fdO_tot ((fdO_every _ _ _).trans ho)
      rw [ho] at hF
      simp only [pcV] at hF
      rw [show (if (some q).isSome = true then (0 : Int) else 40) = 0 from rfl]
      simp only [Int.toNat_natCast]
      go_enter Tryz.func36, Tryz.ntmps36
      go_wp2_with (go_at_call 43; (with_reducible refine hF.mono ?_); (rintro e w1 ⟨rfl, hb1⟩))
      obtain ⟨W, hW⟩ : ∃ W, w1.alloc (.cells #[.slice (some ⟨x.vb, q, none⟩) m m, .slice (some ⟨x.tb, q, none⟩) m m] 112) = W := ⟨_, rfl⟩
      have a0 : W.cell? ⟨w1.heap.size, 0, none⟩ = some (.slice (some ⟨x.vb, q, none⟩) m m) := by rw [← hW]; exact nwc _ _ _ _
      have a1 : W.cell? ⟨w1.heap.size, 1, none⟩ = some (.slice (some ⟨x.tb, q, none⟩) m m) := by rw [← hW]; exact nwc _ _ _ _
      have hBW : Below w.heap.size w W := by rw [← hW]; exact aBelow hb1 _
      have hI := (h.of hBW).of (bd1 (Below.refl _ _))
      have hBW := bd1 hBW
      try rw [hW]
      have hcv := conv_at hI q m hq
      have hcl := clone_any x.tb q m tv hm W.drew (fun k hk => hI.tnts _ (by omega)) hI.lt
      go_region_with (first | (go_at_call 82; (refine hcl.mono ?_); (rintro e w2 ⟨⟨v, rfl, hown⟩, hb2⟩); have hcv2 := conv_at (hI.of hb2) q m hq; have s0 := stay hb2 a0; have s1 := stay hb2 a1))
      all_goals go_wp2
      all_goals go_ret3
      all_goals exact ⟨⟨v, rfl, by rw [tl_length]; exact own_down hown hBW.size⟩, below_trans' hBW (Nat.le_refl _) hb2⟩
end Go.Proofs.YtfaacmcnefbgcaaGreatDoor.m4

/- Contracts of the document's Set and Bytes. -/
namespace Go.Proofs.YtfaacmcnefbgcaaGreatDoor.m4
open Go.ChangeShapes Go.WideShapes Go.ChangeAt Go.RowKit
set_option linter.unusedVariables false
theorem seO_hit {l : List Rg} {p n i : Nat} (h : hitI l p n = some i) : seO l p n = some (pos l i p n) := by unfold seO; rw [h]
theorem seO_miss {l : List Rg} {p n : Nat} (h : hitI l p n = none) : seO l p n = none := by unfold seO; rw [h]
theorem upd_pos {α : Type} (l : List Rg) (i p n : Nat) (g : Nat → α) (f : Nat → α) : upd g (pos l i p n) n f = upd g (beg l i + (p - (rg l i).f)) n f := by
  by_cases h : n = 0
  · subst h; rw [upd_zero, upd_zero]
  · have hp : pos l i p n = beg l i + (p - (rg l i).f) := by unfold pos off0; rw [if_neg h]
    rw [hp]
set_option maxHeartbeats 2000000 in
theorem rset_any {y : Mr} {bv : Nat → Nat} {tv : Nat → Bool} (p : Nat) (s : ByteArray) (hs : s.size ≤ 140737488355328) (t : Bool) (hp : p < 18446744073709551616) (w : World) (h : IsR w y bv tv) :
    Calls Tryz.prog 23 #[.pointer (some ⟨y.rb, 0, none⟩), .int .u64 p, .string s, .bool t] w fun e w' => e = .returned (.int .i64 (seE y.l p s.size)) ∧ WrR y (upO (seO y.l p s.size) bv s.size (bAt s)) (upO (seO y.l p s.size) tv s.size fun _ => t) w w' := by
  have hIn := in_any h.may h.wf p s.size hp (by omega) w h.rr
  unfold seE
  cases hi : hitI y.l p s.size with
  | none =>
    rw [seO_miss hi, show (if (none : Option Nat).isSome = true then (0 : Int) else 40) = 40 from rfl]
    rw [inV_none hi] at hIn
    go_enter Tryz.func23, Tryz.ntmps23
    go_wp2_with (go_at_call 50; (with_reducible refine hIn.mono ?_); (rintro e w1 ⟨rfl, hb1⟩))
    go_ret
    exact ⟨rfl, h.of hb1, only_below hb1⟩
  | some i =>
    rw [seO_hit hi, show (if (some (pos y.l i p s.size)).isSome = true then (0 : Int) else 40) = 0 from rfl]
    rw [inV_some hi] at hIn
    show Calls _ _ _ _ fun e w' => _ ∧ WrR y (upd bv (pos y.l i p s.size) s.size (bAt s)) (upd tv (pos y.l i p s.size) s.size fun _ => t) w w'
    rw [upd_pos, upd_pos]
    obtain ⟨hil, hf1, hf2, hf3⟩ := hit_some hi
    have hl16 := h.may.2.2
    obtain ⟨⟨⟨g1, g2, g3, g4⟩, g5⟩, _⟩ := h.may.1 i hil
    have i0 : (0 : Int) ≤ (i : Int) := by omega
    have i1 : (i : Int) < (y.l.length : Int) := by omega
    obtain ⟨d, hd⟩ : ∃ d, p - (rg y.l i).f = d := ⟨_, rfl⟩
    have hds : d + s.size ≤ (rg y.l i).s := by omega
    rw [hd] at hIn ⊢
    obtain ⟨q, hq⟩ : ∃ q, beg y.l i + d = q := ⟨_, rfl⟩
    rw [hq]
    clear hi
    have nbb : ∀ o, o = y.bs i ∨ o = y.ts i → y.bl o := fun o ho => ⟨i, hil, ho⟩
    go_enter Tryz.func23, Tryz.ntmps23
    go_wp2_with (go_at_call 50; (with_reducible refine hIn.mono ?_); (rintro e w1 ⟨rfl, hb1⟩))
    go_loopw [11] (fun j wr => ∃ k : Nat, k ≤ s.size ∧ j = .int .i64 k ∧ IsR wr y (upd bv q k (bAt s)) (upd tv q k fun _ => t) ∧ Only y.bl w wr) (fun j _ => s.size - (intOf j).toNat)
    case atStart => exact ⟨0, Nat.zero_le _, rfl, by rw [upd_zero, upd_zero]; exact h.of hb1, only_below hb1⟩
    case round =>
      obtain ⟨k, hkm, rfl, hI, hO⟩ := hrel
      by_cases hlt : k < s.size
      · have hput : ∀ W, IsR W y (upd bv q k (bAt s)) (upd tv q k fun _ => t) → IsR ((W.setCell ⟨y.bs i, d + k, none⟩ (.int .u8 (bAt s k))).setCell ⟨y.ts i, d + k, none⟩ (.bool t)) y (upd bv q (k + 1) (bAt s)) (upd tv q (k + 1) fun _ => t) := fun W hW => hW.put hil hq (show d + k < (rg y.l i).s by omega) rfl (bAt_lt s k)
        have hI' := hI.of (bd1 (Below.refl _ _))
        have hO' : Only y.bl w wr.drew := hO.trans (only_below (bd1 (Below.refl _ _)))
        have s0 := hI.rr.h0
        have s1 := hI.rr.h1
        have s2 := hI.rr.h2
        have bb := hI.rr.hb i hil
        have bt := hI.rr.ht i hil
        have cv := hI.vals i hil (d + k) (by omega)
        have ct := hI.tnts i hil (d + k) (by omega)
        have fz1 := hI.fv i hil (d + k)
        have fz2 := hI.ft i hil (d + k)
        have ne1 : y.bs i ≠ y.ts i := hI.dd i hil i hil
        have nr1 : y.rb ≠ y.bs i := fun e => hI.n0 (nbb _ (Or.inl e))
        have nu1 : y.ub ≠ y.bs i := fun e => hI.n3 (nbb _ (Or.inl e))
        have hput := hput _ hI'
        have hO2 := (hO'.setCell (o := d + k) (v := .int .u8 (bAt s k)) (nbb _ (Or.inl rfl))).setCell (o := d + k) (v := .bool t) (nbb _ (Or.inr rfl))
        have hbe := bAt_eq s k hlt
        have k0 : (0 : Int) ≤ (k : Int) := by omega
        have k1 : (k : Int) < (s.size : Int) := by omega
        go_wp2
        go_region
        all_goals go_wp2
        all_goals go_roundw
        case rel => exact ⟨k + 1, by omega, by go_num, hput, hO2⟩
        case measure => first | (simp [intOf]; done) | (simp [intOf]; omega)
      · obtain rfl : k = s.size := by omega
        go_wp2
        go_ret
        exact ⟨rfl, hI, hO⟩
end Go.Proofs.YtfaacmcnefbgcaaGreatDoor.m4

/- Contract of the document's New: what is laid while it goes on, plainly. -/
namespace Go.Proofs.YtfaacmcnefbgcaaGreatDoor.m4
open Go.ChangeShapes Go.WideShapes Go.ChangeAt Go.RowKit
set_option linter.unusedVariables false
/-- The slices of the first k regions. -/
def slL (l : List Rg) (bs : Nat → Nat) (k : Nat) : List Value := (List.range k).map fun i => Value.slice (some ⟨bs i, 0, none⟩) (rg l i).s (rg l i).s
theorem slL_length (l : List Rg) (bs : Nat → Nat) (k : Nat) : (slL l bs k).length = k := by simp [slL]
theorem slL_succ (l : List Rg) (bs : Nat → Nat) (k : Nat) : slL l bs (k + 1) = slL l bs k ++ [Value.slice (some ⟨bs k, 0, none⟩) (rg l k).s (rg l k).s] := by unfold slL; rw [List.range_succ, List.map_append]; rfl
theorem slL_at (l : List Rg) (bs : Nat → Nat) (k i : Nat) (h : i < k) : (slL l bs k)[i]? = some (Value.slice (some ⟨bs i, 0, none⟩) (rg l i).s (rg l i).s) := by simp [slL, h]
theorem slL_congr (l : List Rg) (bs bs' : Nat → Nat) (k : Nat) (h : ∀ i < k, bs' i = bs i) : slL l bs' k = slL l bs k := by
  unfold slL
  exact List.map_congr_left fun i hi => by rw [h i (List.mem_range.1 hi)]
def put1 (bs : Nat → Nat) (k b : Nat) (i : Nat) : Nat := if i = k then b else bs i
theorem put1_at (bs : Nat → Nat) (k b : Nat) : put1 bs k b k = b := if_pos rfl
theorem put1_lt (bs : Nat → Nat) (k b i : Nat) (h : i < k) : put1 bs k b i = bs i := if_neg (by omega)
/-- A row of rows, k of them laid. -/
structure RowI (l : List Rg) (M : Nat) (e f : TypeId) (z : Value) (bs : Nat → Nat) (k : Nat) (v : Value) (w : World) : Prop where
  own : w.ownsRow (M + 1) e 1 v k (slL l bs k)
  blk : ∀ i < k, w.heap[bs i]? = some (.cells (madeCells #[z] (rg l i).s) f (0, 0))
  up : ∀ i < k, M < bs i
  inc : ∀ i j, i < j → j < k → bs i < bs j
theorem RowI.lt {l : List Rg} {M : Nat} {e f : TypeId} {z : Value} {bs : Nat → Nat} {k : Nat} {v : Value} {w : World} (h : RowI l M e f z bs k v w) (i : Nat) (hi : i < k) : bs i < w.heap.size := (Array.getElem?_eq_some_iff.1 (h.blk i hi)).1
theorem RowI.of {l : List Rg} {M : Nat} {e f : TypeId} {z : Value} {bs : Nat → Nat} {k : Nat} {v : Value} {w w' : World} (h : RowI l M e f z bs k v w) (hb : Below w.heap.size w w') : RowI l M e f z bs k v w' :=
  ⟨own_of h.own hb, fun i hi => (hb.block _ (h.lt i hi)).trans (h.blk i hi), h.up, h.inc⟩
theorem RowI.set {l : List Rg} {M : Nat} {e f : TypeId} {z : Value} {bs : Nat → Nat} {k : Nat} {v : Value} {w : World} (h : RowI l M e f z bs k v w) (o : Nat) (u : Value) : RowI l M e f z bs k v (w.setCell ⟨M, o, none⟩ u) :=
  ⟨own_set h.own (by omega), fun i hi => by rw [Below.heap_setCell _ _ _ _ (by have := h.up i hi; simp only; omega)]; exact h.blk i hi, h.up, h.inc⟩
/-- Another row grew. -/
theorem RowI.grow {l : List Rg} {M : Nat} {e f e' : TypeId} {z : Value} {bs : Nat → Nat} {k n' : Nat} {v v' : Value} {xs : List Value} {w w' : World} (h : RowI l M e f z bs k v w) (hg : w.grownBy w' v'.ownBlock) (ho : w.ownsRow (M + 1) e' 1 v' n' xs) (hne : e ≠ e') (hnf : f ≠ e') : RowI l M e f z bs k v w' := by
  have no : ∀ j C t, w.heap[j]? = some (.cells C t (0, 0)) → t ≠ e' → some j ≠ v'.ownBlock := by
    intro j C t hj ht he
    rcases ho.2 with ⟨rfl, _⟩ | ⟨g, cap, cur, rfl, hgb, hh, _⟩
    · cases he
    · simp only [Value.ownBlock, Option.some.injEq] at he
      rw [he, hh] at hj
      injection hj with hj
      injection hj with _ h2 _
      exact ht h2.symm
  refine ⟨⟨h.own.1, ?_⟩, fun i hi => (hg.block _ (h.lt i hi) (no _ _ _ (h.blk i hi) hnf)).trans (h.blk i hi), h.up, h.inc⟩
  rcases h.own.2 with h0 | ⟨g, cap, cur, hv, hgb, hh, hr⟩
  · exact Or.inl h0
  · exact Or.inr ⟨g, cap, cur, hv, hgb, by rw [hg.block g (Array.getElem?_eq_some_iff.1 hh).1 (no _ _ _ hh hne)]; exact hh, hr⟩
/-- It grew itself. -/
theorem RowI.more {l : List Rg} {M : Nat} {e f : TypeId} {z : Value} {bs : Nat → Nat} {k : Nat} {v v' : Value} {w W w' : World} {r : Obj} (h : RowI l M e f z bs k v w) (hM : M < w.heap.size) (hW : W = (w.alloc (.cells (madeCells #[z] (rg l k).s) f)).alloc r) (hg : W.grownBy w' v.ownBlock) (hf : f ≠ e) (ho : w'.ownsRow (M + 1) e 1 v' (k + 1) (slL l bs k ++ [Value.slice (some ⟨w.heap.size, 0, none⟩) (rg l k).s (rg l k).s])) :
    RowI l M e f z (put1 bs k w.heap.size) (k + 1) v' w' := by
  have hBW : Below w.heap.size w W := by rw [hW]; exact aBelow (aBelow (Below.refl _ _) _) _
  have hn : W.heap[w.heap.size]? = some (.cells (madeCells #[z] (rg l k).s) f (0, 0)) := by
    rw [hW, Below.heap_alloc _ _ _ (by simp)]
    show (w.heap.push _)[w.heap.size]? = _
    simp
  have ow := own_of h.own hBW
  have no : ∀ j C t, W.heap[j]? = some (.cells C t (0, 0)) → t ≠ e → some j ≠ v.ownBlock := by
    intro j C t hj ht he
    rcases ow.2 with ⟨rfl, _⟩ | ⟨g, cap, cur, rfl, hgb, hh, _⟩
    · cases he
    · simp only [Value.ownBlock, Option.some.injEq] at he
      rw [he, hh] at hj
      injection hj with hj
      injection hj with _ h2 _
      exact ht h2.symm
  have keep : ∀ i < k, w'.heap[bs i]? = some (.cells (madeCells #[z] (rg l i).s) f (0, 0)) := fun i hi => by
    have h1 := (hBW.block _ (h.lt i hi)).trans (h.blk i hi)
    exact (hg.block _ (Nat.lt_of_lt_of_le (h.lt i hi) hBW.size) (no _ _ _ h1 hf)).trans h1
  refine ⟨by rw [slL_succ, put1_at, slL_congr l bs _ k (fun i hi => put1_lt _ _ _ _ hi)]; exact ho, fun i hi => ?_, fun i hi => ?_, fun i j hij hj => ?_⟩
  · rcases Nat.lt_or_ge i k with h1 | h1
    · rw [put1_lt _ _ _ _ h1]; exact keep i h1
    · obtain rfl : i = k := by omega
      rw [put1_at]
      exact (hg.block _ (Array.getElem?_eq_some_iff.1 hn).1 (no _ _ _ hn hf)).trans hn
  · rcases Nat.lt_or_ge i k with h1 | h1
    · rw [put1_lt _ _ _ _ h1]; exact h.up i h1
    · obtain rfl : i = k := by omega
      rw [put1_at]; exact hM
  · rcases Nat.lt_or_ge j k with h1 | h1
    · rw [put1_lt _ _ _ _ h1, put1_lt _ _ _ _ (by omega)]; exact h.inc i j hij h1
    · obtain rfl : j = k := by omega
      rw [put1_at, put1_lt _ _ _ _ hij]; exact h.lt i hij
theorem RowI.none (l : List Rg) (M : Nat) (e f : TypeId) (z : Value) (bs : Nat → Nat) (w : World) : RowI l M e f z bs 0 (.slice none 0 0) w :=
  ⟨World.ownsRow_nil _ _ _ _, fun i hi => by omega, fun i hi => by omega, fun i j _ hj => by omega⟩
theorem news1 (w : World) (o1 : Obj) (v : Value) (t : TypeId) : ∀ j u, [v][j]? = some u → ((w.drew.alloc o1).alloc (.cells #[v] t)).cell? ((⟨w.heap.size + 1, 0, none⟩ : Addr).add j) = some u := fun j u hu => by
  rw [addp, Nat.zero_add, cb' (w.drew.alloc o1) #[v] t _ _ (by simp)]
  simpa using hu
/-- The cells of the regions, in a row. -/
def rgL (l : List Rg) (i : Nat) : List Value := [.int .u64 (rg l i).f, .int .u64 (rg l i).s, .int .u8 (rg l i).k]
def rgsL (l : List Rg) (k : Nat) : List Value := (List.range k).flatMap (rgL l)
theorem rgsL_succ (l : List Rg) (k : Nat) : rgsL l (k + 1) = rgsL l k ++ rgL l k := by unfold rgsL; rw [List.range_succ, List.flatMap_append]; simp
theorem rgsL_length (l : List Rg) (k : Nat) : (rgsL l k).length = k * 3 := by
  induction k with
  | zero => rfl
  | succ k ih => rw [rgsL_succ, List.length_append, ih]; simp only [rgL, List.length_cons, List.length_nil]; omega
theorem rgsL_at (l : List Rg) : ∀ k i j, i < k → j < 3 → (rgsL l k)[i * 3 + j]? = (rgL l i)[j]?
  | 0, i, j, h, _ => by omega
  | k + 1, i, j, h, hj => by
    rw [rgsL_succ]
    by_cases e : i < k
    · rw [List.getElem?_append_left (by rw [rgsL_length]; omega)]
      exact rgsL_at l k i j e hj
    · obtain rfl : i = k := by omega
      rw [List.getElem?_append_right (by rw [rgsL_length]; omega), rgsL_length]
      congr 1
      omega
theorem rgsL_cells {l : List Rg} {w : World} {b o : Nat} (hr : rowAt w b o l) : ∀ j u, (rgsL l l.length)[j]? = some u → w.cell? ((⟨b, o, none⟩ : Addr).add j) = some u := fun j u hu => by
  have hj : j < l.length * 3 := by
    have := (List.getElem?_eq_some_iff.1 hu).1
    rw [rgsL_length] at this; exact this
  have e := rgsL_at l l.length (j / 3) (j % 3) (by omega) (Nat.mod_lt _ (by omega))
  rw [show j / 3 * 3 + j % 3 = j by omega, hu] at e
  obtain ⟨c0, c1, c2⟩ := hr (j / 3) (by omega)
  have hm : j % 3 = 0 ∨ j % 3 = 1 ∨ j % 3 = 2 := by omega
  rw [addp]
  rcases hm with h | h | h <;> rw [h] at e <;> simp [rgL] at e <;> subst e
  · rw [show o + j = o + j / 3 * 3 by omega]; exact c0
  · rw [show o + j = o + j / 3 * 3 + 1 by omega]; exact c1
  · rw [show o + j = o + j / 3 * 3 + 2 by omega]; exact c2
theorem rgsL_one (l : List Rg) (k : Nat) : ∀ u ∈ rgsL l k, u.oneCell' = true := by
  intro u hu
  obtain ⟨i, _, hu⟩ := List.mem_flatMap.1 hu
  simp only [rgL, List.mem_cons, List.not_mem_nil, or_false] at hu
  rcases hu with rfl | rfl | rfl <;> rfl
theorem infoR : (Tryz.prog.info? 102).map (fun i => (i.zero, i.size, i.bytes)) = some (some (.agg #[.int .u64 0, .int .u64 0, .int .u8 0]), 3, 24) := by kernel_rfl
theorem infoSB : (Tryz.prog.info? 65).map (fun i => (i.zero, i.size, i.bytes)) = some (some (.slice none 0 0), 1, 24) := by kernel_rfl
theorem infoST : (Tryz.prog.info? 98).map (fun i => (i.zero, i.size, i.bytes)) = some (some (.slice none 0 0), 1, 24) := by kernel_rfl
end Go.Proofs.YtfaacmcnefbgcaaGreatDoor.m4

/- Contract of the document's New. -/
namespace Go.Proofs.YtfaacmcnefbgcaaGreatDoor.m4
open Go.ChangeShapes Go.WideShapes Go.ChangeAt Go.RowKit
set_option linter.unusedVariables false
theorem own_grow {base base' size size' n n' : Nat} {e e' : TypeId} {v v' : Value} {xs xs' : List Value} {w w' : World} (h : w.ownsRow base e size v n xs) (hg : w.grownBy w' v'.ownBlock) (ho : w.ownsRow base' e' size' v' n' xs') (hne : e ≠ e') : w'.ownsRow base e size v n xs := by
  have no : ∀ j C t, w.heap[j]? = some (.cells C t (0, 0)) → t ≠ e' → some j ≠ v'.ownBlock := by
    intro j C t hj ht he
    rcases ho.2 with ⟨rfl, _⟩ | ⟨g, cap, cur, rfl, hgb, hh, _⟩
    · cases he
    · simp only [Value.ownBlock, Option.some.injEq] at he
      rw [he, hh] at hj
      injection hj with hj
      injection hj with _ h2 _
      exact ht h2.symm
  refine ⟨h.1, ?_⟩
  rcases h.2 with h0 | ⟨g, cap, cur, hv, hgb, hh, hr⟩
  · exact Or.inl h0
  · exact Or.inr ⟨g, cap, cur, hv, hgb, by rw [hg.block g (Array.getElem?_eq_some_iff.1 hh).1 (no _ _ _ hh hne)]; exact hh, hr⟩
theorem own_setne {w : World} {base size n b o : Nat} {e : TypeId} {v u : Value} {xs : List Value} (h : w.ownsRow base e size v n xs) (hb : some b ≠ v.ownBlock) : (w.setCell ⟨b, o, none⟩ u).ownsRow base e size v n xs := by
  refine ⟨h.1, ?_⟩
  rcases h.2 with h0 | ⟨g, cap, cur, hv, hg, hh, hr⟩
  · exact Or.inl h0
  · exact Or.inr ⟨g, cap, cur, hv, hg, by rw [Below.heap_setCell _ _ _ _ (by simp only; intro e; subst e; subst hv; exact hb rfl)]; exact hh, hr⟩
theorem row_mid {a b c : Value} (d : Value) {w : World} {k : Nat} (h : rowG #[a, b, c] w k) : rowG #[a, d, c] (w.setCell ⟨k, 1, none⟩ d) k := by
  have q1 : w.cell? ⟨k, 1, none⟩ = some b := h.1 1 (by simp)
  refine ⟨fun i hi => ?_, fun i => by rw [World.frozen?_setCell]; exact h.2.1 i, by rw [World.size_setCell]; exact h.2.2⟩
  rw [cell_set _ q1 i]
  have hi' : i < 3 := hi
  by_cases e : i = 1
  · subst e; rfl
  · rw [if_neg e, h.1 i hi]
    have : i = 0 ∨ i = 2 := by omega
    rcases this with rfl | rfl <;> rfl
theorem row_last {a b c : Value} (d : Value) {w : World} {k : Nat} (h : rowG #[a, b, c] w k) : rowG #[a, b, d] (w.setCell ⟨k, 2, none⟩ d) k := by
  have q1 : w.cell? ⟨k, 2, none⟩ = some c := h.1 2 (by simp)
  refine ⟨fun i hi => ?_, fun i => by rw [World.frozen?_setCell]; exact h.2.1 i, by rw [World.size_setCell]; exact h.2.2⟩
  rw [cell_set _ q1 i]
  have hi' : i < 3 := hi
  by_cases e : i = 2
  · subst e; rfl
  · rw [if_neg e, h.1 i hi]
    have : i = 0 ∨ i = 1 := by omega
    rcases this with rfl | rfl <;> rfl
/-- While it goes on. -/
structure NwI (l : List Rg) (M base : Nat) (w0 : World) (vL : Value) (bs ts : Nat → Nat) (kb kt : Nat) (vB vT : Value) (w : World) : Prop where
  bel : Below w0.heap.size w0 w
  row : rowG #[vL, vB, vT] w M
  ownL : w.ownsRow base 102 3 vL l.length (rgsL l l.length)
  gl : some M ≠ vL.ownBlock
  hM : w0.heap.size ≤ M
  hb : w0.heap.size ≤ base
  rB : RowI l M 65 5 (.int .u8 0) bs kb vB w
  rT : RowI l M 98 4 (.bool false) ts kt vT w
theorem NwI.of {l : List Rg} {M base : Nat} {w0 : World} {vL : Value} {bs ts : Nat → Nat} {kb kt : Nat} {vB vT : Value} {w w' : World} (h : NwI l M base w0 vL bs ts kb kt vB vT w) (b : Below w.heap.size w w') : NwI l M base w0 vL bs ts kb kt vB vT w' :=
  ⟨below_trans' h.bel (Nat.le_refl _) b, rowG_b h.row b, own_of h.ownL b, h.gl, h.hM, h.hb, h.rB.of b, h.rT.of b⟩
theorem NwI.stepB {l : List Rg} {M base : Nat} {w0 : World} {vL : Value} {bs ts : Nat → Nat} {kb kt : Nat} {vB vT v' : Value} {w W w5 : World} {r : Obj} (h0 : NwI l M base w0 vL bs ts kb kt vB vT w) (hW : W = (w.drew.alloc (.cells (madeCells #[.int .u8 0] (rg l kb).s) 5)).alloc r) (hg : W.grownBy w5 vB.ownBlock) (ho : w5.ownsRow (M + 1) 65 1 v' (kb + 1) (slL l bs kb ++ [Value.slice (some ⟨w.heap.size, 0, none⟩) (rg l kb).s (rg l kb).s])) :
    NwI l M base w0 vL (put1 bs kb w.heap.size) ts (kb + 1) kt v' vT (w5.setCell ⟨M, 1, none⟩ v') := by
  have h := h0.of (bd1 (Below.refl _ _))
  have hsz : w.drew.heap.size = w.heap.size := rfl
  have hBW : Below w.drew.heap.size w.drew W := by rw [hW]; exact aBelow (aBelow (Below.refl _ _) _) _
  have hX := h.of hBW
  have hMl : M < W.heap.size := hX.row.2.2
  have hMn : some M ≠ vB.ownBlock := own_ne hX.rB.own (by omega)
  have more := h.rB.more h.row.2.2 hW hg (by decide) ho
  have row5 : rowG #[vL, vB, vT] w5 M := rowG_blk hX.row (hg.block M hMl hMn) (Nat.lt_of_lt_of_le hMl hg.size)
  have bel5 : Below w0.heap.size w0 w5 := hX.bel.grown hg hX.bel.size (fun k hk => by
    rcases hX.rB.own.2 with ⟨e, _⟩ | ⟨g, cap, cur, e, hgb, _⟩
    · rw [e] at hk; cases hk
    · rw [e] at hk; simp [Value.ownBlock] at hk; have := h.hM; omega)
  exact ⟨bel5.setCell h.hM v', row_mid v' row5, own_setne (own_grow hX.ownL hg hX.rB.own (by decide)) h.gl, h.gl, h.hM, h.hb, more.set 1 v', (hX.rT.grow hg hX.rB.own (by decide) (by decide)).set 1 v'⟩
theorem NwI.stepT {l : List Rg} {M base : Nat} {w0 : World} {vL : Value} {bs ts : Nat → Nat} {kb kt : Nat} {vB vT v' : Value} {w W w5 : World} {r : Obj} (h0 : NwI l M base w0 vL bs ts kb kt vB vT w) (hW : W = (w.drew.alloc (.cells (madeCells #[.bool false] (rg l kt).s) 4)).alloc r) (hg : W.grownBy w5 vT.ownBlock) (ho : w5.ownsRow (M + 1) 98 1 v' (kt + 1) (slL l ts kt ++ [Value.slice (some ⟨w.heap.size, 0, none⟩) (rg l kt).s (rg l kt).s])) :
    NwI l M base w0 vL bs (put1 ts kt w.heap.size) kb (kt + 1) vB v' (w5.setCell ⟨M, 2, none⟩ v') := by
  have h := h0.of (bd1 (Below.refl _ _))
  have hsz : w.drew.heap.size = w.heap.size := rfl
  have hBW : Below w.drew.heap.size w.drew W := by rw [hW]; exact aBelow (aBelow (Below.refl _ _) _) _
  have hX := h.of hBW
  have hMl : M < W.heap.size := hX.row.2.2
  have hMn : some M ≠ vT.ownBlock := own_ne hX.rT.own (by omega)
  have more := h.rT.more h.row.2.2 hW hg (by decide) ho
  have row5 : rowG #[vL, vB, vT] w5 M := rowG_blk hX.row (hg.block M hMl hMn) (Nat.lt_of_lt_of_le hMl hg.size)
  have bel5 : Below w0.heap.size w0 w5 := hX.bel.grown hg hX.bel.size (fun k hk => by
    rcases hX.rT.own.2 with ⟨e, _⟩ | ⟨g, cap, cur, e, hgb, _⟩
    · rw [e] at hk; cases hk
    · rw [e] at hk; simp [Value.ownBlock] at hk; have := h.hM; omega)
  exact ⟨bel5.setCell h.hM v', row_last v' row5, own_setne (own_grow hX.ownL hg hX.rT.own (by decide)) h.gl, h.gl, h.hM, h.hb, (hX.rB.grow hg hX.rT.own (by decide) (by decide)).set 2 v', more.set 2 v'⟩
/-- What lies at M while the row grows. -/
theorem NwI.at5 {l : List Rg} {M base : Nat} {w0 : World} {vL : Value} {bs ts : Nat → Nat} {kb kt : Nat} {vB vT v : Value} {w W w5 : World} {e : TypeId} {n : Nat} {xs : List Value} (h0 : NwI l M base w0 vL bs ts kb kt vB vT w) (hb : Below w.heap.size w W) (ho : W.ownsRow (M + 1) e 1 v n xs) (hg : W.grownBy w5 v.ownBlock) : w5.cell? ⟨M, 1, none⟩ = some vB ∧ w5.cell? ⟨M, 2, none⟩ = some vT ∧ w5.frozen? ⟨M, 1, none⟩ = false ∧ w5.frozen? ⟨M, 2, none⟩ = false := by
  have hX := h0.of hb
  have hMl : M < W.heap.size := hX.row.2.2
  have row5 : rowG #[vL, vB, vT] w5 M := rowG_blk hX.row (hg.block M hMl (own_ne ho (by omega))) (Nat.lt_of_lt_of_le hMl hg.size)
  exact ⟨row5.1 1 (by simp), row5.1 2 (by simp), row5.2.1 1, row5.2.1 2⟩
end Go.Proofs.YtfaacmcnefbgcaaGreatDoor.m4

/- Contract of the document's New: the walk. -/
namespace Go.Proofs.YtfaacmcnefbgcaaGreatDoor.m4
open Go.ChangeShapes Go.WideShapes Go.ChangeAt Go.RowKit
set_option linter.unusedVariables false
/-- A new memory of the document's. -/
def RnW (l : List Rg) (w0 : World) (e : Ending) (w' : World) : Prop := (∃ y : Mr, e = .returned (.tuple #[.pointer (some ⟨y.rb, 0, none⟩), .int .i64 0]) ∧ y.l = l ∧ IsR w' y (fun _ => 0) (fun _ => false) ∧ w0.heap.size ≤ y.rb ∧ w0.heap.size ≤ y.lb ∧ w0.heap.size ≤ y.bb ∧ w0.heap.size ≤ y.ub ∧ ∀ j, y.bl j → w0.heap.size ≤ j) ∧ Below w0.heap.size w0 w'
theorem own_blk {w : World} {base size n g cap : Nat} {e : TypeId} {xs : List Value} (h : w.ownsRow base e size (.slice (some ⟨g, 0, none⟩) n cap) n xs) : ∃ cur, w.heap[g]? = some (.cells cur e (0, 0)) := by
  rcases h.2 with ⟨h0, _⟩ | ⟨g', cap', cur, hv, hgb, hh, hr⟩
  · cases h0
  · simp only [Value.slice.injEq, Option.some.injEq, Addr.mk.injEq] at hv
    obtain ⟨⟨rfl, _⟩, _⟩ := hv
    exact ⟨cur, hh⟩
theorem ty_ne {w : World} {i j : Nat} {C D : Array Value} {s t : TypeId} (h1 : w.heap[i]? = some (.cells C s (0, 0))) (h2 : w.heap[j]? = some (.cells D t (0, 0))) (h : s ≠ t) : i ≠ j := by
  intro e; subst e
  rw [h1] at h2
  injection h2 with h2
  injection h2 with _ h3 _
  exact h h3
theorem NwI.done {l : List Rg} (hl : MayL l) (hf : wfL l) {M base gL cL : Nat} {w0 : World} {bs ts : Nat → Nat} {vB vT : Value} {w : World} (h : NwI l M base w0 (.slice (some ⟨gL, 0, none⟩) l.length cL) bs ts l.length l.length vB vT w) :
    RnW l w0 (.returned (.tuple #[.pointer (some ⟨M, 0, none⟩), .int .i64 0])) w := by
  have hn : 0 < l.length := hl.2.1
  obtain ⟨gB, cB, rfl, hgB, hgBl⟩ := h.rB.own.form hn
  obtain ⟨gT, cT, rfl, hgT, hgTl⟩ := h.rT.own.form hn
  obtain ⟨CB, hCB⟩ := own_blk h.rB.own
  obtain ⟨CT, hCT⟩ := own_blk h.rT.own
  obtain ⟨CL, hCL⟩ := own_blk h.ownL
  have hgL : base ≤ gL := by
    rcases h.ownL.2 with ⟨h0, _⟩ | ⟨g', cap', cur, hv, hgb, hh, hr⟩
    · cases h0
    · simp only [Value.slice.injEq, Option.some.injEq, Addr.mk.injEq] at hv
      obtain ⟨⟨rfl, _⟩, _⟩ := hv
      exact hgb
  have hM := h.hM
  have hb := h.hb
  have inj : ∀ {f : Nat → Nat}, (∀ i j, i < j → j < l.length → f i < f j) → ∀ i < l.length, ∀ j < l.length, f i = f j → i = j := by
    intro f hm i hi j hj e
    rcases Nat.lt_trichotomy i j with h | h | h
    · have := hm i j h hj; omega
    · exact h
    · have := hm j i h hi; omega
  have cB' : ∀ i < l.length, w.cell? ⟨gB, i, none⟩ = some (.slice (some ⟨bs i, 0, none⟩) (rg l i).s (rg l i).s) := fun i hi => by
    have := h.rB.own.cells (g := gB) rfl i _ (slL_at l bs _ i hi)
    rw [addp, Nat.zero_add] at this; exact this
  have cT' : ∀ i < l.length, w.cell? ⟨gT, i, none⟩ = some (.slice (some ⟨ts i, 0, none⟩) (rg l i).s (rg l i).s) := fun i hi => by
    have := h.rT.own.cells (g := gT) rfl i _ (slL_at l ts _ i hi)
    rw [addp, Nat.zero_add] at this; exact this
  have cL' : rowAt w gL 0 l := fun i hi => by
    have key : ∀ j < 3, ∀ u, (rgL l i)[j]? = some u → w.cell? ⟨gL, i * 3 + j, none⟩ = some u := fun j hj u hu => by
      have := h.ownL.cells (g := gL) rfl (i * 3 + j) u (by rw [rgsL_at l _ i j hi hj]; exact hu)
      rw [addp, Nat.zero_add] at this; exact this
    unfold regAt
    rw [Nat.zero_add]
    exact ⟨key 0 (by omega) _ rfl, key 1 (by omega) _ rfl, key 2 (by omega) _ rfl⟩
  have nbl : ∀ g C t, w.heap[g]? = some (.cells C t (0, 0)) → t ≠ 5 → t ≠ 4 → ∀ i < l.length, g ≠ bs i ∧ g ≠ ts i := fun g C t hg h1 h2 i hi => ⟨ty_ne hg (h.rB.blk i hi) h1, ty_ne hg (h.rT.blk i hi) h2⟩
  refine ⟨⟨⟨M, gL, gB, gT, cL, cB, cT, bs, ts, l⟩, rfl, rfl, ?_, hM, by simp only; omega, by simp only; omega, by simp only; omega, ?_⟩, h.bel⟩
  · exact {
      rr := ⟨h.row.1 0 (by simp), h.row.1 1 (by simp), h.row.1 2 (by simp), cL', cB', cT'⟩
      vals := fun i hi o ho => made_cell (h.rB.blk i hi) ho
      tnts := fun i hi o ho => made_cell (h.rT.blk i hi) ho
      fv := fun i hi o => made_frozen (h.rB.blk i hi) o
      ft := fun i hi o => made_frozen (h.rT.blk i hi) o
      lv := fun i hi => h.rB.lt i hi
      lt := fun i hi => h.rT.lt i hi
      dd := fun i hi j hj => ty_ne (h.rB.blk i hi) (h.rT.blk j hj) (by decide)
      db := inj h.rB.inc
      dt := inj h.rT.inc
      n0 := by rintro ⟨i, hi, e | e⟩; (have := h.rB.up i hi; simp only at e; omega); (have := h.rT.up i hi; simp only at e; omega)
      n1 := by rintro ⟨i, hi, e | e⟩; exact (nbl gL CL _ hCL (by decide) (by decide) i hi).1 e; exact (nbl gL CL _ hCL (by decide) (by decide) i hi).2 e
      n2 := by rintro ⟨i, hi, e | e⟩; exact (nbl gB CB _ hCB (by decide) (by decide) i hi).1 e; exact (nbl gB CB _ hCB (by decide) (by decide) i hi).2 e
      n3 := by rintro ⟨i, hi, e | e⟩; exact (nbl gT CT _ hCT (by decide) (by decide) i hi).1 e; exact (nbl gT CT _ hCT (by decide) (by decide) i hi).2 e
      may := hl
      wf := hf
      b8 := fun _ => by decide }
  · rintro j ⟨i, hi, e | e⟩
    · have := h.rB.up i hi; simp only at e; omega
    · have := h.rT.up i hi; simp only at e; omega
set_option maxHeartbeats 4000000 in
set_option maxRecDepth 100000 in
theorem rnew_yes (l : List Rg) (hl : MayL l) (hf : wfL l) (b o c : Nat) (w0 : World) (hr : rowAt w0 b o l) (hb : b < w0.heap.size) :
    Calls Tryz.prog 22 #[.slice (some ⟨b, o, none⟩) l.length c] w0 (RnW l w0) := by
  have hl16 := hl.2.2
  have hl1 := hl.2.1
  have hM := (may_any l hf b o c (by omega) w0 hr hb).mono (R' := fun e w' => e = .returned (.bool true) ∧ Below w0.heap.size w0 w') fun e w' ⟨⟨r, he, hr⟩, hb⟩ => ⟨by rw [he, hr.2 hl], hb⟩
  obtain ⟨iR, hiR, zR0, zR1, zR2⟩ := info_parts infoR
  obtain ⟨iB, hiB, zB0, zB1, zB2⟩ := info_parts infoSB
  obtain ⟨iT, hiT, zT0, zT1, zT2⟩ := info_parts infoST
  go_enter Tryz.func22, Tryz.ntmps22
  go_wp2_with (first | (go_at_call 49; (with_reducible refine hM.mono ?_); (rintro e w1 ⟨rfl, hb1⟩)) | (at_builtin; refine wpList_append_lies _ rfl _ _ 58 rfl w1.heap.size 102 iR (.agg #[.int .u64 0, .int .u64 0, .int .u8 0]) 3 24 Tryz.underlying58 hiR zR0 zR1 zR2 rfl (by decide) (.slice none 0 0) 0 [] rfl (World.ownsRow_nil _ _ _ _) ⟨b, o, none⟩ l.length c (rgsL l l.length) rfl (by rw [rgsL_length]) ?qc1 (rgsL_one _ _) (by omega) (by unfold maxLen; omega) (by omega) (Nat.le_refl _) _ rfl ?_))
  case qc1 => exact rgsL_cells (hr.of hb1)
  intro gL cL w2 hownL hgrL hatL hltL
  have hownL : w2.ownsRow w1.heap.size 102 3 (.slice (some ⟨gL, 0, none⟩) l.length cL) l.length (rgsL l l.length) := by simpa using hownL
  have hB2 : Below w0.heap.size w0 w2 := hb1.grown hgrL hb1.size (fun k hk => by simp [Value.ownBlock] at hk)
  obtain ⟨M, hMe⟩ : ∃ M, w2.heap.size = M := ⟨_, rfl⟩
  have hgl : some M ≠ (Value.slice (some ⟨gL, 0, none⟩) l.length cL).ownBlock := by
    intro e
    simp only [Value.ownBlock, Option.some.injEq] at e
    omega
  obtain ⟨w3, hw3⟩ : ∃ w3, w2.alloc (.cells #[.slice (some ⟨gL, 0, none⟩) l.length cL, .slice none 0 0, .slice none 0 0] 106) = w3 := ⟨_, rfl⟩
  have hB3 : Below w2.heap.size w2 w3 := by rw [← hw3]; exact aBelow (Below.refl _ _) _
  have hN3 : NwI l M w1.heap.size w0 (.slice (some ⟨gL, 0, none⟩) l.length cL) (fun _ => 0) (fun _ => 0) 0 0 (.slice none 0 0) (.slice none 0 0) w3 :=
    ⟨below_trans' hB2 (Nat.le_refl _) hB3, by rw [← hw3, ← hMe]; exact rowG_new _ _ _, own_of hownL hB3, hgl, by rw [← hMe]; exact hB2.size, hb1.size, RowI.none _ _ _ _ _ _ _, RowI.none _ _ _ _ _ _ _⟩
  clear hownL hgrL hatL hltL hgl hB2
  go_wp2
  try rw [hw3]
  try simp only [hMe]
  generalize hvL : Value.slice (some ⟨gL, 0, none⟩) l.length cL = vL at *
  go_loopw [5] (fun i wr => ∃ (k : Nat) (vB vT : Value) (bs ts : Nat → Nat), i = .int .i64 k ∧ k ≤ l.length ∧ NwI l M w1.heap.size w0 vL bs ts k k vB vT wr) (fun i _ => l.length - (intOf i).toNat)
  case atStart => exact ⟨0, _, _, _, _, rfl, Nat.zero_le _, hN3⟩
  case round =>
    obtain ⟨k, vB, vT, bs, ts, rfl, hk, hN⟩ := hrel
    by_cases hlt : k < l.length
    · obtain ⟨⟨⟨g1, g2, g3, g4⟩, g5⟩, _⟩ := hl.1 k hlt
      obtain ⟨c0, c1, c2⟩ := hr k hlt
      have c1 := stay hN.bel c1
      have hMl := hN.row.2.2
      have d0 : wr.cell? ⟨M, 1, none⟩ = some vB := hN.row.1 1 (by simp)
      have k0 : (0 : Int) ≤ (k : Int) := by omega
      have k1 : (k : Int) < (l.length : Int) := by omega
      have hBW : Below wr.heap.size wr ((wr.alloc (.cells (madeCells #[.int .u8 0] (rg l k).s) 5)).alloc (.cells #[.slice (some ⟨wr.heap.size, 0, none⟩) (rg l k).s (rg l k).s] 65)).drew := bd1 (aBelow (aBelow (Below.refl _ _) _) _)
      have owB := own_of hN.rB.own hBW
      have nB : ∀ j u, [Value.slice (some ⟨wr.heap.size, 0, none⟩) (rg l k).s (rg l k).s][j]? = some u → ((wr.alloc (.cells (madeCells #[.int .u8 0] (rg l k).s) 5)).alloc (.cells #[.slice (some ⟨wr.heap.size, 0, none⟩) (rg l k).s (rg l k).s] 65)).drew.cell? ((⟨wr.heap.size + 1, 0, none⟩ : Addr).add j) = some u := news1 wr _ _ _
      have hm1 := run_make_row' (P := Tryz.prog) 65 5 (.int .u8 0) 1 Tryz.underlying65 info8 rfl .i64 .i64 (rg l k).s (by omega) (by omega)
      have hm2 := run_make_row' (P := Tryz.prog) 98 4 (.bool false) 1 Tryz.underlying98 infoB rfl .i64 .i64 (rg l k).s (by omega) (by omega)
      have hwr : IntKind.i64.wrap ((rg l k).s : Int) = ((rg l k).s : Int) := by rw [IntKind.wrap_i64]; omega
      go_wp2
      go_region_law (refine step_append_lies _ rfl (.tmp 23) (.tmp 31) 103 rfl (M + 1) 65 iB _ 1 24 Tryz.underlying103 hiB zB0 zB1 zB2 rfl (by decide) vB k (slL l bs k) rfl owB ⟨wr.heap.size + 1, 0, none⟩ 1 1 [.slice (some ⟨wr.heap.size, 0, none⟩) (rg l k).s (rg l k).s] rfl rfl nB (by intro u hu; simp at hu; subst hu; rfl) (by decide) (by unfold maxLen; omega) (by omega) (by simp only [World.size_alloc, World.size_drew]; omega) _ rfl ?_; intro g cap w5 hown5 hgrow hat hlt5; obtain ⟨q1, q2, q3, q4⟩ := hN.at5 hBW owB hgrow)
      all_goals (
        have hN5 := hN.stepB (W := ((wr.alloc (.cells (madeCells #[.int .u8 0] (rg l k).s) 5)).alloc (.cells #[.slice (some ⟨wr.heap.size, 0, none⟩) (rg l k).s (rg l k).s] 65)).drew) rfl hgrow hown5
        obtain ⟨w6, hw6⟩ : ∃ w6, w5.setCell ⟨M, 1, none⟩ (.slice (some ⟨g, 0, none⟩) (k + 1) cap) = w6 := ⟨_, rfl⟩
        rw [hw6] at hN5
        try rw [hw6]
        clear hw6 q1 q2 q3 q4 hgrow hat hlt5 hown5 owB nB d0 c1 hBW
        generalize put1 bs k wr.heap.size = bs' at hN5
        obtain ⟨c0, c1, c2⟩ := hr k hlt
        have c1 := stay hN5.bel c1
        have hMl := hN5.row.2.2
        have d0 : w6.cell? ⟨M, 2, none⟩ = some vT := hN5.row.1 2 (by simp)
        have hBW : Below w6.heap.size w6 ((w6.alloc (.cells (madeCells #[.bool false] (rg l k).s) 4)).alloc (.cells #[.slice (some ⟨w6.heap.size, 0, none⟩) (rg l k).s (rg l k).s] 98)).drew := bd1 (aBelow (aBelow (Below.refl _ _) _) _)
        have owT := own_of hN5.rT.own hBW
        have nT : ∀ j u, [Value.slice (some ⟨w6.heap.size, 0, none⟩) (rg l k).s (rg l k).s][j]? = some u → ((w6.alloc (.cells (madeCells #[.bool false] (rg l k).s) 4)).alloc (.cells #[.slice (some ⟨w6.heap.size, 0, none⟩) (rg l k).s (rg l k).s] 98)).drew.cell? ((⟨w6.heap.size + 1, 0, none⟩ : Addr).add j) = some u := news1 w6 _ _ _
        go_wp2
        go_region_law (refine step_append_lies _ rfl (.tmp 39) (.tmp 47) 104 rfl (M + 1) 98 iT _ 1 24 Tryz.underlying104 hiT zT0 zT1 zT2 rfl (by decide) vT k (slL l ts k) rfl owT ⟨w6.heap.size + 1, 0, none⟩ 1 1 [.slice (some ⟨w6.heap.size, 0, none⟩) (rg l k).s (rg l k).s] rfl rfl nT (by intro u hu; simp at hu; subst hu; rfl) (by decide) (by unfold maxLen; omega) (by omega) (by simp only [World.size_alloc, World.size_drew]; omega) _ rfl ?_; intro g' cap' w7 hown7 hgrow hat hlt5; obtain ⟨q1, q2, q3, q4⟩ := hN5.at5 hBW owT hgrow)
        all_goals (
          have hN7 := hN5.stepT (W := ((w6.alloc (.cells (madeCells #[.bool false] (rg l k).s) 4)).alloc (.cells #[.slice (some ⟨w6.heap.size, 0, none⟩) (rg l k).s (rg l k).s] 98)).drew) rfl hgrow hown7
          go_wp2
          go_roundw
          case rel => exact ⟨k + 1, _, _, _, _, by go_num, by omega, hN7⟩
          case measure => first | (simp [intOf]; done) | (simp [intOf]; omega)))
    · obtain rfl : k = l.length := by omega
      subst hvL
      have hD := hN.done hl hf
      go_wp2
      go_ret2
      exact hD
end Go.Proofs.YtfaacmcnefbgcaaGreatDoor.m4
