/- Contract of the law's does: a step, of a memory and of the document's. -/
import Derived.Test.YtkcgnpcfdfkpjaaTw
import Derived.Test.YtkcgnpcfdfkpjaaIo
import Derived.Deep.RegionHeld3
namespace Go.Proofs.Ytkcgnpcfdfkpjaa
open Go.ChangeShapes Go.WideShapes Go.ChangeAt Go.RowKit
set_option linter.unusedVariables false
/-- What a step leaves. -/
def DoP (x : Mm) (y : Mr) (B : Nat) (w : World) (e : Ending) (w' : World) : Prop := ∃ bu tu, e = .returned (.bool true) ∧ Two w' x y B bu tu ∧ Below B w w'
theorem k_rload {l : List Rg} {y : Mr} (hyl : y.l = l) {bv : Nat → Nat} {tv : Nat → Bool} {p : Nat} {n : Int} (hp : p < 18446744073709551616) {a : Nat} {b : Bool} {e0 : Int} (h : ldF l bv tv p n = (a, b, e0)) (w : World) (hI : IsR w y bv tv) :
    Calls Try.prog 24 #[.pointer (some ⟨y.rb, 0, none⟩), .int .u64 p, .int .i64 n] w fun e w' => e = .returned (.tuple #[.int .u64 a, .bool b, .int .i64 e0]) ∧ Below w.heap.size w w' := by
  have := rload_any p n hp w hI
  rw [hyl, h] at this
  exact this
theorem k_mload {l : List Rg} {x : Mm} (hxl : x.l = l) {bv : Nat → Nat} {tv : Nat → Bool} {p : Nat} {n : Int} (hp : p < 18446744073709551616) {a : Nat} {b : Bool} {e0 : Int} (h : ldF l bv tv p n = (a, b, e0)) (w : World) (hI : IsM w x bv tv) :
    Calls Try.prog 16 #[.pointer (some ⟨x.mb, 0, none⟩), .int .u64 p, .int .i64 n] w fun e w' => e = .returned (.tuple #[.int .u64 a, .bool b, .int .i64 e0]) ∧ Below w.heap.size w w' := by
  have := load_any p n hp w hI
  rw [hxl, h] at this
  exact this
theorem k_rfetch {l : List Rg} {y : Mr} (hyl : y.l = l) {bv : Nat → Nat} {tv : Nat → Bool} {p : Nat} (hp : p < 18446744073709551616) {a : Nat} {e0 : Int} (h : feF l bv p = (a, e0)) (w : World) (hI : IsR w y bv tv) :
    Calls Try.prog 26 #[.pointer (some ⟨y.rb, 0, none⟩), .int .u64 p] w fun e w' => e = .returned (.tuple #[.int .u32 a, .int .i64 e0]) ∧ Below w.heap.size w w' := by
  have := rfetch_any p hp w hI
  rw [hyl, h] at this
  exact this
theorem k_mfetch {l : List Rg} {x : Mm} (hxl : x.l = l) {bv : Nat → Nat} {tv : Nat → Bool} {p : Nat} (hp : p < 18446744073709551616) {a : Nat} {e0 : Int} (h : feF l bv p = (a, e0)) (w : World) (hI : IsM w x bv tv) :
    Calls Try.prog 18 #[.pointer (some ⟨x.mb, 0, none⟩), .int .u64 p] w fun e w' => e = .returned (.tuple #[.int .u32 a, .int .i64 e0]) ∧ Below w.heap.size w w' := by
  have := fetch_any p hp w hI
  rw [hxl, h] at this
  exact this
set_option maxRecDepth 100000 in
set_option maxHeartbeats 4000000 in
theorem does_read {x : Mm} {y : Mr} {B : Nat} {bv : Nat → Nat} {tv : Nat → Bool} (s : St) (hs : s.wf) (hd : s.d = 0 ∨ s.d = 2) (w : World) (h : Two w x y B bv tv) :
    Calls Try.prog 12 #[.pointer (some ⟨x.mb, 0, none⟩), .pointer (some ⟨y.rb, 0, none⟩), .agg #[.int .i64 s.d, .int .u64 s.a, .int .i64 s.n, .int .u64 s.v, .string s.s, .bool s.t]] w (DoP x y B w) := by
  obtain ⟨u0, u1, u2, u3, u4⟩ := hs
  have fin : ∀ w', Below w.heap.size w w' → DoP x y B w (.returned (.bool true)) w' := fun w' hb => ⟨bv, tv, rfl, h.of hb, hb.mono h.v4⟩
  have hB0 : Below w.heap.size w (w.alloc (.cells #[.int .i64 s.d, .int .u64 s.a, .int .i64 s.n, .int .u64 s.v, .string s.s, .bool s.t] 39)) := aBelow (Below.refl _ _) _
  have hI := h.m.of hB0
  have hJ := h.r.of hB0
  have c1 : (w.alloc (.cells #[.int .i64 s.d, .int .u64 s.a, .int .i64 s.n, .int .u64 s.v, .string s.s, .bool s.t] 39)).cell? ⟨w.heap.size, 1, none⟩ = some (.int .u64 s.a) := nwc _ _ _ _
  have c2 : (w.alloc (.cells #[.int .i64 s.d, .int .u64 s.a, .int .i64 s.n, .int .u64 s.v, .string s.s, .bool s.t] 39)).cell? ⟨w.heap.size, 2, none⟩ = some (.int .i64 s.n) := nwc _ _ _ _
  rcases hd with hd | hd
  · obtain ⟨⟨a0, b0, e0⟩, h0⟩ : ∃ r, ldF x.l bv tv s.a s.n = r := ⟨_, rfl⟩
    have L0 := k_mload (x := x) rfl u1 h0
    have L1 := k_rload (y := y) h.l u1 h0
    rw [hd] at hB0 hI hJ c1 c2 ⊢
    clear h0
    go_enter Try.func12, Try.ntmps12
    go_wp2_with (first
      | (go_at_call 16; (with_reducible refine (L0 _ hI).mono ?_); (rintro e w1 ⟨rfl, hb1⟩); have hJ := hJ.of hb1; have c1 := stay hb1 c1; have c2 := stay hb1 c2; have hB0 := below_trans' hB0 (Nat.le_refl _) hb1)
      | (go_at_call 24; (with_reducible refine (L1 _ hJ).mono ?_); (rintro e w2 ⟨rfl, hb2⟩); have hB0 := below_trans' hB0 (Nat.le_refl _) hb2))
    go_ret
    exact fin _ hB0
  · obtain ⟨⟨a0, e0⟩, h0⟩ : ∃ r, feF x.l bv s.a = r := ⟨_, rfl⟩
    have L0 := k_mfetch (x := x) (tv := tv) rfl u1 h0
    have L1 := k_rfetch (y := y) (tv := tv) h.l u1 h0
    rw [hd] at hB0 hI hJ c1 c2 ⊢
    clear h0
    go_enter Try.func12, Try.ntmps12
    go_wp2_with (first
      | (go_at_call 18; (with_reducible refine (L0 _ hI).mono ?_); (rintro e w1 ⟨rfl, hb1⟩); have hJ := hJ.of hb1; have c1 := stay hb1 c1; have c2 := stay hb1 c2; have hB0 := below_trans' hB0 (Nat.le_refl _) hb1)
      | (go_at_call 26; (with_reducible refine (L1 _ hJ).mono ?_); (rintro e w2 ⟨rfl, hb2⟩); have hB0 := below_trans' hB0 (Nat.le_refl _) hb2))
    go_ret
    exact fin _ hB0
set_option maxRecDepth 100000 in
set_option maxHeartbeats 4000000 in
theorem does_write {x : Mm} {y : Mr} {B : Nat} {bv : Nat → Nat} {tv : Nat → Bool} (s : St) (hs : s.wf) (hz : s.s.size ≤ 140737488355328) (hd : s.d = 1 ∨ s.d = 3) (w : World) (h : Two w x y B bv tv) :
    Calls Try.prog 12 #[.pointer (some ⟨x.mb, 0, none⟩), .pointer (some ⟨y.rb, 0, none⟩), .agg #[.int .i64 s.d, .int .u64 s.a, .int .i64 s.n, .int .u64 s.v, .string s.s, .bool s.t]] w (DoP x y B w) := by
  obtain ⟨u0, u1, u2, u3, u4⟩ := hs
  obtain ⟨sb, hsb⟩ : ∃ b, w.heap.size = b := ⟨_, rfl⟩
  rcases hd with hd | hd
  · obtain ⟨w1, hw1⟩ : ∃ w1, w.alloc (.cells #[.int .i64 1, .int .u64 s.a, .int .i64 s.n, .int .u64 s.v, .string s.s, .bool s.t] 39) = w1 := ⟨_, rfl⟩
    have hB0 : Below w.heap.size w w1 := by rw [← hw1]; exact aBelow (Below.refl _ _) _
    have c0 : w1.cell? ⟨sb, 0, none⟩ = some (.int .i64 1) := by rw [← hw1, ← hsb]; exact nwc _ _ _ _
    have c1 : w1.cell? ⟨sb, 1, none⟩ = some (.int .u64 s.a) := by rw [← hw1, ← hsb]; exact nwc _ _ _ _
    have c2 : w1.cell? ⟨sb, 2, none⟩ = some (.int .i64 s.n) := by rw [← hw1, ← hsb]; exact nwc _ _ _ _
    have c3 : w1.cell? ⟨sb, 3, none⟩ = some (.int .u64 s.v) := by rw [← hw1, ← hsb]; exact nwc _ _ _ _
    have c5 : w1.cell? ⟨sb, 5, none⟩ = some (.bool s.t) := by rw [← hw1, ← hsb]; exact nwc _ _ _ _
    have hnS := h.new
    rw [hsb] at hnS
    have nM : ¬ (sb = x.vb ∨ sb = x.tb) := fun e => hnS (Or.inl e)
    have nR : ¬ y.bl sb := fun e => hnS (Or.inr e)
    have h1 := h.of (hB0.trans (bd1 (Below.refl _ _)))
    have hI := h1.m
    have hJ := h1.r
    have cM := fun w' hw => store_any (x := x) (bv := bv) (tv := tv) s.a s.n s.v s.t u1 u3 w' hw
    have cR := fun w' hw => rstore_any (y := y) (bv := bv) (tv := tv) s.a s.n s.v s.t u1 u3 w' hw
    rw [h.l] at cR
    have hO : Only (Two.S x y) w w1.drew := only_below (hB0.trans (bd1 (Below.refl _ _)))
    have d1 : w1.drew.cell? ⟨sb, 1, none⟩ = some (.int .u64 s.a) := c1
    have d2 : w1.drew.cell? ⟨sb, 2, none⟩ = some (.int .i64 s.n) := c2
    have d3 : w1.drew.cell? ⟨sb, 3, none⟩ = some (.int .u64 s.v) := c3
    have d5 : w1.drew.cell? ⟨sb, 5, none⟩ = some (.bool s.t) := c5
    generalize hse : stE x.l s.a s.n = se at *
    rw [hd]
    go_enter Try.func12, Try.ntmps12
    go_wp2
    try rw [hsb]
    try rw [hw1]
    try simp only [hsb]
    go_region_held3 (fun w' => w'.cell? ⟨sb, 1, none⟩ = some (.int .u64 s.a) ∧ w'.cell? ⟨sb, 2, none⟩ = some (.int .i64 s.n) ∧ w'.cell? ⟨sb, 3, none⟩ = some (.int .u64 s.v) ∧ w'.cell? ⟨sb, 5, none⟩ = some (.bool s.t)) (exact ⟨d1, d2, d3, d5⟩) (first | (go_at_call 15; (refine (cM _ hI).mono ?_); (rintro e w5 ⟨rfl, hI, ho5⟩); have hJ := h.keepR hJ ho5; have hO := hO.trans (ho5.mono (fun j hj => Or.inl hj)); have d1 := ho5.cell nM d1; have d2 := ho5.cell nM d2; have d3 := ho5.cell nM d3; have d5 := ho5.cell nM d5) | (go_at_call 25; (refine (cR _ hJ).mono ?_); (rintro e w6 ⟨rfl, hJ, ho6⟩); have hI := h.keepM hI ho6; have hO := hO.trans (ho6.mono (fun j hj => Or.inr hj)); have d1 := ho6.cell nR d1; have d2 := ho6.cell nR d2; have d3 := ho6.cell nR d3; have d5 := ho6.cell nR d5))
    all_goals go_wp2
    all_goals go_ret
    all_goals (obtain ⟨t1, t2⟩ := h.both hI hJ hO; exact ⟨_, _, rfl, t1, t2⟩)
  · obtain ⟨w1, hw1⟩ : ∃ w1, w.alloc (.cells #[.int .i64 3, .int .u64 s.a, .int .i64 s.n, .int .u64 s.v, .string s.s, .bool s.t] 39) = w1 := ⟨_, rfl⟩
    have hB0 : Below w.heap.size w w1 := by rw [← hw1]; exact aBelow (Below.refl _ _) _
    have c0 : w1.cell? ⟨sb, 0, none⟩ = some (.int .i64 3) := by rw [← hw1, ← hsb]; exact nwc _ _ _ _
    have c1 : w1.cell? ⟨sb, 1, none⟩ = some (.int .u64 s.a) := by rw [← hw1, ← hsb]; exact nwc _ _ _ _
    have c4 : w1.cell? ⟨sb, 4, none⟩ = some (.string s.s) := by rw [← hw1, ← hsb]; exact nwc _ _ _ _
    have c5 : w1.cell? ⟨sb, 5, none⟩ = some (.bool s.t) := by rw [← hw1, ← hsb]; exact nwc _ _ _ _
    have hnS := h.new
    rw [hsb] at hnS
    have nM : ¬ (sb = x.vb ∨ sb = x.tb) := fun e => hnS (Or.inl e)
    have nR : ¬ y.bl sb := fun e => hnS (Or.inr e)
    have h1 := h.of (hB0.trans (bd1 (Below.refl _ _)))
    have hI := h1.m
    have hJ := h1.r
    have cM := fun w' hw => set_any (x := x) (bv := bv) (tv := tv) s.a s.s hz s.t u1 w' hw
    have cR := fun w' hw => rset_any (y := y) (bv := bv) (tv := tv) s.a s.s hz s.t u1 w' hw
    rw [h.l] at cR
    have hO : Only (Two.S x y) w w1.drew := only_below (hB0.trans (bd1 (Below.refl _ _)))
    have d1 : w1.drew.cell? ⟨sb, 1, none⟩ = some (.int .u64 s.a) := c1
    have d4 : w1.drew.cell? ⟨sb, 4, none⟩ = some (.string s.s) := c4
    have d5 : w1.drew.cell? ⟨sb, 5, none⟩ = some (.bool s.t) := c5
    generalize hse : seE x.l s.a s.s.size = se at *
    rw [hd]
    go_enter Try.func12, Try.ntmps12
    go_wp2
    try rw [hsb]
    try rw [hw1]
    try simp only [hsb]
    go_region_held3 (fun w' => w'.cell? ⟨sb, 1, none⟩ = some (.int .u64 s.a) ∧ w'.cell? ⟨sb, 4, none⟩ = some (.string s.s) ∧ w'.cell? ⟨sb, 5, none⟩ = some (.bool s.t)) (exact ⟨d1, d4, d5⟩) (first | (go_at_call 14; (refine (cM _ hI).mono ?_); (rintro e w5 ⟨rfl, hI, ho5⟩); have hJ := h.keepR hJ ho5; have hO := hO.trans (ho5.mono (fun j hj => Or.inl hj)); have d1 := ho5.cell nM d1; have d4 := ho5.cell nM d4; have d5 := ho5.cell nM d5) | (go_at_call 27; (refine (cR _ hJ).mono ?_); (rintro e w6 ⟨rfl, hJ, ho6⟩); have hI := h.keepM hI ho6; have hO := hO.trans (ho6.mono (fun j hj => Or.inr hj)); have d1 := ho6.cell nR d1; have d4 := ho6.cell nR d4; have d5 := ho6.cell nR d5))
    all_goals go_wp2
    all_goals go_ret
    all_goals (obtain ⟨t1, t2⟩ := h.both hI hJ hO; exact ⟨_, _, rfl, t1, t2⟩)
end Go.Proofs.Ytkcgnpcfdfkpjaa
