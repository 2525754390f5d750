/- Contract of the law's does: a step that asks for bytes. -/
import Derived.Test.YtkcgnpcfdfkpjaaTw
import Derived.Test.YtkcgnpcfdfkpjaaIo
namespace Go.Proofs.Ytkcgnpcfdfkpjaa
open Go.ChangeShapes Go.WideShapes Go.ChangeAt Go.RowKit
set_option linter.unusedVariables false
theorem k_mbytes {l : List Rg} {x : Mm} (hxl : x.l = l) {bv : Nat → Nat} {tv : Nat → Bool} {p : Nat} {n : Int} (hp : p < 18446744073709551616) {s : ByteArray} {q m : Nat} {er : Int} (h1 : byS l bv p n = s) (h2 : byT l tv p n = tl tv q m) (h3 : byE l p n = er) (w : World) (hI : IsM w x bv tv) :
    Calls Try.prog 17 #[.pointer (some ⟨x.mb, 0, none⟩), .int .u64 p, .int .i64 n] w fun e w' => (∃ a c, e = .returned (.tuple #[.string s, .slice a m c, .int .i64 er]) ∧ ((m = 0 ∧ a = none) ∨ ∃ g, a = some ⟨g, 0, none⟩ ∧ w.heap.size ≤ g ∧ g < w'.heap.size ∧ (∀ j < m, w'.cell? ⟨g, j, none⟩ = some (.bool (tv (q + j)))) ∧ ∀ j, w'.frozen? ⟨g, j, none⟩ = false)) ∧ Below w.heap.size w w' := by
  have := bytes_m p n hp w hI
  rw [hxl, h1, h2, h3] at this
  refine this.mono fun e w' ⟨⟨v, he, ho⟩, hb⟩ => ⟨?_, hb⟩
  rw [tl_length] at ho
  rcases own_sl ho with ⟨rfl, rfl⟩ | ⟨g, c, rfl, hg, hl, hc, hf⟩
  · exact ⟨none, 0, he, Or.inl ⟨rfl, rfl⟩⟩
  · exact ⟨_, c, he, Or.inr ⟨g, rfl, hg, hl, fun j hj => hc j _ (tl_at tv q m j hj), hf⟩⟩
theorem k_rbytes {l : List Rg} {y : Mr} (hyl : y.l = l) {bv : Nat → Nat} {tv : Nat → Bool} {p : Nat} {n : Int} (hp : p < 18446744073709551616) {s : ByteArray} {q m : Nat} {er : Int} (h1 : byS l bv p n = s) (h2 : byT l tv p n = tl tv q m) (h3 : byE l p n = er) (w : World) (hI : IsR w y bv tv) :
    Calls Try.prog 28 #[.pointer (some ⟨y.rb, 0, none⟩), .int .u64 p, .int .i64 n] w fun e w' => (∃ a c, e = .returned (.tuple #[.string s, .slice a m c, .int .i64 er]) ∧ ((m = 0 ∧ a = none) ∨ ∃ g, a = some ⟨g, 0, none⟩ ∧ w.heap.size ≤ g ∧ g < w'.heap.size ∧ (∀ j < m, w'.cell? ⟨g, j, none⟩ = some (.bool (tv (q + j)))) ∧ ∀ j, w'.frozen? ⟨g, j, none⟩ = false)) ∧ Below w.heap.size w w' := by
  have := rbytes_any p n hp w hI
  rw [hyl, h1, h2, h3] at this
  refine this.mono fun e w' ⟨⟨v, he, ho⟩, hb⟩ => ⟨?_, hb⟩
  rw [tl_length] at ho
  rcases own_sl ho with ⟨rfl, rfl⟩ | ⟨g, c, rfl, hg, hl, hc, hf⟩
  · exact ⟨none, 0, he, Or.inl ⟨rfl, rfl⟩⟩
  · exact ⟨_, c, he, Or.inr ⟨g, rfl, hg, hl, fun j hj => hc j _ (tl_at tv q m j hj), hf⟩⟩
set_option maxRecDepth 100000 in
set_option maxHeartbeats 4000000 in
theorem does_bytes {x : Mm} {y : Mr} {B : Nat} {bv : Nat → Nat} {tv : Nat → Bool} (s : St) (hs : s.wf) (hd : ¬ (s.d = 0 ∨ s.d = 2) ∧ ¬ (s.d = 1 ∨ s.d = 3)) (w : World) (h : Two w x y B bv tv) :
    Calls Try.prog 12 #[.pointer (some ⟨x.mb, 0, none⟩), .pointer (some ⟨y.rb, 0, none⟩), .agg #[.int .i64 s.d, .int .u64 s.a, .int .i64 s.n, .int .u64 s.v, .string s.s, .bool s.t]] w fun e w' => e = .returned (.bool true) ∧ Below w.heap.size w w' := by
  obtain ⟨u0, u1, u2, u3, u4⟩ := hs
  obtain ⟨q, m, hqm, hm⟩ := byT_tl x.l tv s.a s.n
  obtain ⟨ss, hss⟩ : ∃ ss, byS x.l bv s.a s.n = ss := ⟨_, rfl⟩
  obtain ⟨er, her⟩ : ∃ er, byE x.l s.a s.n = er := ⟨_, rfl⟩
  have L0 := k_mbytes (x := x) rfl u1 hss hqm her
  have L1 := k_rbytes (y := y) h.l u1 hss hqm her
  obtain ⟨w0, hw0⟩ : ∃ w0, w.alloc (.cells #[.int .i64 s.d, .int .u64 s.a, .int .i64 s.n, .int .u64 s.v, .string s.s, .bool s.t] 39) = w0 := ⟨_, rfl⟩
  obtain ⟨sb, hsb⟩ : ∃ b, w.heap.size = b := ⟨_, rfl⟩
  have hB0 : Below w.heap.size w w0 := by rw [← hw0]; exact aBelow (Below.refl _ _) _
  have c0 : w0.cell? ⟨sb, 0, none⟩ = some (.int .i64 s.d) := by rw [← hw0, ← hsb]; exact nwc _ _ _ _
  have c1 : w0.cell? ⟨sb, 1, none⟩ = some (.int .u64 s.a) := by rw [← hw0, ← hsb]; exact nwc _ _ _ _
  have c2 : w0.cell? ⟨sb, 2, none⟩ = some (.int .i64 s.n) := by rw [← hw0, ← hsb]; exact nwc _ _ _ _
  have hI := h.m.of hB0
  have hJ := h.r.of hB0
  have n0 : (s.d == 0) = false := by simp only [beq_eq_false_iff_ne]; omega
  have n1 : (s.d == 1) = false := by simp only [beq_eq_false_iff_ne]; omega
  have n2 : (s.d == 2) = false := by simp only [beq_eq_false_iff_ne]; omega
  have n3 : (s.d == 3) = false := by simp only [beq_eq_false_iff_ne]; omega
  have m0 : ¬ s.d = 0 := by omega
  have m1 : ¬ s.d = 1 := by omega
  have m2 : ¬ s.d = 2 := by omega
  have m3 : ¬ s.d = 3 := by omega
  clear hqm hss her hd
  have hw0s := hB0.size
  have dB : Below w.heap.size w w := Below.refl _ _
  go_enter Try.func12, Try.ntmps12
  go_wp2_with (first
    | (go_at_call 17; (with_reducible refine (L0 _ hI).mono ?_); (rintro e w1 ⟨⟨a1, k1, rfl, ht⟩, hb1⟩); have hJ := hJ.of hb1; have c1 := stay hb1 c1; have c2 := stay hb1 c2; have hB1 := below_trans' hB0 (Nat.le_refl _) hb1)
    | (go_at_call 28; (with_reducible refine (L1 _ hJ).mono ?_); (rintro e w2 ⟨⟨a2, k2, rfl, hu⟩, hb2⟩); have hB2 := below_trans' hB1 (Nat.le_refl _) hb2; have hS := same_any a1 a2 m k1 k2 (fun j => tv (q + j)) (by omega) w2 (fun k hk => (by rcases ht with ⟨e0, _⟩ | ⟨g, rfl, _, _, hc, _⟩; (exfalso; omega); exact ⟨g, 0, rfl, by rw [Nat.zero_add]; exact stay hb2 (hc k hk)⟩)) (fun k hk => (by rcases hu with ⟨e0, _⟩ | ⟨g, rfl, _, _, hc, _⟩; (exfalso; omega); exact ⟨g, 0, rfl, by rw [Nat.zero_add]; exact hc k hk⟩)))
    | (go_at_call 29; (with_reducible refine hS.mono ?_); (rintro e w3 ⟨rfl, hb3⟩); have hB3 := below_trans' hB2 (Nat.le_refl _) hb3))
  have hgrow : ∀ g, a1 = some ⟨g, 0, none⟩ → w.heap.size ≤ g ∧ g < w3.heap.size ∧ (∀ j < m, ∃ b, w3.cell? ⟨g, j, none⟩ = some (.bool b)) ∧ ∀ j, w3.frozen? ⟨g, j, none⟩ = false := fun g hg => by
    rcases ht with ⟨_, e⟩ | ⟨g', e, hg1, hg2, hc, hf⟩
    · rw [e] at hg; cases hg
    · rw [e] at hg
      simp only [Option.some.injEq, Addr.mk.injEq] at hg
      obtain ⟨rfl, _⟩ := hg
      have hb23 := below_trans' hb2 (Nat.le_refl _) hb3
      exact ⟨by omega, Nat.lt_of_lt_of_le hg2 hb23.size, fun j hj => ⟨_, stay hb23 (hc j hj)⟩, fun j => ((only_below (S := fun _ => False) hb23).frozen (by exact hg2) (fun h => h)).trans (hf j)⟩
  have hnn : ∀ k < m, ∃ g, a1 = some ⟨g, 0, none⟩ := fun k hk => by
    rcases ht with ⟨e, _⟩ | ⟨g', e, _⟩
    · omega
    · exact ⟨g', e⟩
  clear ht hu hS hb3 hb2 hb1 hB2 hB1 hI hJ c0 c1 c2 L0 L1
  go_loopw [24] (fun i wr => ∃ k : Nat, i = .int .i64 k ∧ k ≤ m ∧ Below w.heap.size w wr ∧ ∀ g, a1 = some ⟨g, 0, none⟩ → w.heap.size ≤ g ∧ g < wr.heap.size ∧ (∀ j < m, ∃ b, wr.cell? ⟨g, j, none⟩ = some (.bool b)) ∧ ∀ j, wr.frozen? ⟨g, j, none⟩ = false) (fun i _ => m - (intOf i).toNat)
  case atStart => exact ⟨0, rfl, Nat.zero_le _, hB3, hgrow⟩
  case round =>
    clear hgrow hB3
    obtain ⟨k, rfl, hk, hB, hg⟩ := hrel
    by_cases hlt : k < m
    · obtain ⟨g, rfl⟩ := hnn k hlt
      obtain ⟨g1, g2, gc, gf⟩ := hg g rfl
      obtain ⟨b, cb⟩ := gc k hlt
      have fz := gf k
      have i0 : (0 : Int) ≤ (k : Int) := by omega
      have i1 : (k : Int) < (m : Int) := by omega
      have hnext : ∀ u, Below w.heap.size w (wr.setCell ⟨g, k, none⟩ (.bool u)) ∧ ∀ g', (some (⟨g, 0, none⟩ : Addr)) = some ⟨g', 0, none⟩ → w.heap.size ≤ g' ∧ g' < (wr.setCell ⟨g, k, none⟩ (.bool u)).heap.size ∧ (∀ j < m, ∃ b, (wr.setCell ⟨g, k, none⟩ (.bool u)).cell? ⟨g', j, none⟩ = some (.bool b)) ∧ ∀ j, (wr.setCell ⟨g, k, none⟩ (.bool u)).frozen? ⟨g', j, none⟩ = false := fun u => by
        refine ⟨hB.setCell g1 _, fun g' e => ?_⟩
        simp only [Option.some.injEq, Addr.mk.injEq, and_true] at e
        subst e
        refine ⟨g1, by rw [World.size_setCell]; exact g2, fun j hj => ?_, fun j => by rw [World.frozen?_setCell]; exact gf j⟩
        rw [cell_set _ cb j]
        by_cases e : j = k
        · rw [if_pos e]; exact ⟨_, rfl⟩
        · rw [if_neg e]; exact gc j hj
      go_wp2
      go_roundw
      case rel => exact ⟨k + 1, by go_num, by omega, (hnext _).1, (hnext _).2⟩
      case measure => first | (simp [intOf]; done) | (simp [intOf]; omega)
    · obtain rfl : k = m := by omega
      go_wp2
      go_ret
      exact ⟨rfl, hB⟩
/-- A step, whatever. -/
theorem does_none : True := trivial
end Go.Proofs.Ytkcgnpcfdfkpjaa
