/- Contract of the law's all. -/
import Derived.Test.YtkcgnpcfdfkpjaaDb
import Derived.Test.YtkcgnpcfdfkpjaaDo
import Derived.Test.YtkcgnpcfdfkpjaaRe
namespace Go.Proofs.Ytkcgnpcfdfkpjaa
open Go.ChangeShapes Go.WideShapes Go.ChangeAt Go.RowKit
set_option linter.unusedVariables false
/-- All bytes of one region. -/
theorem all_by {l : List Rg} (hl : MayL l) {i : Nat} (hi : i < l.length) (bv : Nat → Nat) (tv : Nat → Bool) : byS l bv (rg l i).f (rg l i).s = strOfNums (numsAt bv (beg l i) (rg l i).s) ∧ byT l tv (rg l i).f (rg l i).s = tl tv (beg l i) (rg l i).s ∧ byE l (rg l i).f (rg l i).s = 0 := by
  obtain ⟨⟨⟨g1, g2, g3, g4⟩, g5⟩, _⟩ := hl.1 i hi
  have hh : hitI l (rg l i).f (rg l i).s = some i := hit_eq hl hi ⟨Nat.le_refl _, by omega, by omega⟩
  have ho : byO l (rg l i).f (rg l i).s = some (beg l i) := by
    unfold byO
    rw [if_neg (by omega), Int.toNat_natCast, seO_hit hh]
    have hp : pos l i (rg l i).f (rg l i).s = beg l i := by unfold pos off0; rw [if_neg (by omega)]; omega
    rw [hp]
  unfold byS byT byE
  rw [ho, if_neg (by omega)]
  exact ⟨rfl, rfl, rfl⟩
set_option maxHeartbeats 1000000 in
/-- Two rows that are one: the same; just draws. -/
theorem same_q (a1 a2 : Option Addr) (n x1 x2 : Nat) (g : Nat → Bool) (hn : n ≤ 140737488355328) (w : World) (h1 : ∀ k < n, ∃ b o, a1 = some ⟨b, o, none⟩ ∧ w.cell? ⟨b, o + k, none⟩ = some (.bool (g k))) (h2 : ∀ k < n, ∃ b o, a2 = some ⟨b, o, none⟩ ∧ w.cell? ⟨b, o + k, none⟩ = some (.bool (g k))) :
    Calls Try.prog 29 #[.slice a1 n x1, .slice a2 n x2] w fun e w' => e = .returned (.bool true) ∧ ∃ q, w' = w.drewN q := by
  go_enter Try.func29, Try.ntmps29
  go_wp2
  go_loopw [5] (fun i wr => ∃ k q : Nat, i = .int .i64 k ∧ k ≤ n ∧ wr = w.drewN q) (fun i _ => n - (intOf i).toNat)
  case atStart => exact ⟨0, 0, rfl, Nat.zero_le _, rfl⟩
  case round =>
    obtain ⟨k, q, rfl, hk, rfl⟩ := hrel
    by_cases hlt : k < n
    · obtain ⟨b, o, rfl, c1⟩ := h1 k hlt
      obtain ⟨b', o', rfl, c2⟩ := h2 k hlt
      have c1 := stay (bdN (Below.refl _ _) q) c1
      have c2 := stay (bdN (Below.refl _ _) q) c2
      have i0 : (0 : Int) ≤ (k : Int) := by omega
      have i1 : (k : Int) < (n : Int) := by omega
      cases g k with
      | true =>
        go_wp2
        go_quiet (fail)
        go_wp2
        go_roundw
        case rel => exact ⟨k + 1, by first | exact ⟨_, by go_num, by omega, rfl⟩ | exact ⟨_, by go_num, by omega, World.drewN_drewN⟩⟩
        case measure => first | (simp [intOf]; done) | (simp [intOf]; omega)
      | false =>
        go_wp2
        go_quiet (fail)
        go_wp2
        go_roundw
        case rel => exact ⟨k + 1, by first | exact ⟨_, by go_num, by omega, rfl⟩ | exact ⟨_, by go_num, by omega, World.drewN_drewN⟩⟩
        case measure => first | (simp [intOf]; done) | (simp [intOf]; omega)
    · obtain rfl : k = n := by omega
      go_wp2
      go_ret
      exact ⟨rfl, q, rfl⟩
set_option maxRecDepth 100000 in
set_option maxHeartbeats 8000000 in
theorem all_any {x : Mm} {y : Mr} {B : Nat} {bv : Nat → Nat} {tv : Nat → Bool} (w : World) (h : Two w x y B bv tv) :
    Calls Try.prog 13 #[.pointer (some ⟨x.mb, 0, none⟩), .pointer (some ⟨y.rb, 0, none⟩)] w fun e w' => e = .returned (.bool true) ∧ Below w.heap.size w w' := by
  have hl16 := h.m.may.2.2
  have hyl : y.l.length = x.l.length := by rw [h.l]
  have hRg := regions_any w h.m
  have s0 := h.r.rr.h0
  rw [hyl] at s0
  go_enter Try.func13, Try.ntmps13
  go_wp2_with (go_at_call 19; (with_reducible refine hRg.mono ?_); (rintro e w1 ⟨⟨g, rfl, hrow, hg1, hg2⟩, hb1⟩); have s1 := stay hb1 s0)
  go_loopw [6] (fun i wr => ∃ k : Nat, i = .int .i64 k ∧ k ≤ x.l.length ∧ Below w.heap.size w wr ∧ rowAt wr g 0 x.l ∧ g < wr.heap.size) (fun i _ => x.l.length - (intOf i).toNat)
  case atStart => exact ⟨0, rfl, Nat.zero_le _, hb1, hrow, hg2⟩
  case round =>
    clear hrow hb1 s1 hg2
    obtain ⟨k, rfl, hk, hB, hrow, hg2⟩ := hrel
    by_cases hlt : k < x.l.length
    · have hT := h.of hB
      have hT' := hT.of (bd1 (Below.refl _ _))
      obtain ⟨hs1, ht1, he1⟩ := all_by h.m.may hlt bv tv
      obtain ⟨ss, hss⟩ : ∃ ss, strOfNums (numsAt bv (beg x.l k) (rg x.l k).s) = ss := ⟨_, rfl⟩
      rw [hss] at hs1
      obtain ⟨⟨⟨g1, gk2, g3, g4⟩, g5⟩, _⟩ := h.m.may.1 k hlt
      have hL := k_mbytes (x := x) (p := (rg x.l k).f) (n := ((rg x.l k).s : Int)) rfl (by omega) hs1 ht1 he1 wr.drew hT'.m
      obtain ⟨c0, c1, c2⟩ := hT.r.rr.row k (by omega)
      rw [h.l, Nat.zero_add] at c0 c1 c2
      have s0 := hT.r.rr.h0
      have s2 := hT.r.rr.h1
      have s3 := hT.r.rr.h2
      rw [hyl] at s0 s2 s3
      have bb := hT.r.rr.hb k (by omega)
      have bt := hT.r.rr.ht k (by omega)
      rw [h.l] at bb bt
      obtain ⟨r0, r1, r2⟩ := hrow k hlt
      rw [Nat.zero_add] at r0 r1 r2
      have i0 : (0 : Int) ≤ (k : Int) := by omega
      have i1 : (k : Int) < (x.l.length : Int) := by omega
      have hwr : IntKind.i64.wrap ((rg x.l k).s : Int) = ((rg x.l k).s : Int) := by rw [IntKind.wrap_i64]; omega
      go_wp2
      go_region_with (go_at_call 17; (refine hL.mono ?_); (rintro e w2 ⟨⟨a1, k1, rfl, ht⟩, hb2⟩))
      all_goals (
        have hB2 : Below w.heap.size w w2 := below_trans' (bd1 hB) (Nat.le_refl _) hb2
        have hT2 := h.of hB2
        have hrow2 : rowAt w2 g 0 x.l := fun i hi => (hrow i hi).of (below_trans' (bd1 (Below.refl _ wr)) (Nat.le_refl _) hb2)
        have hg3 : g < w2.heap.size := Nat.lt_of_lt_of_le hg2 hb2.size
        have r0 : w2.cell? ⟨g, k * 3, none⟩ = some (.int .u64 (rg x.l k).f) := by have := (hrow2 k hlt).1; rw [Nat.zero_add] at this; exact this
        have r1 : w2.cell? ⟨g, k * 3 + 1, none⟩ = some (.int .u64 (rg x.l k).s) := by have := (hrow2 k hlt).2.1; rw [Nat.zero_add] at this; exact this
        have r2 : w2.cell? ⟨g, k * 3 + 2, none⟩ = some (.int .u8 (rg x.l k).k) := by have := (hrow2 k hlt).2.2; rw [Nat.zero_add] at this; exact this
        obtain ⟨c0, c1, c2⟩ := hT2.r.rr.row k (by omega)
        rw [h.l, Nat.zero_add] at c0 c1 c2
        have s0 := hT2.r.rr.h0
        have s2 := hT2.r.rr.h1
        have s3 := hT2.r.rr.h2
        rw [hyl] at s0 s2 s3
        have bb := hT2.r.rr.hb k (by omega)
        have bt := hT2.r.rr.ht k (by omega)
        rw [h.l] at bb bt
        have hcv : ∀ n, (convert 57 9 (.slice (some ⟨y.bs k, 0, none⟩) (rg x.l k).s (rg x.l k).s)).run Try.prog (w2.drewN n) = .ok (.string ss) (w2.drewN n) := fun n => by
          have := rconv_at (hT2.of (bdN (Below.refl _ _) n)).r (i := k) (by omega) 0 (rg x.l k).s (rg x.l k).s (by rw [h.l]; omega)
          rw [h.l, Nat.add_zero, hss] at this
          exact this
        have hS : ∀ n, Calls Try.prog 29 #[.slice a1 (rg x.l k).s k1, .slice (some ⟨y.ts k, 0, none⟩) (rg x.l k).s (rg x.l k).s] (w2.drewN n) fun e w' => e = .returned (.bool true) ∧ ∃ q, w' = (w2.drewN n).drewN q := fun n =>
          same_q a1 _ (rg x.l k).s k1 _ (fun j => tv (beg x.l k + j)) (by omega) (w2.drewN n) (fun j hj => by
            rcases ht with ⟨e0, _⟩ | ⟨g', rfl, _, _, hc, _⟩
            · omega
            · exact ⟨g', 0, rfl, by rw [Nat.zero_add]; exact hc j hj⟩) (fun j hj => ⟨y.ts k, 0, rfl, by
              have := hT2.r.tnts k (by omega) j (by rw [h.l]; exact hj)
              rw [h.l] at this
              rw [Nat.zero_add]; exact this⟩)
        clear hL hs1 ht1 he1 ht hT hT' hT2 hrow
        go_wp2
        go_quiet ((go_at_call 29; exact Calls.quiet_of (hS _)))
        go_wp2
        go_roundw
        case rel => exact ⟨k + 1, by go_num, by omega, bdN hB2 _, fun i hi => (hrow2 i hi).of (bdN (Below.refl _ _) _), hg3⟩
        case measure => first | (simp [intOf]; done) | (simp [intOf]; omega))
    · obtain rfl : k = x.l.length := by omega
      go_wp2
      go_ret
      exact ⟨rfl, hB⟩
end Go.Proofs.Ytkcgnpcfdfkpjaa
