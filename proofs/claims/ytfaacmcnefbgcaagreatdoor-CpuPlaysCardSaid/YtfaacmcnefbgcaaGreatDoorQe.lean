/- Contract of the document's May. -/
import Derived.Test.YtfaacmcnefbgcaaGreatDoorJd
import Derived.Deep.RegionWith
import Derived.Deep.RegionHeld3
namespace Go.Proofs.YtfaacmcnefbgcaaGreatDoor.m4
open Go.ChangeShapes Go.WideShapes Go.ChangeAt Go.RowKit
set_option linter.unusedVariables false
theorem may_nil (a : Option Addr) (c : Nat) (w : World) :
    Calls Tryz.prog 49 #[.slice a 0 c] w fun e w' => e = .returned (.bool false) ∧ Below w.heap.size w w' := by
  go_enter Tryz.func49, Tryz.ntmps49
  go_wp2
  go_loopw [3] (fun i wr => i = .int .i64 0 ∧ Below w.heap.size w wr) (fun _ _ => 0)
  case atStart => exact ⟨rfl, Below.refl _ _⟩
  case round =>
    obtain ⟨rfl, hB⟩ := hrel
    go_wp2
    go_ret
    exact ⟨rfl, hB⟩
set_option maxHeartbeats 1000000 in
theorem may_any (l : List Rg) (hf : wfL l) (b o c : Nat) (hn : l.length ≤ 9223372036854775807) (w : World) (hr : rowAt w b o l) (hb : b < w.heap.size) :
    Calls Tryz.prog 49 #[.slice (some ⟨b, o, none⟩) l.length c] w fun e w' => RB e (MayL l) ∧ Below w.heap.size w w' := by
  go_enter Tryz.func49, Tryz.ntmps49
  go_wp2
  go_loopw [3] (fun i wr => ∃ k : Nat, i = .int .i64 k ∧ k ≤ l.length ∧ (∀ j < k, Good l j) ∧ Below w.heap.size w wr) (fun i _ => l.length - (intOf i).toNat)
  case atStart => exact ⟨0, rfl, Nat.zero_le _, fun j hj => by omega, Below.refl _ _⟩
  case round =>
    obtain ⟨k, rfl, hk, hg, hB⟩ := hrel
    by_cases hlt : k < l.length
    · obtain ⟨c0, c1, c2⟩ := hr k hlt
      have c0 := stay hB c0
      have c1 := stay hB c1
      have c2 := stay hB c2
      obtain ⟨v0, v1, v2⟩ := hf k
      obtain ⟨r, hrr⟩ : ∃ r, rg l k = r := ⟨_, rfl⟩
      have hbs : b < wr.heap.size := Nat.lt_of_lt_of_le hb hB.size
      have hG : Good l k ↔ r.ok ∧ ∀ j < k, ¬ meets r (rg l j) := by rw [← hrr]; rfl
      rw [hrr] at c0 c1 c2 v0 v1 v2
      have hB2 : Below w.heap.size w (wr.alloc (.cells #[.int .u64 r.f, .int .u64 r.s, .int .u8 r.k] 102)) := hB.alloc hB.size _
      by_cases h1 : r.ok
      · have h1' := h1
        obtain ⟨⟨k1, k2, k3, k4⟩, k5⟩ := h1
        have hs := sub40 r.s k4
        have k6 : ¬ ((1099511627776 - r.s : Nat) : Int) < (r.f : Int) := by omega
        go_wp2
        go_loopw [5] (fun j wr' => ∃ m : Nat, j = .int .i64 m ∧ m ≤ k ∧ (∀ j < m, ¬ meets r (rg l j)) ∧ ∃ q, wr' = (wr.alloc (.cells #[.int .u64 r.f, .int .u64 r.s, .int .u8 r.k] 102)).drewN q) (fun j _ => k - (intOf j).toNat)
        case atStart => exact ⟨0, rfl, Nat.zero_le _, fun j hj => by omega, 0, rfl⟩
        case round =>
          obtain ⟨m, rfl, hm, hno, nd, rfl⟩ := hrel
          have hB3 := bdN hB2 nd
          by_cases hml : m < k
          · obtain ⟨d0, d1, d2⟩ := hr m (by omega)
            have d0 := stay hB d0
            have d1 := stay hB d1
            have d2 := stay hB d2
            obtain ⟨x0, x1, x2⟩ := hf m
            have hgm := (hg m hml).1
            obtain ⟨q, hq⟩ : ∃ q, rg l m = q := ⟨_, rfl⟩
            have hmt : meets r (rg l m) ↔ r.f < q.f + q.s ∧ q.f < r.f + r.s := by rw [← hq]; exact Iff.rfl
            rw [hq] at d0 d1 d2 x0 x1 x2 hgm
            obtain ⟨⟨_, _, _, q4⟩, q5⟩ := hgm
            have e1 := add64 q.f q.s (by omega)
            have e2 := add64 r.f r.s (by omega)
            have i0 : (0 : Int) ≤ (m : Int) := by omega
            have i1 : (m : Int) < (l.length : Int) := by omega
            by_cases t1 : r.f < q.f + q.s
            · have t1' : (r.f : Int) < (q.f : Int) + (q.s : Int) := by omega
              go_wp2
              go_quiet (fail)
              by_cases t2 : q.f < r.f + r.s
              · have t2' : (q.f : Int) < (r.f : Int) + (r.s : Int) := by omega
                go_wp2
                go_ret
                exact ⟨RB_f (may_not hlt (fun h => (hG.1 h).2 m hml (hmt.2 ⟨t1, t2⟩))), by first | exact bdN hB2 _ | exact bdN (bdN hB2 _) _⟩
              · have t2' : ¬ (q.f : Int) < (r.f : Int) + (r.s : Int) := by omega
                go_wp2
                go_roundw
                case rel => exact ⟨m + 1, by go_num, by omega, fun j hj => by
                  rcases Nat.lt_or_ge j m with h | h
                  · exact hno j h
                  · obtain rfl : j = m := by omega
                    exact fun h => t2 (hmt.1 h).2, by first | exact ⟨_, rfl⟩ | exact ⟨_, World.drewN_drewN⟩⟩
                case measure => first | (simp [intOf]; done) | (simp [intOf]; omega)
            · have t1' : decide ((r.f : Int) < (q.f : Int) + (q.s : Int)) = false := by simp only [decide_eq_false_iff_not]; omega
              go_wp2
              go_quiet (fail)
              go_wp2
              go_roundw
              case rel => exact ⟨m + 1, by go_num, by omega, fun j hj => by
                rcases Nat.lt_or_ge j m with h | h
                · exact hno j h
                · obtain rfl : j = m := by omega
                  exact fun h => t1 (hmt.1 h).1, by first | exact ⟨_, rfl⟩ | exact ⟨_, World.drewN_drewN⟩⟩
              case measure => first | (simp [intOf]; done) | (simp [intOf]; omega)
          · obtain rfl : m = k := by omega
            go_wp2
            go_roundw
            case rel => exact ⟨m + 1, by go_num, by omega, fun j hj => by
              rcases Nat.lt_or_ge j m with h | h
              · exact hg j h
              · obtain rfl : j = m := by omega
                exact hG.2 ⟨h1', hno⟩, hB3⟩
            case measure => first | (simp [intOf]; done) | (simp [intOf]; omega)
      · have hnot := may_not hlt (fun h => h1 (hG.1 h).1)
        have h1' : ¬ (1 ≤ r.k ∧ r.k ≤ 4 ∧ 1 ≤ r.s ∧ r.s ≤ 1048576 ∧ r.f + r.s ≤ 1099511627776) := fun h => h1 ⟨⟨h.1, h.2.1, h.2.2.1, h.2.2.2.1⟩, h.2.2.2.2⟩
        go_wp2
        all_goals (first | (exfalso; omega) | (go_ret; first | exact ⟨RB_f hnot, hB2⟩ | exact ⟨RB_f (fun h => h), hB2⟩))
    · obtain rfl : k = l.length := by omega
      go_wp2
      all_goals go_ret
      · exact ⟨RB_d (by simp only [decide_eq_true_eq]; exact ⟨fun h => ⟨hg, by omega, by omega⟩, fun h => by have := h.2.2; omega⟩), hB⟩
      · exact ⟨RB_f (fun h => by have := h.2; omega), hB⟩
end Go.Proofs.YtfaacmcnefbgcaaGreatDoor.m4

/- Contracts of mem.mayBeOne, mem.meetsOne, mem.mayBe. -/
namespace Go.Proofs.YtfaacmcnefbgcaaGreatDoor.m4
open Go.ChangeShapes Go.WideShapes Go.ChangeAt Go.RowKit
set_option linter.unusedVariables false
theorem one_any (r : Rg) (hr : r.wf) (w : World) :
    Calls Tryz.prog 83 #[.agg #[.int .u64 r.f, .int .u64 r.s, .int .u8 r.k]] w fun e w' => RB e r.ok ∧ Below w.heap.size w w' := by
  obtain ⟨v0, v1, v2⟩ := hr
  have hB2 : Below w.heap.size w (w.alloc (.cells #[.int .u64 r.f, .int .u64 r.s, .int .u8 r.k] 102)) := aBelow (Below.refl _ _) _
  by_cases h1 : r.one
  · obtain ⟨k1, k2, k3, k4⟩ := id h1
    have hs := sub40 r.s k4
    have hd : decide (r.f ≤ 1099511627776 - r.s) = true ↔ r.ok := by
      rw [decide_eq_true_eq]; exact ⟨fun h => ⟨h1, by omega⟩, fun h => by have := h.2; omega⟩
    go_enter Tryz.func83, Tryz.ntmps83
    go_wp2
    go_ret
    exact ⟨RB_d hd, hB2⟩
  · have hnot : ¬ r.ok := fun h => h1 h.1
    have h1' : ¬ (1 ≤ r.k ∧ r.k ≤ 4 ∧ 1 ≤ r.s ∧ r.s ≤ 1048576) := fun h => h1 h
    go_enter Tryz.func83, Tryz.ntmps83
    go_wp2
    all_goals (first | (exfalso; omega) | (go_ret; first | exact ⟨RB_f hnot, hB2⟩ | exact ⟨RB_f (fun h => h), hB2⟩))
theorem meet_nil (r : Rg) (a : Option Addr) (c : Nat) (w : World) :
    Calls Tryz.prog 84 #[.agg #[.int .u64 r.f, .int .u64 r.s, .int .u8 r.k], .slice a 0 c] w fun e w' => e = .returned (.bool false) ∧ Below w.heap.size w w' := by
  go_enter Tryz.func84, Tryz.ntmps84
  go_wp2
  go_loopw [9] (fun i wr => i = .int .i64 0 ∧ Below w.heap.size w wr) (fun _ _ => 0)
  case atStart => exact ⟨rfl, aBelow (Below.refl _ _) _⟩
  case round =>
    obtain ⟨rfl, hB⟩ := hrel
    go_wp2
    go_ret
    exact ⟨rfl, hB⟩
set_option maxHeartbeats 1000000 in
theorem meet_any (r : Rg) (hr : r.wf) (hr2 : r.f + r.s < 18446744073709551616) (n : Nat) (q : Nat → Rg) (hq : ∀ i < n, (q i).wf ∧ (q i).f + (q i).s < 18446744073709551616) (b o c : Nat) (hn : n ≤ 140737488355328) (w : World) (hc : ∀ i < n, regAt w b (o + i * 3) (q i)) (hb : b < w.heap.size) :
    Calls Tryz.prog 84 #[.agg #[.int .u64 r.f, .int .u64 r.s, .int .u8 r.k], .slice (some ⟨b, o, none⟩) n c] w fun e w' => RB e (∃ i < n, meets r (q i)) ∧ Below w.heap.size w w' := by
  obtain ⟨v0, v1, v2⟩ := hr
  obtain ⟨W, hW⟩ : ∃ W, w.alloc (.cells #[.int .u64 r.f, .int .u64 r.s, .int .u8 r.k] 102) = W := ⟨_, rfl⟩
  have hBW : Below w.heap.size w W := by rw [← hW]; exact aBelow (Below.refl _ _) _
  have hsz : W.heap.size = w.heap.size + 1 := by rw [← hW]; simp
  have r0 : W.cell? ⟨w.heap.size, 0, none⟩ = some (.int .u64 r.f) := by rw [← hW]; exact nwc _ _ _ _
  have r1 : W.cell? ⟨w.heap.size, 1, none⟩ = some (.int .u64 r.s) := by rw [← hW]; exact nwc _ _ _ _
  have e2 := add64 r.f r.s hr2
  go_enter Tryz.func84, Tryz.ntmps84
  go_wp2
  try rw [hW]
  go_loopw [9] (fun i wr => ∃ k : Nat, i = .int .i64 k ∧ k ≤ n ∧ (∀ j < k, ¬ meets r (q j)) ∧ Below W.heap.size W wr) (fun i _ => n - (intOf i).toNat)
  case atStart => exact ⟨0, rfl, Nat.zero_le _, fun j hj => by omega, Below.refl _ _⟩
  case round =>
    obtain ⟨k, rfl, hk, hg, hB⟩ := hrel
    have r0 := stay hB r0
    have r1 := stay hB r1
    have hB0 : Below w.heap.size w wr := below_trans' hBW (Nat.le_refl _) hB
    by_cases hlt : k < n
    · obtain ⟨c0, c1, c2⟩ := hc k hlt
      have c0 := stay hB0 c0
      have c1 := stay hB0 c1
      have c2 := stay hB0 c2
      obtain ⟨⟨x0, x1, x2⟩, xs⟩ := hq k hlt
      have hbs : b < wr.heap.size := Nat.lt_of_lt_of_le hb hB0.size
      have hws : w.heap.size < wr.heap.size := by have := hB.size; omega
      obtain ⟨x, hx⟩ : ∃ x, q k = x := ⟨_, rfl⟩
      have hmt : meets r (q k) ↔ r.f < x.f + x.s ∧ x.f < r.f + r.s := by rw [← hx]; exact Iff.rfl
      rw [hx] at c0 c1 c2 x0 x1 x2 xs
      have e1 := add64 x.f x.s xs
      have hB2 : Below w.heap.size w (wr.alloc (.cells #[.int .u64 x.f, .int .u64 x.s, .int .u8 x.k] 102)) := hB0.alloc hB0.size _
      by_cases t1 : r.f < x.f + x.s
      · have t1' : (r.f : Int) < (x.f : Int) + (x.s : Int) := by omega
        by_cases t2 : x.f < r.f + r.s
        · have t2' : (x.f : Int) < (r.f : Int) + (r.s : Int) := by omega
          go_wp2
          go_ret
          exact ⟨RB_t ⟨k, hlt, hmt.2 ⟨t1, t2⟩⟩, hB2⟩
        · have t2' : ¬ (x.f : Int) < (r.f : Int) + (r.s : Int) := by omega
          go_wp2
          go_roundw
          case rel => exact ⟨k + 1, by go_num, by omega, fun j hj => by
            rcases Nat.lt_or_ge j k with h | h
            · exact hg j h
            · obtain rfl : j = k := by omega
              exact fun h => t2 (hmt.1 h).2, hB.alloc hB.size _⟩
          case measure => first | (simp [intOf]; done) | (simp [intOf]; omega)
      · have t1' : ¬ (r.f : Int) < (x.f : Int) + (x.s : Int) := by omega
        go_wp2
        go_roundw
        case rel => exact ⟨k + 1, by go_num, by omega, fun j hj => by
          rcases Nat.lt_or_ge j k with h | h
          · exact hg j h
          · obtain rfl : j = k := by omega
            exact fun h => t1 (hmt.1 h).1, hB.alloc hB.size _⟩
        case measure => first | (simp [intOf]; done) | (simp [intOf]; omega)
    · obtain rfl : k = n := by omega
      go_wp2
      go_ret
      exact ⟨RB_f (fun ⟨i, hi, h⟩ => hg i hi h), hB0⟩
theorem good_iff {l : List Rg} {k : Nat} : Good l k ↔ (rg l k).ok ∧ ¬ ∃ j < k, meets (rg l k) (rg l j) :=
  ⟨fun h => ⟨h.1, fun ⟨j, hj, hm⟩ => h.2 j hj hm⟩, fun h => ⟨h.1, fun j hj hm => h.2 ⟨j, hj, hm⟩⟩⟩
theorem maybe_bad (v : Value) (a : Option Addr) (n c : Nat) (hv : v = .slice a n c) (h : n < 1 ∨ 16 < n) (hn : n ≤ 140737488355328) (w : World) :
    Calls Tryz.prog 40 #[v] w fun e w' => e = .returned (.bool false) ∧ Below w.heap.size w w' := by
  subst hv
  by_cases h1 : n < 1
  · go_enter Tryz.func40, Tryz.ntmps40
    go_wp2
    go_ret
    exact ⟨rfl, Below.refl _ _⟩
  · have h2 : 16 < n := by omega
    go_enter Tryz.func40, Tryz.ntmps40
    go_wp2
    go_ret
    exact ⟨rfl, Below.refl _ _⟩
theorem rg_in {l : List Rg} (h : ∀ i < l.length, Good l i) {i : Nat} (hi : i < l.length) : (rg l i).f + (rg l i).s < 18446744073709551616 := by have := (h i hi).1.2; omega
set_option maxHeartbeats 1000000 in
theorem maybe_any (l : List Rg) (hf : wfL l) (b o c : Nat) (h1 : 1 ≤ l.length) (h16 : l.length ≤ 16) (hlc : l.length ≤ c) (w : World) (hr : rowAt w b o l) (hb : b < w.heap.size) :
    Calls Tryz.prog 40 #[.slice (some ⟨b, o, none⟩) l.length c] w fun e w' => RB e (MayL l) ∧ Below w.heap.size w w' := by
  go_enter Tryz.func40, Tryz.ntmps40
  go_wp2
  go_loopw [15] (fun i wr => ∃ k : Nat, i = .int .i64 k ∧ k ≤ l.length ∧ (∀ j < k, Good l j) ∧ Below w.heap.size w wr) (fun i _ => l.length - (intOf i).toNat)
  case atStart => exact ⟨0, rfl, Nat.zero_le _, fun j hj => by omega, Below.refl _ _⟩
  case round =>
    obtain ⟨k, rfl, hk, hg, hB⟩ := hrel
    by_cases hlt : k < l.length
    · obtain ⟨c0, c1, c2⟩ := hr k hlt
      have c0 := stay hB c0
      have c1 := stay hB c1
      have c2 := stay hB c2
      have hbs : b < wr.heap.size := Nat.lt_of_lt_of_le hb hB.size
      have hB2 : Below w.heap.size w (wr.alloc (.cells #[.int .u64 (rg l k).f, .int .u64 (rg l k).s, .int .u8 (rg l k).k] 102)) := hB.alloc hB.size _
      have hO := one_any (rg l k) (hf k)
      have hM : ∀ w', (rg l k).ok → Below w.heap.size w w' → Calls Tryz.prog 84 #[.agg #[.int .u64 (rg l k).f, .int .u64 (rg l k).s, .int .u8 (rg l k).k], .slice (some ⟨b, o, none⟩) k c] w' fun e w'' => RB e (∃ i < k, meets (rg l k) (rg l i)) ∧ Below w'.heap.size w' w'' := fun w' ho hB' =>
        meet_any (rg l k) (hf k) (by have := ho.2; omega) k (rg l) (fun i hi => ⟨hf i, by have := (hg i hi).1.2; omega⟩) b o c (by omega) w' (fun i hi => (hr i (by omega)).of hB') (Nat.lt_of_lt_of_le hb hB'.size)
      have i0 : (0 : Int) ≤ (k : Int) := by omega
      have i1 : (k : Int) ≤ (c : Int) := by omega
      obtain ⟨W, hW⟩ : ∃ W, wr.alloc (.cells #[.int .u64 (rg l k).f, .int .u64 (rg l k).s, .int .u8 (rg l k).k] 102) = W := ⟨_, rfl⟩
      have r0 : W.cell? ⟨wr.heap.size, 0, none⟩ = some (.int .u64 (rg l k).f) := by rw [← hW]; exact nwc _ _ _ _
      have r1 : W.cell? ⟨wr.heap.size, 1, none⟩ = some (.int .u64 (rg l k).s) := by rw [← hW]; exact nwc _ _ _ _
      have r2 : W.cell? ⟨wr.heap.size, 2, none⟩ = some (.int .u8 (rg l k).k) := by rw [← hW]; exact nwc _ _ _ _
      rw [hW] at hB2
      have hWb : b < W.heap.size := Nat.lt_of_lt_of_le hb hB2.size
      by_cases hok : (rg l k).ok
      · have hO' : ∀ w, Calls Tryz.prog 83 #[.agg #[.int .u64 (rg l k).f, .int .u64 (rg l k).s, .int .u8 (rg l k).k]] w fun e w' => e = .returned (.bool true) ∧ Below w.heap.size w w' := fun w => (hO w).mono fun e w' ⟨⟨r, he, hr⟩, hb⟩ => ⟨by rw [he, hr.2 hok], hb⟩
        by_cases hme : ∃ i < k, meets (rg l k) (rg l i)
        · have hM' : ∀ w', Below W.heap.size W w' → Calls Tryz.prog 84 #[.agg #[.int .u64 (rg l k).f, .int .u64 (rg l k).s, .int .u8 (rg l k).k], .slice (some ⟨b, o, none⟩) k c] w' fun e w'' => e = .returned (.bool true) ∧ Below w'.heap.size w' w'' := fun w' hb' => (hM w' hok (below_trans' hB2 (Nat.le_refl _) hb')).mono fun e w' ⟨⟨r, he, hr⟩, hb⟩ => ⟨by rw [he, hr.2 hme], hb⟩
          clear hM hO
          go_wp2
          try rw [hW]
          go_region_with (first | (go_at_call 83; (with_reducible refine (hO' _).mono ?_); rintro e w1 ⟨rfl, hb1⟩; have s0 := stay hb1 r0; have s1 := stay hb1 r1; have s2 := stay hb1 r2; have hb1' := below_trans' (bd1 (Below.refl _ W)) (Nat.le_refl _) hb1) | (go_at_call 84; (with_reducible refine (hM' _ hb1').mono ?_); rintro e w2 ⟨rfl, hb2⟩))
          have hB5 := below_trans' (below_trans' hB2 (Nat.le_refl _) hb1') (Nat.le_refl _) hb2
          go_wp2
          go_ret
          exact ⟨RB_f (may_not hlt (fun h => (good_iff.1 h).2 hme)), hB5⟩
        · have hM' : ∀ w', Below W.heap.size W w' → Calls Tryz.prog 84 #[.agg #[.int .u64 (rg l k).f, .int .u64 (rg l k).s, .int .u8 (rg l k).k], .slice (some ⟨b, o, none⟩) k c] w' fun e w'' => e = .returned (.bool false) ∧ Below w'.heap.size w' w'' := fun w' hb' => (hM w' hok (below_trans' hB2 (Nat.le_refl _) hb')).mono fun e w' ⟨⟨r, he, hr⟩, hb⟩ => ⟨by rw [he, Bool.eq_false_iff.2 (fun h => hme (hr.1 h))], hb⟩
          clear hM hO
          go_wp2
          try rw [hW]
          go_region_with (first | (go_at_call 83; (with_reducible refine (hO' _).mono ?_); rintro e w1 ⟨rfl, hb1⟩; have s0 := stay hb1 r0; have s1 := stay hb1 r1; have s2 := stay hb1 r2; have hb1' := below_trans' (bd1 (Below.refl _ W)) (Nat.le_refl _) hb1) | (go_at_call 84; (with_reducible refine (hM' _ hb1').mono ?_); rintro e w2 ⟨rfl, hb2⟩))
          have hB5 := below_trans' (below_trans' hB2 (Nat.le_refl _) hb1') (Nat.le_refl _) hb2
          go_wp2
          go_roundw
          case rel => exact ⟨k + 1, by go_num, by omega, fun j hj => by
            rcases Nat.lt_or_ge j k with h | h
            · exact hg j h
            · obtain rfl : j = k := by omega
              exact good_iff.2 ⟨hok, hme⟩, hB5⟩
          case measure => first | (simp [intOf]; done) | (simp [intOf]; omega)
      · have hO' : ∀ w, Calls Tryz.prog 83 #[.agg #[.int .u64 (rg l k).f, .int .u64 (rg l k).s, .int .u8 (rg l k).k]] w fun e w' => e = .returned (.bool false) ∧ Below w.heap.size w w' := fun w => (hO w).mono fun e w' ⟨⟨r, he, hr⟩, hb⟩ => ⟨by rw [he, Bool.eq_false_iff.2 (fun h => hok (hr.1 h))], hb⟩
        clear hM hO
        go_wp2
        try rw [hW]
        refine region_below (by kernel_rfl) (by kernel_rfl) ?_
        refine bqk (.agg #[.int .u64 (rg l k).f, .int .u64 (rg l k).s, .int .u8 (rg l k).k]) (by kernel_rfl) (fun w' hb' => ?_) (fun K hK => ?_)
        · have s0 := stay hb' r0
          have s1 := stay hb' r1
          have s2 := stay hb' r2
          go_simp
        go_simp
        refine hK _ ?_
        clear hK K
        refine bqk (.bool false) (by kernel_rfl) (fun w' hb' => ?_) (fun K hK => ?_)
        · go_simp
          go_at_call 83
          exact (hO' _).mono (fun e w'' ⟨he, hb1⟩ => ⟨he, below_trans' hb' (Nat.le_refl _) hb1⟩)
        go_simp
        refine hK _ ?_
        clear hK K
        refine bqk (.bool true) (by kernel_rfl) (fun w' hb' => ?_) (fun K hK => ?_)
        · go_simp
        go_simp
        refine hK _ ?_
        clear hK K
        refine bqk (.bool true) (by kernel_rfl) (fun w' hb' => ?_) (fun K hK => ?_)
        · go_simp
        go_simp
        refine hK _ ?_
        clear hK K
        go_big_quiet_skip
        go_big_quiet_skip
        go_big_quiet_skip
        go_big_quiet_skip
        go_big_quiet_skip
        refine bqk (.bool true) (by kernel_rfl) (fun w' hb' => ?_) (fun K hK => ?_)
        · go_simp
        go_simp
        refine hK _ ?_
        clear hK K
        refine wpQuiet_nil ?_
        intro w' hb1'
        have hB5 := below_trans' hB2 (Nat.le_refl _) hb1'
        go_wp2
        go_ret
        exact ⟨RB_f (may_not hlt (fun h => hok h.1)), hB5⟩
    · obtain rfl : k = l.length := by omega
      go_wp2
      go_ret
      exact ⟨RB_t ⟨hg, h1, h16⟩, hB⟩
end Go.Proofs.YtfaacmcnefbgcaaGreatDoor.m4

/- What a memory has, in cells; contract of area.has. -/
namespace Go.Proofs.YtfaacmcnefbgcaaGreatDoor.m4
open Go.ChangeShapes Go.WideShapes Go.ChangeAt Go.RowKit
set_option linter.unusedVariables false
/-- Where region i's bytes begin. -/
def beg (l : List Rg) (i : Nat) : Nat := ((l.take i).map Rg.s).sum
def Rg.has (r : Rg) (p n : Nat) : Prop := r.f ≤ p ∧ p < r.f + r.s ∧ n ≤ r.f + r.s - p
structure Mm where
  mb : Nat
  ab : Nat
  vb : Nat
  tb : Nat
  c : Nat
  l : List Rg
def arC (x : Mm) (i : Nat) : Value := .agg #[.int .u64 (rg x.l i).f, .int .u64 (rg x.l i).s, .int .u8 (rg x.l i).k, .slice (some ⟨x.vb, beg x.l i, none⟩) (rg x.l i).s (rg x.l i).s, .slice (some ⟨x.tb, beg x.l i, none⟩) (rg x.l i).s (rg x.l i).s]
def areaAt (w : World) (x : Mm) (i : Nat) : Prop := regAt w x.ab (i * 5) (rg x.l i) ∧ w.cell? ⟨x.ab, i * 5 + 3, none⟩ = some (.slice (some ⟨x.vb, beg x.l i, none⟩) (rg x.l i).s (rg x.l i).s) ∧ w.cell? ⟨x.ab, i * 5 + 4, none⟩ = some (.slice (some ⟨x.tb, beg x.l i, none⟩) (rg x.l i).s (rg x.l i).s)
/-- What of a memory does not change. -/
def Ar (w : World) (x : Mm) : Prop := w.cell? ⟨x.mb, 0, none⟩ = some (.slice (some ⟨x.ab, 0, none⟩) x.l.length x.c) ∧ (∀ i < x.l.length, areaAt w x i)
theorem Ar.of {w w' : World} {x : Mm} (h : Ar w x) (hb : Below w.heap.size w w') : Ar w' x := ⟨stay hb h.1, fun i hi => ⟨(h.2 i hi).1.of hb, stay hb (h.2 i hi).2.1, stay hb (h.2 i hi).2.2⟩⟩
theorem has_any (r : Rg) (hr : r.wf) (hs : r.f + r.s < 18446744073709551616) (a1 a2 : Option Addr) (n1 c1 n2 c2 : Nat) (p n : Nat) (hp : p < 18446744073709551616) (hn : n < 18446744073709551616) (w : World) :
    Calls Tryz.prog 111 #[.agg #[.int .u64 r.f, .int .u64 r.s, .int .u8 r.k, .slice a1 n1 c1, .slice a2 n2 c2], .int .u64 p, .int .u64 n] w fun e w' => RB e (r.has p n) ∧ Below w.heap.size w w' := by
  obtain ⟨x0, x1, x2⟩ := hr
  have e1 := add64 r.f r.s hs
  have hB2 : ∀ C t, Below w.heap.size w (w.alloc (.cells C t)) := fun C t => aBelow (Below.refl _ _) _
  by_cases h1 : r.f ≤ p
  · by_cases h2 : p < r.f + r.s
    · have e2 := sub64 (r.f + r.s) p (by omega) hs
      have e2' : IntKind.u64.wrap ((r.f : Int) + (r.s : Int) - (p : Int)) = ((r.f + r.s - p : Nat) : Int) := by rw [IntKind.wrap_u64]; omega
      by_cases h3 : n ≤ r.f + r.s - p
      · have h3' : (n : Int) ≤ (r.f : Int) + (r.s : Int) - (p : Int) := by omega
        go_enter Tryz.func111, Tryz.ntmps111
        go_wp2
        go_ret
        exact ⟨RB_d (by simp [Rg.has]; omega), hB2 _ _⟩
      · go_enter Tryz.func111, Tryz.ntmps111
        go_wp2
        go_ret
        exact ⟨RB_d (by simp [Rg.has]; omega), hB2 _ _⟩
    · go_enter Tryz.func111, Tryz.ntmps111
      go_wp2
      go_ret
      exact ⟨RB_f (fun h => h2 h.2.1), hB2 _ _⟩
  · go_enter Tryz.func111, Tryz.ntmps111
    go_wp2
    go_ret
    exact ⟨RB_f (fun h => h1 h.1), hB2 _ _⟩
end Go.Proofs.YtfaacmcnefbgcaaGreatDoor.m4

/- Contract of stretch.part. -/
namespace Go.Proofs.YtfaacmcnefbgcaaGreatDoor.m4
open Go.ChangeShapes Go.WideShapes Go.ChangeAt Go.RowKit
set_option linter.unusedVariables false
/-- Where a piece of n places begins. -/
def off0 (o p n : Nat) : Nat := if n = 0 then o else o + p
theorem res_str {fn : Func} {p : Tmp} (h : fn.results = #[.cell p 112]) (tmps : Array Value) (w : World) (g : Nat) (c0 c1 : Value) (hp : tmps.getD p undef = .pointer (some ⟨g, 0, none⟩))
    (h0 : w.cell? ⟨g, 0, none⟩ = some c0) (h1 : w.cell? ⟨g, 1, none⟩ = some c1) :
    (results fn tmps).run Tryz.prog w = .ok (.agg #[c0, c1]) w := by
  have hp' : tmps[p]?.getD undef = .pointer (some ⟨g, 0, none⟩) := by simpa using hp
  simp [results, h, hp', go_sem, h0, h1]
set_option maxHeartbeats 1000000 in
theorem part_any (vb tb o1 o2 n1 n2 c1 c2 p n : Nat) (h1 : p + n ≤ c1) (h2 : p + n ≤ c2) (hc : p + n ≤ 9223372036854775807) (w : World) :
    Calls Tryz.prog 42 #[.agg #[.slice (some ⟨vb, o1, none⟩) n1 c1, .slice (some ⟨tb, o2, none⟩) n2 c2], .int .u64 p, .int .u64 n] w fun e w' => e = .returned (.agg #[.slice (some ⟨vb, off0 o1 p n, none⟩) n n, .slice (some ⟨tb, off0 o2 p n, none⟩) n n]) ∧ Below w.heap.size w w' := by
  have e1 := add64 p n (by omega)
  have i0 : (0 : Int) ≤ (p : Int) := by omega
  have i1 : (p : Int) ≤ (p : Int) + (n : Int) := by omega
  have i2 : (p : Int) + (n : Int) ≤ (c1 : Int) := by omega
  have i3 : (p : Int) + (n : Int) ≤ (c2 : Int) := by omega
  have hB : ∀ C t C' t', Below w.heap.size w (((w.alloc (.cells C t)).alloc (.cells C' t')).drew) := fun C t C' t' => bd1 ((aBelow (aBelow (Below.refl _ _) _) _))
  by_cases hn : n = 0
  · have hn' : n = 0 := hn
    have ho : ∀ o, off0 o p n = o := fun o => by unfold off0; rw [if_pos hn]
    rw [ho, ho]
    go_enter Tryz.func42, Tryz.ntmps42
    go_wp2
    go_region
    go_wp2
    refine bodyPost_ret (res_str rfl _ _ (w.heap.size + 1) _ _ rfl (cbd _ _ _ _ 0 (by simp)) (cbd _ _ _ _ 1 (by simp))) rfl ?_
    exact ⟨by first | rfl | (rw [hn]; rfl) | rw [hn], hB _ _ _ _⟩
  · have ho : ∀ o, off0 o p n = o + p := fun o => by unfold off0; rw [if_neg hn]
    rw [ho, ho]
    go_enter Tryz.func42, Tryz.ntmps42
    go_wp2
    go_region
    go_wp2
    refine bodyPost_ret (res_str rfl _ _ (w.heap.size + 1) _ _ rfl (cbd _ _ _ _ 0 (by simp)) (cbd _ _ _ _ 1 (by simp))) rfl ?_
    exact ⟨by first | rfl | (rw [hn]; rfl) | rw [hn], hB _ _ _ _⟩
end Go.Proofs.YtfaacmcnefbgcaaGreatDoor.m4
