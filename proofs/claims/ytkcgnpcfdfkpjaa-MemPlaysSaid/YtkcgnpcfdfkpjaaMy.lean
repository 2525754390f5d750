/- Contract of the document's May. -/
import Derived.Test.YtkcgnpcfdfkpjaaMp
namespace Go.Proofs.Ytkcgnpcfdfkpjaa
open Go.ChangeShapes Go.WideShapes Go.ChangeAt Go.RowKit
set_option linter.unusedVariables false
theorem may_nil (a : Option Addr) (c : Nat) (w : World) :
    Calls Try.prog 20 #[.slice a 0 c] w fun e w' => e = .returned (.bool false) ∧ Below w.heap.size w w' := by
  go_enter Try.func20, Try.ntmps20
  go_wp2
  go_loopw [3] (fun i wr => i = .int .i64 0 ∧ Below w.heap.size w wr) (fun _ _ => 0)
  case atStart => exact ⟨rfl, Below.refl _ _⟩
  case round =>
    obtain ⟨rfl, hB⟩ := hrel
    go_wp2
    go_ret
    exact ⟨rfl, hB⟩
set_option maxHeartbeats 1000000 in
theorem may_any (l : List Rg) (hf : wfL l) (b o c : Nat) (hn : l.length ≤ 9223372036854775807) (w : World) (hr : rowAt w b o l) (hb : b < w.heap.size) :
    Calls Try.prog 20 #[.slice (some ⟨b, o, none⟩) l.length c] w fun e w' => RB e (MayL l) ∧ Below w.heap.size w w' := by
  go_enter Try.func20, Try.ntmps20
  go_wp2
  go_loopw [3] (fun i wr => ∃ k : Nat, i = .int .i64 k ∧ k ≤ l.length ∧ (∀ j < k, Good l j) ∧ Below w.heap.size w wr) (fun i _ => l.length - (intOf i).toNat)
  case atStart => exact ⟨0, rfl, Nat.zero_le _, fun j hj => by omega, Below.refl _ _⟩
  case round =>
    obtain ⟨k, rfl, hk, hg, hB⟩ := hrel
    by_cases hlt : k < l.length
    · obtain ⟨c0, c1, c2⟩ := hr k hlt
      have c0 := stay hB c0
      have c1 := stay hB c1
      have c2 := stay hB c2
      obtain ⟨v0, v1, v2⟩ := hf k
      obtain ⟨r, hrr⟩ : ∃ r, rg l k = r := ⟨_, rfl⟩
      have hbs : b < wr.heap.size := Nat.lt_of_lt_of_le hb hB.size
      have hG : Good l k ↔ r.ok ∧ ∀ j < k, ¬ meets r (rg l j) := by rw [← hrr]; rfl
      rw [hrr] at c0 c1 c2 v0 v1 v2
      have hB2 : Below w.heap.size w (wr.alloc (.cells #[.int .u64 r.f, .int .u64 r.s, .int .u8 r.k] 36)) := hB.alloc hB.size _
      by_cases h1 : r.ok
      · have h1' := h1
        obtain ⟨⟨k1, k2, k3, k4⟩, k5⟩ := h1
        have hs := sub40 r.s k4
        have k6 : ¬ ((1099511627776 - r.s : Nat) : Int) < (r.f : Int) := by omega
        go_wp2
        go_loopw [5] (fun j wr' => ∃ m : Nat, j = .int .i64 m ∧ m ≤ k ∧ (∀ j < m, ¬ meets r (rg l j)) ∧ ∃ q, wr' = (wr.alloc (.cells #[.int .u64 r.f, .int .u64 r.s, .int .u8 r.k] 36)).drewN q) (fun j _ => k - (intOf j).toNat)
        case atStart => exact ⟨0, rfl, Nat.zero_le _, fun j hj => by omega, 0, rfl⟩
        case round =>
          obtain ⟨m, rfl, hm, hno, nd, rfl⟩ := hrel
          have hB3 := bdN hB2 nd
          by_cases hml : m < k
          · obtain ⟨d0, d1, d2⟩ := hr m (by omega)
            have d0 := stay hB d0
            have d1 := stay hB d1
            have d2 := stay hB d2
            obtain ⟨x0, x1, x2⟩ := hf m
            have hgm := (hg m hml).1
            obtain ⟨q, hq⟩ : ∃ q, rg l m = q := ⟨_, rfl⟩
            have hmt : meets r (rg l m) ↔ r.f < q.f + q.s ∧ q.f < r.f + r.s := by rw [← hq]; exact Iff.rfl
            rw [hq] at d0 d1 d2 x0 x1 x2 hgm
            obtain ⟨⟨_, _, _, q4⟩, q5⟩ := hgm
            have e1 := add64 q.f q.s (by omega)
            have e2 := add64 r.f r.s (by omega)
            have i0 : (0 : Int) ≤ (m : Int) := by omega
            have i1 : (m : Int) < (l.length : Int) := by omega
            by_cases t1 : r.f < q.f + q.s
            · have t1' : (r.f : Int) < (q.f : Int) + (q.s : Int) := by omega
              go_wp2
              go_quiet (fail)
              by_cases t2 : q.f < r.f + r.s
              · have t2' : (q.f : Int) < (r.f : Int) + (r.s : Int) := by omega
                go_wp2
                go_ret
                exact ⟨RB_f (may_not hlt (fun h => (hG.1 h).2 m hml (hmt.2 ⟨t1, t2⟩))), by first | exact bdN hB2 _ | exact bdN (bdN hB2 _) _⟩
              · have t2' : ¬ (q.f : Int) < (r.f : Int) + (r.s : Int) := by omega
                go_wp2
                go_roundw
                case rel => exact ⟨m + 1, by go_num, by omega, fun j hj => by
                  rcases Nat.lt_or_ge j m with h | h
                  · exact hno j h
                  · obtain rfl : j = m := by omega
                    exact fun h => t2 (hmt.1 h).2, by first | exact ⟨_, rfl⟩ | exact ⟨_, World.drewN_drewN⟩⟩
                case measure => first | (simp [intOf]; done) | (simp [intOf]; omega)
            · have t1' : decide ((r.f : Int) < (q.f : Int) + (q.s : Int)) = false := by simp only [decide_eq_false_iff_not]; omega
              go_wp2
              go_quiet (fail)
              go_wp2
              go_roundw
              case rel => exact ⟨m + 1, by go_num, by omega, fun j hj => by
                rcases Nat.lt_or_ge j m with h | h
                · exact hno j h
                · obtain rfl : j = m := by omega
                  exact fun h => t1 (hmt.1 h).1, by first | exact ⟨_, rfl⟩ | exact ⟨_, World.drewN_drewN⟩⟩
              case measure => first | (simp [intOf]; done) | (simp [intOf]; omega)
          · obtain rfl : m = k := by omega
            go_wp2
            go_roundw
            case rel => exact ⟨m + 1, by go_num, by omega, fun j hj => by
              rcases Nat.lt_or_ge j m with h | h
              · exact hg j h
              · obtain rfl : j = m := by omega
                exact hG.2 ⟨h1', hno⟩, hB3⟩
            case measure => first | (simp [intOf]; done) | (simp [intOf]; omega)
      · have hnot := may_not hlt (fun h => h1 (hG.1 h).1)
        have h1' : ¬ (1 ≤ r.k ∧ r.k ≤ 4 ∧ 1 ≤ r.s ∧ r.s ≤ 1048576 ∧ r.f + r.s ≤ 1099511627776) := fun h => h1 ⟨⟨h.1, h.2.1, h.2.2.1, h.2.2.2.1⟩, h.2.2.2.2⟩
        go_wp2
        all_goals (first | (exfalso; omega) | (go_ret; first | exact ⟨RB_f hnot, hB2⟩ | exact ⟨RB_f (fun h => h), hB2⟩))
    · obtain rfl : k = l.length := by omega
      go_wp2
      all_goals go_ret
      · exact ⟨RB_d (by simp only [decide_eq_true_eq]; exact ⟨fun h => ⟨hg, by omega, by omega⟩, fun h => by have := h.2.2; omega⟩), hB⟩
      · exact ⟨RB_f (fun h => by have := h.2; omega), hB⟩
end Go.Proofs.Ytkcgnpcfdfkpjaa
