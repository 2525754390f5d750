/- Contracts of the law's Large and heavy: what holds where they answer false. -/
import Derived.Test.YtkcgnpcfdfkpjaaIo
import Derived.Test.YtkcgnpcfdfkpjaaMy
namespace Go.Proofs.Ytkcgnpcfdfkpjaa
open Go.ChangeShapes Go.WideShapes Go.ChangeAt Go.RowKit
set_option linter.unusedVariables false
/-- The sizes of the first k regions, each as 2^21 at most. -/
def lsL (l : List Rg) : Nat → Nat
  | 0 => 0
  | k + 1 => lsL l k + min (rg l k).s 2097152
theorem lsL_le (l : List Rg) : ∀ k, lsL l k ≤ k * 2097152
  | 0 => by simp [lsL]
  | k + 1 => by
    have := lsL_le l k
    have : min (rg l k).s 2097152 ≤ 2097152 := Nat.min_le_right _ _
    unfold lsL
    omega
def LgP (l : List Rg) : Prop := (MayL l ∧ 131072 < lsL l l.length) ∨ 40 < l.length
theorem may_sl {w : World} {v : Value} {l : List Rg} (hv : SlOf w v l) (hf : wfL l) (hn : l.length ≤ 9223372036854775807) :
    Calls Try.prog 20 #[v] w fun e w' => RB e (MayL l) ∧ Below w.heap.size w w' := by
  rcases hv with ⟨rfl, a, c, rfl⟩ | ⟨b, o, c, rfl, hr, hb, hc⟩
  · exact (may_nil a c w).mono fun e w' ⟨h1, h2⟩ => ⟨by rw [h1]; exact RB_f (fun h => by have := h.2.1; simp at this), h2⟩
  · exact may_any l hf b o c hn w hr hb
theorem large_nil (a : Option Addr) (c : Nat) (w : World) : Calls Try.prog 7 #[.slice a 0 c] w fun e w' => e = .returned (.bool false) ∧ Below w.heap.size w w' := by
  have hM := may_nil a c w
  go_enter Try.func7, Try.ntmps7
  go_wp2
  go_loopw [3, 4] (fun n i wr => i = .int .i64 0 ∧ n = .int .u64 0 ∧ wr = w) (fun _ _ _ => 0)
  case atStart => exact ⟨rfl, rfl, rfl⟩
  case round =>
    obtain ⟨rfl, rfl, rfl⟩ := hrel
    go_wp2_with (go_at_call 20; (with_reducible refine hM.mono ?_); (rintro e w1 ⟨rfl, hb1⟩))
    go_ret
    exact ⟨rfl, hb1⟩
theorem min21 (s : Nat) : min (s : Int) 2097152 = ((min s 2097152 : Nat) : Int) := by omega
set_option maxHeartbeats 1000000 in
theorem large_any (l : List Rg) (hf : wfL l) (b o c : Nat) (hn : l.length ≤ 9223372036854775807) (w : World) (hr : rowAt w b o l) (hb : b < w.heap.size) :
    Calls Try.prog 7 #[.slice (some ⟨b, o, none⟩) l.length c] w fun e w' => RB e (LgP l) ∧ Below w.heap.size w w' := by
  have hM := may_any l hf b o c hn w hr hb
  have hM1 : MayL l → Calls Try.prog 20 #[.slice (some ⟨b, o, none⟩) l.length c] w fun e w' => e = .returned (.bool true) ∧ Below w.heap.size w w' := fun hl => hM.mono fun e w' ⟨⟨r, he, hr⟩, hb⟩ => ⟨by rw [he, hr.2 hl], hb⟩
  have hM0 : ¬ MayL l → Calls Try.prog 20 #[.slice (some ⟨b, o, none⟩) l.length c] w fun e w' => e = .returned (.bool false) ∧ Below w.heap.size w w' := fun hl => hM.mono fun e w' ⟨⟨r, he, hr⟩, hb⟩ => ⟨by rw [he, Bool.eq_false_iff.2 (fun h => hl (hr.1 h))], hb⟩
  clear hM
  go_enter Try.func7, Try.ntmps7
  go_wp2
  go_loopw [3, 4] (fun n i wr => ∃ k : Nat, i = .int .i64 k ∧ n = .int .u64 (lsL l k : Nat) ∧ k ≤ l.length ∧ k ≤ 20 ∧ wr = w) (fun _ i _ => l.length - (intOf i).toNat)
  case atStart => exact ⟨0, rfl, rfl, Nat.zero_le _, by omega, rfl⟩
  case round =>
    obtain ⟨k, rfl, rfl, hk, hk2, rfl⟩ := hrel
    have ht := lsL_le l k
    by_cases hlt : k < l.length ∧ k < 20
    · obtain ⟨h1, h2⟩ := hlt
      obtain ⟨c0, c1, c2⟩ := hr k h1
      obtain ⟨v0, v1, v2⟩ := hf k
      have hmn : min (rg l k).s 2097152 ≤ 2097152 := Nat.min_le_right _ _
      have hmi := min21 (rg l k).s
      have ha := add64 (lsL l k) (min (rg l k).s 2097152) (by omega)
      have i1 : (k : Int) < (l.length : Int) := by omega
      have i2 : (k : Int) < 20 := by omega
      have hsucc : lsL l (k + 1) = lsL l k + min (rg l k).s 2097152 := rfl
      have hcast : ((lsL l k + min (rg l k).s 2097152 : Nat) : Int) = (lsL l k : Int) + if (2097152 : Int) < ((rg l k).s : Int) then 2097152 else ((rg l k).s : Int) := by split <;> omega
      go_wp2
      go_roundw
      case rel => exact ⟨k + 1, by go_num, by rw [hsucc, hcast], by omega, by omega, by first | rfl | trivial⟩
      case measure => first | (simp [intOf]; done) | (simp [intOf]; omega)
    · have hx : (k : Int) < (l.length : Int) → ¬ (k : Int) < 20 := fun h h' => hlt ⟨by omega, by omega⟩
      by_cases hl : MayL l
      · have hM := hM1 hl
        have hl16 := hl.2.2
        obtain rfl : k = l.length := by omega
        have h1 : ¬ (l.length : Int) < (l.length : Int) := by omega
        by_cases hb2 : 131072 < lsL l l.length
        · have hp : LgP l := Or.inl ⟨hl, hb2⟩
          go_wp2_with (go_at_call 20; (with_reducible refine hM.mono ?_); (rintro e w1 ⟨rfl, hb1⟩))
          go_ret
          first | exact ⟨RB_t hp, hb1⟩ | exact ⟨RB_t trivial, hb1⟩
        · have hp : ¬ LgP l := fun h => by rcases h with h | h <;> omega
          have h40 : ¬ (40 : Int) < (l.length : Int) := by omega
          go_wp2_with (go_at_call 20; (with_reducible refine hM.mono ?_); (rintro e w1 ⟨rfl, hb1⟩))
          go_ret
          first | exact ⟨RB_f hp, hb1⟩ | exact ⟨RB_f (fun h => h), hb1⟩ | exact ⟨RB_d (by simp; exact ⟨fun h => (by rcases h with h | h <;> omega), fun h => absurd h hp⟩), hb1⟩
      · have hM := hM0 hl
        have hp : decide ((40 : Int) < (l.length : Int)) = true ↔ LgP l := by
          rw [decide_eq_true_eq]
          exact ⟨fun h => Or.inr (by omega), fun h => by rcases h with h | h; exact absurd h.1 hl; omega⟩
        by_cases h1 : (k : Int) < (l.length : Int)
        · have h2 := hx h1
          go_wp2_with (go_at_call 20; (with_reducible refine hM.mono ?_); (rintro e w1 ⟨rfl, hb1⟩))
          go_ret
          exact ⟨RB_d (by first | exact hp | (rw [← hp]; simp)), hb1⟩
        · go_wp2_with (go_at_call 20; (with_reducible refine hM.mono ?_); (rintro e w1 ⟨rfl, hb1⟩))
          go_ret
          exact ⟨RB_d (by first | exact hp | (rw [← hp]; simp)), hb1⟩
theorem large_sl {w : World} {v : Value} {l : List Rg} (hv : SlOf w v l) (hf : wfL l) (hn : l.length ≤ 9223372036854775807) :
    Calls Try.prog 7 #[v] w fun e w' => RB e (LgP l) ∧ Below w.heap.size w w' := by
  rcases hv with ⟨rfl, a, c, rfl⟩ | ⟨b, o, c, rfl, hr, hb, hc⟩
  · exact (large_nil a c w).mono fun e w' ⟨h1, h2⟩ => ⟨by rw [h1]; exact RB_f (fun h => by rcases h with h | h; have := h.1.2.1; simp at this; simp at h), h2⟩
  · exact large_any l hf b o c hn w hr hb
/-- What a step weighs, and the first k steps. -/
def hvN (x : St) : Nat := x.s.size + (if x.d = 4 ∧ 0 < x.n ∧ x.n ≤ 1048576 then x.n.toNat else 0)
def hvS (l : List St) : Nat → Nat
  | 0 => 0
  | k + 1 => hvS l k + hvN (sg l k)
def HvP (l : List St) : Prop := (∃ k, k < l.length ∧ k < 300 ∧ 131072 < hvS l (k + 1)) ∨ 200 < l.length
/-- What steps may be played. -/
def lightL (l : List St) : Prop := l.length ≤ 200 ∧ ∀ i < l.length, (sg l i).s.size ≤ 131072
theorem light_of {l : List St} (h : ¬ HvP l) : lightL l := by
  have hn : l.length ≤ 200 := Nat.not_lt.1 fun hh => h (Or.inr hh)
  refine ⟨hn, fun i hi => ?_⟩
  have : ¬ 131072 < hvS l (i + 1) := fun hh => h (Or.inl ⟨i, hi, by omega, hh⟩)
  unfold hvS hvN at this
  omega
theorem heavy_nil (a : Option Addr) (c : Nat) (w : World) : Calls Try.prog 8 #[.slice a 0 c] w fun e w' => e = .returned (.bool false) ∧ Below w.heap.size w w' := by
  go_enter Try.func8, Try.ntmps8
  go_wp2
  go_loopw [3, 4] (fun n i wr => i = .int .i64 0 ∧ n = .int .i64 0 ∧ wr = w) (fun _ _ _ => 0)
  case atStart => exact ⟨rfl, rfl, rfl⟩
  case round =>
    obtain ⟨rfl, rfl, rfl⟩ := hrel
    go_wp2
    go_ret
    exact ⟨rfl, Below.refl _ _⟩
set_option maxRecDepth 100000 in
set_option maxHeartbeats 2000000 in
theorem heavy_any (l : List St) (hf : ∀ i, (sg l i).wf) (hz : ∀ i < l.length, (sg l i).s.size ≤ 140737488355328) (b o c : Nat) (hn : l.length ≤ 9223372036854775807) (w : World) (hr : ∀ i < l.length, stAt w b (o + i * 6) (sg l i)) (hb : b < w.heap.size) :
    Calls Try.prog 8 #[.slice (some ⟨b, o, none⟩) l.length c] w fun e w' => RB e (HvP l) ∧ Below w.heap.size w w' := by
  go_enter Try.func8, Try.ntmps8
  go_wp2
  go_loopw [3, 4] (fun n i wr => ∃ k t : Nat, i = .int .i64 k ∧ n = .int .i64 t ∧ k ≤ l.length ∧ k ≤ 300 ∧ t = hvS l k ∧ t ≤ 131072 ∧ (∀ j < k, ¬ 131072 < hvS l (j + 1)) ∧ wr = w) (fun _ i _ => l.length - (intOf i).toNat)
  case atStart => exact ⟨0, 0, rfl, rfl, Nat.zero_le _, by omega, rfl, by omega, fun j hj => by omega, rfl⟩
  case round =>
    obtain ⟨k, t', rfl, rfl, hk, hk3, rfl, ht, hj, rfl⟩ := hrel
    by_cases hlt : k < l.length ∧ k < 300
    · obtain ⟨h1, h2⟩ := hlt
      obtain ⟨c0, c1, c2, c3, c4, c5⟩ := hr k h1
      obtain ⟨v0, v1, v2, v3, v4⟩ := hf k
      have v5 := hz k h1
      have i1 : (k : Int) < (l.length : Int) := by omega
      have i2 : (k : Int) < 300 := by omega
      obtain ⟨x, hx⟩ : ∃ x, sg l k = x := ⟨_, rfl⟩
      have hsuc : hvS l (k + 1) = hvS l k + hvN x := by rw [← hx]; rfl
      rw [hx] at c0 c1 c2 c3 c4 c5 v0 v1 v2 v3 v4 v5
      have hyes : 131072 < hvS l k + hvN x → HvP l := fun h => Or.inl ⟨k, h1, h2, by rw [hsuc]; exact h⟩
      have hnext : ¬ 131072 < hvS l k + hvN x → ∀ j < k + 1, ¬ 131072 < hvS l (j + 1) := fun h j hj' => by
        rcases Nat.lt_or_ge j k with h3 | h3
        · exact hj j h3
        · obtain rfl : j = k := by omega
          rw [hsuc]; exact h
      by_cases hd : x.d = 4 ∧ 0 < x.n ∧ x.n ≤ 1048576
      · obtain ⟨d1, d2, d3⟩ := hd
        obtain ⟨m, hm⟩ : ∃ m : Nat, x.n = m := ⟨x.n.toNat, by omega⟩
        have hN : hvN x = x.s.size + m := by unfold hvN; rw [if_pos ⟨d1, d2, d3⟩, hm, Int.toNat_natCast]
        rw [hN] at hsuc hyes hnext
        rw [d1] at c0
        rw [hm] at c2 d2 d3
        by_cases hbig : 131072 < hvS l k + x.s.size + m
        · go_wp2
          go_ret
          first | exact ⟨RB_t (hyes (by omega)), Below.refl _ _⟩ | exact ⟨RB_t trivial, Below.refl _ _⟩
        · go_wp2
          go_roundw
          case rel => exact ⟨k + 1, hvS l k + x.s.size + m, by go_num, by first | rfl | (simp; done), by omega, by omega, by omega, by omega, hnext (by omega), by first | rfl | trivial⟩
          case measure => first | (simp [intOf]; done) | (simp [intOf]; omega)
      · have hN : hvN x = x.s.size := by unfold hvN; rw [if_neg hd]; rfl
        rw [hN] at hsuc hyes hnext
        by_cases hbig : 131072 < hvS l k + x.s.size
        · by_cases e4 : x.d = 4
          · by_cases e5 : 0 < x.n
            · have e6 : 1048576 < x.n := by omega
              go_wp2
              go_ret
              first | exact ⟨RB_t (hyes (by omega)), Below.refl _ _⟩ | exact ⟨RB_t trivial, Below.refl _ _⟩
            · go_wp2
              go_ret
              first | exact ⟨RB_t (hyes (by omega)), Below.refl _ _⟩ | exact ⟨RB_t trivial, Below.refl _ _⟩
          · go_wp2
            go_ret
            first | exact ⟨RB_t (hyes (by omega)), Below.refl _ _⟩ | exact ⟨RB_t trivial, Below.refl _ _⟩
        · by_cases e4 : x.d = 4
          · by_cases e5 : 0 < x.n
            · have e6 : 1048576 < x.n := by omega
              go_wp2
              go_roundw
              case rel => exact ⟨k + 1, hvS l k + x.s.size, by go_num, by first | rfl | (simp; done), by omega, by omega, by omega, by omega, hnext (by omega), by first | rfl | trivial⟩
              case measure => first | (simp [intOf]; done) | (simp [intOf]; omega)
            · go_wp2
              go_roundw
              case rel => exact ⟨k + 1, hvS l k + x.s.size, by go_num, by first | rfl | (simp; done), by omega, by omega, by omega, by omega, hnext (by omega), by first | rfl | trivial⟩
              case measure => first | (simp [intOf]; done) | (simp [intOf]; omega)
          · go_wp2
            go_roundw
            case rel => exact ⟨k + 1, hvS l k + x.s.size, by go_num, by first | rfl | (simp; done), by omega, by omega, by omega, by omega, hnext (by omega), by first | rfl | trivial⟩
            case measure => first | (simp [intOf]; done) | (simp [intOf]; omega)
    · have hp : decide ((200 : Int) < (l.length : Int)) = true ↔ HvP l := by
        rw [decide_eq_true_eq]
        refine ⟨fun h => Or.inr (by omega), fun h => ?_⟩
        rcases h with ⟨j, h1, h2, h3⟩ | h
        · exact absurd h3 (hj j (by omega))
        · omega
      by_cases h1 : k < l.length
      · have i1 : (k : Int) < (l.length : Int) := by omega
        have i2 : ¬ (k : Int) < 300 := by omega
        go_wp2
        go_ret
        exact ⟨RB_d (by first | exact hp | (rw [← hp]; simp)), Below.refl _ _⟩
      · have i1 : ¬ (k : Int) < (l.length : Int) := by omega
        obtain rfl : k = l.length := by omega
        go_wp2
        go_ret
        exact ⟨RB_d (by first | exact hp | (rw [← hp]; simp)), Below.refl _ _⟩
theorem heavy_sl {w : World} {v : Value} {l : List St} (hv : StOf w v l) (hf : ∀ i, (sg l i).wf) (hz : ∀ i < l.length, (sg l i).s.size ≤ 140737488355328) (hn : l.length ≤ 9223372036854775807) :
    Calls Try.prog 8 #[v] w fun e w' => RB e (HvP l) ∧ Below w.heap.size w w' := by
  rcases hv with ⟨rfl, a, c, rfl⟩ | ⟨b, o, c, rfl, hr, hb, hc⟩
  · exact (heavy_nil a c w).mono fun e w' ⟨h1, h2⟩ => ⟨by rw [h1]; exact RB_f (fun h => by rcases h with ⟨k, hk, _⟩ | h; simp at hk; simp at h), h2⟩
  · exact heavy_any l hf hz b o c hn w hr hb
end Go.Proofs.Ytkcgnpcfdfkpjaa
