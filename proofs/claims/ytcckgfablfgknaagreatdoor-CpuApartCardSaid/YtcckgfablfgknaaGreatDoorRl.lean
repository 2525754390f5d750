/- Contracts of the document's Load, Store, Fetch. -/
import Derived.Test.YtcckgfablfgknaaGreatDoorQi
namespace Go.Proofs.YtcckgfablfgknaaGreatDoor.m4
open Go.ChangeShapes Go.WideShapes Go.ChangeAt Go.RowKit
set_option linter.unusedVariables false
theorem inV_none {l : List Rg} {p n : Nat} (h : hitI l p n = none) : inV l p n = .tuple #[.int .i64 (-1), .int .i64 0] := by unfold inV; rw [h]
theorem inV_some {l : List Rg} {p n i : Nat} (h : hitI l p n = some i) : inV l p n = .tuple #[.int .i64 i, .int .i64 (p - (rg l i).f : Nat)] := by unfold inV; rw [h]
theorem ldF_hit {l : List Rg} {bv : Nat → Nat} {tv : Nat → Bool} {p n i : Nat} (h1 : 1 ≤ n) (h8 : n ≤ 8) (h : hitI l p n = some i) : ldF l bv tv p (n : Int) = if (rg l i).k = 1 then (0, false, 40) else (ldv bv (beg l i + (p - (rg l i).f)) n, ldt tv (beg l i + (p - (rg l i).f)) n, 0) := by
  unfold ldF; rw [if_neg (by omega), Int.toNat_natCast, h]
  simp only
  have hp : pos l i p n = beg l i + (p - (rg l i).f) := by unfold pos off0; rw [if_neg (by omega)]
  rw [hp]
theorem ldF_miss {l : List Rg} {bv : Nat → Nat} {tv : Nat → Bool} {p n : Nat} (h1 : 1 ≤ n) (h8 : n ≤ 8) (h : hitI l p n = none) : ldF l bv tv p (n : Int) = (0, false, 40) := by
  unfold ldF; rw [if_neg (by omega), Int.toNat_natCast, h]
theorem ldv_step (bv : Nat → Nat) (q n : Nat) : ldv bv q (n + 1) = 256 * ldv bv (q + 1) n + bv q := by simp only [ldv]; omega
theorem ldt_step (tv : Nat → Bool) (q n : Nat) : ldt tv q (n + 1) = (ldt tv (q + 1) n || tv q) := by
  rw [Bool.eq_iff_iff, Bool.or_eq_true, ldt_iff, ldt_iff]
  constructor
  · rintro ⟨k, hk, h⟩
    cases k with
    | zero => exact Or.inr h
    | succ k => exact Or.inl ⟨k, by omega, by rw [show q + 1 + k = q + (k + 1) by omega]; exact h⟩
  · rintro (⟨k, hk, h⟩ | h)
    · exact ⟨k + 1, by omega, by rw [show q + (k + 1) = q + 1 + k by omega]; exact h⟩
    · exact ⟨0, by omega, h⟩
set_option maxHeartbeats 1000000 in
theorem rload_any {y : Mr} {bv : Nat → Nat} {tv : Nat → Bool} (p : Nat) (n : Int) (hp : p < 18446744073709551616) (w : World) (h : IsR w y bv tv) :
    Calls Tryz.prog 140 #[.pointer (some ⟨y.rb, 0, none⟩), .int .u64 p, .int .i64 n] w fun e w' => e = .returned (.tuple #[.int .u64 ((ldF y.l bv tv p n).1 : Nat), .bool (ldF y.l bv tv p n).2.1, .int .i64 (ldF y.l bv tv p n).2.2]) ∧ Below w.heap.size w w' := by
  by_cases hn : n < 1 ∨ 8 < n
  · rw [ldF_bad hn]
    by_cases h1 : n < 1
    · clear hn
      go_enter Tryz.func140, Tryz.ntmps140
      go_wp2
      go_ret3
      exact ⟨rfl, Below.refl _ _⟩
    · have h2 : 8 < n := by omega
      clear hn
      go_enter Tryz.func140, Tryz.ntmps140
      go_wp2
      go_ret3
      exact ⟨rfl, Below.refl _ _⟩
  · obtain ⟨m, rfl⟩ : ∃ m : Nat, n = m := ⟨n.toNat, by omega⟩
    have h1 : 1 ≤ m := by omega
    have h8 : m ≤ 8 := by omega
    have h1' : ¬ (m : Int) < 1 := by omega
    have h8' : ¬ (8 : Int) < (m : Int) := by omega
    clear hn
    have hIn := in_any h.may h.wf p m hp (by omega) w h.rr
    cases hi : hitI y.l p m with
    | none =>
      rw [ldF_miss h1 h8 hi]
      rw [inV_none hi] at hIn
      go_enter Tryz.func140, Tryz.ntmps140
      go_wp2_with (go_at_call 63; (with_reducible refine hIn.mono ?_); (rintro e w1 ⟨rfl, hb1⟩))
      go_ret3
      exact ⟨rfl, hb1⟩
    | some i =>
      rw [ldF_hit h1 h8 hi]
      rw [inV_some hi] at hIn
      obtain ⟨hil, hf1, hf2, hf3⟩ := hit_some hi
      have hl16 := h.may.2.2
      obtain ⟨⟨⟨g1, g2, g3, g4⟩, g5⟩, _⟩ := h.may.1 i hil
      obtain ⟨c0, c1, c2⟩ := h.rr.row i hil
      rw [Nat.zero_add] at c0 c1 c2
      have i0 : (0 : Int) ≤ (i : Int) := by omega
      have i1 : (i : Int) < (y.l.length : Int) := by omega
      have i2 : decide ((i : Int) < 0) = false := by simp only [decide_eq_false_iff_not]; omega
      obtain ⟨d, hd⟩ : ∃ d, p - (rg y.l i).f = d := ⟨_, rfl⟩
      have hds : d + m ≤ (rg y.l i).s := by omega
      rw [hd] at hIn ⊢
      obtain ⟨q, hq⟩ : ∃ q, beg y.l i + d = q := ⟨_, rfl⟩
      rw [hq]
      have hvs : ∀ o < (rg y.l i).s, w.cell? ⟨y.bs i, o, none⟩ = some (.int .u8 (bv (beg y.l i + o) : Nat)) := h.vals i hil
      have hts : ∀ o < (rg y.l i).s, w.cell? ⟨y.ts i, o, none⟩ = some (.bool (tv (beg y.l i + o))) := h.tnts i hil
      have hbb := h.rr.hb i hil
      have hbt := h.rr.ht i hil
      have s0 := h.rr.h0
      have s1 := h.rr.h1
      have s2 := h.rr.h2
      have b8 := h.b8
      by_cases hk : (rg y.l i).k = 1
      · rw [if_pos hk]
        rw [hk] at c2
        clear hf1 hf2 hf3
        go_enter Tryz.func140, Tryz.ntmps140
        go_wp2_with (go_at_call 63; (with_reducible refine hIn.mono ?_); (rintro e w1 ⟨rfl, hb1⟩); have s0 := stay hb1 s0; have c2 := stay hb1 c2)
        go_ret3
        exact ⟨rfl, hb1⟩
      · rw [if_neg hk]
        have hk' : (((rg y.l i).k : Int) == 1) = false := by simp only [beq_eq_false_iff_ne]; omega
        have hk2 : ¬ ((rg y.l i).k : Int) = 1 := by omega
        generalize (rg y.l i).k = kk at *
        clear hf1 hf2 hf3
        go_enter Tryz.func140, Tryz.ntmps140
        go_wp2_with (go_at_call 63; (with_reducible refine hIn.mono ?_); (rintro e w1 ⟨rfl, hb1⟩); have s0 := stay hb1 s0; have c2 := stay hb1 c2)
        go_loopw [11, 12, 13] (fun v t j wr => ∃ k : Nat, k ≤ m ∧ v = .int .u64 (ldv bv (q + k) (m - k) : Nat) ∧ t = .bool (ldt tv (q + k) (m - k)) ∧ j = .int .i64 ((k : Int) - 1) ∧ wr = w1) (fun _ _ j _ => (intOf j + 1).toNat)
        case atStart => exact ⟨m, Nat.le_refl _, by rw [Nat.sub_self]; rfl, by rw [Nat.sub_self]; rfl, rfl, rfl⟩
        case round =>
          obtain ⟨k, hkm, rfl, rfl, rfl, rfl⟩ := hrel
          cases k with
          | zero =>
            have j0 : ¬ (0 : Int) ≤ ((0 : Nat) : Int) - 1 := by omega
            go_wp2
            go_ret3
            exact ⟨rfl, hb1⟩
          | succ k =>
            have ej : ((k + 1 : Nat) : Int) - 1 = (k : Int) := by omega
            rw [ej]
            have s1 := stay hb1 s1
            have s2 := stay hb1 s2
            have hbb := stay hb1 hbb
            have hbt := stay hb1 hbt
            have cv := stay hb1 (hvs (d + k) (by omega))
            have ct := stay hb1 (hts (d + k) (by omega))
            rw [show beg y.l i + (d + k) = q + k by omega] at cv ct
            have hv1 := ldv_step bv (q + k) (m - (k + 1))
            have ht1 := ldt_step tv (q + k) (m - (k + 1))
            rw [show m - (k + 1) + 1 = m - k by omega, show q + k + 1 = q + (k + 1) by omega] at hv1 ht1
            have hv64 := ldv_lt64 b8 (m - k) (q + k) (by omega)
            have hb8k := b8 (q + k)
            generalize ldv bv (q + (k + 1)) (m - (k + 1)) = V at *
            generalize ldt tv (q + (k + 1)) (m - (k + 1)) = T at *
            have w1' : IntKind.u64.wrap (256 * (V : Int)) = ((256 * V : Nat) : Int) := by rw [IntKind.wrap_u64]; omega
            have w2' : IntKind.u64.wrap (((256 * V : Nat) : Int) + (bv (q + k) : Int)) = ((ldv bv (q + k) (m - k) : Nat) : Int) := by rw [IntKind.wrap_u64]; omega
            have j0 : (0 : Int) ≤ (k : Int) := by omega
            cases T with
            | true =>
              go_wp2
              go_roundw
              case rel => exact ⟨k, by omega, by go_num, by rw [ht1]; rfl, by go_num, by first | rfl | trivial⟩
              case measure => first | (simp [intOf]; done) | (simp [intOf]; omega)
            | false =>
              go_wp2
              go_roundw
              case rel => exact ⟨k, by omega, by go_num, by rw [ht1]; rfl, by go_num, by first | rfl | trivial⟩
              case measure => first | (simp [intOf]; done) | (simp [intOf]; omega)
end Go.Proofs.YtcckgfablfgknaaGreatDoor.m4
