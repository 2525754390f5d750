/- Contracts of the document's Load, Store, Fetch. -/
import Derived.Test.YtfaacmcnefbgcaaGreatDoorQi
namespace Go.Proofs.YtfaacmcnefbgcaaGreatDoor.m4
open Go.ChangeShapes Go.WideShapes Go.ChangeAt Go.RowKit
set_option linter.unusedVariables false
theorem inV_none {l : List Rg} {p n : Nat} (h : hitI l p n = none) : inV l p n = .tuple #[.int .i64 (-1), .int .i64 0] := by unfold inV; rw [h]
theorem inV_some {l : List Rg} {p n i : Nat} (h : hitI l p n = some i) : inV l p n = .tuple #[.int .i64 i, .int .i64 (p - (rg l i).f : Nat)] := by unfold inV; rw [h]
theorem ldF_hit {l : List Rg} {bv : Nat → Nat} {tv : Nat → Bool} {p n i : Nat} (h1 : 1 ≤ n) (h8 : n ≤ 8) (h : hitI l p n = some i) : ldF l bv tv p (n : Int) = if (rg l i).k = 1 then (0, false, 40) else (ldv bv (beg l i + (p - (rg l i).f)) n, ldt tv (beg l i + (p - (rg l i).f)) n, 0) := by
  unfold ldF; rw [if_neg (by omega), Int.toNat_natCast, h]
  simp only
  have hp : pos l i p n = beg l i + (p - (rg l i).f) := by unfold pos off0; rw [if_neg (by omega)]
  rw [hp]
theorem ldF_miss {l : List Rg} {bv : Nat → Nat} {tv : Nat → Bool} {p n : Nat} (h1 : 1 ≤ n) (h8 : n ≤ 8) (h : hitI l p n = none) : ldF l bv tv p (n : Int) = (0, false, 40) := by
  unfold ldF; rw [if_neg (by omega), Int.toNat_natCast, h]
theorem ldv_step (bv : Nat → Nat) (q n : Nat) : ldv bv q (n + 1) = 256 * ldv bv (q + 1) n + bv q := by simp only [ldv]; omega
theorem ldt_step (tv : Nat → Bool) (q n : Nat) : ldt tv q (n + 1) = (ldt tv (q + 1) n || tv q) := by
  rw [Bool.eq_iff_iff, Bool.or_eq_true, ldt_iff, ldt_iff]
  constructor
  · rintro ⟨k, hk, h⟩
    cases k with
    | zero => exact Or.inr h
    | succ k => exact Or.inl ⟨k, by omega, by rw [show q + 1 + k = q + (k + 1) by omega]; exact h⟩
  · rintro (⟨k, hk, h⟩ | h)
    · exact ⟨k + 1, by omega, by rw [show q + (k + 1) = q + 1 + k by omega]; exact h⟩
    · exact ⟨0, by omega, h⟩
set_option maxHeartbeats 1000000 in
theorem rload_any {y : Mr} {bv : Nat → Nat} {tv : Nat → Bool} (p : Nat) (n : Int) (hp : p < 18446744073709551616) (w : World) (h : IsR w y bv tv) :
    Calls Tryz.prog 108 #[.pointer (some ⟨y.rb, 0, none⟩), .int .u64 p, .int .i64 n] w fun e w' => e = .returned (.tuple #[.int .u64 ((ldF y.l bv tv p n).1 : Nat), .bool (ldF y.l bv tv p n).2.1, .int .i64 (ldF y.l bv tv p n).2.2]) ∧ Below w.heap.size w w' := by
  by_cases hn : n < 1 ∨ 8 < n
  · rw [ldF_bad hn]
    by_cases h1 : n < 1
    · clear hn
      go_enter Tryz.func108, Tryz.ntmps108
      go_wp2
      go_ret3
      exact ⟨rfl, Below.refl _ _⟩
    · have h2 : 8 < n := by omega
      clear hn
      go_enter Tryz.func108, Tryz.ntmps108
      go_wp2
      go_ret3
      exact ⟨rfl, Below.refl _ _⟩
  · obtain ⟨m, rfl⟩ : ∃ m : Nat, n = m := ⟨n.toNat, by omega⟩
    have h1 : 1 ≤ m := by omega
    have h8 : m ≤ 8 := by omega
    have h1' : ¬ (m : Int) < 1 := by omega
    have h8' : ¬ (8 : Int) < (m : Int) := by omega
    clear hn
    have hIn := in_any h.may h.wf p m hp (by omega) w h.rr
    cases hi : hitI y.l p m with
    | none =>
      rw [ldF_miss h1 h8 hi]
      rw [inV_none hi] at hIn
      go_enter Tryz.func108, Tryz.ntmps108
      go_wp2_with (go_at_call 50; (with_reducible refine hIn.mono ?_); (rintro e w1 ⟨rfl, hb1⟩))
      go_ret3
      exact ⟨rfl, hb1⟩
    | some i =>
      rw [ldF_hit h1 h8 hi]
      rw [inV_some hi] at hIn
      obtain ⟨hil, hf1, hf2, hf3⟩ := hit_some hi
      have hl16 := h.may.2.2
      obtain ⟨⟨⟨g1, g2, g3, g4⟩, g5⟩, _⟩ := h.may.1 i hil
      obtain ⟨c0, c1, c2⟩ := h.rr.row i hil
      rw [Nat.zero_add] at c0 c1 c2
      have i0 : (0 : Int) ≤ (i : Int) := by omega
      have i1 : (i : Int) < (y.l.length : Int) := by omega
      have i2 : decide ((i : Int) < 0) = false := by simp only [decide_eq_false_iff_not]; omega
      obtain ⟨d, hd⟩ : ∃ d, p - (rg y.l i).f = d := ⟨_, rfl⟩
      have hds : d + m ≤ (rg y.l i).s := by omega
      rw [hd] at hIn ⊢
      obtain ⟨q, hq⟩ : ∃ q, beg y.l i + d = q := ⟨_, rfl⟩
      rw [hq]
      have hvs : ∀ o < (rg y.l i).s, w.cell? ⟨y.bs i, o, none⟩ = some (.int .u8 (bv (beg y.l i + o) : Nat)) := h.vals i hil
      have hts : ∀ o < (rg y.l i).s, w.cell? ⟨y.ts i, o, none⟩ = some (.bool (tv (beg y.l i + o))) := h.tnts i hil
      have hbb := h.rr.hb i hil
      have hbt := h.rr.ht i hil
      have s0 := h.rr.h0
      have s1 := h.rr.h1
      have s2 := h.rr.h2
      have b8 := h.b8
      by_cases hk : (rg y.l i).k = 1
      · rw [if_pos hk]
        rw [hk] at c2
        clear hf1 hf2 hf3
        go_enter Tryz.func108, Tryz.ntmps108
        go_wp2_with (go_at_call 50; (with_reducible refine hIn.mono ?_); (rintro e w1 ⟨rfl, hb1⟩); have s0 := stay hb1 s0; have c2 := stay hb1 c2)
        go_ret3
        exact ⟨rfl, hb1⟩
      · rw [if_neg hk]
        have hk' : (((rg y.l i).k : Int) == 1) = false := by simp only [beq_eq_false_iff_ne]; omega
        have hk2 : ¬ ((rg y.l i).k : Int) = 1 := by omega
        generalize (rg y.l i).k = kk at *
        clear hf1 hf2 hf3
        go_enter Tryz.func108, Tryz.ntmps108
        go_wp2_with (go_at_call 50; (with_reducible refine hIn.mono ?_); (rintro e w1 ⟨rfl, hb1⟩); have s0 := stay hb1 s0; have c2 := stay hb1 c2)
        go_loopw [11, 12, 13] (fun v t j wr => ∃ k : Nat, k ≤ m ∧ v = .int .u64 (ldv bv (q + k) (m - k) : Nat) ∧ t = .bool (ldt tv (q + k) (m - k)) ∧ j = .int .i64 ((k : Int) - 1) ∧ wr = w1) (fun _ _ j _ => (intOf j + 1).toNat)
        case atStart => exact ⟨m, Nat.le_refl _, by rw [Nat.sub_self]; rfl, by rw [Nat.sub_self]; rfl, rfl, rfl⟩
        case round =>
          obtain ⟨k, hkm, rfl, rfl, rfl, rfl⟩ := hrel
          cases k with
          | zero =>
            have j0 : ¬ (0 : Int) ≤ ((0 : Nat) : Int) - 1 := by omega
            go_wp2
            go_ret3
            exact ⟨rfl, hb1⟩
          | succ k =>
            have ej : ((k + 1 : Nat) : Int) - 1 = (k : Int) := by omega
            rw [ej]
            have s1 := stay hb1 s1
            have s2 := stay hb1 s2
            have hbb := stay hb1 hbb
            have hbt := stay hb1 hbt
            have cv := stay hb1 (hvs (d + k) (by omega))
            have ct := stay hb1 (hts (d + k) (by omega))
            rw [show beg y.l i + (d + k) = q + k by omega] at cv ct
            have hv1 := ldv_step bv (q + k) (m - (k + 1))
            have ht1 := ldt_step tv (q + k) (m - (k + 1))
            rw [show m - (k + 1) + 1 = m - k by omega, show q + k + 1 = q + (k + 1) by omega] at hv1 ht1
            have hv64 := ldv_lt64 b8 (m - k) (q + k) (by omega)
            have hb8k := b8 (q + k)
            generalize ldv bv (q + (k + 1)) (m - (k + 1)) = V at *
            generalize ldt tv (q + (k + 1)) (m - (k + 1)) = T at *
            have w1' : IntKind.u64.wrap (256 * (V : Int)) = ((256 * V : Nat) : Int) := by rw [IntKind.wrap_u64]; omega
            have w2' : IntKind.u64.wrap (((256 * V : Nat) : Int) + (bv (q + k) : Int)) = ((ldv bv (q + k) (m - k) : Nat) : Int) := by rw [IntKind.wrap_u64]; omega
            have j0 : (0 : Int) ≤ (k : Int) := by omega
            cases T with
            | true =>
              go_wp2
              go_roundw
              case rel => exact ⟨k, by omega, by go_num, by rw [ht1]; rfl, by go_num, by first | rfl | trivial⟩
              case measure => first | (simp [intOf]; done) | (simp [intOf]; omega)
            | false =>
              go_wp2
              go_roundw
              case rel => exact ⟨k, by omega, by go_num, by rw [ht1]; rfl, by go_num, by first | rfl | trivial⟩
              case measure => first | (simp [intOf]; done) | (simp [intOf]; omega)
end Go.Proofs.YtfaacmcnefbgcaaGreatDoor.m4

/- Contracts of the document's Store, Fetch, Same. -/
namespace Go.Proofs.YtfaacmcnefbgcaaGreatDoor.m4
open Go.ChangeShapes Go.WideShapes Go.ChangeAt Go.RowKit
set_option linter.unusedVariables false
theorem stO_hit {l : List Rg} {p n i : Nat} (h1 : 1 ≤ n) (h8 : n ≤ 8) (h : hitI l p n = some i) : stO l p (n : Int) = if (rg l i).k = 3 ∨ (rg l i).k = 4 then some (beg l i + (p - (rg l i).f)) else none := by
  unfold stO; rw [if_neg (by omega), Int.toNat_natCast, h]
  simp only
  have hp : pos l i p n = beg l i + (p - (rg l i).f) := by unfold pos off0; rw [if_neg (by omega)]
  rw [hp]
theorem stO_miss {l : List Rg} {p n : Nat} (h : hitI l p n = none) : stO l p (n : Int) = none := by
  unfold stO
  split
  · rfl
  · rw [Int.toNat_natCast, h]
/-- What a write leaves of the document's. -/
def WrR (y : Mr) (bv : Nat → Nat) (tv : Nat → Bool) (w w' : World) : Prop := IsR w' y bv tv ∧ Only y.bl w w'
theorem upd_zero {α : Type} (g : Nat → α) (q : Nat) (f : Nat → α) : upd g q 0 f = g := by
  funext k; unfold upd; rw [if_neg (by omega)]
theorem upd_new {α : Type} (g : Nat → α) (q j : Nat) (f : Nat → α) : upd g q (j + 1) f (q + j) = f j := by
  unfold upd; rw [if_pos (by omega)]; congr 1; omega
theorem upd_old {α : Type} (g : Nat → α) (q j : Nat) (f : Nat → α) (k : Nat) (h : k ≠ q + j) : upd g q (j + 1) f k = upd g q j f k := by
  unfold upd
  by_cases e : q ≤ k ∧ k < q + j
  · rw [if_pos e, if_pos (by omega)]
  · rw [if_neg e, if_neg (by omega)]
theorem wb_step (v j : Nat) : v / 256 ^ j / 256 = v / 256 ^ (j + 1) := by rw [Nat.pow_succ, Nat.div_div_eq_div_mul]
/-- One byte and its taint. -/
theorem IsR.put {w : World} {y : Mr} {bv : Nat → Nat} {tv : Nat → Bool} {q j i d b : Nat} {f : Nat → Nat} {t : Bool} (h : IsR w y (upd bv q j f) (upd tv q j fun _ => t)) (hi : i < y.l.length) (hq : beg y.l i + d = q) (ho : d + j < (rg y.l i).s) (hb : f j = b) (hb8 : b < 256) :
    IsR ((w.setCell ⟨y.bs i, d + j, none⟩ (.int .u8 b)).setCell ⟨y.ts i, d + j, none⟩ (.bool t)) y (upd bv q (j + 1) f) (upd tv q (j + 1) fun _ => t) := by
  have e : beg y.l i + (d + j) = q + j := by omega
  have h1 := h.setB (bv' := upd bv q (j + 1) f) hi ho hb8 (by rw [e, upd_new, hb]) (fun k hk => by rw [e] at hk; exact upd_old _ _ _ _ k hk)
  exact h1.setT (tv' := upd tv q (j + 1) fun _ => t) hi ho (by rw [e]; exact upd_new tv q j (fun _ => t)) (fun k hk => by rw [e] at hk; exact upd_old _ _ _ _ k hk)
set_option maxHeartbeats 2000000 in
theorem rstore_any {y : Mr} {bv : Nat → Nat} {tv : Nat → Bool} (p : Nat) (n : Int) (v : Nat) (t : Bool) (hp : p < 18446744073709551616) (hv : v < 18446744073709551616) (w : World) (h : IsR w y bv tv) :
    Calls Tryz.prog 109 #[.pointer (some ⟨y.rb, 0, none⟩), .int .u64 p, .int .i64 n, .int .u64 v, .bool t] w fun e w' => e = .returned (.int .i64 (stE y.l p n)) ∧ WrR y (upO (stO y.l p n) bv n.toNat (wb v)) (upO (stO y.l p n) tv n.toNat fun _ => t) w w' := by
  by_cases hn : n < 1 ∨ 8 < n
  · have e1 : stO y.l p n = none := by unfold stO; rw [if_pos hn]
    have e2 : stE y.l p n = 2 := by unfold stE; rw [if_pos hn]
    rw [e1, e2]
    clear e1 e2
    by_cases h1 : n < 1
    · clear hn
      go_enter Tryz.func109, Tryz.ntmps109
      go_wp2
      go_ret
      exact ⟨rfl, h, Only.refl _ _⟩
    · have h2 : 8 < n := by omega
      clear hn
      go_enter Tryz.func109, Tryz.ntmps109
      go_wp2
      go_ret
      exact ⟨rfl, h, Only.refl _ _⟩
  · obtain ⟨m, rfl⟩ : ∃ m : Nat, n = m := ⟨n.toNat, by omega⟩
    have h1 : 1 ≤ m := by omega
    have h8 : m ≤ 8 := by omega
    have h1' : ¬ (m : Int) < 1 := by omega
    have h8' : ¬ (8 : Int) < (m : Int) := by omega
    have e2 : stE y.l p m = if (stO y.l p m).isSome then 0 else 40 := by unfold stE; rw [if_neg hn]
    rw [e2, Int.toNat_natCast]
    clear hn e2
    have hIn := in_any h.may h.wf p m hp (by omega) w h.rr
    cases hi : hitI y.l p m with
    | none =>
      rw [stO_miss hi, show (if (none : Option Nat).isSome = true then (0 : Int) else 40) = 40 from rfl]
      rw [inV_none hi] at hIn
      go_enter Tryz.func109, Tryz.ntmps109
      go_wp2_with (go_at_call 50; (with_reducible refine hIn.mono ?_); (rintro e w1 ⟨rfl, hb1⟩))
      go_ret
      exact ⟨rfl, h.of hb1, only_below hb1⟩
    | some i =>
      rw [stO_hit h1 h8 hi]
      rw [inV_some hi] at hIn
      obtain ⟨hil, hf1, hf2, hf3⟩ := hit_some hi
      have hl16 := h.may.2.2
      obtain ⟨⟨⟨g1, g2, g3, g4⟩, g5⟩, _⟩ := h.may.1 i hil
      obtain ⟨c0, c1, c2⟩ := h.rr.row i hil
      rw [Nat.zero_add] at c0 c1 c2
      have i0 : (0 : Int) ≤ (i : Int) := by omega
      have i1 : (i : Int) < (y.l.length : Int) := by omega
      have i2 : decide ((i : Int) < 0) = false := by simp only [decide_eq_false_iff_not]; omega
      obtain ⟨d, hd⟩ : ∃ d, p - (rg y.l i).f = d := ⟨_, rfl⟩
      have hds : d + m ≤ (rg y.l i).s := by omega
      rw [hd] at hIn ⊢
      obtain ⟨q, hq⟩ : ∃ q, beg y.l i + d = q := ⟨_, rfl⟩
      rw [hq]
      have s0 := h.rr.h0
      have nbb : ∀ o, o = y.bs i ∨ o = y.ts i → y.bl o := fun o ho => ⟨i, hil, ho⟩
      by_cases hk : (rg y.l i).k = 3 ∨ (rg y.l i).k = 4
      · rw [if_pos hk, show (if (some q).isSome = true then (0 : Int) else 40) = 0 from rfl]
        have loop : ∀ w1, Below w.heap.size w w1 → True := fun _ _ => trivial
        clear loop
        have key : ∀ (kk : Nat), (rg y.l i).k = kk → (kk = 3 ∨ kk = 4) → Calls Tryz.prog 109 #[.pointer (some ⟨y.rb, 0, none⟩), .int .u64 p, .int .i64 m, .int .u64 v, .bool t] w fun e w' => e = .returned (.int .i64 0) ∧ WrR y (upO (some q) bv m (wb v)) (upO (some q) tv m fun _ => t) w w' := by
          intro kk hkk h34
          rw [hkk] at c2
          have k3 : ((kk : Int) != 3 && (kk : Int) != 4) = false := by rcases h34 with rfl | rfl <;> rfl
          clear hk hf1 hf2 hf3 hkk
          rcases h34 with rfl | rfl
          all_goals (
            go_enter Tryz.func109, Tryz.ntmps109
            go_wp2_with (go_at_call 50; (with_reducible refine hIn.mono ?_); (rintro e w1 ⟨rfl, hb1⟩); have s0 := stay hb1 s0; have c2 := stay hb1 c2)
            go_loopw [3, 13] (fun vv j wr => ∃ k : Nat, k ≤ m ∧ vv = .int .u64 (v / 256 ^ k : Nat) ∧ j = .int .i64 k ∧ IsR wr y (upd bv q k (wb v)) (upd tv q k fun _ => t) ∧ Only y.bl w wr) (fun _ j _ => m - (intOf j).toNat)
            case atStart => exact ⟨0, Nat.zero_le _, by rw [Nat.pow_zero, Nat.div_one], rfl, by rw [upd_zero, upd_zero]; exact h.of hb1, only_below hb1⟩
            case round =>
              obtain ⟨k, hkm, rfl, rfl, hI, hO⟩ := hrel
              by_cases hlt : k < m
              · have hst := wb_step v k
                have hwb : wb v k = v / 256 ^ k % 256 := rfl
                have hV : v / 256 ^ k < 18446744073709551616 := Nat.lt_of_le_of_lt (Nat.div_le_self _ _) hv
                have hput := hI.put hil hq (show d + k < (rg y.l i).s by omega) hwb (Nat.mod_lt _ (by omega))
                have s0 := hI.rr.h0
                have s1 := hI.rr.h1
                have s2 := hI.rr.h2
                have bb := hI.rr.hb i hil
                have bt := hI.rr.ht i hil
                have cv := hI.vals i hil (d + k) (by omega)
                have ct := hI.tnts i hil (d + k) (by omega)
                have fz1 := hI.fv i hil (d + k)
                have fz2 := hI.ft i hil (d + k)
                have ne1 : y.bs i ≠ y.ts i := hI.dd i hil i hil
                have nr1 : y.rb ≠ y.bs i := fun e => hI.n0 (nbb _ (Or.inl e))
                have nu1 : y.ub ≠ y.bs i := fun e => hI.n3 (nbb _ (Or.inl e))
                have hO2 := (hO.setCell (o := d + k) (v := .int .u8 (v / 256 ^ k % 256 : Nat)) (nbb _ (Or.inl rfl))).setCell (o := d + k) (v := .bool t) (nbb _ (Or.inr rfl))
                generalize v / 256 ^ k = V at *
                have hm8 : IntKind.u8.wrap (((V % 256 : Nat) : Int)) = ((V % 256 : Nat) : Int) := by rw [IntKind.wrap_u8]; omega
                go_wp2
                go_roundw
                case rel => exact ⟨k + 1, by omega, by rw [← hst]; go_num, by go_num, hput, hO2⟩
                case measure => first | (simp [intOf]; done) | (simp [intOf]; omega)
              · obtain rfl : k = m := by omega
                go_wp2
                go_ret
                exact ⟨rfl, hI, hO⟩)
        exact key _ rfl hk
      · rw [if_neg hk, show (if (none : Option Nat).isSome = true then (0 : Int) else 40) = 40 from rfl]
        have k3 : (((rg y.l i).k : Int) != 3) = true := by simp; omega
        have k4 : (((rg y.l i).k : Int) != 4) = true := by simp; omega
        generalize (rg y.l i).k = kk at *
        clear hf1 hf2 hf3 hk
        go_enter Tryz.func109, Tryz.ntmps109
        go_wp2_with (go_at_call 50; (with_reducible refine hIn.mono ?_); (rintro e w1 ⟨rfl, hb1⟩); have s0 := stay hb1 s0; have c2 := stay hb1 c2)
        go_ret
        exact ⟨rfl, h.of hb1, only_below hb1⟩
theorem feF_hit {l : List Rg} {bv : Nat → Nat} {p i : Nat} (h4 : p % 4 = 0) (h : hitI l p 4 = some i) : feF l bv p = if (rg l i).k = 1 then (ldv bv (beg l i + (p - (rg l i).f)) 4, 0) else (0, 40) := by
  unfold feF; rw [if_neg (by omega), h]
  rfl
theorem feF_bad {l : List Rg} {bv : Nat → Nat} {p : Nat} (h4 : ¬ p % 4 = 0) : feF l bv p = (0, 40) := by
  unfold feF; rw [if_pos h4]
theorem feF_miss {l : List Rg} {bv : Nat → Nat} {p : Nat} (h : hitI l p 4 = none) : feF l bv p = (0, 40) := by
  unfold feF; rw [h]; split <;> rfl
set_option maxHeartbeats 1000000 in
theorem rfetch_any {y : Mr} {bv : Nat → Nat} {tv : Nat → Bool} (p : Nat) (hp : p < 18446744073709551616) (w : World) (h : IsR w y bv tv) :
    Calls Tryz.prog 28 #[.pointer (some ⟨y.rb, 0, none⟩), .int .u64 p] w fun e w' => e = .returned (.tuple #[.int .u32 ((feF y.l bv p).1 : Nat), .int .i64 (feF y.l bv p).2]) ∧ Below w.heap.size w w' := by
  have hIn := in_any h.may h.wf p 4 hp (by omega) w h.rr
  rw [show ((4 : Nat) : Int) = 4 from rfl] at hIn
  by_cases h4 : p % 4 = 0
  · have h4' : ((p : Int).tmod 4) = 0 := by rw [Int.tmod_eq_emod_of_nonneg (Int.natCast_nonneg _)]; omega
    have h4'' : ((p : Int) % 4) = 0 := by omega
    cases hi : hitI y.l p 4 with
    | none =>
      rw [feF_miss hi]
      rw [inV_none hi] at hIn
      go_enter Tryz.func28, Tryz.ntmps28
      go_wp2_with (go_at_call 50; (with_reducible refine hIn.mono ?_); (rintro e w1 ⟨rfl, hb1⟩))
      go_ret2
      exact ⟨rfl, hb1⟩
    | some i =>
      rw [feF_hit h4 hi]
      rw [inV_some hi] at hIn
      obtain ⟨hil, hf1, hf2, hf3⟩ := hit_some hi
      have hl16 := h.may.2.2
      obtain ⟨⟨⟨g1, g2, g3, g4⟩, g5⟩, _⟩ := h.may.1 i hil
      obtain ⟨c0, c1, c2⟩ := h.rr.row i hil
      rw [Nat.zero_add] at c0 c1 c2
      have i0 : (0 : Int) ≤ (i : Int) := by omega
      have i1 : (i : Int) < (y.l.length : Int) := by omega
      have i2 : decide ((i : Int) < 0) = false := by simp only [decide_eq_false_iff_not]; omega
      obtain ⟨d, hd⟩ : ∃ d, p - (rg y.l i).f = d := ⟨_, rfl⟩
      have hds : d + 4 ≤ (rg y.l i).s := by omega
      rw [hd] at hIn ⊢
      obtain ⟨q, hq⟩ : ∃ q, beg y.l i + d = q := ⟨_, rfl⟩
      rw [hq]
      have hvs : ∀ o < (rg y.l i).s, w.cell? ⟨y.bs i, o, none⟩ = some (.int .u8 (bv (beg y.l i + o) : Nat)) := h.vals i hil
      have hbb := h.rr.hb i hil
      have s0 := h.rr.h0
      have s1 := h.rr.h1
      have b8 := h.b8
      by_cases hk : (rg y.l i).k = 1
      · rw [if_pos hk]
        rw [hk] at c2
        clear hf1 hf2 hf3
        go_enter Tryz.func28, Tryz.ntmps28
        go_wp2_with (go_at_call 50; (with_reducible refine hIn.mono ?_); (rintro e w1 ⟨rfl, hb1⟩); have s0 := stay hb1 s0; have c2 := stay hb1 c2)
        go_loopw [8, 9] (fun v j wr => ∃ k : Nat, k ≤ 4 ∧ v = .int .u32 (ldv bv (q + k) (4 - k) : Nat) ∧ j = .int .i64 ((k : Int) - 1) ∧ wr = w1) (fun _ j _ => (intOf j + 1).toNat)
        case atStart => exact ⟨4, Nat.le_refl _, rfl, rfl, rfl⟩
        case round =>
          obtain ⟨k, hkm, rfl, rfl, rfl⟩ := hrel
          cases k with
          | zero =>
            have j0 : ¬ (0 : Int) ≤ ((0 : Nat) : Int) - 1 := by omega
            go_wp2
            go_ret2
            exact ⟨rfl, hb1⟩
          | succ k =>
            have ej : ((k + 1 : Nat) : Int) - 1 = (k : Int) := by omega
            rw [ej]
            have s1 := stay hb1 s1
            have hbb := stay hb1 hbb
            have cv := stay hb1 (hvs (d + k) (by omega))
            rw [show beg y.l i + (d + k) = q + k by omega] at cv
            have hv1 := ldv_step bv (q + k) (4 - (k + 1))
            rw [show 4 - (k + 1) + 1 = 4 - k by omega, show q + k + 1 = q + (k + 1) by omega] at hv1
            have hv32 := Nat.lt_of_lt_of_le (ldv_lt b8 (4 - k) (q + k)) (Nat.pow_le_pow_right (n := 256) (by omega) (show 4 - k ≤ 4 by omega))
            rw [show 256 ^ 4 = 4294967296 from rfl] at hv32
            have hb8k := b8 (q + k)
            generalize ldv bv (q + (k + 1)) (4 - (k + 1)) = V at *
            have w1' : IntKind.u32.wrap (256 * (V : Int)) = ((256 * V : Nat) : Int) := by rw [IntKind.wrap_u32]; omega
            have w2' : IntKind.u32.wrap (((256 * V : Nat) : Int) + (bv (q + k) : Int)) = ((ldv bv (q + k) (4 - k) : Nat) : Int) := by rw [IntKind.wrap_u32]; omega
            have j0 : (0 : Int) ≤ (k : Int) := by omega
            go_wp2
            go_roundw
            case rel => exact ⟨k, by omega, by go_num, by go_num, by first | rfl | trivial⟩
            case measure => first | (simp [intOf]; done) | (simp [intOf]; omega)
      · rw [if_neg hk]
        have k3 : (((rg y.l i).k : Int) != 1) = true := by simp; omega
        generalize (rg y.l i).k = kk at *
        clear hf1 hf2 hf3 hk
        go_enter Tryz.func28, Tryz.ntmps28
        go_wp2_with (go_at_call 50; (with_reducible refine hIn.mono ?_); (rintro e w1 ⟨rfl, hb1⟩); have s0 := stay hb1 s0; have c2 := stay hb1 c2)
        go_ret2
        exact ⟨rfl, hb1⟩
  · have h4' : ¬ ((p : Int).tmod 4) = 0 := by rw [Int.tmod_eq_emod_of_nonneg (Int.natCast_nonneg _)]; omega
    have h4'' : ¬ ((p : Int) % 4) = 0 := by omega
    rw [feF_bad h4]
    cases hi : hitI y.l p 4 with
    | none =>
      rw [inV_none hi] at hIn
      go_enter Tryz.func28, Tryz.ntmps28
      go_wp2_with (go_at_call 50; (with_reducible refine hIn.mono ?_); (rintro e w1 ⟨rfl, hb1⟩))
      go_ret2
      exact ⟨rfl, hb1⟩
    | some i =>
      rw [inV_some hi] at hIn
      generalize p - (rg y.l i).f = d at *
      clear hi
      go_enter Tryz.func28, Tryz.ntmps28
      go_wp2_with (go_at_call 50; (with_reducible refine hIn.mono ?_); (rintro e w1 ⟨rfl, hb1⟩))
      go_ret2
      exact ⟨rfl, hb1⟩
set_option maxHeartbeats 1000000 in
/-- Two rows that are one: the same. -/
theorem same_any (a1 a2 : Option Addr) (n x1 x2 : Nat) (g : Nat → Bool) (hn : n ≤ 140737488355328) (w : World) (h1 : ∀ k < n, ∃ b o, a1 = some ⟨b, o, none⟩ ∧ w.cell? ⟨b, o + k, none⟩ = some (.bool (g k))) (h2 : ∀ k < n, ∃ b o, a2 = some ⟨b, o, none⟩ ∧ w.cell? ⟨b, o + k, none⟩ = some (.bool (g k))) :
    Calls Tryz.prog 37 #[.slice a1 n x1, .slice a2 n x2] w fun e w' => e = .returned (.bool true) ∧ Below w.heap.size w w' := by
  go_enter Tryz.func37, Tryz.ntmps37
  go_wp2
  go_loopw [5] (fun i wr => ∃ k q : Nat, i = .int .i64 k ∧ k ≤ n ∧ wr = w.drewN q) (fun i _ => n - (intOf i).toNat)
  case atStart => exact ⟨0, 0, rfl, Nat.zero_le _, rfl⟩
  case round =>
    obtain ⟨k, q, rfl, hk, rfl⟩ := hrel
    by_cases hlt : k < n
    · obtain ⟨b, o, rfl, c1⟩ := h1 k hlt
      obtain ⟨b', o', rfl, c2⟩ := h2 k hlt
      have c1 := stay (bdN (Below.refl _ _) q) c1
      have c2 := stay (bdN (Below.refl _ _) q) c2
      have i0 : (0 : Int) ≤ (k : Int) := by omega
      have i1 : (k : Int) < (n : Int) := by omega
      cases g k with
      | true =>
        go_wp2
        go_quiet (fail)
        go_wp2
        go_roundw
        case rel => exact ⟨k + 1, by first | exact ⟨_, by go_num, by omega, rfl⟩ | exact ⟨_, by go_num, by omega, World.drewN_drewN⟩⟩
        case measure => first | (simp [intOf]; done) | (simp [intOf]; omega)
      | false =>
        go_wp2
        go_quiet (fail)
        go_wp2
        go_roundw
        case rel => exact ⟨k + 1, by first | exact ⟨_, by go_num, by omega, rfl⟩ | exact ⟨_, by go_num, by omega, World.drewN_drewN⟩⟩
        case measure => first | (simp [intOf]; done) | (simp [intOf]; omega)
    · obtain rfl : k = n := by omega
      go_wp2
      go_ret
      exact ⟨rfl, bdN (Below.refl _ _) q⟩
end Go.Proofs.YtfaacmcnefbgcaaGreatDoor.m4
