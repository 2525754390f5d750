/- Contracts of the document's Set and Bytes. -/
import Derived.Test.YtkcgnpcfdfkpjaaRs
import Derived.Test.YtkcgnpcfdfkpjaaBs
namespace Go.Proofs.Ytkcgnpcfdfkpjaa
open Go.ChangeShapes Go.WideShapes Go.ChangeAt Go.RowKit
set_option linter.unusedVariables false
theorem seO_hit {l : List Rg} {p n i : Nat} (h : hitI l p n = some i) : seO l p n = some (pos l i p n) := by unfold seO; rw [h]
theorem seO_miss {l : List Rg} {p n : Nat} (h : hitI l p n = none) : seO l p n = none := by unfold seO; rw [h]
theorem upd_pos {α : Type} (l : List Rg) (i p n : Nat) (g : Nat → α) (f : Nat → α) : upd g (pos l i p n) n f = upd g (beg l i + (p - (rg l i).f)) n f := by
  by_cases h : n = 0
  · subst h; rw [upd_zero, upd_zero]
  · have hp : pos l i p n = beg l i + (p - (rg l i).f) := by unfold pos off0; rw [if_neg h]
    rw [hp]
set_option maxHeartbeats 2000000 in
theorem rset_any {y : Mr} {bv : Nat → Nat} {tv : Nat → Bool} (p : Nat) (s : ByteArray) (hs : s.size ≤ 140737488355328) (t : Bool) (hp : p < 18446744073709551616) (w : World) (h : IsR w y bv tv) :
    Calls Try.prog 27 #[.pointer (some ⟨y.rb, 0, none⟩), .int .u64 p, .string s, .bool t] w fun e w' => e = .returned (.int .i64 (seE y.l p s.size)) ∧ WrR y (upO (seO y.l p s.size) bv s.size (bAt s)) (upO (seO y.l p s.size) tv s.size fun _ => t) w w' := by
  have hIn := in_any h.may h.wf p s.size hp (by omega) w h.rr
  unfold seE
  cases hi : hitI y.l p s.size with
  | none =>
    rw [seO_miss hi, show (if (none : Option Nat).isSome = true then (0 : Int) else 40) = 40 from rfl]
    rw [inV_none hi] at hIn
    go_enter Try.func27, Try.ntmps27
    go_wp2_with (go_at_call 43; (with_reducible refine hIn.mono ?_); (rintro e w1 ⟨rfl, hb1⟩))
    go_ret
    exact ⟨rfl, h.of hb1, only_below hb1⟩
  | some i =>
    rw [seO_hit hi, show (if (some (pos y.l i p s.size)).isSome = true then (0 : Int) else 40) = 0 from rfl]
    rw [inV_some hi] at hIn
    show Calls _ _ _ _ fun e w' => _ ∧ WrR y (upd bv (pos y.l i p s.size) s.size (bAt s)) (upd tv (pos y.l i p s.size) s.size fun _ => t) w w'
    rw [upd_pos, upd_pos]
    obtain ⟨hil, hf1, hf2, hf3⟩ := hit_some hi
    have hl16 := h.may.2.2
    obtain ⟨⟨⟨g1, g2, g3, g4⟩, g5⟩, _⟩ := h.may.1 i hil
    have i0 : (0 : Int) ≤ (i : Int) := by omega
    have i1 : (i : Int) < (y.l.length : Int) := by omega
    obtain ⟨d, hd⟩ : ∃ d, p - (rg y.l i).f = d := ⟨_, rfl⟩
    have hds : d + s.size ≤ (rg y.l i).s := by omega
    rw [hd] at hIn ⊢
    obtain ⟨q, hq⟩ : ∃ q, beg y.l i + d = q := ⟨_, rfl⟩
    rw [hq]
    clear hi
    have nbb : ∀ o, o = y.bs i ∨ o = y.ts i → y.bl o := fun o ho => ⟨i, hil, ho⟩
    go_enter Try.func27, Try.ntmps27
    go_wp2_with (go_at_call 43; (with_reducible refine hIn.mono ?_); (rintro e w1 ⟨rfl, hb1⟩))
    go_loopw [11] (fun j wr => ∃ k : Nat, k ≤ s.size ∧ j = .int .i64 k ∧ IsR wr y (upd bv q k (bAt s)) (upd tv q k fun _ => t) ∧ Only y.bl w wr) (fun j _ => s.size - (intOf j).toNat)
    case atStart => exact ⟨0, Nat.zero_le _, rfl, by rw [upd_zero, upd_zero]; exact h.of hb1, only_below hb1⟩
    case round =>
      obtain ⟨k, hkm, rfl, hI, hO⟩ := hrel
      by_cases hlt : k < s.size
      · have hput : ∀ W, IsR W y (upd bv q k (bAt s)) (upd tv q k fun _ => t) → IsR ((W.setCell ⟨y.bs i, d + k, none⟩ (.int .u8 (bAt s k))).setCell ⟨y.ts i, d + k, none⟩ (.bool t)) y (upd bv q (k + 1) (bAt s)) (upd tv q (k + 1) fun _ => t) := fun W hW => hW.put hil hq (show d + k < (rg y.l i).s by omega) rfl (bAt_lt s k)
        have hI' := hI.of (bd1 (Below.refl _ _))
        have hO' : Only y.bl w wr.drew := hO.trans (only_below (bd1 (Below.refl _ _)))
        have s0 := hI.rr.h0
        have s1 := hI.rr.h1
        have s2 := hI.rr.h2
        have bb := hI.rr.hb i hil
        have bt := hI.rr.ht i hil
        have cv := hI.vals i hil (d + k) (by omega)
        have ct := hI.tnts i hil (d + k) (by omega)
        have fz1 := hI.fv i hil (d + k)
        have fz2 := hI.ft i hil (d + k)
        have ne1 : y.bs i ≠ y.ts i := hI.dd i hil i hil
        have nr1 : y.rb ≠ y.bs i := fun e => hI.n0 (nbb _ (Or.inl e))
        have nu1 : y.ub ≠ y.bs i := fun e => hI.n3 (nbb _ (Or.inl e))
        have hput := hput _ hI'
        have hO2 := (hO'.setCell (o := d + k) (v := .int .u8 (bAt s k)) (nbb _ (Or.inl rfl))).setCell (o := d + k) (v := .bool t) (nbb _ (Or.inr rfl))
        have hbe := bAt_eq s k hlt
        have k0 : (0 : Int) ≤ (k : Int) := by omega
        have k1 : (k : Int) < (s.size : Int) := by omega
        go_wp2
        go_region
        all_goals go_wp2
        all_goals go_roundw
        case rel => exact ⟨k + 1, by omega, by go_num, hput, hO2⟩
        case measure => first | (simp [intOf]; done) | (simp [intOf]; omega)
      · obtain rfl : k = s.size := by omega
        go_wp2
        go_ret
        exact ⟨rfl, hI, hO⟩
end Go.Proofs.Ytkcgnpcfdfkpjaa
