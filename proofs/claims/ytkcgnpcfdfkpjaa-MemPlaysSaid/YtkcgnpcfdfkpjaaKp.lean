/- What is stored is loaded, byte by byte; what lies elsewhere does not change: plainly. No conditions. -/
import Derived.Test.YtkcgnpcfdfkpjaaSp
namespace Go.Proofs.Ytkcgnpcfdfkpjaa
open Go.RowKit
set_option linter.unusedVariables false
theorem hit_eq {l : List Rg} (hl : MayL l) {i p n : Nat} (hi : i < l.length) (h : (rg l i).has p n) : hitI l p n = some i := by
  cases hh : hitI l p n with
  | none => exact absurd h (hit_none hh i hi)
  | some j =>
    obtain ⟨h1, h2⟩ := hit_some hh
    rw [has_one hl h1 hi h2 h]
theorem upO_none {α : Type} (g : Nat → α) (n : Nat) (f : Nat → α) : upO none g n f = g := rfl
/-- The error of a load does not hang on the bytes. -/
theorem ldF_err (l : List Rg) (bv bv' : Nat → Nat) (tv tv' : Nat → Bool) (p : Nat) (n : Int) : (ldF l bv tv p n).2.2 = (ldF l bv' tv' p n).2.2 := by
  unfold ldF
  split
  · rfl
  · split
    · rfl
    · split <;> rfl
theorem ldv_one (bv : Nat → Nat) (q : Nat) : ldv bv q 1 = bv q := by simp [ldv]
theorem ldt_one (tv : Nat → Bool) (q : Nat) : ldt tv q 1 = tv q := by simp [ldt, List.range_succ]
theorem st_some {l : List Rg} {p q : Nat} {n : Int} (h : stO l p n = some q) : ∃ m : Nat, n = m ∧ 1 ≤ m ∧ m ≤ 8 ∧ ∃ i, hitI l p m = some i ∧ q = beg l i + (p - (rg l i).f) ∧ ((rg l i).k = 3 ∨ (rg l i).k = 4) := by
  unfold stO at h
  split at h
  · cases h
  · rename_i hn
    refine ⟨n.toNat, by omega, by omega, by omega, ?_⟩
    split at h
    · cases h
    · rename_i i hi
      split at h
      · rename_i hk
        refine ⟨i, hi, ?_, hk⟩
        injection h with h
        rw [← h]; unfold pos off0; rw [if_neg (by omega)]
      · cases h
theorem st_err {l : List Rg} {p : Nat} {n : Int} : (stO l p n = none ∧ ((stE l p n = 2 ∧ (n < 1 ∨ 8 < n)) ∨ (stE l p n = 40 ∧ ¬ (n < 1 ∨ 8 < n)))) ∨ ∃ q, stO l p n = some q ∧ stE l p n = 0 := by
  cases h : stO l p n with
  | none =>
    left
    refine ⟨rfl, ?_⟩
    unfold stE
    by_cases hn : n < 1 ∨ 8 < n
    · rw [if_pos hn]; exact Or.inl ⟨rfl, hn⟩
    · rw [if_neg hn, h]; exact Or.inr ⟨rfl, hn⟩
  | some q =>
    right
    refine ⟨q, rfl, ?_⟩
    obtain ⟨m, rfl, h1, h8, _⟩ := st_some h
    unfold stE
    rw [if_neg (by omega), h]; rfl
theorem ld_hit {l : List Rg} {bv : Nat → Nat} {tv : Nat → Bool} {z i : Nat} (h : hitI l z 1 = some i) (hk : (rg l i).k ≠ 1) : ldF l bv tv z 1 = (bv (beg l i + (z - (rg l i).f)), tv (beg l i + (z - (rg l i).f)), 0) := by
  unfold ldF
  rw [if_neg (by omega), show (1 : Int).toNat = 1 from rfl, h]
  simp only
  rw [if_neg hk, ldv_one, ldt_one]; rfl
/-- Within what was stored: the byte. -/
theorem keep_in {l : List Rg} (hl : MayL l) {p q m d v : Nat} (bv : Nat → Nat) (tv : Nat → Bool) (t : Bool) (h : stO l p m = some q) (hd : d < m) : ldF l (upd bv q m (wb v)) (upd tv q m fun _ => t) (p + d) 1 = (wb v d, t, 0) := by
  obtain ⟨m', hm, h1, h8, i, hi, rfl, hk⟩ := st_some h
  obtain rfl : m = m' := by omega
  obtain ⟨hil, hf1, hf2, hf3⟩ := hit_some hi
  have hz : hitI l (p + d) 1 = some i := hit_eq hl hil ⟨by omega, by omega, by omega⟩
  rw [ld_hit hz (by omega)]
  unfold upd
  rw [if_pos (by omega), if_pos (by omega)]
  rw [show beg l i + (p + d - (rg l i).f) - (beg l i + (p - (rg l i).f)) = d by omega]
theorem apart {l : List Rg} {i j x y : Nat} (hi : i < l.length) (hj : j < l.length) (hij : i ≠ j) (hx : x < (rg l i).s) (hy : y < (rg l j).s) : beg l i + x ≠ beg l j + y := by
  rcases Nat.lt_or_ge i j with h | h
  · have h1 := beg_le l j (i + 1) (by omega) (by omega)
    rw [beg_succ l i hi] at h1
    omega
  · have h1 := beg_le l i (j + 1) (by omega) (by omega)
    rw [beg_succ l j hj] at h1
    omega
/-- Elsewhere: as it was. -/
theorem keep_out {l : List Rg} (hl : MayL l) {p q m z v : Nat} (bv : Nat → Nat) (tv : Nat → Bool) (t : Bool) (h : stO l p m = some q) (hz : z < p ∨ p + m ≤ z) : ldF l (upd bv q m (wb v)) (upd tv q m fun _ => t) z 1 = ldF l bv tv z 1 := by
  obtain ⟨m', hm, h1, h8, i, hi, rfl, hk⟩ := st_some h
  obtain rfl : m = m' := by omega
  obtain ⟨hil, hf1, hf2, hf3⟩ := hit_some hi
  unfold ldF
  rw [if_neg (by omega), if_neg (by omega), show (1 : Int).toNat = 1 from rfl]
  cases hh : hitI l z 1 with
  | none => rfl
  | some j =>
    obtain ⟨hjl, hg1, hg2, hg3⟩ := hit_some hh
    simp only
    split
    · rfl
    · have hp : pos l j z 1 = beg l j + (z - (rg l j).f) := rfl
      rw [ldv_one, ldt_one, ldv_one, ldt_one, hp]
      have hno : ¬ (beg l i + (p - (rg l i).f) ≤ beg l j + (z - (rg l j).f) ∧ beg l j + (z - (rg l j).f) < beg l i + (p - (rg l i).f) + m) := by
        intro ⟨a1, a2⟩
        by_cases e : i = j
        · subst e; omega
        · have := apart (x := beg l j + (z - (rg l j).f) - beg l i) hil hjl e (by omega) (show z - (rg l j).f < (rg l j).s by omega)
          omega
      unfold upd
      rw [if_neg hno, if_neg hno]
theorem ldv_wb {g : Nat → Nat} {q v : Nat} : ∀ (m j : Nat), (∀ k < m, g (q + j + k) = wb v (j + k)) → ldv g (q + j) m = v / 256 ^ j % 256 ^ m
  | 0, j, _ => by simp [ldv, Nat.mod_one]
  | m + 1, j, h => by
    have ih := ldv_wb (g := g) (q := q) (v := v) m (j + 1) (fun k hk => by
      have := h (k + 1) (by omega)
      rw [show q + (j + 1) + k = q + j + (k + 1) by omega, show j + 1 + k = j + (k + 1) by omega]; exact this)
    have h0 := h 0 (by omega)
    simp only [Nat.add_zero] at h0
    unfold ldv
    rw [h0, show q + j + 1 = q + (j + 1) by omega, ih]
    unfold wb
    rw [Nat.pow_succ 256 m, Nat.mul_comm (256 ^ m) 256, Nat.mod_mul, Nat.pow_succ 256 j, ← Nat.div_div_eq_div_mul]
/-- All of what was stored. -/
theorem keep_all {l : List Rg} (hl : MayL l) {p q m v : Nat} (bv : Nat → Nat) (tv : Nat → Bool) (t : Bool) (h : stO l p m = some q) : ldF l (upd bv q m (wb v)) (upd tv q m fun _ => t) p m = (v % 256 ^ m, t, 0) := by
  obtain ⟨m', hm, h1, h8, i, hi, hq, hk⟩ := st_some h
  obtain rfl : m = m' := by omega
  unfold ldF
  rw [if_neg (by omega), Int.toNat_natCast, hi]
  simp only
  have hp : pos l i p m = q := by rw [hq]; unfold pos off0; rw [if_neg (by omega)]
  rw [if_neg (by omega), hp]
  have e1 : ldv (upd bv q m (wb v)) q m = v % 256 ^ m := by
    have := ldv_wb (g := upd bv q m (wb v)) (q := q) (v := v) m 0 (fun k hk => by unfold upd; rw [if_pos (by omega)]; congr 1; omega)
    simpa using this
  have e2 : ldt (upd tv q m fun _ => t) q m = t := by
    cases ht : ldt (upd tv q m fun _ => t) q m with
    | true =>
      obtain ⟨k, hk, he⟩ := ldt_iff.1 ht
      unfold upd at he
      rw [if_pos (by omega)] at he
      exact he.symm
    | false =>
      cases t with
      | false => rfl
      | true =>
        have : ldt (upd tv q m fun _ => true) q m = true := ldt_iff.2 ⟨0, by omega, by unfold upd; rw [if_pos (by omega)]⟩
        rw [this] at ht; exact ht.symm
  rw [e1, e2]
end Go.Proofs.Ytkcgnpcfdfkpjaa
