/- Plain: numbers, signs and names as the document's own answer reads them. -/
import Derived.Test.YtnblnmehfhkfmaaGreatDoorVa
namespace Go.Proofs.YtnblnmehfhkfmaaGreatDoor
set_option linter.unusedVariables false
def valA (acc : Nat) : List UInt8 → Nat
  | [] => acc
  | c :: r => valA (10 * acc + (c.toNat - 48)) r
def numR (acc : Nat) : List UInt8 → Option Nat
  | [] => some acc
  | c :: r => if (18446744073709551615 - (c.toNat - 48)) / 10 < acc then none else numR (10 * acc + (c.toNat - 48)) r
theorem isD_iff {c : UInt8} : isD c = true ↔ 48 ≤ c.toNat ∧ c.toNat ≤ 57 := by unfold isD; simp
theorem parse_numR : ∀ (l : List UInt8) (acc : Nat), (∀ c ∈ l, isD c = true) → Lib.parseUintM (2 ^ 64 - 1) acc l = match numR acc l with | some u => .ok u | none => .range := by
  intro l
  induction l with
  | nil => intro acc _; rfl
  | cons c r ih =>
    intro acc h
    have hc := isD_iff.1 (h c (by simp))
    rw [Lib.parseUintM, if_pos hc, numR]
    by_cases h1 : (18446744073709551615 - (c.toNat - 48)) / 10 < acc
    · rw [if_pos h1]
      by_cases h2 : 1844674407370955162 ≤ acc
      · rw [if_pos h2]
      · rw [if_neg h2, if_pos (by omega)]
    · rw [if_neg h1, if_neg (by omega), if_neg (by omega), Nat.mul_comm acc 10]
      exact ih _ (fun x hx => h x (by simp [hx]))
theorem numR_val : ∀ (l : List UInt8) (acc u : Nat), numR acc l = some u → u = valA acc l := by
  intro l
  induction l with
  | nil => intro acc u h; exact (Option.some.inj h).symm
  | cons c r ih =>
    intro acc u h
    rw [numR] at h
    split at h
    · cases h
    · exact ih _ _ h
theorem valA_app (a b : List UInt8) : ∀ acc, valA acc (a ++ b) = valA (valA acc a) b := by
  induction a with
  | nil => intro acc; rfl
  | cons c a ih => intro acc; exact ih _
theorem valA_ge : ∀ (l : List UInt8) (acc : Nat), acc ≤ valA acc l := by
  intro l
  induction l with
  | nil => intro acc; exact Nat.le_refl _
  | cons c r ih => intro acc; have h2 := ih (10 * acc + (c.toNat - 48)); show acc ≤ valA (10 * acc + (c.toNat - 48)) r; omega
theorem valA_pos {c : UInt8} {r : List UInt8} (h : 49 ≤ c.toNat) : 1 ≤ valA 0 (c :: r) := by
  have h2 := valA_ge r (10 * 0 + (c.toNat - 48))
  show 1 ≤ valA (10 * 0 + (c.toNat - 48)) r
  omega
theorem ofNat_dig {c : UInt8} (h : 48 ≤ c.toNat) : UInt8.ofNat (48 + (c.toNat - 48)) = c := by
  rw [show 48 + (c.toNat - 48) = c.toNat by omega]
  exact UInt8.ofNat_toNat
theorem dig_val (n : Nat) : ∀ l : List UInt8, l.length = n → (∀ c ∈ l, isD c = true) → (∃ c r, l = c :: r ∧ (49 ≤ c.toNat ∨ r = [])) → Lib.decDigits (valA 0 l) = l := by
  induction n using Nat.strongRecOn with
  | _ n ih =>
    intro l hl hd ⟨c, r, e, hh⟩
    rcases List.eq_nil_or_concat r with rfl | ⟨r', x, rfl⟩
    · subst e
      have hc := isD_iff.1 (hd c (by simp))
      show Lib.decDigits (10 * 0 + (c.toNat - 48)) = [c]
      rw [Lib.decDigits, dif_pos (by omega), show 10 * 0 + (c.toNat - 48) = c.toNat - 48 by omega, ofNat_dig hc.1]
    · have h49 : 49 ≤ c.toNat := by rcases hh with h | h; exact h; simp at h
      have e2 : l = (c :: r') ++ [x] := by rw [e]; simp
      have hx := isD_iff.1 (hd x (by rw [e2]; simp))
      have hp := valA_pos (c := c) (r := r') h49
      have hv : valA 0 l = 10 * valA 0 (c :: r') + (x.toNat - 48) := by rw [e2, valA_app]; rfl
      have hi := ih (c :: r').length (by rw [← hl, e2]; simp) (c :: r') rfl (fun y hy => hd y (by rw [e2]; simp only [List.mem_append]; exact Or.inl hy)) ⟨c, r', rfl, Or.inl h49⟩
      rw [hv, Lib.decDigits, dif_neg (by omega), show (10 * valA 0 (c :: r') + (x.toNat - 48)) / 10 = valA 0 (c :: r') by omega, hi, show (10 * valA 0 (c :: r') + (x.toNat - 48)) % 10 = x.toNat - 48 by omega, ofNat_dig hx.1, e2]
theorem head_ne (u : Nat) : 1 ≤ u → ∃ c r, Lib.decDigits u = c :: r ∧ c ≠ 48 := by
  induction u using Nat.strongRecOn with
  | _ u ih =>
    intro h
    by_cases h10 : u < 10
    · refine ⟨UInt8.ofNat (48 + u), [], by rw [Lib.decDigits, dif_pos h10], fun e => ?_⟩
      have := congrArg UInt8.toNat e
      simp at this
      omega
    · obtain ⟨c, r, e, hc⟩ := ih (u / 10) (by omega) (by omega)
      exact ⟨c, r ++ [UInt8.ofNat (48 + u % 10)], by rw [Lib.decDigits, dif_neg h10, e]; rfl, hc⟩
theorem lead_ne (u : Nat) (c : UInt8) (r : List UInt8) : Lib.decDigits u ≠ 48 :: c :: r := by
  intro e
  by_cases h : 1 ≤ u
  · obtain ⟨c', r', e', hc⟩ := head_ne u h
    rw [e'] at e
    cases e
    exact hc rfl
  · have : u = 0 := by omega
    subst this
    rw [Lib.decDigits, dif_pos (by omega)] at e
    cases e
/-- What a piece of digits is. -/
theorem numP_digits (p : List UInt8) (hne : p ≠ []) (hd : ∀ c ∈ p, isD c = true) :
    numP p = if 1 < p.length ∧ p.head? = some 48 then .er 7 else match numR 0 p with | some u => .ok ⟨3, [], u⟩ p | none => .er 7 := by
  obtain ⟨c, r, rfl⟩ := List.exists_cons_of_ne_nil hne
  have hp : Lib.parseUintB 64 (c :: r) = match numR 0 (c :: r) with | some u => .ok u | none => .range := by
    unfold Lib.parseUintB
    rw [if_neg (by simp)]
    exact parse_numR _ _ hd
  unfold numP
  rw [hp]
  by_cases h : 1 < (c :: r).length ∧ (c :: r).head? = some 48
  · rw [if_pos h]
    obtain ⟨h1, h2⟩ := h
    have hc : c = 48 := by simpa using h2
    subst hc
    obtain ⟨d, r, rfl⟩ : ∃ d r', r = d :: r' := by cases r with | nil => simp at h1 | cons d r' => exact ⟨d, r', rfl⟩
    cases hq : numR 0 (48 :: d :: r) with
    | none => rfl
    | some u =>
      simp only
      rw [if_neg (lead_ne u d r)]
  · rw [if_neg h]
    cases hq : numR 0 (c :: r) with
    | none => rfl
    | some u =>
      simp only
      have hu := numR_val _ _ _ hq
      have hc := isD_iff.1 (hd c (by simp))
      have : Lib.decDigits u = c :: r := by
        rw [hu]
        refine dig_val _ _ rfl hd ⟨c, r, rfl, ?_⟩
        by_cases hr : r = []
        · exact Or.inr hr
        · left
          have hc48 : c ≠ 48 := fun e => h ⟨by have := List.length_pos_iff.2 hr; simp; omega, by rw [e]; rfl⟩
          have : c.toNat ≠ 48 := fun e => hc48 (UInt8.toNat_inj.1 e)
          omega
      rw [if_pos this]
/-! ### Signs, the longer ones first -/
def signsR : List (List UInt8) := [[62, 62, 62], [46, 46], [42, 94], [60, 60], [62, 62], [60, 36], [40], [41], [123], [125], [91], [93], [44], [59], [61], [35], [43], [45], [42], [47], [37], [38], [124], [94], [60]]
def sgR (l : List UInt8) : List UInt8 := (signsR.find? fun x => x.isPrefixOf l).getD []
def sortB : Bool := (List.range 25).all fun i => (List.range 25).all fun j => !(decide (i < j)) || decide ((signsR.getD j []).length ≤ (signsR.getD i []).length)
theorem sort_all : sortB = true := by decide +kernel
def permB : Bool := signsL.all (fun x => signsR.contains x) && signsR.all (fun x => signsL.contains x)
theorem perm_all : permB = true := by decide +kernel
theorem perm_iff (x : List UInt8) : x ∈ signsR ↔ x ∈ signsL := by
  have h := perm_all
  unfold permB at h
  simp only [Bool.and_eq_true] at h
  exact ⟨fun hx => by simpa using (List.all_eq_true.1 h.2) x hx, fun hx => by simpa using (List.all_eq_true.1 h.1) x hx⟩
theorem sort_le {i j : Nat} (hi : i < 25) (hj : j < 25) (h : i < j) : (signsR.getD j []).length ≤ (signsR.getD i []).length := by
  have h1 := (List.all_eq_true.1 sort_all) i (List.mem_range.2 hi)
  have h2 := (List.all_eq_true.1 h1) j (List.mem_range.2 hj)
  simpa [h] using h2
/-- The first one in that order is the longest. -/
theorem sign_first_at (l : List UInt8) (k : Nat) (hk : k < 25) (hp : (signsR.getD k []).isPrefixOf l = true) (hno : ∀ j, j < k → (signsR.getD j []).isPrefixOf l = false) : ls l = signsR.getD k [] := by
  have hlen : signsR.length = 25 := by decide +kernel
  have hmem : ∀ j, j < 25 → signsR.getD j [] ∈ signsR := fun j hj => by
    rw [List.getD_eq_getElem?_getD, List.getElem?_eq_getElem (by omega)]; exact List.getElem_mem _
  refine ls_of ⟨Or.inr ((perm_iff _).1 (hmem k hk)), List.isPrefixOf_iff_prefix.1 hp, fun x hx hxp => ?_⟩
  obtain ⟨j, hj, e⟩ := List.getElem_of_mem ((perm_iff x).2 hx)
  have e' : signsR.getD j [] = x := by rw [List.getD_eq_getElem?_getD, List.getElem?_eq_getElem hj]; exact e
  rcases Nat.lt_trichotomy j k with h | h | h
  · have := hno j h
    rw [e', List.isPrefixOf_iff_prefix.2 hxp] at this
    cases this
  · subst h; rw [e']; exact Nat.le_refl _
  · rw [← e']; exact sort_le hk (by omega) h
theorem sign_none_at (l : List UInt8) (hno : ∀ j, j < 25 → (signsR.getD j []).isPrefixOf l = false) : ls l = [] := by
  have hlen : signsR.length = 25 := by decide +kernel
  have h := ls_at l
  rcases h.1 with h0 | h0
  · exact h0
  · exfalso
    obtain ⟨j, hj, e⟩ := List.getElem_of_mem ((perm_iff _).2 h0)
    have e' : signsR.getD j [] = ls l := by rw [List.getD_eq_getElem?_getD, List.getElem?_eq_getElem hj]; exact e
    have := hno j (by omega)
    rw [e', List.isPrefixOf_iff_prefix.2 h.2.1] at this
    cases this
theorem lex_blank {f a : Nat} {c : UInt8} {r : List UInt8} (h : isB c = true) : lexN (f + 1) (c :: r) a = lexN (f + 1) r (a + 1) := by
  have e1 : bl (c :: r) = bl r + 1 := by unfold bl; rw [List.takeWhile_cons, h]; simp
  have e2 : (c :: r).drop (bl (c :: r)) = r.drop (bl r) := by rw [e1]; rfl
  rw [lexN, lexN, e2, e1, show a + (bl r + 1) = a + 1 + bl r by omega]
end Go.Proofs.YtnblnmehfhkfmaaGreatDoor
