/- Plain: numbers, signs and names as the document's own answer reads them. -/
import Derived.Test.YtkibkaoffgnmkaaGreatDoorL00
import Derived.Test.YtkibkaoffgnmkaaGreatDoorL37
namespace Go.Proofs.YtkibkaoffgnmkaaGreatDoor
set_option linter.unusedVariables false
set_option linter.unusedSimpArgs false
set_option maxRecDepth 100000
set_option maxHeartbeats 200000000
def valA (acc : Nat) : List UInt8 → Nat
 | [] => acc
 | c :: r => valA (10 * acc + (c.toNat - 48)) r
def numR (acc : Nat) : List UInt8 → Option Nat
 | [] => some acc
 | c :: r => if (18446744073709551615 - (c.toNat - 48)) / 10 < acc then none else numR (10 * acc + (c.toNat - 48)) r
theorem isD_iff {c : UInt8} : isD c = true ↔ 48 ≤ c.toNat ∧ c.toNat ≤ 57 := by unfold isD; simp
theorem parse_numR : ∀ (l : List UInt8) (acc : Nat), (∀ c ∈ l, isD c = true) → Lib.parseUintM (2 ^ 64 - 1) acc l = match numR acc l with | some u => .ok u | none => .range := by
 intro l
 induction l with
 | nil => intro acc _; rfl
 | cons c r ih =>
  intro acc h
  have hc := isD_iff.1 (h c (by simp))
  rw [Lib.parseUintM, if_pos hc, numR]
  by_cases h1 : (18446744073709551615 - (c.toNat - 48)) / 10 < acc
  ·rw [if_pos h1]
   by_cases h2 : 1844674407370955162 ≤ acc
   ·rw [if_pos h2]
   ·rw [if_neg h2, if_pos (by omega)]
  ·rw [if_neg h1, if_neg (by omega), if_neg (by omega), Nat.mul_comm acc 10]
   exact ih _ (fun x hx => h x (by simp [hx]))
theorem numR_val : ∀ (l : List UInt8) (acc u : Nat), numR acc l = some u → u = valA acc l := by
 intro l
 induction l with
 | nil => intro acc u h; exact (Option.some.inj h).symm
 | cons c r ih =>
  intro acc u h
  rw [numR] at h
  split at h
  ·cases h
  ·exact ih _ _ h
theorem valA_app (a b : List UInt8) : ∀ acc, valA acc (a ++ b) = valA (valA acc a) b := by
 induction a with
 | nil => intro acc; rfl
 | cons c a ih => intro acc; exact ih _
theorem valA_ge : ∀ (l : List UInt8) (acc : Nat), acc ≤ valA acc l := by
 intro l
 induction l with
 | nil => intro acc; exact Nat.le_refl _
 | cons c r ih => intro acc; have h2 := ih (10 * acc + (c.toNat - 48)); show acc ≤ valA (10 * acc + (c.toNat - 48)) r; omega
theorem valA_pos {c : UInt8} {r : List UInt8} (h : 49 ≤ c.toNat) : 1 ≤ valA 0 (c :: r) := by
 have h2 := valA_ge r (10 * 0 + (c.toNat - 48))
 show 1 ≤ valA (10 * 0 + (c.toNat - 48)) r
 omega
theorem ofNat_dig {c : UInt8} (h : 48 ≤ c.toNat) : UInt8.ofNat (48 + (c.toNat - 48)) = c := by
 rw [show 48 + (c.toNat - 48) = c.toNat by omega]
 exact UInt8.ofNat_toNat
theorem dig_val (n : Nat) : ∀ l : List UInt8, l.length = n → (∀ c ∈ l, isD c = true) → (∃ c r, l = c :: r ∧ (49 ≤ c.toNat ∨ r = [])) → Lib.decDigits (valA 0 l) = l := by
 induction n using Nat.strongRecOn with
 | _ n ih =>
  intro l hl hd ⟨c, r, e, hh⟩
  rcases List.eq_nil_or_concat r with rfl | ⟨r', x, rfl⟩
  ·subst e
   have hc := isD_iff.1 (hd c (by simp))
   show Lib.decDigits (10 * 0 + (c.toNat - 48)) = [c]
   rw [Lib.decDigits, dif_pos (by omega), show 10 * 0 + (c.toNat - 48) = c.toNat - 48 by omega, ofNat_dig hc.1]
  ·have h49 : 49 ≤ c.toNat := by rcases hh with h | h; exact h; simp at h
   have e2 : l = (c :: r') ++ [x] := by rw [e]; simp
   have hx := isD_iff.1 (hd x (by rw [e2]; simp))
   have hp := valA_pos (c := c) (r := r') h49
   have hv : valA 0 l = 10 * valA 0 (c :: r') + (x.toNat - 48) := by rw [e2, valA_app]; rfl
   have hi := ih (c :: r').length (by rw [← hl, e2]; simp) (c :: r') rfl (fun y hy => hd y (by rw [e2]; simp only [List.mem_append]; exact Or.inl hy)) ⟨c, r', rfl, Or.inl h49⟩
   rw [hv, Lib.decDigits, dif_neg (by omega), show (10 * valA 0 (c :: r') + (x.toNat - 48)) / 10 = valA 0 (c :: r') by omega, hi, show (10 * valA 0 (c :: r') + (x.toNat - 48)) % 10 = x.toNat - 48 by omega, ofNat_dig hx.1, e2]
theorem head_ne (u : Nat) : 1 ≤ u → ∃ c r, Lib.decDigits u = c :: r ∧ c ≠ 48 := by
 induction u using Nat.strongRecOn with
 | _ u ih =>
  intro h
  by_cases h10 : u < 10
  ·refine ⟨UInt8.ofNat (48 + u), [], by rw [Lib.decDigits, dif_pos h10], fun e => ?_⟩
   have := congrArg UInt8.toNat e
   simp at this
   omega
  ·obtain ⟨c, r, e, hc⟩ := ih (u / 10) (by omega) (by omega)
   exact ⟨c, r ++ [UInt8.ofNat (48 + u % 10)], by rw [Lib.decDigits, dif_neg h10, e]; rfl, hc⟩
theorem lead_ne (u : Nat) (c : UInt8) (r : List UInt8) : Lib.decDigits u ≠ 48 :: c :: r := by
 intro e
 by_cases h : 1 ≤ u
 ·obtain ⟨c', r', e', hc⟩ := head_ne u h
  rw [e'] at e
  cases e
  exact hc rfl
 ·have : u = 0 := by omega
  subst this
  rw [Lib.decDigits, dif_pos (by omega)] at e
  cases e
theorem numP_digits (p : List UInt8) (hne : p ≠ []) (hd : ∀ c ∈ p, isD c = true) :
  numP p = if 1 < p.length ∧ p.head? = some 48 then .er 7 else match numR 0 p with | some u => .ok ⟨3, [], u⟩ p | none => .er 7 := by
 obtain ⟨c, r, rfl⟩ := List.exists_cons_of_ne_nil hne
 have hp : Lib.parseUintB 64 (c :: r) = match numR 0 (c :: r) with | some u => .ok u | none => .range := by
  unfold Lib.parseUintB
  rw [if_neg (by simp)]
  exact parse_numR _ _ hd
 unfold numP
 rw [hp]
 by_cases h : 1 < (c :: r).length ∧ (c :: r).head? = some 48
 ·rw [if_pos h]
  obtain ⟨h1, h2⟩ := h
  have hc : c = 48 := by simpa using h2
  subst hc
  obtain ⟨d, r, rfl⟩ : ∃ d r', r = d :: r' := by cases r with | nil => simp at h1 | cons d r' => exact ⟨d, r', rfl⟩
  cases hq : numR 0 (48 :: d :: r) with
  | none => rfl
  | some u =>
   simp only
   rw [if_neg (lead_ne u d r)]
 ·rw [if_neg h]
  cases hq : numR 0 (c :: r) with
  | none => rfl
  | some u =>
   simp only
   have hu := numR_val _ _ _ hq
   have hc := isD_iff.1 (hd c (by simp))
   have : Lib.decDigits u = c :: r := by
    rw [hu]
    refine dig_val _ _ rfl hd ⟨c, r, rfl, ?_⟩
    by_cases hr : r = []
    ·exact Or.inr hr
    ·left
     have hc48 : c ≠ 48 := fun e => h ⟨by have := List.length_pos_iff.2 hr; simp; omega, by rw [e]; rfl⟩
     have : c.toNat ≠ 48 := fun e => hc48 (UInt8.toNat_inj.1 e)
     omega
   rw [if_pos this]
def signsR : List (List UInt8) := [[62, 62, 62], [46, 46], [42, 94], [60, 60], [62, 62], [60, 36], [40], [41], [123], [125], [91], [93], [44], [59], [61], [35], [43], [45], [42], [47], [37], [38], [124], [94], [60]]
def sgR (l : List UInt8) : List UInt8 := (signsR.find? fun x => x.isPrefixOf l).getD []
def sortB : Bool := (List.range 25).all fun i => (List.range 25).all fun j => !(decide (i < j)) || decide ((signsR.getD j []).length ≤ (signsR.getD i []).length)
def permB : Bool := signsL.all (fun x => signsR.contains x) && signsR.all (fun x => signsL.contains x)
theorem dig_of {k : Nat} (h : k < 10) : isD (UInt8.ofNat (48 + k)) = true ∧ (UInt8.ofNat (48 + k)).toNat - 48 = k := by
 have e : (UInt8.ofNat (48 + k)).toNat = 48 + k := by simp; omega
 exact ⟨isD_iff.2 (by omega), by omega⟩
theorem numR_app (a b : List UInt8) : ∀ acc, numR acc (a ++ b) = (numR acc a).bind (fun x => numR x b) := by
 induction a with
 | nil => intro acc; rfl
 | cons c r ih =>
  intro acc
  rw [List.cons_append, numR, numR]
  split
  ·rfl
  ·exact ih _
theorem dec_digits (u : Nat) : (∀ c ∈ Lib.decDigits u, isD c = true) ∧ Lib.decDigits u ≠ [] := by
 induction u using Nat.strongRecOn with
 | _ u ih =>
  rw [Lib.decDigits]
  by_cases h : u < 10
  ·rw [dif_pos h]
   exact ⟨fun c hc => by rw [List.mem_singleton.1 hc]; exact (dig_of h).1, by simp⟩
  ·rw [dif_neg h]
   refine ⟨fun c hc => ?_, by simp⟩
   rcases List.mem_append.1 hc with hc | hc
   ·exact (ih _ (by omega)).1 c hc
   ·rw [List.mem_singleton.1 hc]; exact (dig_of (by omega)).1
theorem numR_dec (u : Nat) : u < 18446744073709551616 → numR 0 (Lib.decDigits u) = some u := by
 induction u using Nat.strongRecOn with
 | _ u ih =>
  intro hu
  rw [Lib.decDigits]
  by_cases h : u < 10
  ·rw [dif_pos h, numR, (dig_of h).2, if_neg (by omega), numR]
   congr 1; omega
  ·rw [dif_neg h, numR_app, ih (u / 10) (by omega) (by omega)]
   show numR (u / 10) _ = _
   rw [numR, (dig_of (show u % 10 < 10 by omega)).2, if_neg (by omega), numR]
   congr 1; omega
theorem num_tk (u : Nat) (hu : u < 18446744073709551616) : TkOk ⟨3, [], u⟩ (Lib.decDigits u) := by
 obtain ⟨h1, h2⟩ := dec_digits u
 refine .inr (.inl ⟨rfl, rfl, ?_, rfl, hu, h1, h2⟩)
 rw [numP_digits _ h2 h1, numR_dec u hu, if_neg]
 rintro ⟨h3, h4⟩
 match hd : Lib.decDigits u with
 | [] => exact h2 hd
 | [_] => rw [hd] at h3; simp at h3
 | c :: d :: r =>
  rw [hd] at h4
  obtain rfl : c = 48 := by simpa using h4
  exact lead_ne u d r hd
theorem nmd_tk {s : List UInt8} (h : nmdB s = true) : TkOk (nmT s) s := by
 unfold nmdB at h
 split at h
 ·rename_i t z r hl
  simp only [Bool.and_eq_true, decide_eq_true_eq] at h
  obtain ⟨hk, hs⟩ := h
  unfold lexT at hl
  split at hl
  ·cases hl
  ·obtain ⟨f', hf, h1 | ⟨b, t', m, r', T', -, -, ht, -, -, hT⟩⟩ := lex_inv hl
   ·have := h1.2
    cases this
    exact absurd hk (by decide)
   ·cases hT
    have h0 := ht
    rcases ht with ⟨-, e1, e2, -⟩ | ⟨h3, -⟩ | ⟨h4, -⟩
    ·obtain ⟨k, x, n⟩ := t
     simp only at hk hs e1 e2
     subst hk hs e1 e2
     exact h0
    ·exact absurd (hk.symm.trans h3) (by decide)
    ·exact absurd (hk.symm.trans h4) (by decide)
 ·cases h
def wdB (w : List UInt8) : Bool := isWd w && decide (w.length ≤ 16) && w.all isLD && match w with | [] => false | c :: _ => isL c
theorem wd_tk {w : List UInt8} (h : wdB w = true) : TkOk (wdT w) w := by
 simp only [wdB, Bool.and_eq_true, decide_eq_true_eq, List.all_eq_true] at h
 obtain ⟨⟨⟨h1, h2⟩, h3⟩, h4⟩ := h
 refine .inl ⟨.inr rfl, rfl, rfl, ?_, h3, ?_⟩
 ·unfold nameP; rw [if_neg (by omega), h1]; rfl
 ·cases w with
  | nil => cases h4
  | cons c r => exact ⟨c, r, rfl, h4⟩
theorem sg_tk {m : List UInt8} (h : signsL.contains m = true) : TkOk (sg m) m := .inr (.inr ⟨rfl, rfl, rfl, List.contains_iff_mem.1 h⟩)
def Toks (r : List Tk) : Prop := ∀ t ∈ r, ∃ m, TkOk t m
theorem toks_nil : Toks [] := fun t h => by simp at h
theorem toks_cons {t : Tk} {r : List Tk} {m : List UInt8} (h : TkOk t m) (hr : Toks r) : Toks (t :: r) := fun x hx => by
 rcases List.mem_cons.1 hx with rfl | hx
 ·exact ⟨m, h⟩
 ·exact hr x hx
theorem toks_app {a b : List Tk} (ha : Toks a) (hb : Toks b) : Toks (a ++ b) := fun x hx => (List.mem_append.1 hx).elim (ha x) (hb x)
mutual
def Xp.nb : Xp → Prop
 | .mk _ n _ _ l => n < 18446744073709551616 ∧ nbL l
def nbL : List Xp → Prop
 | [] => True
 | x :: r => x.nb ∧ nbL r
end
theorem nbL_iff : ∀ {l : List Xp}, nbL l ↔ ∀ x ∈ l, x.nb
 | [] => by rw [nbL]; simp
 | x :: r => by rw [nbL, nbL_iff (l := r)]; simp
theorem op_sign : ∀ o, opS o ≠ [] → signsL.contains (opS o) = true := by
 intro o h
 by_cases c : o < 15
 ·exact (show ∀ o, o < 15 → opS o ≠ [] → signsL.contains (opS o) = true by decide +kernel) o c h
 ·exact absurd (by unfold opS; rw [List.getD_eq_getElem?_getD, List.getElem?_eq_none (by show opsL.length ≤ o; have : opsL.length = 15 := rfl; omega)]; rfl) h
theorem tell_toks : ∀ (d : Nat) (e : Xp), mayB d e = true → e.nb → Toks (tellF d e)
 | 0, e, h, _ => by simp [mayB] at h
 | d + 1, .mk k n s o l, h, hb => by
  rw [mayB, Bool.and_eq_true, List.all_eq_true] at h
  obtain ⟨hf, hl⟩ := h
  rw [Xp.nb] at hb
  have hk : ∀ j, j < l.length → Toks (tellF d (l.getD j x0)) := fun j hj => by
   have e : l.getD j x0 = l[j] := by rw [List.getD_eq_getElem?_getD, List.getElem?_eq_getElem hj]; rfl
   rw [e]
   exact tell_toks d _ (hl _ (List.getElem_mem hj)) (nbL_iff.1 hb.2 _ (List.getElem_mem hj))
  rw [tellF]
  rcases fit_k hf with rfl | rfl | rfl | rfl | rfl
  ·rw [if_pos rfl]; exact toks_cons (num_tk n hb.1) toks_nil
  ·rw [if_neg (by decide), if_pos rfl]; exact toks_cons (nmd_tk (fit2 hf).2.1) toks_nil
  ·rw [if_neg (by decide), if_neg (by decide), if_neg (by decide), if_neg (by decide)]
   obtain ⟨-, -, ho, hm⟩ := fit3 hf
   exact toks_cons (sg_tk (by decide +kernel)) (toks_app (hk 0 (by omega)) (toks_cons (sg_tk (op_sign o ho)) (toks_app (hk 1 (by omega)) (toks_cons (sg_tk (by decide +kernel)) toks_nil))))
  ·rw [if_neg (by decide), if_neg (by decide), if_pos rfl]; exact toks_cons (sg_tk (by decide +kernel)) (toks_cons (nmd_tk (fit4 hf).2.1) toks_nil)
  ·rw [if_neg (by decide), if_neg (by decide), if_neg (by decide), if_pos rfl]
   obtain ⟨-, h2, -, hm⟩ := fit5 hf
   exact toks_cons (nmd_tk h2) (toks_cons (sg_tk (by decide +kernel)) (toks_app (hk 0 (by omega)) (toks_cons (sg_tk (by decide +kernel)) toks_nil)))
mutual
def St.nb : St → Prop
 | .mk _ _ _ _ _ ex _ bd el => nbL ex ∧ nbS bd ∧ nbS el
def nbS : List St → Prop
 | [] => True
 | s :: r => s.nb ∧ nbS r
end
mutual
def St.fa : St → Prop
 | .mk k nm fr sec mu ex ar bd el => fitsB (.mk k nm fr sec mu ex ar bd el) = true ∧ faS bd ∧ faS el
def faS : List St → Prop
 | [] => True
 | s :: r => s.fa ∧ faS r
end
def Fd.nb (f : Fd) : Prop := nbS f.bd ∧ nbL f.rt
theorem rowC_all {one : St → Nat → Option Nat} {P : St → Prop} (ho : ∀ s a b, one s a = some b → P s) : ∀ l a b, rowC one l a = some b → ∀ s ∈ l, P s
 | [], a, b, h, s, hs => by simp at hs
 | x :: r, a, b, h, s, hs => by
  rw [rowC] at h
  obtain ⟨y, h1, h2⟩ := bind_parts h
  rcases List.mem_cons.1 hs with rfl | hs
  ·exact ho _ _ _ h1
  ·exact rowC_all ho r y b h2 s hs
theorem faS_iff : ∀ {l : List St}, faS l ↔ ∀ s ∈ l, s.fa
 | [] => by rw [faS]; simp
 | x :: r => by rw [faS, faS_iff (l := r)]; simp
theorem blkC_fa : ∀ d l a b, blkC d l a = some b → faS l
 | 0, [], a, b, h => by rw [faS]; trivial
 | 0, _ :: _, a, b, h => by rw [blkC] at h; cases h
 | d + 1, l, a, b, h => by
  rw [blkC_succ] at h
  refine faS_iff.2 (rowC_all (fun s a b h => ?_) l a b h)
  obtain ⟨-, hf, h1⟩ := oneC_parts h
  obtain ⟨x, h2, h3⟩ := bind_parts h1
  obtain ⟨k, nm, fr, sec, mu, ex, ar, bd, el⟩ := s
  rw [St.fa]
  exact ⟨hf, blkC_fa d _ _ _ h2, blkC_fa d _ _ _ h3⟩
theorem toks_com {α : Type} {f : α → List Tk} {l : List α} (h : ∀ x ∈ l, Toks (f x)) : Toks (comT f l) := by
 cases l with
 | nil => exact toks_nil
 | cons x r =>
  refine toks_app (h x (List.mem_cons_self ..)) (fun t ht => ?_)
  obtain ⟨y, hy, ht⟩ := List.mem_flatMap.1 ht
  exact toks_cons (sg_tk (m := [44]) (by decide +kernel)) (h y (List.mem_cons_of_mem _ hy)) t ht
theorem toks_sec (b : Bool) : Toks (secT b) := by
 cases b
 ·exact toks_nil
 ·exact toks_cons (wd_tk (by decide +kernel)) toks_nil
theorem toks_ex {e : Xp} (h : mayB 40 e = true) (hb : e.nb) : Toks (xpT e) := tell_toks 40 e h hb
theorem stH_toks {k : Nat} {nm fr : List UInt8} {sec mu : Bool} {ex : List Xp} {ar : List (List UInt8)} {bd el : List St} (hf : fitsB (.mk k nm fr sec mu ex ar bd el) = true) (hb : nbL ex) : Toks (stH k nm fr sec mu ex ar) := by
 obtain ⟨⟨hk0, hk⟩, hM, har, hex⟩ := fits_parts hf
 have hE : ∀ e ∈ ex, Toks (xpT e) := fun e he => toks_ex (hex e he) (nbL_iff.1 hb e he)
 have S : ∀ m, signsL.contains m = true → TkOk (sg m) m := fun m h => sg_tk h
 have s61 := S [61] (by decide +kernel)
 have s59 := S [59] (by decide +kernel)
 have s91 := S [91] (by decide +kernel)
 have s93 := S [93] (by decide +kernel)
 have s123 := S [123] (by decide +kernel)
 have s60 := S [60] (by decide +kernel)
 have s46 := S [46, 46] (by decide +kernel)
 have s40 := S [40] (by decide +kernel)
 have s41 := S [41] (by decide +kernel)
 have hkk : k = 1 ∨ k = 2 ∨ k = 3 ∨ k = 4 ∨ k = 5 ∨ k = 6 ∨ k = 7 ∨ k = 8 ∨ k = 9 ∨ k = 10 ∨ k = 11 ∨ k = 12 := by omega
 rcases hkk with rfl | rfl | rfl | rfl | rfl | rfl | rfl | rfl | rfl | rfl | rfl | rfl
 ·obtain ⟨h1, -, -, -, h5, h6, -⟩ := met_parts (show metB (2, 0, true, false, 1, 1, 0, false, false) nm fr sec mu _ _ _ _ = true from hM)
  obtain ⟨e, rfl⟩ := one_of h5 h6
  exact toks_cons (wd_tk (w := wLet) (by decide +kernel)) (toks_app (toks_sec sec) (toks_cons (nmd_tk (metA2 h1)) (toks_cons s61 (toks_app (hE e (by simp)) (toks_cons s59 toks_nil)))))
 ·obtain ⟨h1, -, -, -, h5, h6, -⟩ := met_parts (show metB (2, 0, false, false, 1, 1, 0, false, false) nm fr sec mu _ _ _ _ = true from hM)
  obtain ⟨e, rfl⟩ := one_of h5 h6
  exact toks_cons (nmd_tk (metA2 h1)) (toks_cons s61 (toks_app (hE e (by simp)) (toks_cons s59 toks_nil)))
 ·obtain ⟨h1, -, -, -, h5, h6, -⟩ := met_parts (show metB (2, 0, true, false, 1, 1, 0, false, false) nm fr sec mu _ _ _ _ = true from hM)
  obtain ⟨e, rfl⟩ := one_of h5 h6
  exact toks_cons (wd_tk (w := wBuf) (by decide +kernel)) (toks_app (toks_sec sec) (toks_cons (nmd_tk (metA2 h1)) (toks_cons s91 (toks_app (hE e (by simp)) (toks_cons s93 (toks_cons s59 toks_nil))))))
 ·obtain ⟨h1, -, -, -, h5, h6, -⟩ := met_parts (show metB (2, 0, false, false, 2, 2, 0, false, false) nm fr sec mu _ _ _ _ = true from hM)
  obtain ⟨e, f, rfl⟩ := two_of h5 h6
  exact toks_cons (nmd_tk (metA2 h1)) (toks_cons s91 (toks_app (hE e (by simp)) (toks_cons s93 (toks_cons s61 (toks_app (hE f (by simp)) (toks_cons s59 toks_nil))))))
 ·obtain ⟨h1, -, -, -, h5, h6, -⟩ := met_parts (show metB (0, 0, false, false, 1, 1, 0, true, true) nm fr sec mu _ _ _ _ = true from hM)
  obtain ⟨e, rfl⟩ := one_of h5 h6
  exact toks_cons (wd_tk (w := wIf) (by decide +kernel)) (toks_app (hE e (by simp)) (toks_cons s123 toks_nil))
 ·obtain ⟨h1, -, -, -, h5, h6, -⟩ := met_parts (show metB (0, 0, false, false, 1, 1, 0, true, false) nm fr sec mu _ _ _ _ = true from hM)
  obtain ⟨e, rfl⟩ := one_of h5 h6
  exact toks_cons (wd_tk (w := wWhile) (by decide +kernel)) (toks_app (hE e (by simp)) (toks_cons s123 toks_nil))
 ·obtain ⟨h1, -, -, -, h5, h6, -⟩ := met_parts (show metB (2, 0, false, false, 1, 1, 0, true, false) nm fr sec mu _ _ _ _ = true from hM)
  obtain ⟨e, rfl⟩ := one_of h5 h6
  exact toks_cons (wd_tk (w := wFor) (by decide +kernel)) (toks_cons (nmd_tk (metA2 h1)) (toks_cons s60 (toks_app (hE e (by simp)) (toks_cons s123 toks_nil))))
 ·obtain ⟨h1, h2, -, -, h5, h6, -⟩ := met_parts (show metB (2, 2, false, true, 2, 2, 0, true, false) nm fr sec mu _ _ _ _ = true from hM)
  obtain ⟨e, f, rfl⟩ := two_of h5 h6
  exact toks_cons (wd_tk (w := if mu = true then wEdit else wView) (by cases mu <;> decide +kernel)) (toks_cons (nmd_tk (metA2 h1)) (toks_cons s61 (toks_cons (nmd_tk (metA2 h2)) (toks_cons s91 (toks_app (hE e (by simp)) (toks_cons s46 (toks_app (hE f (by simp)) (toks_cons s93 (toks_cons s123 toks_nil)))))))))
 ·obtain ⟨h1, h2, -⟩ := met_parts (show metB (2, 2, false, false, 0, 0, 0, false, false) nm fr sec mu _ _ _ _ = true from hM)
  exact toks_cons (wd_tk (w := wMove) (by decide +kernel)) (toks_cons (nmd_tk (metA2 h1)) (toks_cons s61 (toks_cons (nmd_tk (metA2 h2)) (toks_cons s59 toks_nil))))
 ·obtain ⟨h1, -, -, -, h5, h6, -⟩ := met_parts (show metB (2, 0, false, false, 1, 1, 0, false, false) nm fr sec mu _ _ _ _ = true from hM)
  obtain ⟨e, rfl⟩ := one_of h5 h6
  exact toks_cons (wd_tk (w := wOpen) (by decide +kernel)) (toks_cons (nmd_tk (metA2 h1)) (toks_cons s61 (toks_app (hE e (by simp)) (toks_cons s59 toks_nil))))
 ·obtain ⟨h1, h2, -⟩ := met_parts (show metB (1, 2, false, false, 0, 8, 8, false, false) nm fr sec mu _ _ _ _ = true from hM)
  refine toks_cons (wd_tk (w := wCall) (by decide +kernel)) (toks_app ?_ (toks_cons (nmd_tk (metA2 h2)) (toks_cons s40 (toks_app (toks_com hE) (toks_cons s59 (toks_app (toks_com (fun a ha => toks_cons (nmd_tk (har a ha)) toks_nil)) (toks_cons s41 (toks_cons s59 toks_nil))))))))
  by_cases c : nm = []
  ·rw [if_pos c]; exact toks_nil
  ·rw [if_neg c]; exact toks_cons (nmd_tk ((metA1 h1).resolve_left c)) (toks_cons s61 toks_nil)
 ·exact toks_cons (wd_tk (w := wSeal) (by decide +kernel)) (toks_cons s59 toks_nil)
mutual
theorem stL_toks : ∀ (d : Nat) (s : St), s.fa → s.nb → ∀ x ∈ stL d s, Toks x.2
 | d, .mk k nm fr sec mu ex ar bd el, hf, hb, x, hx => by
  rw [St.fa] at hf
  rw [St.nb] at hb
  rw [stL] at hx
  rcases List.mem_cons.1 hx with rfl | hx
  ·exact stH_toks hf.1 hb.1
  by_cases c : 5 ≤ k ∧ k ≤ 8
  ·rw [if_pos c] at hx
   rcases List.mem_append.1 hx with hx | hx
   ·exact stsL_toks (d + 1) bd hf.2.1 hb.2.1 x hx
   rcases List.mem_append.1 hx with hx | hx
   ·by_cases c2 : el.isEmpty = true
    ·rw [if_pos c2] at hx; simp at hx
    ·rw [if_neg c2] at hx
     rcases List.mem_cons.1 hx with rfl | hx
     ·exact toks_cons (sg_tk (by decide +kernel)) (toks_cons (wd_tk (by decide +kernel)) (toks_cons (sg_tk (by decide +kernel)) toks_nil))
     ·exact stsL_toks (d + 1) el hf.2.2 hb.2.2 x hx
   ·rw [List.mem_singleton.1 hx]
    exact toks_cons (sg_tk (by decide +kernel)) toks_nil
  ·rw [if_neg c] at hx; simp at hx
theorem stsL_toks : ∀ (d : Nat) (l : List St), faS l → nbS l → ∀ x ∈ stsL d l, Toks x.2
 | d, [], _, _, x, hx => by rw [stsL] at hx; simp at hx
 | d, s :: r, hf, hb, x, hx => by
  rw [faS] at hf
  rw [nbS] at hb
  rw [stsL] at hx
  rcases List.mem_append.1 hx with hx | hx
  ·exact stL_toks d s hf.1 hb.1 x hx
  ·exact stsL_toks d r hf.2 hb.2 x hx
end
theorem pmT_toks {x : Pm} (hx : pmB x = true) : Toks (pmT x) := by
 obtain ⟨nm, buf, sec, mu⟩ := x
 simp only [pmB, Bool.and_eq_true] at hx
 refine toks_app ?_ (toks_app (toks_sec sec) (toks_cons (nmd_tk hx.1) toks_nil))
 cases mu <;> cases buf <;> cases sec <;> first | exact toks_nil | exact toks_cons (wd_tk (by decide +kernel)) toks_nil
theorem fdL_toks {f : Fd} {a b : Nat} (h : fdC f a = some b) (hb : f.nb) : ∀ x ∈ fdL f, Toks x.2 := by
 obtain ⟨nm, ps, bd, sec, rt⟩ := f
 change (if (nmdB nm && psB ps && rtB sec rt) = true then blkC 40 bd a else none) = some b at h
 have c : (nmdB nm && psB ps && rtB sec rt) = true := Classical.byContradiction (fun c => by rw [if_neg c] at h; cases h)
 rw [if_pos c] at h
 simp only [psB, Bool.and_eq_true, decide_eq_true_eq, List.all_eq_true] at c
 obtain ⟨⟨c1, c2, c3⟩, c4⟩ := c
 intro x hx
 rcases List.mem_cons.1 hx with rfl | hx
 ·exact toks_cons (wd_tk (w := wFn) (by decide +kernel)) (toks_cons (nmd_tk c1) (toks_cons (sg_tk (m := [40]) (by decide +kernel)) (toks_app (toks_com (fun p hp => pmT_toks (c3 p hp))) (toks_cons (sg_tk (m := [41]) (by decide +kernel)) (toks_cons (sg_tk (m := [123]) (by decide +kernel)) toks_nil)))))
 rcases List.mem_append.1 hx with hx | hx
 ·exact stsL_toks 1 bd (blkC_fa _ _ _ _ h) hb.1 x hx
 ·rw [List.mem_singleton.1 hx]
  refine toks_cons (sg_tk (m := [125]) (by decide +kernel)) (toks_app ?_ (toks_cons (sg_tk (m := [59]) (by decide +kernel)) toks_nil))
  unfold rtB at c4
  cases rt with
  | nil => exact toks_nil
  | cons e r =>
   rw [if_neg (by simp)] at c4
   simp only [Bool.and_eq_true, decide_eq_true_eq, List.all_eq_true, List.length_cons] at c4
   exact toks_cons (sg_tk (m := [61]) (by decide +kernel)) (toks_app (toks_sec sec) (toks_ex (c4.2 e (by simp)) (nbL_iff.1 hb.2 e (by simp))))
theorem pgL_toks : ∀ (l : List Fd) (a b : Nat), pgC l a = some b → (∀ f ∈ l, f.nb) → ∀ x ∈ pgL l, Toks x.2
 | [], _, _, _, _, x, hx => by simp [pgL] at hx
 | f :: r, a, b, h, hb, x, hx => by
  rw [pgC] at h
  obtain ⟨y, h1, h2⟩ := bind_parts h
  rcases List.mem_append.1 (show x ∈ fdL f ++ pgL r from hx) with hx | hx
  ·exact fdL_toks h1 (hb f (List.mem_cons_self ..)) x hx
  ·exact pgL_toks r y b h2 (fun g hg => hb g (List.mem_cons_of_mem _ hg)) x hx
end Go.Proofs.YtkibkaoffgnmkaaGreatDoor
