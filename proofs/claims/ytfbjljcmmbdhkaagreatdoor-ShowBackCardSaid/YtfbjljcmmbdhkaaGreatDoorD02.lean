/- Plain: expressions; which may be; their tokens; what is read; what is told is read again, what is read is told. -/
import Derived.Test.YtfbjljcmmbdhkaaGreatDoorD00
namespace Go.Proofs.YtfbjljcmmbdhkaaGreatDoor
set_option linter.unusedVariables false
set_option linter.unusedSimpArgs false
set_option maxRecDepth 100000
set_option maxHeartbeats 200000000
inductive Xp
 | mk (k n : Nat) (s : List UInt8) (o : Nat) (l : List Xp)
def Xp.k : Xp → Nat | .mk k _ _ _ _ => k
def Xp.n : Xp → Nat | .mk _ n _ _ _ => n
def Xp.s : Xp → List UInt8 | .mk _ _ s _ _ => s
def Xp.o : Xp → Nat | .mk _ _ _ o _ => o
def Xp.l : Xp → List Xp | .mk _ _ _ _ l => l
instance : Inhabited Xp := ⟨.mk 0 0 [] 0 []⟩
def x0 : Xp := .mk 0 0 [] 0 []
def opsL : List (List UInt8) := [[], [43], [45], [60, 60], [60, 36], [60], [94], [62, 62], [62, 62, 62], [124], [38], [42], [42, 94], [47], [37]]
def opS (o : Nat) : List UInt8 := opsL.getD o []
def sg (t : List UInt8) : Tk := ⟨4, t, 0⟩
def nmT (t : List UInt8) : Tk := ⟨1, t, 0⟩
def fitB (k n : Nat) (s : List UInt8) (o m : Nat) : Bool :=
 if k = 1 then decide (s = []) && decide (o = 0) && decide (m = 0)
 else if k = 2 ∨ k = 4 then decide (n = 0) && nmdB s && decide (o = 0) && decide (m = 0)
 else if k = 5 then decide (n = 0) && nmdB s && decide (o = 0) && decide (m = 1)
 else if k = 3 then decide (n = 0) && decide (s = []) && decide (opS o ≠ []) && decide (m = 2)
 else false
def mayB : Nat → Xp → Bool
 | 0, _ => false
 | d + 1, .mk k n s o l => fitB k n s o l.length && l.all (mayB d)
def zQw : Nat → Xp → List Tk
 | 0, _ => []
 | d + 1, .mk k n s o l =>
  if k = 1 then [⟨3, [], n⟩]
  else if k = 2 then [nmT s]
  else if k = 4 then [sg [35], nmT s]
  else if k = 5 then nmT s :: sg [91] :: (zQw d (l.getD 0 x0) ++ [sg [93]])
  else sg [40] :: (zQw d (l.getD 0 x0) ++ sg (opS o) :: (zQw d (l.getD 1 x0) ++ [sg [41]]))
inductive Ro
 | er (e p : Nat)
 | ok (x : Xp) (p : Nat)
def zJf (t : Tk) : Bool := decide (t.k = 1) && decide (t.n = 0) && nmdB t.t
def opOf (t : Tk) : Nat := if t.k = 4 ∧ t.n = 0 ∧ t.t ≠ [] then (opsL.findIdx? (fun x => decide (x = t.t))).getD 0 else 0
instance : DecidableEq Tk := fun a b => match a, b with
 | ⟨k, t, n⟩, ⟨k', t', n'⟩ => if h : k = k' ∧ t = t' ∧ n = n' then isTrue (by obtain ⟨rfl, rfl, rfl⟩ := h; rfl) else isFalse (fun e => h (by cases e; exact ⟨rfl, rfl, rfl⟩))
def rdE : Nat → List Tk → Nat → Ro
 | 0, _, p => .er 70 p
 | d + 1, T, p =>
  match T[p]? with
  | none => .er 7 p
  | some t =>
   if t.k = 3 then (if t.t = [] then .ok (.mk 1 t.n [] 0 []) (p + 1) else .er 7 p)
   else if t = sg [35] then
    (match T[p + 1]? with
    | none => .er 7 (p + 1)
    | some u => if zJf u = true then .ok (.mk 4 0 u.t 0 []) (p + 2) else .er 7 (p + 1))
   else if t = sg [40] then
    (match rdE d T (p + 1) with
    | .er e q => .er e q
    | .ok a q =>
     match T[q]? with
     | none => .er 7 q
     | some u => if opOf u = 0 then .er 7 q else
       match rdE d T (q + 1) with
       | .er e r => .er e r
       | .ok b r => if T[r]? = some (sg [41]) then .ok (.mk 3 0 [] (opOf u) [a, b]) (r + 1) else .er 7 r)
   else if zJf t = true then
    (if T[p + 1]? = some (sg [91]) then
      (match rdE d T (p + 2) with
      | .er e q => .er e q
      | .ok a q => if T[q]? = some (sg [93]) then .ok (.mk 5 0 t.t 0 [a]) (q + 1) else .er 7 q)
    else .ok (.mk 2 0 t.t 0 []) (p + 1))
   else .er 7 p
theorem yJw (o : Nat) (h : opS o ≠ []) : opOf (sg (opS o)) = o := by
 have ho : o < 15 := by
  rcases Nat.lt_or_ge o 15 with h1 | h1
  ·exact h1
  ·exact absurd (by unfold opS; rw [List.getD_eq_getElem?_getD, List.getElem?_eq_none (by simp [opsL]; omega)]; rfl) h
 have hc : o = 0 ∨ o = 1 ∨ o = 2 ∨ o = 3 ∨ o = 4 ∨ o = 5 ∨ o = 6 ∨ o = 7 ∨ o = 8 ∨ o = 9 ∨ o = 10 ∨ o = 11 ∨ o = 12 ∨ o = 13 ∨ o = 14 := by omega
 rcases hc with rfl | rfl | rfl | rfl | rfl | rfl | rfl | rfl | rfl | rfl | rfl | rfl | rfl | rfl | rfl <;> first | (exact absurd rfl h) | decide +kernel
theorem jQk {t : Tk} (h : opOf t ≠ 0) : opOf t < 15 ∧ t = sg (opS (opOf t)) ∧ opS (opOf t) ≠ [] := by
 unfold opOf at h ⊢
 by_cases hc : t.k = 4 ∧ t.n = 0 ∧ t.t ≠ []
 ·rw [if_pos hc] at h ⊢
  obtain ⟨hk, hn, ht⟩ := hc
  cases hf : opsL.findIdx? (fun x => decide (x = t.t)) with
  | none => rw [hf] at h; exact absurd rfl h
  | some i =>
   obtain ⟨hi, hp, _⟩ := List.findIdx?_eq_some_iff_getElem.1 hf
   have he : opsL[i] = t.t := by simpa using hp
   have hS : opS i = t.t := by unfold opS; rw [List.getD_eq_getElem?_getD, List.getElem?_eq_getElem hi]; exact he
   show i < 15 ∧ t = sg (opS i) ∧ opS i ≠ []
   rw [hS]
   refine ⟨by simpa [opsL] using hi, ?_, ht⟩
   obtain ⟨k, x, n⟩ := t
   simp only at hk hn
   subst hk hn
   rfl
 ·rw [if_neg hc] at h; exact absurd rfl h
theorem yKl (A B : List Tk) (t : Tk) : (A ++ t :: B)[A.length]? = some t := by simp
theorem xJa (A B : List Tk) (t u : Tk) : (A ++ t :: u :: B)[A.length + 1]? = some u := by simp
theorem fit1 {n : Nat} {s : List UInt8} {o m : Nat} (h : fitB 1 n s o m = true) : s = [] ∧ o = 0 ∧ m = 0 := by simpa [fitB, and_assoc] using h
theorem fit2 {n : Nat} {s : List UInt8} {o m : Nat} (h : fitB 2 n s o m = true) : n = 0 ∧ nmdB s = true ∧ o = 0 ∧ m = 0 := by simpa [fitB, and_assoc] using h
theorem fit4 {n : Nat} {s : List UInt8} {o m : Nat} (h : fitB 4 n s o m = true) : n = 0 ∧ nmdB s = true ∧ o = 0 ∧ m = 0 := by simpa [fitB, and_assoc] using h
theorem fit5 {n : Nat} {s : List UInt8} {o m : Nat} (h : fitB 5 n s o m = true) : n = 0 ∧ nmdB s = true ∧ o = 0 ∧ m = 1 := by simpa [fitB, and_assoc] using h
theorem fit3 {n : Nat} {s : List UInt8} {o m : Nat} (h : fitB 3 n s o m = true) : n = 0 ∧ s = [] ∧ opS o ≠ [] ∧ m = 2 := by simpa [fitB, and_assoc] using h
theorem xQu {k n : Nat} {s : List UInt8} {o m : Nat} (h : fitB k n s o m = true) : k = 1 ∨ k = 2 ∨ k = 3 ∨ k = 4 ∨ k = 5 := by
 unfold fitB at h
 by_cases h1 : k = 1
 ·exact .inl h1
 ·rw [if_neg h1] at h
  by_cases h2 : k = 2 ∨ k = 4
  ·omega
  ·rw [if_neg h2] at h
   by_cases h5 : k = 5
   ·omega
   ·rw [if_neg h5] at h
    by_cases h3 : k = 3
    ·omega
    ·rw [if_neg h3] at h; cases h
theorem sgne1 : sg [40] ≠ sg [35] := by decide +kernel
theorem xKa (s t : List UInt8) : nmT s ≠ sg t := by intro h; have := congrArg Tk.k h; simp [nmT, sg] at this
theorem rd_tell : ∀ (d : Nat) (e : Xp), mayB d e = true → ∀ (A C : List Tk), (e.k = 2 → ∀ c r, C = c :: r → c ≠ sg [91]) → rdE d (A ++ (zQw d e ++ C)) A.length = .ok e (A.length + (zQw d e).length) := by
 intro d
 induction d with
 | zero => intro e h; simp [mayB] at h
 | succ d ih =>
  intro e h A C hC
  obtain ⟨k, n, s, o, l⟩ := e
  rw [mayB, Bool.and_eq_true] at h
  obtain ⟨hf, hl⟩ := h
  rcases xQu hf with rfl | rfl | rfl | rfl | rfl
  ·obtain ⟨rfl, rfl, hm⟩ := fit1 hf
   obtain rfl : l = [] := List.length_eq_zero_iff.1 hm
   simp [rdE, zQw]
  ·obtain ⟨rfl, hn, rfl, hm⟩ := fit2 hf
   obtain rfl : l = [] := List.length_eq_zero_iff.1 hm
   have e1 : (A ++ nmT s :: C)[A.length]? = some (nmT s) := yKl A C _
   have e2 : ¬ (A ++ nmT s :: C)[A.length + 1]? = some (sg [91]) := by
    cases C with
    | nil => simp
    | cons c r => rw [xJa]; intro hh; exact hC rfl c r rfl (Option.some.inj hh)
   have e3 : zJf (nmT s) = true := by simp [zJf, nmT, hn]
   show rdE (d + 1) (A ++ nmT s :: C) A.length = _
   rw [rdE]
   simp only [e1]
   rw [if_neg (by simp [nmT]), if_neg (xKa _ _), if_neg (xKa _ _), if_pos e3, if_neg e2]
   rfl
  ·obtain ⟨rfl, rfl, ho, hm⟩ := fit3 hf
   obtain ⟨a, b, rfl⟩ : ∃ a b, l = [a, b] := by
    match l, hm with
    | [a, b], _ => exact ⟨a, b, rfl⟩
   simp only [List.all_cons, List.all_nil, Bool.and_true, Bool.and_eq_true] at hl
   have ht : zQw (d + 1) (.mk 3 0 [] o [a, b]) = sg [40] :: (zQw d a ++ sg (opS o) :: (zQw d b ++ [sg [41]])) := rfl
   rw [ht]
   obtain ⟨ta, hta⟩ : ∃ ta, zQw d a = ta := ⟨_, rfl⟩
   obtain ⟨tb, htb⟩ : ∃ tb, zQw d b = tb := ⟨_, rfl⟩
   have ia := ih a hl.1 (A ++ [sg [40]]) (sg (opS o) :: (tb ++ sg [41] :: C)) (fun _ c r hh => by
    rw [List.cons.injEq] at hh; rw [← hh.1]; intro h2
    have h3 := yJw o ho
    have h4 : opS o = [91] := congrArg Tk.t h2
    rw [h4] at h3
    have h5 : opOf (sg [91]) = 0 := by decide +kernel
    rw [h5] at h3
    subst h3
    exact absurd rfl ho)
   have ib := ih b hl.2 (A ++ sg [40] :: (ta ++ [sg (opS o)])) (sg [41] :: C) (fun _ c r hh => by rw [List.cons.injEq] at hh; rw [← hh.1]; decide +kernel)
   rw [hta] at ia ⊢
   rw [htb] at ib ⊢
   have hT : A ++ ((sg [40] :: (ta ++ sg (opS o) :: (tb ++ [sg [41]]))) ++ C) = A ++ sg [40] :: (ta ++ sg (opS o) :: (tb ++ sg [41] :: C)) := by simp
   have hTa : (A ++ [sg [40]]) ++ (ta ++ sg (opS o) :: (tb ++ sg [41] :: C)) = A ++ sg [40] :: (ta ++ sg (opS o) :: (tb ++ sg [41] :: C)) := by simp
   have hTb : (A ++ sg [40] :: (ta ++ [sg (opS o)])) ++ (tb ++ sg [41] :: C) = A ++ sg [40] :: (ta ++ sg (opS o) :: (tb ++ sg [41] :: C)) := by simp
   rw [hTa] at ia
   rw [hTb] at ib
   rw [hT]
   have la : (A ++ [sg [40]]).length = A.length + 1 := by simp
   have lb : (A ++ sg [40] :: (ta ++ [sg (opS o)])).length = A.length + 1 + ta.length + 1 := by simp; omega
   rw [la] at ia
   rw [lb] at ib
   have e1 : (A ++ sg [40] :: (ta ++ sg (opS o) :: (tb ++ sg [41] :: C)))[A.length]? = some (sg [40]) := yKl A _ _
   have e2 : (A ++ sg [40] :: (ta ++ sg (opS o) :: (tb ++ sg [41] :: C)))[A.length + 1 + ta.length]? = some (sg (opS o)) := by
    have := yKl (A ++ sg [40] :: ta) (tb ++ sg [41] :: C) (sg (opS o))
    rw [List.append_assoc, List.cons_append, List.length_append, List.length_cons] at this
    rw [show A.length + 1 + ta.length = A.length + (ta.length + 1) by omega]; exact this
   have e3 : (A ++ sg [40] :: (ta ++ sg (opS o) :: (tb ++ sg [41] :: C)))[A.length + 1 + ta.length + 1 + tb.length]? = some (sg [41]) := by
    have := yKl (A ++ sg [40] :: (ta ++ sg (opS o) :: tb)) C (sg [41])
    simp only [List.append_assoc, List.cons_append, List.length_append, List.length_cons] at this
    rw [show A.length + 1 + ta.length + 1 + tb.length = A.length + (ta.length + (tb.length + 1) + 1) by omega]; exact this
   rw [rdE]
   simp only [e1]
   rw [if_neg (by simp [sg]), if_neg sgne1, if_pos trivial]
   simp only [ia, e2]
   rw [yJw o ho, if_neg (by intro h0; subst h0; exact ho rfl)]
   simp only [ib, e3]
   rw [if_pos trivial]
   congr 1
   simp; omega
  ·obtain ⟨rfl, hn, rfl, hm⟩ := fit4 hf
   obtain rfl : l = [] := List.length_eq_zero_iff.1 hm
   have e1 : (A ++ sg [35] :: nmT s :: C)[A.length]? = some (sg [35]) := yKl A _ _
   have e2 : (A ++ sg [35] :: nmT s :: C)[A.length + 1]? = some (nmT s) := xJa A C _ _
   have e3 : zJf (nmT s) = true := by simp [zJf, nmT, hn]
   show rdE (d + 1) (A ++ sg [35] :: nmT s :: C) A.length = _
   rw [rdE]
   simp only [e1, e2]
   rw [if_neg (by simp [sg]), if_pos trivial, if_pos e3]
   rfl
  ·obtain ⟨rfl, hn, rfl, hm⟩ := fit5 hf
   obtain ⟨a, rfl⟩ : ∃ a, l = [a] := by
    match l, hm with
    | [a], _ => exact ⟨a, rfl⟩
   simp only [List.all_cons, List.all_nil, Bool.and_true] at hl
   have ht : zQw (d + 1) (.mk 5 0 s 0 [a]) = nmT s :: sg [91] :: (zQw d a ++ [sg [93]]) := rfl
   rw [ht]
   obtain ⟨ta, hta⟩ : ∃ ta, zQw d a = ta := ⟨_, rfl⟩
   have ia := ih a hl (A ++ [nmT s, sg [91]]) (sg [93] :: C) (fun _ c r hh => by rw [List.cons.injEq] at hh; rw [← hh.1]; decide +kernel)
   rw [hta] at ia ⊢
   have hT : A ++ ((nmT s :: sg [91] :: (ta ++ [sg [93]])) ++ C) = A ++ nmT s :: sg [91] :: (ta ++ sg [93] :: C) := by simp
   have hTa : (A ++ [nmT s, sg [91]]) ++ (ta ++ sg [93] :: C) = A ++ nmT s :: sg [91] :: (ta ++ sg [93] :: C) := by simp
   rw [hTa] at ia
   rw [hT]
   have la : (A ++ [nmT s, sg [91]]).length = A.length + 2 := by simp
   rw [la] at ia
   have e1 : (A ++ nmT s :: sg [91] :: (ta ++ sg [93] :: C))[A.length]? = some (nmT s) := yKl A _ _
   have e2 : (A ++ nmT s :: sg [91] :: (ta ++ sg [93] :: C))[A.length + 1]? = some (sg [91]) := xJa A _ _ _
   have e3 : (A ++ nmT s :: sg [91] :: (ta ++ sg [93] :: C))[A.length + 2 + ta.length]? = some (sg [93]) := by
    have := yKl (A ++ nmT s :: sg [91] :: ta) C (sg [93])
    simp only [List.append_assoc, List.cons_append, List.length_append, List.length_cons] at this
    rw [show A.length + 2 + ta.length = A.length + (ta.length + 1 + 1) by omega]; exact this
   have e4 : zJf (nmT s) = true := by simp [zJf, nmT, hn]
   rw [rdE]
   simp only [e1]
   rw [if_neg (by simp [nmT]), if_neg (xKa _ _), if_neg (xKa _ _), if_pos e4, if_pos e2]
   simp only [ia, e3]
   rw [if_pos trivial]
   congr 1
   simp; omega
theorem zJq {T : List Tk} {p q : Nat} {t : Tk} (h : T[p]? = some t) (hq : p + 1 ≤ q) : (T.drop p).take (q - p) = t :: (T.drop (p + 1)).take (q - (p + 1)) := by
 obtain ⟨hp, he⟩ := List.getElem?_eq_some_iff.1 h
 rw [List.drop_eq_getElem_cons hp, show q - p = (q - (p + 1)) + 1 by omega, List.take_succ_cons, he]
theorem yJt {T : List Tk} {p q r : Nat} (h1 : p ≤ q) (h2 : q ≤ r) : (T.drop p).take (r - p) = (T.drop p).take (q - p) ++ (T.drop q).take (r - q) := by
 rw [show r - p = (q - p) + (r - q) by omega, List.take_add, List.drop_drop, show p + (q - p) = q by omega]
theorem jZe {T : List Tk} {p : Nat} {t : Tk} (h : T[p]? = some t) : p < T.length := (List.getElem?_eq_some_iff.1 h).1
theorem xZq {t : Tk} (h : zJf t = true) : t = nmT t.t ∧ nmdB t.t = true := by
 simp only [zJf, Bool.and_eq_true, decide_eq_true_eq] at h
 obtain ⟨⟨h1, h2⟩, h3⟩ := h
 refine ⟨?_, h3⟩
 obtain ⟨k, t, n⟩ := t
 simp only at h1 h2
 subst h1 h2
 rfl
theorem yJp : ∀ (d : Nat) (T : List Tk) (p : Nat) (x : Xp) (q : Nat), rdE d T p = .ok x q → mayB d x = true ∧ p < q ∧ q ≤ T.length ∧ (T.drop p).take (q - p) = zQw d x := by
 intro d
 induction d with
 | zero => intro T p x q h; simp [rdE] at h
 | succ d ih =>
  intro T p x q h
  rw [rdE] at h
  cases h0 : T[p]? with
  | none => simp [h0] at h
  | some t =>
   simp only [h0] at h
   have hp := jZe h0
   by_cases c3 : t.k = 3
   ·rw [if_pos c3] at h
    by_cases ct : t.t = []
    ·rw [if_pos ct] at h
     cases h
     refine ⟨by simp [mayB, fitB], by omega, by omega, ?_⟩
     rw [zJq h0 (by omega), Nat.sub_self, List.take_zero]
     obtain ⟨k, s, n⟩ := t
     simp only at c3 ct
     subst c3 ct
     rfl
    ·rw [if_neg ct] at h; cases h
   ·rw [if_neg c3] at h
    by_cases c35 : t = sg [35]
    ·rw [if_pos c35] at h
     cases h1 : T[p + 1]? with
     | none => simp [h1] at h
     | some u =>
      simp only [h1] at h
      have hp1 := jZe h1
      by_cases cn : zJf u = true
      ·rw [if_pos cn] at h
       cases h
       obtain ⟨e1, e2⟩ := xZq cn
       refine ⟨by simp [mayB, fitB, e2], by omega, by omega, ?_⟩
       rw [zJq h0 (by omega), zJq h1 (by omega), show p + 2 - (p + 1 + 1) = 0 by omega, List.take_zero, c35]
       show [sg [35], u] = [sg [35], nmT u.t]
       rw [← e1]
      ·rw [if_neg cn] at h; cases h
    ·rw [if_neg c35] at h
     by_cases c40 : t = sg [40]
     ·rw [if_pos c40] at h
      cases ha : rdE d T (p + 1) with
      | er e q' => simp [ha] at h
      | ok a q1 =>
       simp only [ha] at h
       obtain ⟨a1, a2, a3, a4⟩ := ih T (p + 1) a q1 ha
       cases h1 : T[q1]? with
       | none => simp [h1] at h
       | some u =>
        simp only [h1] at h
        by_cases co : opOf u = 0
        ·rw [if_pos co] at h; cases h
        ·rw [if_neg co] at h
         obtain ⟨o1, o2, o3⟩ := jQk co
         cases hb : rdE d T (q1 + 1) with
         | er e q' => simp [hb] at h
         | ok b r =>
          simp only [hb] at h
          obtain ⟨b1, b2, b3, b4⟩ := ih T (q1 + 1) b r hb
          by_cases cr : T[r]? = some (sg [41])
          ·rw [if_pos cr] at h
           cases h
           have hr := jZe cr
           refine ⟨by simp [mayB, fitB, a1, b1, o3], by omega, by omega, ?_⟩
           rw [zJq h0 (by omega), yJt (show p + 1 ≤ q1 by omega) (show q1 ≤ r + 1 by omega), a4, zJq h1 (by omega), yJt (show q1 + 1 ≤ r by omega) (show r ≤ r + 1 by omega), b4, zJq cr (by omega), Nat.sub_self, List.take_zero, c40]
           show _ = sg [40] :: (zQw d a ++ sg (opS (opOf u)) :: (zQw d b ++ [sg [41]]))
           rw [← o2]
          ·rw [if_neg cr] at h; cases h
     ·rw [if_neg c40] at h
      by_cases cn : zJf t = true
      ·rw [if_pos cn] at h
       obtain ⟨e1, e2⟩ := xZq cn
       by_cases c91 : T[p + 1]? = some (sg [91])
       ·rw [if_pos c91] at h
        have hp1 := jZe c91
        cases ha : rdE d T (p + 2) with
        | er e q' => simp [ha] at h
        | ok a q1 =>
         simp only [ha] at h
         obtain ⟨a1, a2, a3, a4⟩ := ih T (p + 2) a q1 ha
         by_cases cr : T[q1]? = some (sg [93])
         ·rw [if_pos cr] at h
          cases h
          have hr := jZe cr
          refine ⟨by simp [mayB, fitB, a1, e2], by omega, by omega, ?_⟩
          rw [zJq h0 (by omega), zJq c91 (by omega), yJt (show p + 1 + 1 ≤ q1 by omega) (show q1 ≤ q1 + 1 by omega), show p + 1 + 1 = p + 2 from rfl, a4, zJq cr (by omega), Nat.sub_self, List.take_zero]
          show _ = nmT t.t :: sg [91] :: (zQw d a ++ [sg [93]])
          rw [← e1]
         ·rw [if_neg cr] at h; cases h
       ·rw [if_neg c91] at h
        cases h
        refine ⟨by simp [mayB, fitB, e2], by omega, by omega, ?_⟩
        rw [zJq h0 (by omega), Nat.sub_self, List.take_zero]
        show [t] = [nmT t.t]
        rw [← e1]
      ·rw [if_neg cn] at h; cases h
end Go.Proofs.YtfbjljcmmbdhkaaGreatDoor
