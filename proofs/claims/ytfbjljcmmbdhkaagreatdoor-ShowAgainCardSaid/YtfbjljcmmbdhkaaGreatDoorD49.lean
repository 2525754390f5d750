/- Plain: what is read of a short text has small expressions. -/
import Derived.Test.YtfbjljcmmbdhkaaGreatDoorD46
import Derived.Test.YtfbjljcmmbdhkaaGreatDoorD38
import Derived.Test.YtfbjljcmmbdhkaaGreatDoorD03
namespace Go.Proofs.YtfbjljcmmbdhkaaGreatDoor
set_option linter.unusedVariables false
set_option linter.unusedSimpArgs false
set_option maxRecDepth 100000
set_option maxHeartbeats 200000000
def yZh (T : List Tk) : Prop := T.length ≤ 9000
def ndX (x : Xp) : Prop := x.nodes ≤ 9000
def ndL (l : List Xp) : Prop := ∀ x ∈ l, x.nodes ≤ 9000
theorem yJm : ∀ (d : Nat) (e : Xp), mayB d e = true → e.nodes ≤ (zQw d e).length
 | 0, e, h => by simp [mayB] at h
 | d + 1, .mk k n s o l, h => by
   rw [mayB, Bool.and_eq_true, List.all_eq_true] at h
   obtain ⟨hf, hl⟩ := h
   rw [Xp.nodes]
   rcases xQu hf with rfl | rfl | rfl | rfl | rfl
   ·obtain ⟨-, -, hm⟩ := fit1 hf
    obtain rfl : l = [] := List.length_eq_zero_iff.1 hm
    simp [zQw, zXv]
   ·obtain ⟨rfl, -, -, hm⟩ := fit2 hf
    obtain rfl : l = [] := List.length_eq_zero_iff.1 hm
    simp [zQw, zXv]
   ·obtain ⟨rfl, -, -, hm⟩ := fit3 hf
    match l, hm, hl with
    | [a, b], _, hl =>
     have ia := yJm d a (hl _ (by simp))
     have ib := yJm d b (hl _ (by simp))
     rw [show zQw (d + 1) (.mk 3 0 s o [a, b]) = sg [40] :: (zQw d a ++ sg (opS o) :: (zQw d b ++ [sg [41]])) from rfl]
     simp only [zXv, List.length_cons, List.length_append, List.length_nil]
     omega
   ·obtain ⟨rfl, -, -, hm⟩ := fit4 hf
    obtain rfl : l = [] := List.length_eq_zero_iff.1 hm
    simp [zQw, zXv]
   ·obtain ⟨rfl, -, -, hm⟩ := fit5 hf
    match l, hm, hl with
    | [a], _, hl =>
     have ia := yJm d a (hl _ (by simp))
     rw [show zQw (d + 1) (.mk 5 0 s o [a]) = nmT s :: sg [91] :: (zQw d a ++ [sg [93]]) from rfl]
     simp only [zXv, List.length_cons, List.length_append, List.length_nil]
     omega
theorem jKq {T : List Tk} (hN : yZh T) {d p q : Nat} {x : Xp} (h : rdE d T p = .ok x q) : ndX x := by
 obtain ⟨h1, -, -, h2⟩ := yJp _ _ _ _ _ h
 have h3 := yJm d x h1
 rw [← h2, List.length_take, List.length_drop] at h3
 unfold yZh at hN
 unfold ndX
 omega
theorem yKc {T : List Tk} (hN : yZh T) {p n : Nat} {x : Xp} {q m : Nat} (h : expR T p n = .ok x q m) : m = n ∧ ndX x := ⟨(xZw h).1, jKq hN (xZw h).2⟩
theorem yKi {T : List Tk} (hN : yZh T) {a b : List UInt8} {p n : Nat} {x : Xp} {q m : Nat} (h : betR T a b p n = .ok x q m) : ndX x := by
 obtain ⟨e, p', q', h⟩ := jZo h
 exact jKq hN h
theorem yXd {x : Xp} (h : ndX x) : ndL [x] := fun y hy => by rw [List.mem_singleton.1 hy]; exact h
theorem jZs {x y : Xp} (h : ndX x) (h2 : ndX y) : ndL [x, y] := fun z hz => by
 rcases List.mem_cons.1 hz with rfl | hz
 ·exact h
 ·exact yXd h2 z hz
theorem jQq : ndL [] := fun x hx => by simp at hx
theorem zXz : ndS [] := by rw [ndS]; trivial
theorem yZj {k : Nat} {nm fr : List UInt8} {sec mu : Bool} {ex : List Xp} {ar : List (List UInt8)} {bd el : List St} (h1 : ndL ex) (h2 : ndS bd) (h3 : ndS el) : (St.mk k nm fr sec mu ex ar bd el).nd := by rw [St.nd]; exact ⟨h1, h2, h3⟩
theorem stR_nd {T : List Tk} (hN : yZh T) {blk : Nat → Nat → Rz (List St)} (hB : ∀ p n l q m, blk p n = .ok l q m → ndS l) {p n : Nat} {s : St} {q m : Nat} (h : stR T blk p n = .ok s q m) : s.nd := by
 unfold stR at h
 by_cases c1 : txt T p = wLet
 ·rw [if_pos c1] at h
  unfold letR at h
  obtain ⟨x, q1, m1, h1, h⟩ := zQk h
  obtain ⟨e, q2, m2, h2, h⟩ := zQk h
  cases h
  exact yZj (yXd (yKi hN h2)) zXz zXz
 rw [if_neg c1] at h
 by_cases c2 : txt T p = wBuf
 ·rw [if_pos c2] at h
  unfold bufR at h
  obtain ⟨x, q1, m1, h1, h⟩ := zQk h
  obtain ⟨e, q2, m2, h2, h⟩ := zQk h
  obtain ⟨_, q3, m3, h3, h⟩ := zQk h
  cases h
  exact yZj (yXd (yKi hN h2)) zXz zXz
 rw [if_neg c2] at h
 by_cases c3 : txt T p = wIf
 ·rw [if_pos c3] at h
  unfold ifR at h
  obtain ⟨e, q2, m2, h2, h⟩ := zQk h
  obtain ⟨b, q3, m3, h3, h⟩ := zQk h
  split at h
  ·obtain ⟨l, q4, m4, h4, h⟩ := zQk h
   cases h
   exact yZj (yXd (yKc hN h2).2) (hB _ _ _ _ _ h3) (hB _ _ _ _ _ h4)
  ·cases h
   exact yZj (yXd (yKc hN h2).2) (hB _ _ _ _ _ h3) zXz
 rw [if_neg c3] at h
 by_cases c4 : txt T p = zZz
 ·rw [if_pos c4] at h
  unfold whiR at h
  obtain ⟨e, q2, m2, h2, h⟩ := zQk h
  obtain ⟨b, q3, m3, h3, h⟩ := zQk h
  cases h
  exact yZj (yXd (yKc hN h2).2) (hB _ _ _ _ _ h3) zXz
 rw [if_neg c4] at h
 by_cases c5 : txt T p = wFor
 ·rw [if_pos c5] at h
  unfold forR at h
  obtain ⟨x, q1, m1, h1, h⟩ := zQk h
  obtain ⟨_, q5, m5, h5, h⟩ := zQk h
  obtain ⟨e, q2, m2, h2, h⟩ := zQk h
  obtain ⟨b, q3, m3, h3, h⟩ := zQk h
  cases h
  exact yZj (yXd (yKc hN h2).2) (hB _ _ _ _ _ h3) zXz
 rw [if_neg c5] at h
 have hlen : ∀ mu p, lenR T blk mu p n = .ok s q m → s.nd := fun mu p h => by
  unfold lenR at h
  obtain ⟨x, q1, m1, h1, h⟩ := zQk h
  obtain ⟨_, q5, m5, h5, h⟩ := zQk h
  obtain ⟨y, q6, m6, h6, h⟩ := zQk h
  obtain ⟨a, q7, m7, h7, h⟩ := zQk h
  obtain ⟨e, q2, m2, h2, h⟩ := zQk h
  obtain ⟨_, q8, m8, h8, h⟩ := zQk h
  obtain ⟨b, q3, m3, h3, h⟩ := zQk h
  cases h
  exact yZj (jZs (yKi hN h7) (yKc hN h2).2) (hB _ _ _ _ _ h3) zXz
 by_cases c6 : txt T p = zXf
 ·rw [if_pos c6] at h
  exact hlen _ _ h
 rw [if_neg c6] at h
 by_cases c7 : txt T p = zQt
 ·rw [if_pos c7] at h
  exact hlen _ _ h
 rw [if_neg c7] at h
 by_cases c8 : txt T p = zKw
 ·rw [if_pos c8] at h
  unfold movR at h
  obtain ⟨x, q1, m1, h1, h⟩ := zQk h
  obtain ⟨_, q5, m5, h5, h⟩ := zQk h
  obtain ⟨y, q6, m6, h6, h⟩ := zQk h
  obtain ⟨_, q7, m7, h7, h⟩ := zQk h
  cases h
  exact yZj jQq zXz zXz
 rw [if_neg c8] at h
 by_cases c9 : txt T p = yQp
 ·rw [if_pos c9] at h
  unfold opnR at h
  obtain ⟨x, q1, m1, h1, h⟩ := zQk h
  obtain ⟨e, q2, m2, h2, h⟩ := zQk h
  cases h
  exact yZj (yXd (yKi hN h2)) zXz zXz
 rw [if_neg c9] at h
 by_cases c10 : txt T p = zKs
 ·rw [if_pos c10] at h
  have harg : ∀ x y p n, argR T x y p n = .ok s q m → s.nd := fun x y p n h => by
   unfold argR at h
   obtain ⟨_, q1, m1, h1, h⟩ := zQk h
   obtain ⟨ex, q2, m2, h2, h⟩ := zQk h
   obtain ⟨ar, q3, m3, h3, h⟩ := zQk h
   obtain ⟨_, q4, m4, h4, h⟩ := zQk h
   cases h
   obtain ⟨-, x1, x2⟩ := yZe (P := fun x => ndX x) (fun p n x q m h => yKc hN h) h2
   exact yZj (x2) zXz zXz
  unfold calR at h
  obtain ⟨x, q1, m1, h1, h⟩ := zQk h
  split at h
  ·obtain ⟨y, q2, m2, h2, h⟩ := zQk h
   exact harg _ _ _ _ h
  ·exact harg _ _ _ _ h
 rw [if_neg c10] at h
 by_cases c11 : txt T p = yQh
 ·rw [if_pos c11] at h
  unfold seaR at h
  obtain ⟨_, q1, m1, h1, h⟩ := zQk h
  cases h
  exact yZj jQq zXz zXz
 rw [if_neg c11] at h
 unfold setR at h
 obtain ⟨x, q1, m1, h1, h⟩ := zQk h
 split at h
 ·obtain ⟨i, q2, m2, h2, h⟩ := zQk h
  obtain ⟨e, q3, m3, h3, h⟩ := zQk h
  cases h
  exact yZj (jZs (yKi hN h2) (yKi hN h3)) zXz zXz
 ·obtain ⟨e, q3, m3, h3, h⟩ := zQk h
  cases h
  exact yZj (yXd (yKi hN h3)) zXz zXz
theorem jZa {T : List Tk} {one : Nat → Nat → Rz St} (ho : ∀ p n s q m, one p n = .ok s q m → s.nd) : ∀ (f : Nat) (l : List St) (p n : Nat) (r : List St) (q m : Nat), ndS l → blkL T one f l p n = .ok r q m → ndS r := by
 intro f
 induction f with
 | zero => intro l p n r q m _ h; cases h
 | succ f ih =>
  intro l p n r q m hl h
  unfold blkL at h
  split at h
  ·cases h; exact hl
  ·obtain ⟨x, q1, m1, h1, h⟩ := zQk h
   refine ih (l ++ [x]) q1 m1 r q m (ndS_iff.2 (fun y hy => ?_)) h
   rcases List.mem_append.1 hy with hy | hy
   ·exact ndS_iff.1 hl y hy
   ·rw [List.mem_singleton.1 hy]; exact ho _ _ _ _ _ h1
theorem xZy {T : List Tk} (hN : yZh T) : ∀ d p n l q m, blkR T d p n = .ok l q m → ndS l
 | 0, p, n, l, q, m, h => by
   rw [blkR] at h
   obtain ⟨_, q1, m1, h1, h⟩ := zQk h
   exact jZa (fun p n s q m h => by cases h) _ _ _ _ _ _ _ zXz h
 | d + 1, p, n, l, q, m, h => by
   rw [blkR] at h
   obtain ⟨_, q1, m1, h1, h⟩ := zQk h
   refine jZa (fun p n s q m h => ?_) _ _ _ _ _ _ _ zXz h
   unfold staR at h
   split at h
   ·cases h
   ·exact stR_nd hN (xZy hN d) h
theorem fun_nd {T : List Tk} (hN : yZh T) {p n : Nat} {f : Fd} {q m : Nat} (h : funR T p n = .ok f q m) : f.nd := by
 unfold funR at h
 obtain ⟨_, q1, m1, h1, h⟩ := zQk h
 obtain ⟨_, q2, m2, h2, h⟩ := zQk h
 obtain ⟨_, q3, m3, h3, h⟩ := zQk h
 obtain ⟨_, q4, m4, h4, h⟩ := zQk h
 obtain ⟨b, q5, m5, h5, h⟩ := zQk h
 unfold retR at h
 split at h
 ·obtain ⟨e, q6, m6, h6, h⟩ := zQk h
  obtain ⟨_, q7, m7, h7, h⟩ := zQk h
  cases h
  exact ⟨xZy hN _ _ _ _ _ _ h5, yXd (yKc hN h6).2⟩
 ·obtain ⟨_, q7, m7, h7, h⟩ := zQk h
  cases h
  exact ⟨xZy hN _ _ _ _ _ _ h5, jQq⟩
theorem proL_nd {T : List Tk} (hN : yZh T) : ∀ (f : Nat) (l : List Fd) (p n : Nat) (r : List Fd) (q m : Nat), (∀ g ∈ l, g.nd) → proL T f l p n = .ok r q m → ∀ g ∈ r, g.nd := by
 intro f
 induction f with
 | zero => intro l p n r q m _ h; cases h
 | succ f ih =>
  intro l p n r q m hl h
  unfold proL at h
  split at h
  ·cases h; exact hl
  ·split at h
   ·cases h
   ·obtain ⟨x, q1, m1, h1, h⟩ := zQk h
    refine ih (l ++ [x]) q1 m1 r q m (fun y hy => ?_) h
    rcases List.mem_append.1 hy with hy | hy
    ·exact hl y hy
    ·rw [List.mem_singleton.1 hy]; exact fun_nd hN h1
theorem par_nd {s : List UInt8} {l : List Fd} (hs : s.length ≤ 8192) (h : parB s = .ok l) : ∀ f ∈ l, f.nd := by
 unfold parB at h
 split at h
 ·cases h
 ·rename_i T hT
  split at h
  ·cases h
  ·rename_i x p n hp
   cases h
   refine proL_nd ?_ 17 [] 0 0 _ _ _ (by simp) hp
   unfold lexT at hT
   split at hT
   ·cases hT
   ·have := lex_count _ _ _ _ hT
    unfold yZh
    rw [List.length_map]
    omega
end Go.Proofs.YtfbjljcmmbdhkaaGreatDoor
