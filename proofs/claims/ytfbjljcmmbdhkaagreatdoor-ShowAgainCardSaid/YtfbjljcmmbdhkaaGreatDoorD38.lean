/- Plain: what is read of a text has no number longer than 64 bits; what is read, and shown, is read as the same. -/
import Derived.Test.YtfbjljcmmbdhkaaGreatDoorD10
import Derived.Test.YtfbjljcmmbdhkaaGreatDoorD36
namespace Go.Proofs.YtfbjljcmmbdhkaaGreatDoor
set_option linter.unusedVariables false
set_option linter.unusedSimpArgs false
set_option maxRecDepth 100000
set_option maxHeartbeats 200000000
def Nums (T : List Tk) : Prop := ∀ t ∈ T, t.k = 3 → t.n < 18446744073709551616
theorem xQs : ∀ (d : Nat) (e : Xp), mayB d e = true → (∀ t ∈ zQw d e, t.k = 3 → t.n < 18446744073709551616) → e.nb
 | 0, e, h, _ => by simp [mayB] at h
 | d + 1, .mk k n s o l, h, ht => by
   rw [mayB, Bool.and_eq_true, List.all_eq_true] at h
   obtain ⟨hf, hl⟩ := h
   rw [zQw] at ht
   have get : ∀ j (hj : j < l.length), l.getD j x0 = l[j] := fun j hj => by rw [List.getD_eq_getElem?_getD, List.getElem?_eq_getElem hj]; rfl
   rw [Xp.nb]
   rcases xQu hf with rfl | rfl | rfl | rfl | rfl
   ·obtain ⟨-, -, hm⟩ := fit1 hf
    obtain rfl : l = [] := List.length_eq_zero_iff.1 hm
    rw [if_pos rfl] at ht
    exact ⟨ht _ (List.mem_singleton.2 rfl) rfl, by rw [nbL]; trivial⟩
   ·obtain ⟨rfl, -, -, hm⟩ := fit2 hf
    obtain rfl : l = [] := List.length_eq_zero_iff.1 hm
    exact ⟨by omega, by rw [nbL]; trivial⟩
   ·obtain ⟨rfl, -, -, hm⟩ := fit3 hf
    rw [if_neg (by decide), if_neg (by decide), if_neg (by decide), if_neg (by decide)] at ht
    refine ⟨by omega, nbL_iff.2 (fun x hx => ?_)⟩
    match l, hm, hl, get with
    | [a, b], _, hl, get =>
     have g0 : [a, b].getD 0 x0 = a := rfl
     have g1 : [a, b].getD 1 x0 = b := rfl
     rw [g0, g1] at ht
     simp only [List.mem_cons, List.not_mem_nil, or_false] at hx
     rcases hx with rfl | rfl
     ·exact xQs d _ (hl _ (by simp)) (fun t h => ht t (by simp [h]))
     ·exact xQs d _ (hl _ (by simp)) (fun t h => ht t (by simp [h]))
   ·obtain ⟨rfl, -, -, hm⟩ := fit4 hf
    obtain rfl : l = [] := List.length_eq_zero_iff.1 hm
    exact ⟨by omega, by rw [nbL]; trivial⟩
   ·obtain ⟨rfl, -, -, hm⟩ := fit5 hf
    rw [if_neg (by decide), if_neg (by decide), if_neg (by decide), if_pos rfl] at ht
    refine ⟨by omega, nbL_iff.2 (fun x hx => ?_)⟩
    match l, hm, hl, get with
    | [a], _, hl, get =>
     have g0 : [a].getD 0 x0 = a := rfl
     rw [g0] at ht
     rw [List.mem_singleton.1 hx]
     exact xQs d _ (hl _ (by simp)) (fun t h => ht t (by simp [h]))
theorem jKr {T : List Tk} (hN : Nums T) {d p q : Nat} {x : Xp} (h : rdE d T p = .ok x q) : x.nb := by
 obtain ⟨h1, -, -, h2⟩ := yJp _ _ _ _ _ h
 exact xQs d x h1 (fun t ht hk => hN t (List.mem_of_mem_drop (List.mem_of_mem_take (by rw [h2]; exact ht))) hk)
theorem yKd {T : List Tk} (hN : Nums T) {p n : Nat} {x : Xp} {q m : Nat} (h : expR T p n = .ok x q m) : m = n ∧ x.nb := ⟨(xZw h).1, jKr hN (xZw h).2⟩
theorem yKj {T : List Tk} (hN : Nums T) {a b : List UInt8} {p n : Nat} {x : Xp} {q m : Nat} (h : betR T a b p n = .ok x q m) : x.nb := by
 obtain ⟨e, p', q', h⟩ := jZo h
 exact jKr hN h
theorem yXe {x : Xp} (h : x.nb) : nbL [x] := by rw [nbL, nbL]; exact ⟨h, trivial⟩
theorem jZt {x y : Xp} (h : x.nb) (h2 : y.nb) : nbL [x, y] := by rw [nbL]; exact ⟨h, yXe h2⟩
theorem jQr : nbL [] := by rw [nbL]; trivial
theorem zZa : nbS [] := by rw [nbS]; trivial
theorem yZk {k : Nat} {nm fr : List UInt8} {sec mu : Bool} {ex : List Xp} {ar : List (List UInt8)} {bd el : List St} (h1 : nbL ex) (h2 : nbS bd) (h3 : nbS el) : (St.mk k nm fr sec mu ex ar bd el).nb := by rw [St.nb]; exact ⟨h1, h2, h3⟩
theorem stR_nb {T : List Tk} (hN : Nums T) {blk : Nat → Nat → Rz (List St)} (hB : ∀ p n l q m, blk p n = .ok l q m → nbS l) {p n : Nat} {s : St} {q m : Nat} (h : stR T blk p n = .ok s q m) : s.nb := by
 unfold stR at h
 by_cases c1 : txt T p = wLet
 ·rw [if_pos c1] at h
  unfold letR at h
  obtain ⟨x, q1, m1, h1, h⟩ := zQk h
  obtain ⟨e, q2, m2, h2, h⟩ := zQk h
  cases h
  exact yZk (yXe (yKj hN h2)) zZa zZa
 rw [if_neg c1] at h
 by_cases c2 : txt T p = wBuf
 ·rw [if_pos c2] at h
  unfold bufR at h
  obtain ⟨x, q1, m1, h1, h⟩ := zQk h
  obtain ⟨e, q2, m2, h2, h⟩ := zQk h
  obtain ⟨_, q3, m3, h3, h⟩ := zQk h
  cases h
  exact yZk (yXe (yKj hN h2)) zZa zZa
 rw [if_neg c2] at h
 by_cases c3 : txt T p = wIf
 ·rw [if_pos c3] at h
  unfold ifR at h
  obtain ⟨e, q2, m2, h2, h⟩ := zQk h
  obtain ⟨b, q3, m3, h3, h⟩ := zQk h
  split at h
  ·obtain ⟨l, q4, m4, h4, h⟩ := zQk h
   cases h
   exact yZk (yXe (yKd hN h2).2) (hB _ _ _ _ _ h3) (hB _ _ _ _ _ h4)
  ·cases h
   exact yZk (yXe (yKd hN h2).2) (hB _ _ _ _ _ h3) zZa
 rw [if_neg c3] at h
 by_cases c4 : txt T p = zZz
 ·rw [if_pos c4] at h
  unfold whiR at h
  obtain ⟨e, q2, m2, h2, h⟩ := zQk h
  obtain ⟨b, q3, m3, h3, h⟩ := zQk h
  cases h
  exact yZk (yXe (yKd hN h2).2) (hB _ _ _ _ _ h3) zZa
 rw [if_neg c4] at h
 by_cases c5 : txt T p = wFor
 ·rw [if_pos c5] at h
  unfold forR at h
  obtain ⟨x, q1, m1, h1, h⟩ := zQk h
  obtain ⟨_, q5, m5, h5, h⟩ := zQk h
  obtain ⟨e, q2, m2, h2, h⟩ := zQk h
  obtain ⟨b, q3, m3, h3, h⟩ := zQk h
  cases h
  exact yZk (yXe (yKd hN h2).2) (hB _ _ _ _ _ h3) zZa
 rw [if_neg c5] at h
 have hlen : ∀ mu p, lenR T blk mu p n = .ok s q m → s.nb := fun mu p h => by
  unfold lenR at h
  obtain ⟨x, q1, m1, h1, h⟩ := zQk h
  obtain ⟨_, q5, m5, h5, h⟩ := zQk h
  obtain ⟨y, q6, m6, h6, h⟩ := zQk h
  obtain ⟨a, q7, m7, h7, h⟩ := zQk h
  obtain ⟨e, q2, m2, h2, h⟩ := zQk h
  obtain ⟨_, q8, m8, h8, h⟩ := zQk h
  obtain ⟨b, q3, m3, h3, h⟩ := zQk h
  cases h
  exact yZk (jZt (yKj hN h7) (yKd hN h2).2) (hB _ _ _ _ _ h3) zZa
 by_cases c6 : txt T p = zXf
 ·rw [if_pos c6] at h
  exact hlen _ _ h
 rw [if_neg c6] at h
 by_cases c7 : txt T p = zQt
 ·rw [if_pos c7] at h
  exact hlen _ _ h
 rw [if_neg c7] at h
 by_cases c8 : txt T p = zKw
 ·rw [if_pos c8] at h
  unfold movR at h
  obtain ⟨x, q1, m1, h1, h⟩ := zQk h
  obtain ⟨_, q5, m5, h5, h⟩ := zQk h
  obtain ⟨y, q6, m6, h6, h⟩ := zQk h
  obtain ⟨_, q7, m7, h7, h⟩ := zQk h
  cases h
  exact yZk jQr zZa zZa
 rw [if_neg c8] at h
 by_cases c9 : txt T p = yQp
 ·rw [if_pos c9] at h
  unfold opnR at h
  obtain ⟨x, q1, m1, h1, h⟩ := zQk h
  obtain ⟨e, q2, m2, h2, h⟩ := zQk h
  cases h
  exact yZk (yXe (yKj hN h2)) zZa zZa
 rw [if_neg c9] at h
 by_cases c10 : txt T p = zKs
 ·rw [if_pos c10] at h
  have harg : ∀ x y p n, argR T x y p n = .ok s q m → s.nb := fun x y p n h => by
   unfold argR at h
   obtain ⟨_, q1, m1, h1, h⟩ := zQk h
   obtain ⟨ex, q2, m2, h2, h⟩ := zQk h
   obtain ⟨ar, q3, m3, h3, h⟩ := zQk h
   obtain ⟨_, q4, m4, h4, h⟩ := zQk h
   cases h
   obtain ⟨-, x1, x2⟩ := yZe (P := fun x => Xp.nb x) (fun p n x q m h => yKd hN h) h2
   exact yZk (nbL_iff.2 x2) zZa zZa
  unfold calR at h
  obtain ⟨x, q1, m1, h1, h⟩ := zQk h
  split at h
  ·obtain ⟨y, q2, m2, h2, h⟩ := zQk h
   exact harg _ _ _ _ h
  ·exact harg _ _ _ _ h
 rw [if_neg c10] at h
 by_cases c11 : txt T p = yQh
 ·rw [if_pos c11] at h
  unfold seaR at h
  obtain ⟨_, q1, m1, h1, h⟩ := zQk h
  cases h
  exact yZk jQr zZa zZa
 rw [if_neg c11] at h
 unfold setR at h
 obtain ⟨x, q1, m1, h1, h⟩ := zQk h
 split at h
 ·obtain ⟨i, q2, m2, h2, h⟩ := zQk h
  obtain ⟨e, q3, m3, h3, h⟩ := zQk h
  cases h
  exact yZk (jZt (yKj hN h2) (yKj hN h3)) zZa zZa
 ·obtain ⟨e, q3, m3, h3, h⟩ := zQk h
  cases h
  exact yZk (yXe (yKj hN h3)) zZa zZa
theorem nbS_iff : ∀ {l : List St}, nbS l ↔ ∀ s ∈ l, s.nb
 | [] => by rw [nbS]; simp
 | x :: r => by rw [nbS, nbS_iff (l := r)]; simp
theorem jZb {T : List Tk} {one : Nat → Nat → Rz St} (ho : ∀ p n s q m, one p n = .ok s q m → s.nb) : ∀ (f : Nat) (l : List St) (p n : Nat) (r : List St) (q m : Nat), nbS l → blkL T one f l p n = .ok r q m → nbS r := by
 intro f
 induction f with
 | zero => intro l p n r q m _ h; cases h
 | succ f ih =>
  intro l p n r q m hl h
  unfold blkL at h
  split at h
  ·cases h; exact hl
  ·obtain ⟨x, q1, m1, h1, h⟩ := zQk h
   refine ih (l ++ [x]) q1 m1 r q m (nbS_iff.2 (fun y hy => ?_)) h
   rcases List.mem_append.1 hy with hy | hy
   ·exact nbS_iff.1 hl y hy
   ·rw [List.mem_singleton.1 hy]; exact ho _ _ _ _ _ h1
theorem xZz {T : List Tk} (hN : Nums T) : ∀ d p n l q m, blkR T d p n = .ok l q m → nbS l
 | 0, p, n, l, q, m, h => by
   rw [blkR] at h
   obtain ⟨_, q1, m1, h1, h⟩ := zQk h
   exact jZb (fun p n s q m h => by cases h) _ _ _ _ _ _ _ zZa h
 | d + 1, p, n, l, q, m, h => by
   rw [blkR] at h
   obtain ⟨_, q1, m1, h1, h⟩ := zQk h
   refine jZb (fun p n s q m h => ?_) _ _ _ _ _ _ _ zZa h
   unfold staR at h
   split at h
   ·cases h
   ·exact stR_nb hN (xZz hN d) h
theorem fun_nb {T : List Tk} (hN : Nums T) {p n : Nat} {f : Fd} {q m : Nat} (h : funR T p n = .ok f q m) : f.nb := by
 unfold funR at h
 obtain ⟨_, q1, m1, h1, h⟩ := zQk h
 obtain ⟨_, q2, m2, h2, h⟩ := zQk h
 obtain ⟨_, q3, m3, h3, h⟩ := zQk h
 obtain ⟨_, q4, m4, h4, h⟩ := zQk h
 obtain ⟨b, q5, m5, h5, h⟩ := zQk h
 unfold retR at h
 split at h
 ·obtain ⟨e, q6, m6, h6, h⟩ := zQk h
  obtain ⟨_, q7, m7, h7, h⟩ := zQk h
  cases h
  exact ⟨xZz hN _ _ _ _ _ _ h5, yXe (yKd hN h6).2⟩
 ·obtain ⟨_, q7, m7, h7, h⟩ := zQk h
  cases h
  exact ⟨xZz hN _ _ _ _ _ _ h5, jQr⟩
theorem proL_nb {T : List Tk} (hN : Nums T) : ∀ (f : Nat) (l : List Fd) (p n : Nat) (r : List Fd) (q m : Nat), (∀ g ∈ l, g.nb) → proL T f l p n = .ok r q m → ∀ g ∈ r, g.nb := by
 intro f
 induction f with
 | zero => intro l p n r q m _ h; cases h
 | succ f ih =>
  intro l p n r q m hl h
  unfold proL at h
  split at h
  ·cases h; exact hl
  ·split at h
   ·cases h
   ·obtain ⟨x, q1, m1, h1, h⟩ := zQk h
    refine ih (l ++ [x]) q1 m1 r q m (fun y hy => ?_) h
    rcases List.mem_append.1 hy with hy | hy
    ·exact hl y hy
    ·rw [List.mem_singleton.1 hy]; exact fun_nb hN h1
theorem lexN_nums : ∀ (f : Nat) (l : List UInt8) (a : Nat) (T : List (Tk × Nat)), lexN f l a = .ok T → Nums (T.map (·.1)) := by
 intro f
 induction f with
 | zero => intro l a T h; cases h
 | succ f ih =>
  intro l a T h
  obtain ⟨f', hf, ⟨-, rfl⟩ | ⟨b, t, m, r, T', -, -, ht, -, hT', rfl⟩⟩ := yJx h
  ·intro t ht hk
   rw [show t = ⟨5, [], 0⟩ by simpa using ht] at hk
   cases hk
  ·obtain rfl : f = f' := by omega
   intro x hx hk
   rcases List.mem_cons.1 hx with rfl | hx
   ·rcases ht with ⟨h1, -⟩ | ⟨-, -, -, -, h5, -⟩ | ⟨h1, -⟩
    ·omega
    ·exact h5
    ·omega
   ·exact ih _ _ _ hT' x hx hk
theorem jJg {s : List UInt8} {l : List Fd} (h : parB s = .ok l) : ∀ f ∈ l, f.nb := by
 unfold parB at h
 split at h
 ·cases h
 ·rename_i T hT
  split at h
  ·cases h
  ·rename_i x p n hp
   cases h
   refine proL_nb ?_ 17 [] 0 0 _ _ _ (by simp) hp
   unfold lexT at hT
   split at hT
   ·cases hT
   ·exact lexN_nums _ _ _ _ hT
theorem read_shown {s : List UInt8} {l : List Fd} (h : parB s = .ok l) (hs : (shoT l).length ≤ 16384) : parB (shoT l) = .ok l := yKy l (xJz h) (jJg h) hs
end Go.Proofs.YtfbjljcmmbdhkaaGreatDoor
