/- Plain: the tokens of the lines that show a program are tokens that there are; ShowBack's and ShowAgain's core. -/
import Derived.Test.YtfbjljcmmbdhkaaGreatDoorD07
namespace Go.Proofs.YtfbjljcmmbdhkaaGreatDoor
set_option linter.unusedVariables false
set_option linter.unusedSimpArgs false
set_option maxRecDepth 100000
set_option maxHeartbeats 200000000
mutual
def St.nb : St → Prop
 | .mk _ _ _ _ _ ex _ bd el => nbL ex ∧ nbS bd ∧ nbS el
def nbS : List St → Prop
 | [] => True
 | s :: r => s.nb ∧ nbS r
end
mutual
def St.fa : St → Prop
 | .mk k nm fr sec mu ex ar bd el => zZm (.mk k nm fr sec mu ex ar bd el) = true ∧ faS bd ∧ faS el
def faS : List St → Prop
 | [] => True
 | s :: r => s.fa ∧ faS r
end
def Fd.nb (f : Fd) : Prop := nbS f.bd ∧ nbL f.rt
theorem xJt {one : St → Nat → Option Nat} {P : St → Prop} (ho : ∀ s a b, one s a = some b → P s) : ∀ l a b, rowC one l a = some b → ∀ s ∈ l, P s
 | [], a, b, h, s, hs => by simp at hs
 | x :: r, a, b, h, s, hs => by
   rw [rowC] at h
   obtain ⟨y, h1, h2⟩ := zXg h
   rcases List.mem_cons.1 hs with rfl | hs
   ·exact ho _ _ _ h1
   ·exact xJt ho r y b h2 s hs
theorem faS_iff : ∀ {l : List St}, faS l ↔ ∀ s ∈ l, s.fa
 | [] => by rw [faS]; simp
 | x :: r => by rw [faS, faS_iff (l := r)]; simp
theorem xQz : ∀ d l a b, blkC d l a = some b → faS l
 | 0, [], a, b, h => by rw [faS]; trivial
 | 0, _ :: _, a, b, h => by rw [blkC] at h; cases h
 | d + 1, l, a, b, h => by
   rw [zJi] at h
   refine faS_iff.2 (xJt (fun s a b h => ?_) l a b h)
   obtain ⟨-, hf, h1⟩ := yQb h
   obtain ⟨x, h2, h3⟩ := zXg h1
   obtain ⟨k, nm, fr, sec, mu, ex, ar, bd, el⟩ := s
   rw [St.fa]
   exact ⟨hf, xQz d _ _ _ h2, xQz d _ _ _ h3⟩
theorem xQm {α : Type} {f : α → List Tk} {l : List α} (h : ∀ x ∈ l, Toks (f x)) : Toks (comT f l) := by
 cases l with
 | nil => exact zQx
 | cons x r =>
  refine zXh (h x (List.mem_cons_self ..)) (fun t ht => ?_)
  obtain ⟨y, hy, ht⟩ := List.mem_flatMap.1 ht
  exact zQg (yQs (m := [44]) (by decide +kernel)) (h y (List.mem_cons_of_mem _ hy)) t ht
theorem yJf (b : Bool) : Toks (secT b) := by
 cases b
 ·exact zQx
 ·exact zQg (yXq (by decide +kernel)) zQx
theorem xKt {e : Xp} (h : mayB 40 e = true) (hb : e.nb) : Toks (xpT e) := xXe 40 e h hb
theorem stH_toks {k : Nat} {nm fr : List UInt8} {sec mu : Bool} {ex : List Xp} {ar : List (List UInt8)} {bd el : List St} (hf : zZm (.mk k nm fr sec mu ex ar bd el) = true) (hb : nbL ex) : Toks (stH k nm fr sec mu ex ar) := by
 obtain ⟨⟨hk0, hk⟩, hM, har, hex⟩ := yQe hf
 have hE : ∀ e ∈ ex, Toks (xpT e) := fun e he => xKt (hex e he) (nbL_iff.1 hb e he)
 have S : ∀ m, signsL.contains m = true → TkOk (sg m) m := fun m h => yQs h
 have s61 := S [61] (by decide +kernel)
 have s59 := S [59] (by decide +kernel)
 have s91 := S [91] (by decide +kernel)
 have s93 := S [93] (by decide +kernel)
 have s123 := S [123] (by decide +kernel)
 have s60 := S [60] (by decide +kernel)
 have s46 := S [46, 46] (by decide +kernel)
 have s40 := S [40] (by decide +kernel)
 have s41 := S [41] (by decide +kernel)
 have hkk : k = 1 ∨ k = 2 ∨ k = 3 ∨ k = 4 ∨ k = 5 ∨ k = 6 ∨ k = 7 ∨ k = 8 ∨ k = 9 ∨ k = 10 ∨ k = 11 ∨ k = 12 := by omega
 rcases hkk with rfl | rfl | rfl | rfl | rfl | rfl | rfl | rfl | rfl | rfl | rfl | rfl
 ·obtain ⟨h1, -, -, -, h5, h6, -⟩ := zQn (show metB (2, 0, true, false, 1, 1, 0, false, false) nm fr sec mu _ _ _ _ = true from hM)
  obtain ⟨e, rfl⟩ := zZu h5 h6
  exact zQg (yXq (w := wLet) (by decide +kernel)) (zXh (yJf sec) (zQg (zJm (zJn h1)) (zQg s61 (zXh (hE e (by simp)) (zQg s59 zQx)))))
 ·obtain ⟨h1, -, -, -, h5, h6, -⟩ := zQn (show metB (2, 0, false, false, 1, 1, 0, false, false) nm fr sec mu _ _ _ _ = true from hM)
  obtain ⟨e, rfl⟩ := zZu h5 h6
  exact zQg (zJm (zJn h1)) (zQg s61 (zXh (hE e (by simp)) (zQg s59 zQx)))
 ·obtain ⟨h1, -, -, -, h5, h6, -⟩ := zQn (show metB (2, 0, true, false, 1, 1, 0, false, false) nm fr sec mu _ _ _ _ = true from hM)
  obtain ⟨e, rfl⟩ := zZu h5 h6
  exact zQg (yXq (w := wBuf) (by decide +kernel)) (zXh (yJf sec) (zQg (zJm (zJn h1)) (zQg s91 (zXh (hE e (by simp)) (zQg s93 (zQg s59 zQx))))))
 ·obtain ⟨h1, -, -, -, h5, h6, -⟩ := zQn (show metB (2, 0, false, false, 2, 2, 0, false, false) nm fr sec mu _ _ _ _ = true from hM)
  obtain ⟨e, f, rfl⟩ := yKr h5 h6
  exact zQg (zJm (zJn h1)) (zQg s91 (zXh (hE e (by simp)) (zQg s93 (zQg s61 (zXh (hE f (by simp)) (zQg s59 zQx))))))
 ·obtain ⟨h1, -, -, -, h5, h6, -⟩ := zQn (show metB (0, 0, false, false, 1, 1, 0, true, true) nm fr sec mu _ _ _ _ = true from hM)
  obtain ⟨e, rfl⟩ := zZu h5 h6
  exact zQg (yXq (w := wIf) (by decide +kernel)) (zXh (hE e (by simp)) (zQg s123 zQx))
 ·obtain ⟨h1, -, -, -, h5, h6, -⟩ := zQn (show metB (0, 0, false, false, 1, 1, 0, true, false) nm fr sec mu _ _ _ _ = true from hM)
  obtain ⟨e, rfl⟩ := zZu h5 h6
  exact zQg (yXq (w := zZz) (by decide +kernel)) (zXh (hE e (by simp)) (zQg s123 zQx))
 ·obtain ⟨h1, -, -, -, h5, h6, -⟩ := zQn (show metB (2, 0, false, false, 1, 1, 0, true, false) nm fr sec mu _ _ _ _ = true from hM)
  obtain ⟨e, rfl⟩ := zZu h5 h6
  exact zQg (yXq (w := wFor) (by decide +kernel)) (zQg (zJm (zJn h1)) (zQg s60 (zXh (hE e (by simp)) (zQg s123 zQx))))
 ·obtain ⟨h1, h2, -, -, h5, h6, -⟩ := zQn (show metB (2, 2, false, true, 2, 2, 0, true, false) nm fr sec mu _ _ _ _ = true from hM)
  obtain ⟨e, f, rfl⟩ := yKr h5 h6
  exact zQg (yXq (w := if mu = true then zQt else zXf) (by cases mu <;> decide +kernel)) (zQg (zJm (zJn h1)) (zQg s61 (zQg (zJm (zJn h2)) (zQg s91 (zXh (hE e (by simp)) (zQg s46 (zXh (hE f (by simp)) (zQg s93 (zQg s123 zQx)))))))))
 ·obtain ⟨h1, h2, -⟩ := zQn (show metB (2, 2, false, false, 0, 0, 0, false, false) nm fr sec mu _ _ _ _ = true from hM)
  exact zQg (yXq (w := zKw) (by decide +kernel)) (zQg (zJm (zJn h1)) (zQg s61 (zQg (zJm (zJn h2)) (zQg s59 zQx))))
 ·obtain ⟨h1, -, -, -, h5, h6, -⟩ := zQn (show metB (2, 0, false, false, 1, 1, 0, false, false) nm fr sec mu _ _ _ _ = true from hM)
  obtain ⟨e, rfl⟩ := zZu h5 h6
  exact zQg (yXq (w := yQp) (by decide +kernel)) (zQg (zJm (zJn h1)) (zQg s61 (zXh (hE e (by simp)) (zQg s59 zQx))))
 ·obtain ⟨h1, h2, -⟩ := zQn (show metB (1, 2, false, false, 0, 8, 8, false, false) nm fr sec mu _ _ _ _ = true from hM)
  refine zQg (yXq (w := zKs) (by decide +kernel)) (zXh ?_ (zQg (zJm (zJn h2)) (zQg s40 (zXh (xQm hE) (zQg s59 (zXh (xQm (fun a ha => zQg (zJm (har a ha)) zQx)) (zQg s41 (zQg s59 zQx))))))))
  by_cases c : nm = []
  ·rw [if_pos c]; exact zQx
  ·rw [if_neg c]; exact zQg (zJm ((qQd h1).resolve_left c)) (zQg s61 zQx)
 ·exact zQg (yXq (w := yQh) (by decide +kernel)) (zQg s59 zQx)
mutual
theorem stL_toks : ∀ (d : Nat) (s : St), s.fa → s.nb → ∀ x ∈ stL d s, Toks x.2
 | d, .mk k nm fr sec mu ex ar bd el, hf, hb, x, hx => by
   rw [St.fa] at hf
   rw [St.nb] at hb
   rw [stL] at hx
   rcases List.mem_cons.1 hx with rfl | hx
   ·exact stH_toks hf.1 hb.1
   by_cases c : 5 ≤ k ∧ k ≤ 8
   ·rw [if_pos c] at hx
    rcases List.mem_append.1 hx with hx | hx
    ·exact yXr (d + 1) bd hf.2.1 hb.2.1 x hx
    rcases List.mem_append.1 hx with hx | hx
    ·by_cases c2 : el.isEmpty = true
     ·rw [if_pos c2] at hx; simp at hx
     ·rw [if_neg c2] at hx
      rcases List.mem_cons.1 hx with rfl | hx
      ·exact zQg (yQs (by decide +kernel)) (zQg (yXq (by decide +kernel)) (zQg (yQs (by decide +kernel)) zQx))
      ·exact yXr (d + 1) el hf.2.2 hb.2.2 x hx
    ·rw [List.mem_singleton.1 hx]
     exact zQg (yQs (by decide +kernel)) zQx
   ·rw [if_neg c] at hx; simp at hx
theorem yXr : ∀ (d : Nat) (l : List St), faS l → nbS l → ∀ x ∈ stsL d l, Toks x.2
 | d, [], _, _, x, hx => by rw [stsL] at hx; simp at hx
 | d, s :: r, hf, hb, x, hx => by
   rw [faS] at hf
   rw [nbS] at hb
   rw [stsL] at hx
   rcases List.mem_append.1 hx with hx | hx
   ·exact stL_toks d s hf.1 hb.1 x hx
   ·exact yXr d r hf.2 hb.2 x hx
end
theorem pmT_toks {x : Pm} (hx : pmB x = true) : Toks (pmT x) := by
 obtain ⟨nm, buf, sec, mu⟩ := x
 simp only [pmB, Bool.and_eq_true] at hx
 refine zXh ?_ (zXh (yJf sec) (zQg (zJm hx.1) zQx))
 cases mu <;> cases buf <;> cases sec <;> first | exact zQx | exact zQg (yXq (by decide +kernel)) zQx
theorem fdL_toks {f : Fd} {a b : Nat} (h : fdC f a = some b) (hb : f.nb) : ∀ x ∈ fdL f, Toks x.2 := by
 obtain ⟨nm, ps, bd, sec, rt⟩ := f
 change (if (nmdB nm && psB ps && rtB sec rt) = true then blkC 40 bd a else none) = some b at h
 have c : (nmdB nm && psB ps && rtB sec rt) = true := Classical.byContradiction (fun c => by rw [if_neg c] at h; cases h)
 rw [if_pos c] at h
 simp only [psB, Bool.and_eq_true, decide_eq_true_eq, List.all_eq_true] at c
 obtain ⟨⟨c1, c2, c3⟩, c4⟩ := c
 intro x hx
 rcases List.mem_cons.1 hx with rfl | hx
 ·exact zQg (yXq (w := wFn) (by decide +kernel)) (zQg (zJm c1) (zQg (yQs (m := [40]) (by decide +kernel)) (zXh (xQm (fun p hp => pmT_toks (c3 p hp))) (zQg (yQs (m := [41]) (by decide +kernel)) (zQg (yQs (m := [123]) (by decide +kernel)) zQx)))))
 rcases List.mem_append.1 hx with hx | hx
 ·exact yXr 1 bd (xQz _ _ _ _ h) hb.1 x hx
 ·rw [List.mem_singleton.1 hx]
  refine zQg (yQs (m := [125]) (by decide +kernel)) (zXh ?_ (zQg (yQs (m := [59]) (by decide +kernel)) zQx))
  unfold rtB at c4
  cases rt with
  | nil => exact zQx
  | cons e r =>
   rw [if_neg (by simp)] at c4
   simp only [Bool.and_eq_true, decide_eq_true_eq, List.all_eq_true, List.length_cons] at c4
   exact zQg (yQs (m := [61]) (by decide +kernel)) (zXh (yJf sec) (xKt (c4.2 e (by simp)) (nbL_iff.1 hb.2 e (by simp))))
theorem xQr : ∀ (l : List Fd) (a b : Nat), pgC l a = some b → (∀ f ∈ l, f.nb) → ∀ x ∈ pgL l, Toks x.2
 | [], _, _, _, _, x, hx => by simp [pgL] at hx
 | f :: r, a, b, h, hb, x, hx => by
   rw [pgC] at h
   obtain ⟨y, h1, h2⟩ := zXg h
   rcases List.mem_append.1 (show x ∈ fdL f ++ pgL r from hx) with hx | hx
   ·exact fdL_toks h1 (hb f (List.mem_cons_self ..)) x hx
   ·exact xQr r y b h2 (fun g hg => hb g (List.mem_cons_of_mem _ hg)) x hx
theorem yKy (l : List Fd) (h : pgB l = true) (hb : ∀ f ∈ l, f.nb) (hs : (shoT l).length ≤ 16384) : parB (shoT l) = .ok l := by
 have h0 := h
 simp only [pgB, Bool.and_eq_true, decide_eq_true_eq] at h0
 obtain ⟨b, hc⟩ := Option.isSome_iff_exists.1 h0.2
 exact sho_back l h (xQr l 400 b hc hb) hs
end Go.Proofs.YtfbjljcmmbdhkaaGreatDoor
