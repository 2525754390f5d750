/- Plain: what a scan of the shown text finds: blanks, braces. -/
import Derived.Test.YtkibkaoffgnmkaaGreatDoorL45
namespace Go.Proofs.YtkibkaoffgnmkaaGreatDoor
set_option linter.unusedVariables false
set_option linter.unusedSimpArgs false
set_option maxRecDepth 100000
set_option maxHeartbeats 200000000
def scan : Nat → Bool → Bool → List UInt8 → Option (Nat × Bool × Bool)
 | o, w, b, [] => some (o, w, b)
 | o, w, b, c :: r => if c = 125 ∧ o = 0 then none else if (w && b && decide (c = 32)) = true then none else scan (if c = 123 then o + 1 else if c = 125 then o - 1 else o) (decide (c ≠ 10) && (w || !decide (c = 32))) (decide (c = 32)) r
def brk : Nat → List (List UInt8) → Option Nat
 | o, [] => some o
 | o, m :: r => if m = [123] then brk (o + 1) r else if m = [125] then (if o = 0 then none else brk (o - 1) r) else brk o r
theorem brk_app : ∀ (a : List (List UInt8)) (b : List (List UInt8)) (o : Nat), brk o (a ++ b) = (brk o a).bind fun o' => brk o' b
 | [], b, o => rfl
 | m :: a, b, o => by
  rw [List.cons_append, brk, brk]
  by_cases c1 : m = [123]
  ·rw [if_pos c1, if_pos c1]; exact brk_app a b _
  rw [if_neg c1, if_neg c1]
  by_cases c2 : m = [125]
  ·rw [if_pos c2, if_pos c2]
   by_cases c3 : o = 0
   ·rw [if_pos c3, if_pos c3]; rfl
   ·rw [if_neg c3, if_neg c3]; exact brk_app a b _
  ·rw [if_neg c2, if_neg c2]; exact brk_app a b _
def Flat (c : UInt8) : Prop := c ≠ 32 ∧ c ≠ 10 ∧ c ≠ 123 ∧ c ≠ 125
theorem scan_flat : ∀ (m : List UInt8) (o : Nat) (w b : Bool) (r : List UInt8), (∀ c ∈ m, Flat c) → m ≠ [] → scan o w b (m ++ r) = scan o true false r
 | [], _, _, _, _, _, h => absurd rfl h
 | c :: m, o, w, b, r, h, _ => by
  obtain ⟨h1, h2, h3, h4⟩ := h c (List.mem_cons_self ..)
  rw [List.cons_append, scan, if_neg (fun e => h4 e.1), decide_eq_false h1, decide_eq_true h2, if_neg (by simp), if_neg h3, if_neg h4]
  cases m with
  | nil => simp
  | cons x y =>
   rw [scan_flat (x :: y) o _ _ r (fun c hc => h c (List.mem_cons_of_mem _ hc)) (by simp)]
theorem ld_flat {c : UInt8} (h : isLD c = true) : Flat c := by
 unfold isLD isL isD at h
 refine ⟨?_, ?_, ?_, ?_⟩ <;> (rintro rfl; revert h; decide)
theorem sign_flat : ∀ m ∈ signsL, m = [123] ∨ m = [125] ∨ ∀ c ∈ m, Flat c := by
 unfold Flat; decide +kernel
theorem tk_cases {t : Tk} {m : List UInt8} (h : TkOk t m) : m = [123] ∨ m = [125] ∨ ∀ c ∈ m, Flat c := by
 rcases h with ⟨-, -, -, -, h, -⟩ | ⟨-, -, -, -, -, h, -⟩ | ⟨-, -, -, h⟩
 ·exact .inr (.inr fun c hc => ld_flat (h c hc))
 ·exact .inr (.inr fun c hc => ld_flat (isD_LD (h c hc)))
 ·exact sign_flat m h
theorem scan_piece {t : Tk} {m : List UInt8} (h : TkOk t m) (o : Nat) (w b : Bool) (r : List UInt8) : scan o w b (m ++ r) = (brk o [m]).bind fun o' => scan o' true false r := by
 rw [brk]
 rcases tk_cases h with rfl | rfl | hf
 ·rw [if_pos rfl, List.singleton_append, scan, if_neg (fun e => absurd e.1 (by decide)), if_neg (by simp), if_pos rfl]
  simp [brk]
 ·rw [if_neg (by decide), if_pos rfl, List.singleton_append, scan]
  by_cases c : o = 0
  ·rw [if_pos ⟨rfl, c⟩, if_pos c]; rfl
  ·rw [if_neg (fun e => c e.2), if_neg c, if_neg (by simp), if_neg (by decide), if_pos rfl]
   simp [brk]
 ·rw [scan_flat m o w b r hf h.ne]
  have n1 : m ≠ [123] := fun e => (hf 123 (by rw [e]; simp)).2.2.1 rfl
  have n2 : m ≠ [125] := fun e => (hf 125 (by rw [e]; simp)).2.2.2 rfl
  rw [if_neg n1, if_neg n2]
  rfl
theorem bind_bind {α β γ : Type} (x : Option α) (f : α → Option β) (g : β → Option γ) : (x.bind f).bind g = x.bind fun a => (f a).bind g := by cases x <;> rfl
theorem scan_row : ∀ (r : List Tk) (t : Tk), Toks (t :: r) → ∀ (o : Nat) (w b : Bool) (rest : List UInt8), scan o w b (joinT (t :: r) ++ rest) = (brk o (pcs (t :: r))).bind fun o' => scan o' true false rest
 | [], t, ht, o, w, b, rest => by
  obtain ⟨m, h⟩ := ht t (List.mem_cons_self ..)
  have e : pcs [t] = [m] := by rw [pcs_tok h]; rfl
  have e2 : joinT [t] = m := by unfold joinT; rw [e]; simp [Lib.join]
  rw [e2, e, scan_piece h]
 | t' :: r, t, ht, o, w, b, rest => by
  obtain ⟨m, h⟩ := ht t (List.mem_cons_self ..)
  have ht' : Toks (t' :: r) := fun x hx => ht x (List.mem_cons_of_mem _ hx)
  obtain ⟨m', h'⟩ := ht' t' (List.mem_cons_self ..)
  have e : joinT (t :: t' :: r) = m ++ 32 :: joinT (t' :: r) := by unfold joinT; rw [pcs_tok h, pcs_tok h', join_two]
  have e2 : pcs (t :: t' :: r) = [m] ++ pcs (t' :: r) := by rw [pcs_tok h]; rfl
  rw [e, e2, List.append_assoc, scan_piece h, brk_app, bind_bind]
  congr 1
  funext o'
  rw [List.cons_append, scan, if_neg (fun e => absurd e.1 (by decide)), if_neg (by simp), if_neg (by decide), if_neg (by decide), scan_row r t' ht']
theorem scan_blanks : ∀ (k o : Nat) (b : Bool) (rest : List UInt8), ∃ b', scan o false b (List.replicate k 32 ++ rest) = scan o false b' rest
 | 0, o, b, rest => ⟨b, rfl⟩
 | k + 1, o, b, rest => by
  obtain ⟨b', h⟩ := scan_blanks k o true rest
  refine ⟨b', ?_⟩
  rw [List.replicate_succ, List.cons_append, scan, if_neg (fun e => absurd e.1 (by decide)), if_neg (by simp), if_neg (by decide), if_neg (by decide)]
  exact h
theorem scan_line (d : Nat) (r : List Tk) (h : Toks r) (hr : r ≠ []) (o : Nat) (rest : List UInt8) : scan o false false (lnT d r ++ rest) = (brk o (pcs r)).bind fun o' => scan o' false false rest := by
 obtain ⟨t, r, rfl⟩ := List.exists_cons_of_ne_nil hr
 unfold lnT
 rw [List.append_assoc, List.append_assoc]
 obtain ⟨b', e⟩ := scan_blanks (2 * d) o false (joinT (t :: r) ++ ([10] ++ rest))
 rw [e, scan_row r t h]
 congr 1
theorem scan_lns : ∀ (l : List (Nat × List Tk)), (∀ x ∈ l, Toks x.2 ∧ x.2 ≠ []) → ∀ o, scan o false false (lnsT l) = (brk o (pcs (l.flatMap (·.2)))).bind fun o' => some (o', false, false)
 | [], _, o => rfl
 | x :: l, h, o => by
  have e : lnsT (x :: l) = lnT x.1 x.2 ++ lnsT l := by simp [lnsT]
  have e2 : pcs ((x :: l).flatMap (·.2)) = pcs x.2 ++ pcs (l.flatMap (·.2)) := by simp [pcs]
  obtain ⟨h1, h2⟩ := h x (List.mem_cons_self ..)
  rw [e, e2, scan_line _ _ h1 h2, brk_app, bind_bind]
  congr 1
  funext o'
  exact scan_lns l (fun y hy => h y (List.mem_cons_of_mem _ hy)) o'
def Nbr (r : List Tk) : Prop := ∀ t ∈ r, t.piece ≠ [123] ∧ t.piece ≠ [125]
theorem nbr_nil : Nbr [] := fun t h => by simp at h
theorem nbr_cons {t : Tk} {r : List Tk} (h : t.piece ≠ [123] ∧ t.piece ≠ [125]) (hr : Nbr r) : Nbr (t :: r) := fun x hx => by
 rcases List.mem_cons.1 hx with rfl | hx
 ·exact h
 ·exact hr x hx
theorem nbr_app {a b : List Tk} (ha : Nbr a) (hb : Nbr b) : Nbr (a ++ b) := fun x hx => (List.mem_append.1 hx).elim (ha x) (hb x)
theorem brk_no : ∀ (l : List (List UInt8)) (o : Nat), (∀ m ∈ l, m ≠ [123] ∧ m ≠ [125]) → brk o l = some o
 | [], o, _ => rfl
 | m :: r, o, h => by
  obtain ⟨h1, h2⟩ := h m (List.mem_cons_self ..)
  rw [brk, if_neg h1, if_neg h2]
  exact brk_no r o (fun x hx => h x (List.mem_cons_of_mem _ hx))
theorem brk_nbr {r : List Tk} (h : Nbr r) (o : Nat) : brk o (pcs r) = some o := brk_no _ o (fun m hm => by
 obtain ⟨t, ht, hm⟩ := List.mem_flatMap.1 hm
 split at hm
 ·rw [List.mem_singleton.1 hm]; exact h t ht
 ·simp at hm)
theorem nw123 : nmdB [123] = false := by decide +kernel
theorem nm_nbr {s : List UInt8} (h : nmdB s = true) : (nmT s).piece ≠ [123] ∧ (nmT s).piece ≠ [125] := ⟨nmd_no h nw123, nmd_no h nw125⟩
theorem num_nbr (n : Nat) : (⟨3, [], n⟩ : Tk).piece ≠ [123] ∧ (⟨3, [], n⟩ : Tk).piece ≠ [125] := by
 have e : (⟨3, [], n⟩ : Tk).piece = Lib.decDigits n := rfl
 rw [e]
 exact ⟨fun h => absurd ((dec_digits n).1 123 (by rw [h]; simp)) (by decide), fun h => absurd ((dec_digits n).1 125 (by rw [h]; simp)) (by decide)⟩
theorem sg_nbr {m : List UInt8} (h : m ≠ [123] ∧ m ≠ [125]) : (sg m).piece ≠ [123] ∧ (sg m).piece ≠ [125] := h
theorem wd_nbr {m : List UInt8} (h : m ≠ [123] ∧ m ≠ [125]) : (wdT m).piece ≠ [123] ∧ (wdT m).piece ≠ [125] := h
theorem op_nbr (o : Nat) : opS o ≠ [123] ∧ opS o ≠ [125] := by
 by_cases c : o < 15
 ·exact (show ∀ o, o < 15 → opS o ≠ [123] ∧ opS o ≠ [125] by decide +kernel) o c
 ·have e : opS o = [] := by unfold opS; rw [List.getD_eq_getElem?_getD, List.getElem?_eq_none (by show opsL.length ≤ o; have : opsL.length = 15 := rfl; omega)]; rfl
  rw [e]; decide
theorem tell_nbr : ∀ (d : Nat) (e : Xp), mayB d e = true → Nbr (tellF d e)
 | 0, e, h => by simp [mayB] at h
 | d + 1, .mk k n s o l, h => by
  rw [mayB, Bool.and_eq_true, List.all_eq_true] at h
  obtain ⟨hf, hl⟩ := h
  have hk : ∀ j, j < l.length → Nbr (tellF d (l.getD j x0)) := fun j hj => by
   have e : l.getD j x0 = l[j] := by rw [List.getD_eq_getElem?_getD, List.getElem?_eq_getElem hj]; rfl
   rw [e]
   exact tell_nbr d _ (hl _ (List.getElem_mem hj))
  rw [tellF]
  rcases fit_k hf with rfl | rfl | rfl | rfl | rfl
  ·rw [if_pos rfl]; exact nbr_cons (num_nbr n) nbr_nil
  ·rw [if_neg (by decide), if_pos rfl]; exact nbr_cons (nm_nbr (fit2 hf).2.1) nbr_nil
  ·rw [if_neg (by decide), if_neg (by decide), if_neg (by decide), if_neg (by decide)]
   obtain ⟨-, -, ho, hm⟩ := fit3 hf
   exact nbr_cons (sg_nbr (by decide)) (nbr_app (hk 0 (by omega)) (nbr_cons (sg_nbr (op_nbr o)) (nbr_app (hk 1 (by omega)) (nbr_cons (sg_nbr (by decide)) nbr_nil))))
  ·rw [if_neg (by decide), if_neg (by decide), if_pos rfl]; exact nbr_cons (sg_nbr (by decide)) (nbr_cons (nm_nbr (fit4 hf).2.1) nbr_nil)
  ·rw [if_neg (by decide), if_neg (by decide), if_neg (by decide), if_pos rfl]
   obtain ⟨-, h2, -, hm⟩ := fit5 hf
   exact nbr_cons (nm_nbr h2) (nbr_cons (sg_nbr (by decide)) (nbr_app (hk 0 (by omega)) (nbr_cons (sg_nbr (by decide)) nbr_nil)))
theorem nbr_com {α : Type} {f : α → List Tk} {l : List α} (h : ∀ x ∈ l, Nbr (f x)) : Nbr (comT f l) := by
 cases l with
 | nil => exact nbr_nil
 | cons x r =>
  refine nbr_app (h x (List.mem_cons_self ..)) (fun t ht => ?_)
  obtain ⟨y, hy, ht⟩ := List.mem_flatMap.1 ht
  exact nbr_cons (t := sg [44]) (sg_nbr (by decide)) (h y (List.mem_cons_of_mem _ hy)) t ht
theorem nbr_sec (b : Bool) : Nbr (secT b) := by
 cases b
 ·exact nbr_nil
 ·exact nbr_cons (wd_nbr (by decide)) nbr_nil
theorem stH_open {k : Nat} {nm fr : List UInt8} {sec mu : Bool} {ex : List Xp} {ar : List (List UInt8)} {bd el : List St} (hf : fitsB (.mk k nm fr sec mu ex ar bd el) = true) (c : 5 ≤ k ∧ k ≤ 8) : ∃ X, stH k nm fr sec mu ex ar = X ++ [sg [123]] ∧ Nbr X := by
 obtain ⟨-, hM, har, hex⟩ := fits_parts hf
 have hE : ∀ e ∈ ex, Nbr (xpT e) := fun e he => tell_nbr 40 e (hex e he)
 have s61 := sg_nbr (m := [61]) (by decide)
 have s91 := sg_nbr (m := [91]) (by decide)
 have s93 := sg_nbr (m := [93]) (by decide)
 have s60 := sg_nbr (m := [60]) (by decide)
 have s46 := sg_nbr (m := [46, 46]) (by decide)
 have hkk : k = 5 ∨ k = 6 ∨ k = 7 ∨ k = 8 := by omega
 rcases hkk with rfl | rfl | rfl | rfl
 ·obtain ⟨h1, -, -, -, h5, h6, -⟩ := met_parts (show metB (0, 0, false, false, 1, 1, 0, true, true) nm fr sec mu _ _ _ _ = true from hM)
  obtain ⟨e, rfl⟩ := one_of h5 h6
  exact ⟨wdT wIf :: xpT e, rfl, nbr_cons (wd_nbr (by decide)) (hE e (by simp))⟩
 ·obtain ⟨h1, -, -, -, h5, h6, -⟩ := met_parts (show metB (0, 0, false, false, 1, 1, 0, true, false) nm fr sec mu _ _ _ _ = true from hM)
  obtain ⟨e, rfl⟩ := one_of h5 h6
  exact ⟨wdT wWhile :: xpT e, rfl, nbr_cons (wd_nbr (by decide)) (hE e (by simp))⟩
 ·obtain ⟨h1, -, -, -, h5, h6, -⟩ := met_parts (show metB (2, 0, false, false, 1, 1, 0, true, false) nm fr sec mu _ _ _ _ = true from hM)
  obtain ⟨e, rfl⟩ := one_of h5 h6
  exact ⟨wdT wFor :: nmT nm :: sg [60] :: xpT e, rfl, nbr_cons (wd_nbr (by decide)) (nbr_cons (nm_nbr (metA2 h1)) (nbr_cons s60 (hE e (by simp))))⟩
 ·obtain ⟨h1, h2, -, -, h5, h6, -⟩ := met_parts (show metB (2, 2, false, true, 2, 2, 0, true, false) nm fr sec mu _ _ _ _ = true from hM)
  obtain ⟨e, f, rfl⟩ := two_of h5 h6
  exact ⟨wdT (if mu = true then wEdit else wView) :: nmT nm :: sg [61] :: nmT fr :: sg [91] :: (xpT e ++ sg [46, 46] :: (xpT f ++ [sg [93]])), by simp [stH, e0T, e1T],
   nbr_cons (wd_nbr (by cases mu <;> decide)) (nbr_cons (nm_nbr (metA2 h1)) (nbr_cons s61 (nbr_cons (nm_nbr (metA2 h2)) (nbr_cons s91 (nbr_app (hE e (by simp)) (nbr_cons s46 (nbr_app (hE f (by simp)) (nbr_cons s93 nbr_nil))))))))⟩
theorem stH_flat {k : Nat} {nm fr : List UInt8} {sec mu : Bool} {ex : List Xp} {ar : List (List UInt8)} {bd el : List St} (hf : fitsB (.mk k nm fr sec mu ex ar bd el) = true) (c : ¬ (5 ≤ k ∧ k ≤ 8)) : Nbr (stH k nm fr sec mu ex ar) := by
 obtain ⟨⟨hk0, hk⟩, hM, har, hex⟩ := fits_parts hf
 have hE : ∀ e ∈ ex, Nbr (xpT e) := fun e he => tell_nbr 40 e (hex e he)
 have s61 := sg_nbr (m := [61]) (by decide)
 have s59 := sg_nbr (m := [59]) (by decide)
 have s91 := sg_nbr (m := [91]) (by decide)
 have s93 := sg_nbr (m := [93]) (by decide)
 have s40 := sg_nbr (m := [40]) (by decide)
 have s41 := sg_nbr (m := [41]) (by decide)
 have hkk : k = 1 ∨ k = 2 ∨ k = 3 ∨ k = 4 ∨ k = 9 ∨ k = 10 ∨ k = 11 ∨ k = 12 := by omega
 rcases hkk with rfl | rfl | rfl | rfl | rfl | rfl | rfl | rfl
 ·obtain ⟨h1, -, -, -, h5, h6, -⟩ := met_parts (show metB (2, 0, true, false, 1, 1, 0, false, false) nm fr sec mu _ _ _ _ = true from hM)
  obtain ⟨e, rfl⟩ := one_of h5 h6
  exact nbr_cons (wd_nbr (m := wLet) (by decide)) (nbr_app (nbr_sec sec) (nbr_cons (nm_nbr (metA2 h1)) (nbr_cons s61 (nbr_app (hE e (by simp)) (nbr_cons s59 nbr_nil)))))
 ·obtain ⟨h1, -, -, -, h5, h6, -⟩ := met_parts (show metB (2, 0, false, false, 1, 1, 0, false, false) nm fr sec mu _ _ _ _ = true from hM)
  obtain ⟨e, rfl⟩ := one_of h5 h6
  exact nbr_cons (nm_nbr (metA2 h1)) (nbr_cons s61 (nbr_app (hE e (by simp)) (nbr_cons s59 nbr_nil)))
 ·obtain ⟨h1, -, -, -, h5, h6, -⟩ := met_parts (show metB (2, 0, true, false, 1, 1, 0, false, false) nm fr sec mu _ _ _ _ = true from hM)
  obtain ⟨e, rfl⟩ := one_of h5 h6
  exact nbr_cons (wd_nbr (m := wBuf) (by decide)) (nbr_app (nbr_sec sec) (nbr_cons (nm_nbr (metA2 h1)) (nbr_cons s91 (nbr_app (hE e (by simp)) (nbr_cons s93 (nbr_cons s59 nbr_nil))))))
 ·obtain ⟨h1, -, -, -, h5, h6, -⟩ := met_parts (show metB (2, 0, false, false, 2, 2, 0, false, false) nm fr sec mu _ _ _ _ = true from hM)
  obtain ⟨e, f, rfl⟩ := two_of h5 h6
  exact nbr_cons (nm_nbr (metA2 h1)) (nbr_cons s91 (nbr_app (hE e (by simp)) (nbr_cons s93 (nbr_cons s61 (nbr_app (hE f (by simp)) (nbr_cons s59 nbr_nil))))))
 ·obtain ⟨h1, h2, -⟩ := met_parts (show metB (2, 2, false, false, 0, 0, 0, false, false) nm fr sec mu _ _ _ _ = true from hM)
  exact nbr_cons (wd_nbr (m := wMove) (by decide)) (nbr_cons (nm_nbr (metA2 h1)) (nbr_cons s61 (nbr_cons (nm_nbr (metA2 h2)) (nbr_cons s59 nbr_nil))))
 ·obtain ⟨h1, -, -, -, h5, h6, -⟩ := met_parts (show metB (2, 0, false, false, 1, 1, 0, false, false) nm fr sec mu _ _ _ _ = true from hM)
  obtain ⟨e, rfl⟩ := one_of h5 h6
  exact nbr_cons (wd_nbr (m := wOpen) (by decide)) (nbr_cons (nm_nbr (metA2 h1)) (nbr_cons s61 (nbr_app (hE e (by simp)) (nbr_cons s59 nbr_nil))))
 ·obtain ⟨h1, h2, -⟩ := met_parts (show metB (1, 2, false, false, 0, 8, 8, false, false) nm fr sec mu _ _ _ _ = true from hM)
  refine nbr_cons (wd_nbr (m := wCall) (by decide)) (nbr_app ?_ (nbr_cons (nm_nbr (metA2 h2)) (nbr_cons s40 (nbr_app (nbr_com hE) (nbr_cons s59 (nbr_app (nbr_com (fun a ha => nbr_cons (nm_nbr (har a ha)) nbr_nil)) (nbr_cons s41 (nbr_cons s59 nbr_nil))))))))
  by_cases c : nm = []
  ·rw [if_pos c]; exact nbr_nil
  ·rw [if_neg c]; exact nbr_cons (nm_nbr ((metA1 h1).resolve_left c)) (nbr_cons s61 nbr_nil)
 ·exact nbr_cons (wd_nbr (m := wSeal) (by decide)) (nbr_cons s59 nbr_nil)
theorem brk_pcs (a b : List Tk) (o : Nat) : brk o (pcs (a ++ b)) = (brk o (pcs a)).bind fun o' => brk o' (pcs b) := by
 have e : pcs (a ++ b) = pcs a ++ pcs b := by simp [pcs]
 rw [e, brk_app]
mutual
theorem st_brk : ∀ (s : St), s.fa → ∀ o, brk o (pcs (stT s)) = some o
 | .mk k nm fr sec mu ex ar bd el, hf, o => by
  rw [St.fa] at hf
  rw [stT]
  by_cases c : 5 ≤ k ∧ k ≤ 8
  ·obtain ⟨X, hX, hN⟩ := stH_open hf.1 c
   rw [if_pos c, hX, List.append_assoc, brk_pcs, brk_nbr hN o]
   show brk o (pcs ([sg [123]] ++ _)) = _
   rw [brk_pcs, show brk o (pcs [sg [123]]) = some (o + 1) from rfl]
   show brk (o + 1) (pcs (stsT bd ++ _)) = _
   rw [brk_pcs, sts_brk bd hf.2.1]
   show brk (o + 1) (pcs _) = _
   by_cases c2 : el.isEmpty = true
   ·rw [if_pos c2]; rfl
   ·rw [if_neg c2]
    show brk (o + 1) (pcs ([sg [125], wdT wElse, sg [123]] ++ stsT el ++ [sg [125]])) = _
    rw [List.append_assoc, brk_pcs, show brk (o + 1) (pcs [sg [125], wdT wElse, sg [123]]) = some (o + 1) from rfl]
    show brk (o + 1) (pcs (stsT el ++ _)) = _
    rw [brk_pcs, sts_brk el hf.2.2]
    rfl
  ·rw [if_neg c, List.append_nil]
   exact brk_nbr (stH_flat hf.1 c) o
theorem sts_brk : ∀ (l : List St), faS l → ∀ o, brk o (pcs (stsT l)) = some o
 | [], _, o => by rw [stsT]; rfl
 | s :: r, hf, o => by
  rw [faS] at hf
  rw [stsT, brk_pcs, st_brk s hf.1 o]
  exact sts_brk r hf.2 o
end
theorem pm_nbr {x : Pm} (hx : pmB x = true) : Nbr (pmT x) := by
 obtain ⟨nm, buf, sec, mu⟩ := x
 simp only [pmB, Bool.and_eq_true] at hx
 refine nbr_app ?_ (nbr_app (nbr_sec sec) (nbr_cons (nm_nbr hx.1) nbr_nil))
 cases mu <;> cases buf <;> cases sec <;> first | exact nbr_nil | exact nbr_cons (wd_nbr (by decide)) nbr_nil
theorem fd_brk {f : Fd} {a b : Nat} (h : fdC f a = some b) : brk 0 (pcs (fdT f)) = some 0 := by
 obtain ⟨nm, ps, bd, sec, rt⟩ := f
 change (if (nmdB nm && psB ps && rtB sec rt) = true then blkC 40 bd a else none) = some b at h
 have c : (nmdB nm && psB ps && rtB sec rt) = true := Classical.byContradiction (fun c => by rw [if_neg c] at h; cases h)
 rw [if_pos c] at h
 simp only [psB, Bool.and_eq_true, decide_eq_true_eq, List.all_eq_true] at c
 obtain ⟨⟨c1, c2, c3⟩, c4⟩ := c
 have eF : fdT ⟨nm, ps, bd, sec, rt⟩ = (wdT wFn :: nmT nm :: sg [40] :: (comT pmT ps ++ [sg [41]])) ++ ([sg [123]] ++ (stsT bd ++ ([sg [125]] ++ ((if rt.isEmpty = true then [] else sg [61] :: (secT sec ++ e0T rt)) ++ [sg [59]])))) := by simp [fdT, hdT, tlT]
 have n1 : Nbr (wdT wFn :: nmT nm :: sg [40] :: (comT pmT ps ++ [sg [41]])) := nbr_cons (wd_nbr (by decide)) (nbr_cons (nm_nbr c1) (nbr_cons (sg_nbr (by decide)) (nbr_app (nbr_com (fun p hp => pm_nbr (c3 p hp))) (nbr_cons (sg_nbr (by decide)) nbr_nil))))
 have n2 : Nbr ((if rt.isEmpty = true then [] else sg [61] :: (secT sec ++ e0T rt)) ++ [sg [59]]) := by
  refine nbr_app ?_ (nbr_cons (sg_nbr (by decide)) nbr_nil)
  unfold rtB at c4
  cases rt with
  | nil => exact nbr_nil
  | cons e r =>
   rw [if_neg (by simp)] at c4
   simp only [Bool.and_eq_true, decide_eq_true_eq, List.all_eq_true, List.length_cons] at c4
   exact nbr_cons (sg_nbr (by decide)) (nbr_app (nbr_sec sec) (tell_nbr 40 e (c4.2 e (by simp))))
 rw [eF, brk_pcs, brk_nbr n1]
 show brk 0 (pcs _) = _
 rw [brk_pcs, show brk 0 (pcs [sg [123]]) = some 1 from rfl]
 show brk 1 (pcs _) = _
 rw [brk_pcs, sts_brk bd (blkC_fa _ _ _ _ h)]
 show brk 1 (pcs _) = _
 rw [brk_pcs, show brk 1 (pcs [sg [125]]) = some 0 from rfl]
 exact brk_nbr n2 0
theorem pg_brk : ∀ (l : List Fd) (a b : Nat), pgC l a = some b → brk 0 (pcs (pgT l)) = some 0
 | [], _, _, _ => rfl
 | f :: r, a, b, h => by
  rw [pgC] at h
  obtain ⟨y, h1, h2⟩ := bind_parts h
  have e : pgT (f :: r) = fdT f ++ pgT r := rfl
  rw [e, brk_pcs, fd_brk h1]
  exact pg_brk r y b h2
theorem stH_neQ {k : Nat} {nm fr : List UInt8} {sec mu : Bool} {ex : List Xp} {ar : List (List UInt8)} : stH k nm fr sec mu ex ar ≠ [] := by
 unfold stH
 by_cases c1 : k = 1
 ·rw [if_pos c1]; exact List.cons_ne_nil _ _
 rw [if_neg c1]
 by_cases c2 : k = 2
 ·rw [if_pos c2]; exact List.cons_ne_nil _ _
 rw [if_neg c2]
 by_cases c3 : k = 3
 ·rw [if_pos c3]; exact List.cons_ne_nil _ _
 rw [if_neg c3]
 by_cases c4 : k = 4
 ·rw [if_pos c4]; exact List.cons_ne_nil _ _
 rw [if_neg c4]
 by_cases c5 : k = 5
 ·rw [if_pos c5]; exact List.cons_ne_nil _ _
 rw [if_neg c5]
 by_cases c6 : k = 6
 ·rw [if_pos c6]; exact List.cons_ne_nil _ _
 rw [if_neg c6]
 by_cases c7 : k = 7
 ·rw [if_pos c7]; exact List.cons_ne_nil _ _
 rw [if_neg c7]
 by_cases c8 : k = 8
 ·rw [if_pos c8]; exact List.cons_ne_nil _ _
 rw [if_neg c8]
 by_cases c9 : k = 9
 ·rw [if_pos c9]; exact List.cons_ne_nil _ _
 rw [if_neg c9]
 by_cases c10 : k = 10
 ·rw [if_pos c10]; exact List.cons_ne_nil _ _
 rw [if_neg c10]
 by_cases c11 : k = 11
 ·rw [if_pos c11]; exact List.cons_ne_nil _ _
 rw [if_neg c11]
 exact List.cons_ne_nil _ _
mutual
theorem stL_neQ : ∀ (d : Nat) (s : St), ∀ x ∈ stL d s, x.2 ≠ []
 | d, .mk k nm fr sec mu ex ar bd el, x, hx => by
  rw [stL] at hx
  rcases List.mem_cons.1 hx with rfl | hx
  ·exact stH_neQ
  by_cases c : 5 ≤ k ∧ k ≤ 8
  ·rw [if_pos c] at hx
   rcases List.mem_append.1 hx with hx | hx
   ·exact stsL_neQ (d + 1) bd x hx
   rcases List.mem_append.1 hx with hx | hx
   ·by_cases c2 : el.isEmpty = true
    ·rw [if_pos c2] at hx; simp at hx
    ·rw [if_neg c2] at hx
     rcases List.mem_cons.1 hx with rfl | hx
     ·exact fun h => by cases h
     ·exact stsL_neQ (d + 1) el x hx
   ·rw [List.mem_singleton.1 hx]; exact fun h => by cases h
  ·rw [if_neg c] at hx; simp at hx
theorem stsL_neQ : ∀ (d : Nat) (l : List St), ∀ x ∈ stsL d l, x.2 ≠ []
 | d, [], x, hx => by rw [stsL] at hx; simp at hx
 | d, s :: r, x, hx => by
  rw [stsL] at hx
  rcases List.mem_append.1 hx with hx | hx
  ·exact stL_neQ d s x hx
  ·exact stsL_neQ d r x hx
end
theorem pgL_neQ : ∀ (l : List Fd), ∀ x ∈ pgL l, x.2 ≠ []
 | [], x, hx => by simp [pgL] at hx
 | f :: r, x, hx => by
  rcases List.mem_append.1 (show x ∈ fdL f ++ pgL r from hx) with hx | hx
  ·rcases List.mem_cons.1 hx with rfl | hx
   ·exact fun h => by cases h
   rcases List.mem_append.1 hx with hx | hx
   ·exact stsL_neQ 1 f.bd x hx
   ·rw [List.mem_singleton.1 hx]; exact fun h => by cases h
  ·exact pgL_neQ r x hx
theorem shown_scan (l : List Fd) (h : pgB l = true) (hb : ∀ f ∈ l, f.nb) : scan 0 false false (shoT l) = some (0, false, false) := by
 simp only [pgB, Bool.and_eq_true, decide_eq_true_eq] at h
 obtain ⟨b, hc⟩ := Option.isSome_iff_exists.1 h.2
 unfold shoT
 rw [scan_lns (pgL l) (fun x hx => ⟨pgL_toks l 400 b hc hb x hx, pgL_neQ l x hx⟩) 0, pgL_flat, pg_brk l 400 b hc]
 rfl
end Go.Proofs.YtkibkaoffgnmkaaGreatDoor
