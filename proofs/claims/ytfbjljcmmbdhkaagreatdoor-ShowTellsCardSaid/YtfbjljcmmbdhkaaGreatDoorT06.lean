/- Plain: the tokens of a program, as it is shown; what is shown is read as itself. -/
import Derived.Test.YtfbjljcmmbdhkaaGreatDoorT04
import Derived.Test.YtfbjljcmmbdhkaaGreatDoorT00
namespace Go.Proofs.YtfbjljcmmbdhkaaGreatDoor
set_option linter.unusedVariables false
set_option linter.unusedSimpArgs false
set_option maxRecDepth 100000
set_option maxHeartbeats 200000000
section
def wdT (s : List UInt8) : Tk := ⟨2, s, 0⟩
def secT (b : Bool) : List Tk := if b = true then [wdT wSecret] else []
def xpT (e : Xp) : List Tk := tellF 40 e
def comT {α : Type} (f : α → List Tk) : List α → List Tk
 | [] => []
 | x :: r => f x ++ r.flatMap (fun y => sg [44] :: f y)
def e0T (ex : List Xp) : List Tk := xpT (ex.getD 0 x0)
def e1T (ex : List Xp) : List Tk := xpT (ex.getD 1 x0)
def stH (k : Nat) (nm fr : List UInt8) (sec mu : Bool) (ex : List Xp) (ar : List (List UInt8)) : List Tk :=
 if k = 1 then wdT wLet :: (secT sec ++ nmT nm :: sg [61] :: (e0T ex ++ [sg [59]]))
 else if k = 2 then nmT nm :: sg [61] :: (e0T ex ++ [sg [59]])
 else if k = 3 then wdT wBuf :: (secT sec ++ nmT nm :: sg [91] :: (e0T ex ++ [sg [93], sg [59]]))
 else if k = 4 then nmT nm :: sg [91] :: (e0T ex ++ sg [93] :: sg [61] :: (e1T ex ++ [sg [59]]))
 else if k = 5 then wdT wIf :: (e0T ex ++ [sg [123]])
 else if k = 6 then wdT wWhile :: (e0T ex ++ [sg [123]])
 else if k = 7 then wdT wFor :: nmT nm :: sg [60] :: (e0T ex ++ [sg [123]])
 else if k = 8 then wdT (if mu = true then wEdit else wView) :: nmT nm :: sg [61] :: nmT fr :: sg [91] :: (e0T ex ++ sg [46, 46] :: (e1T ex ++ [sg [93], sg [123]]))
 else if k = 9 then [wdT wMove, nmT nm, sg [61], nmT fr, sg [59]]
 else if k = 10 then wdT wOpen :: nmT nm :: sg [61] :: (e0T ex ++ [sg [59]])
 else if k = 11 then wdT wCall :: ((if nm = [] then [] else [nmT nm, sg [61]]) ++ nmT fr :: sg [40] :: (comT xpT ex ++ sg [59] :: (comT (fun s => [nmT s]) ar ++ [sg [41], sg [59]])))
 else [wdT wSeal, sg [59]]
mutual
def stT : St → List Tk
 | .mk k nm fr sec mu ex ar bd el => stH k nm fr sec mu ex ar ++ (if 5 ≤ k ∧ k ≤ 8 then stsT bd ++ ((if el.isEmpty = true then [] else sg [125] :: wdT wElse :: sg [123] :: stsT el) ++ [sg [125]]) else [])
def stsT : List St → List Tk
 | [] => []
 | s :: r => stT s ++ stsT r
end
def pmT (x : Pm) : List Tk := (if x.mu = true then [wdT wEdit] else if x.buf = true then [wdT wView] else if x.sec = true then [] else [wdT wNum]) ++ (secT x.sec ++ [nmT x.nm])
def hdT (f : Fd) : List Tk := wdT wFn :: nmT f.nm :: sg [40] :: (comT pmT f.ps ++ [sg [41], sg [123]])
def tlT (f : Fd) : List Tk := sg [125] :: ((if f.rt.isEmpty = true then [] else sg [61] :: (secT f.sec ++ e0T f.rt)) ++ [sg [59]])
def fdT (f : Fd) : List Tk := hdT f ++ (stsT f.bd ++ tlT f)
def pgT (l : List Fd) : List Tk := l.flatMap fdT
theorem metA0 {s : List UInt8} (h : metA 0 s = true) : s = [] := by
 unfold metA at h
 by_cases c : s = []
 ·exact c
 ·rw [if_neg c] at h; simp at h
theorem metA1 {s : List UInt8} (h : metA 1 s = true) : s = [] ∨ nmdB s = true := by
 unfold metA at h
 by_cases c : s = []
 ·exact .inl c
 ·rw [if_neg c] at h; simp at h; exact .inr h
theorem metA2 {s : List UInt8} (h : metA 2 s = true) : nmdB s = true := by
 unfold metA at h
 by_cases c : s = []
 ·rw [if_pos c] at h; simp at h
 ·rw [if_neg c] at h; simpa using h
theorem fits_parts {k : Nat} {nm fr : List UInt8} {sec mu : Bool} {ex : List Xp} {ar : List (List UInt8)} {bd el : List St} (h : fitsB (.mk k nm fr sec mu ex ar bd el) = true) :
 (k ≠ 0 ∧ k < 13) ∧ metB (nds k) nm fr sec mu ex.length ar.length bd.length el.length = true ∧ (∀ a ∈ ar, nmdB a = true) ∧ ∀ e ∈ ex, mayB 40 e = true := by
 simp only [fitsB, St.k, St.nm, St.fr, St.sec, St.mu, St.ex, St.ar, St.bd, St.el, Bool.and_eq_true, List.all_eq_true] at h
 exact ⟨⟨of_decide_eq_true h.1.1.1.1, of_decide_eq_true h.1.1.1.2⟩, h.1.1.2, h.1.2, h.2⟩
theorem met_parts {a0 a1 : Nat} {sc mx : Bool} {lo hi ar : Int} {b l : Bool} {nm fr : List UInt8} {sec mu : Bool} {ne na nb nl : Nat} (h : metB (a0, a1, sc, mx, lo, hi, ar, b, l) nm fr sec mu ne na nb nl = true) :
 metA a0 nm = true ∧ metA a1 fr = true ∧ (sc = true ∨ sec = false) ∧ (mx = true ∨ mu = false) ∧ lo ≤ (ne : Int) ∧ (ne : Int) ≤ hi ∧ (na : Int) ≤ ar ∧ (b = true ∨ nb = 0) ∧ (l = true ∨ nl = 0) := by
 simp only [metB, Bool.and_eq_true, Bool.or_eq_true, decide_eq_true_eq, Bool.not_eq_true'] at h
 obtain ⟨⟨⟨⟨⟨⟨⟨⟨h1, h2⟩, h3⟩, h4⟩, h5⟩, h6⟩, h7⟩, h8⟩, h9⟩ := h
 exact ⟨h1, h2, h3, h4, h5, h6, h7, h8, h9⟩
theorem one_of {ex : List Xp} (h1 : (1 : Int) ≤ (ex.length : Int)) (h2 : (ex.length : Int) ≤ 1) : ∃ e, ex = [e] := List.length_eq_one_iff.1 (by omega)
theorem two_of {ex : List Xp} (h1 : (2 : Int) ≤ (ex.length : Int)) (h2 : (ex.length : Int) ≤ 2) : ∃ e f, ex = [e, f] := by
 match ex, h1, h2 with
 | [e, f], _, _ => exact ⟨e, f, rfl⟩
 | [], h, _ => simp at h
 | [_], h, _ => simp at h
 | _ :: _ :: _ :: _, _, h => simp only [List.length_cons] at h; omega
def BkAt (T : List Tk) (d : Nat) (blk : Nat → Nat → Rz (List St)) : Prop := ∀ (l : List St) (n m p : Nat) (L : List Tk), n ≤ 400 → m ≤ 400 → blkC d l (400 - n) = some (400 - m) → T.drop p = sg [123] :: (stsT l ++ sg [125] :: L) → ∃ q, blk p n = .ok l q m ∧ T.drop q = L
end
section
section
variable {T : List Tk} {d p n m : Nat} {blk : Nat → Nat → Rz (List St)} {nm fr : List UInt8} {sec mu : Bool} {ex : List Xp} {ar : List (List UInt8)} {bd el : List St} {c : Tk} {L : List Tk}
end
end
section
theorem bind_parts {α β : Type} {x : Option α} {f : α → Option β} {y : β} (h : x.bind f = some y) : ∃ a, x = some a ∧ f a = some y := Option.bind_eq_some_iff.1 h
theorem oneC_parts {d : Nat} {s : St} {a b : Nat} (h : oneC d s a = some b) : a ≠ 0 ∧ fitsB s = true ∧ (blkC d s.bd (a - 1)).bind (blkC d s.el) = some b := by
 unfold oneC at h
 by_cases c : a = 0 ∨ fitsB s = false
 ·rw [if_pos c] at h; cases h
 ·rw [if_neg c] at h
  exact ⟨fun e => c (.inl e), by cases hf : fitsB s; exact absurd (.inr hf) c; rfl, h⟩
inductive LexTo : List UInt8 → List Tk → Prop
 | nil {b : List UInt8} (hb : ∀ c ∈ b, isB c = true) : LexTo b []
 | cons {b m rest : List UInt8} {t : Tk} {L : List Tk} (hb : ∀ c ∈ b, isB c = true) (ht : TkOk t m) (hr : ∀ c r', rest = c :: r' → stop t c) (h : LexTo rest L) : LexTo (b ++ (m ++ rest)) (t :: L)
theorem LexTo.lex {s : List UInt8} {L : List Tk} (h : LexTo s L) : ∀ (g a : Nat), s.length < g → ∃ T, lexN g s a = .ok T ∧ T.map (·.1) = L ++ [⟨5, [], 0⟩] := by
 induction h with
 | nil hb =>
  intro g a hg
  obtain ⟨g, rfl⟩ : ∃ g', g = g' + 1 := ⟨g - 1, by omega⟩
  exact ⟨_, lex_end g _ hb a, rfl⟩
 | @cons b m rest t L hb ht hr h ih =>
  intro g a hg
  obtain ⟨g, rfl⟩ : ∃ g', g = g' + 1 := ⟨g - 1, by omega⟩
  have hm : 0 < m.length := List.length_pos_iff.2 ht.ne
  simp only [List.length_append] at hg
  obtain ⟨T, h1, h2⟩ := ih g (a + b.length + m.length) (by omega)
  exact ⟨_, by rw [lex_tok g b hb ht rest hr a, h1]; rfl, by simp [h2]⟩
theorem LexTo.blank {b s : List UInt8} {L : List Tk} (hb : ∀ c ∈ b, isB c = true) (h : LexTo s L) : LexTo (b ++ s) L := by
 cases h with
 | nil h => exact .nil (fun c hc => (List.mem_append.1 hc).elim (hb c) (h c))
 | cons h1 ht hr h =>
  rw [← List.append_assoc]
  exact .cons (fun c hc => (List.mem_append.1 hc).elim (hb c) (h1 c)) ht hr h
theorem LexTo.row {s : List UInt8} {L : List Tk} {c : UInt8} (hc : isB c = true) (h : LexTo s L) : ∀ (r : List Tk), (∀ t ∈ r, ∃ m, TkOk t m) → LexTo (joinT r ++ c :: s) (r ++ L)
 | [], _ => LexTo.blank (b := [c]) (fun x hx => by rw [List.mem_singleton.1 hx]; exact hc) h
 | [t], hr => by
   obtain ⟨m, ht⟩ := hr t (List.mem_cons_self ..)
   have e : joinT [t] = m := by unfold joinT; rw [pcs_tok ht]; simp [pcs, Lib.join]
   rw [e]
   exact LexTo.cons (b := []) (by simp) ht (fun c' r' e => by cases e; exact stop_blank ht hc) (LexTo.blank (b := [c]) (fun x hx => by rw [List.mem_singleton.1 hx]; exact hc) h)
 | t :: t' :: r, hr => by
   obtain ⟨m, ht⟩ := hr t (List.mem_cons_self ..)
   obtain ⟨m', ht'⟩ := hr t' (List.mem_cons_of_mem _ (List.mem_cons_self ..))
   have ih := LexTo.row hc h (t' :: r) (fun x hx => hr x (List.mem_cons_of_mem _ hx))
   have e : joinT (t :: t' :: r) = m ++ 32 :: joinT (t' :: r) := by unfold joinT; rw [pcs_tok ht, pcs_tok ht', join_two]
   rw [e, List.append_assoc]
   exact LexTo.cons (b := []) (by simp) ht (fun c' r' e => by cases e; exact stop_blank ht (by decide)) (LexTo.blank (b := [32]) (fun x hx => by rw [List.mem_singleton.1 hx]; decide) ih)
def lnT (d : Nat) (r : List Tk) : List UInt8 := List.replicate (2 * d) 32 ++ (joinT r ++ [10])
def lnsT (l : List (Nat × List Tk)) : List UInt8 := l.flatMap fun x => lnT x.1 x.2
mutual
def stL : Nat → St → List (Nat × List Tk)
 | d, .mk k nm fr sec mu ex ar bd el => (d, stH k nm fr sec mu ex ar) :: (if 5 ≤ k ∧ k ≤ 8 then stsL (d + 1) bd ++ ((if el.isEmpty = true then [] else (d, [sg [125], wdT wElse, sg [123]]) :: stsL (d + 1) el) ++ [(d, [sg [125]])]) else [])
def stsL : Nat → List St → List (Nat × List Tk)
 | _, [] => []
 | d, s :: r => stL d s ++ stsL d r
end
def fdL (f : Fd) : List (Nat × List Tk) := (0, hdT f) :: (stsL 1 f.bd ++ [(0, tlT f)])
def pgL (l : List Fd) : List (Nat × List Tk) := l.flatMap fdL
def shoT (l : List Fd) : List UInt8 := lnsT (pgL l)
mutual
theorem stL_flat : ∀ (d : Nat) (s : St), (stL d s).flatMap (·.2) = stT s
 | d, .mk k nm fr sec mu ex ar bd el => by
   rw [stL, stT, List.flatMap_cons]
   congr 1
   by_cases c : 5 ≤ k ∧ k ≤ 8
   ·rw [if_pos c, if_pos c, List.flatMap_append, List.flatMap_append, stsL_flat (d + 1) bd]
    congr 1
    by_cases c2 : el.isEmpty = true
    ·rw [if_pos c2, if_pos c2]; rfl
    ·rw [if_neg c2, if_neg c2, List.flatMap_cons, stsL_flat (d + 1) el]; rfl
   ·rw [if_neg c, if_neg c]; rfl
theorem stsL_flat : ∀ (d : Nat) (l : List St), (stsL d l).flatMap (·.2) = stsT l
 | d, [] => by rw [stsL, stsT]; rfl
 | d, s :: r => by rw [stsL, stsT, List.flatMap_append, stL_flat d s, stsL_flat d r]
end
theorem dig_of {k : Nat} (h : k < 10) : isD (UInt8.ofNat (48 + k)) = true ∧ (UInt8.ofNat (48 + k)).toNat - 48 = k := by
 have e : (UInt8.ofNat (48 + k)).toNat = 48 + k := by simp; omega
 exact ⟨isD_iff.2 (by omega), by omega⟩
theorem numR_app (a b : List UInt8) : ∀ acc, numR acc (a ++ b) = (numR acc a).bind (fun x => numR x b) := by
 induction a with
 | nil => intro acc; rfl
 | cons c r ih =>
  intro acc
  rw [List.cons_append, numR, numR]
  split
  ·rfl
  ·exact ih _
theorem dec_digits (u : Nat) : (∀ c ∈ Lib.decDigits u, isD c = true) ∧ Lib.decDigits u ≠ [] := by
 induction u using Nat.strongRecOn with
 | _ u ih =>
  rw [Lib.decDigits]
  by_cases h : u < 10
  ·rw [dif_pos h]
   exact ⟨fun c hc => by rw [List.mem_singleton.1 hc]; exact (dig_of h).1, by simp⟩
  ·rw [dif_neg h]
   refine ⟨fun c hc => ?_, by simp⟩
   rcases List.mem_append.1 hc with hc | hc
   ·exact (ih _ (by omega)).1 c hc
   ·rw [List.mem_singleton.1 hc]; exact (dig_of (by omega)).1
theorem numR_dec (u : Nat) : u < 18446744073709551616 → numR 0 (Lib.decDigits u) = some u := by
 induction u using Nat.strongRecOn with
 | _ u ih =>
  intro hu
  rw [Lib.decDigits]
  by_cases h : u < 10
  ·rw [dif_pos h, numR, (dig_of h).2, if_neg (by omega), numR]
   congr 1; omega
  ·rw [dif_neg h, numR_app, ih (u / 10) (by omega) (by omega)]
   show numR (u / 10) _ = _
   rw [numR, (dig_of (show u % 10 < 10 by omega)).2, if_neg (by omega), numR]
   congr 1; omega
theorem num_tk (u : Nat) (hu : u < 18446744073709551616) : TkOk ⟨3, [], u⟩ (Lib.decDigits u) := by
 obtain ⟨h1, h2⟩ := dec_digits u
 refine .inr (.inl ⟨rfl, rfl, ?_, rfl, hu, h1, h2⟩)
 rw [numP_digits _ h2 h1, numR_dec u hu, if_neg]
 rintro ⟨h3, h4⟩
 match hd : Lib.decDigits u with
 | [] => exact h2 hd
 | [_] => rw [hd] at h3; simp at h3
 | c :: d :: r =>
  rw [hd] at h4
  obtain rfl : c = 48 := by simpa using h4
  exact lead_ne u d r hd
theorem nmd_tk {s : List UInt8} (h : nmdB s = true) : TkOk (nmT s) s := by
 unfold nmdB at h
 split at h
 ·rename_i t z r hl
  simp only [Bool.and_eq_true, decide_eq_true_eq] at h
  obtain ⟨hk, hs⟩ := h
  unfold lexT at hl
  split at hl
  ·cases hl
  ·obtain ⟨f', hf, h1 | ⟨b, t', m, r', T', -, -, ht, -, -, hT⟩⟩ := lex_inv hl
   ·have := h1.2
    cases this
    exact absurd hk (by decide)
   ·cases hT
    have h0 := ht
    rcases ht with ⟨-, e1, e2, -⟩ | ⟨h3, -⟩ | ⟨h4, -⟩
    ·obtain ⟨k, x, n⟩ := t
     simp only at hk hs e1 e2
     subst hk hs e1 e2
     exact h0
    ·exact absurd (hk.symm.trans h3) (by decide)
    ·exact absurd (hk.symm.trans h4) (by decide)
 ·cases h
def wdB (w : List UInt8) : Bool := isWd w && decide (w.length ≤ 16) && w.all isLD && match w with | [] => false | c :: _ => isL c
theorem wd_tk {w : List UInt8} (h : wdB w = true) : TkOk (wdT w) w := by
 simp only [wdB, Bool.and_eq_true, decide_eq_true_eq, List.all_eq_true] at h
 obtain ⟨⟨⟨h1, h2⟩, h3⟩, h4⟩ := h
 refine .inl ⟨.inr rfl, rfl, rfl, ?_, h3, ?_⟩
 ·unfold nameP; rw [if_neg (by omega), h1]; rfl
 ·cases w with
  | nil => cases h4
  | cons c r => exact ⟨c, r, rfl, h4⟩
theorem sg_tk {m : List UInt8} (h : signsL.contains m = true) : TkOk (sg m) m := .inr (.inr ⟨rfl, rfl, rfl, List.contains_iff_mem.1 h⟩)
def Toks (r : List Tk) : Prop := ∀ t ∈ r, ∃ m, TkOk t m
theorem toks_nil : Toks [] := fun t h => by simp at h
theorem toks_cons {t : Tk} {r : List Tk} {m : List UInt8} (h : TkOk t m) (hr : Toks r) : Toks (t :: r) := fun x hx => by
 rcases List.mem_cons.1 hx with rfl | hx
 ·exact ⟨m, h⟩
 ·exact hr x hx
theorem toks_app {a b : List Tk} (ha : Toks a) (hb : Toks b) : Toks (a ++ b) := fun x hx => (List.mem_append.1 hx).elim (ha x) (hb x)
mutual
def Xp.nb : Xp → Prop
 | .mk _ n _ _ l => n < 18446744073709551616 ∧ nbL l
def nbL : List Xp → Prop
 | [] => True
 | x :: r => x.nb ∧ nbL r
end
theorem nbL_iff : ∀ {l : List Xp}, nbL l ↔ ∀ x ∈ l, x.nb
 | [] => by rw [nbL]; simp
 | x :: r => by rw [nbL, nbL_iff (l := r)]; simp
theorem op_sign : ∀ o, opS o ≠ [] → signsL.contains (opS o) = true := by
 intro o h
 by_cases c : o < 15
 ·exact (show ∀ o, o < 15 → opS o ≠ [] → signsL.contains (opS o) = true by decide +kernel) o c h
 ·exact absurd (by unfold opS; rw [List.getD_eq_getElem?_getD, List.getElem?_eq_none (by show opsL.length ≤ o; have : opsL.length = 15 := rfl; omega)]; rfl) h
theorem tell_toks : ∀ (d : Nat) (e : Xp), mayB d e = true → e.nb → Toks (tellF d e)
 | 0, e, h, _ => by simp [mayB] at h
 | d + 1, .mk k n s o l, h, hb => by
   rw [mayB, Bool.and_eq_true, List.all_eq_true] at h
   obtain ⟨hf, hl⟩ := h
   rw [Xp.nb] at hb
   have hk : ∀ j, j < l.length → Toks (tellF d (l.getD j x0)) := fun j hj => by
    have e : l.getD j x0 = l[j] := by rw [List.getD_eq_getElem?_getD, List.getElem?_eq_getElem hj]; rfl
    rw [e]
    exact tell_toks d _ (hl _ (List.getElem_mem hj)) (nbL_iff.1 hb.2 _ (List.getElem_mem hj))
   rw [tellF]
   rcases fit_k hf with rfl | rfl | rfl | rfl | rfl
   ·rw [if_pos rfl]; exact toks_cons (num_tk n hb.1) toks_nil
   ·rw [if_neg (by decide), if_pos rfl]; exact toks_cons (nmd_tk (fit2 hf).2.1) toks_nil
   ·rw [if_neg (by decide), if_neg (by decide), if_neg (by decide), if_neg (by decide)]
    obtain ⟨-, -, ho, hm⟩ := fit3 hf
    exact toks_cons (sg_tk (by decide +kernel)) (toks_app (hk 0 (by omega)) (toks_cons (sg_tk (op_sign o ho)) (toks_app (hk 1 (by omega)) (toks_cons (sg_tk (by decide +kernel)) toks_nil))))
   ·rw [if_neg (by decide), if_neg (by decide), if_pos rfl]; exact toks_cons (sg_tk (by decide +kernel)) (toks_cons (nmd_tk (fit4 hf).2.1) toks_nil)
   ·rw [if_neg (by decide), if_neg (by decide), if_neg (by decide), if_pos rfl]
    obtain ⟨-, h2, -, hm⟩ := fit5 hf
    exact toks_cons (nmd_tk h2) (toks_cons (sg_tk (by decide +kernel)) (toks_app (hk 0 (by omega)) (toks_cons (sg_tk (by decide +kernel)) toks_nil)))
mutual
def St.nb : St → Prop
 | .mk _ _ _ _ _ ex _ bd el => nbL ex ∧ nbS bd ∧ nbS el
def nbS : List St → Prop
 | [] => True
 | s :: r => s.nb ∧ nbS r
end
mutual
def St.fa : St → Prop
 | .mk k nm fr sec mu ex ar bd el => fitsB (.mk k nm fr sec mu ex ar bd el) = true ∧ faS bd ∧ faS el
def faS : List St → Prop
 | [] => True
 | s :: r => s.fa ∧ faS r
end
def Fd.nb (f : Fd) : Prop := nbS f.bd ∧ nbL f.rt
theorem rowC_all {one : St → Nat → Option Nat} {P : St → Prop} (ho : ∀ s a b, one s a = some b → P s) : ∀ l a b, rowC one l a = some b → ∀ s ∈ l, P s
 | [], a, b, h, s, hs => by simp at hs
 | x :: r, a, b, h, s, hs => by
   rw [rowC] at h
   obtain ⟨y, h1, h2⟩ := bind_parts h
   rcases List.mem_cons.1 hs with rfl | hs
   ·exact ho _ _ _ h1
   ·exact rowC_all ho r y b h2 s hs
theorem faS_iff : ∀ {l : List St}, faS l ↔ ∀ s ∈ l, s.fa
 | [] => by rw [faS]; simp
 | x :: r => by rw [faS, faS_iff (l := r)]; simp
theorem blkC_fa : ∀ d l a b, blkC d l a = some b → faS l
 | 0, [], a, b, h => by rw [faS]; trivial
 | 0, _ :: _, a, b, h => by rw [blkC] at h; cases h
 | d + 1, l, a, b, h => by
   rw [blkC_succ] at h
   refine faS_iff.2 (rowC_all (fun s a b h => ?_) l a b h)
   obtain ⟨-, hf, h1⟩ := oneC_parts h
   obtain ⟨x, h2, h3⟩ := bind_parts h1
   obtain ⟨k, nm, fr, sec, mu, ex, ar, bd, el⟩ := s
   rw [St.fa]
   exact ⟨hf, blkC_fa d _ _ _ h2, blkC_fa d _ _ _ h3⟩
theorem toks_com {α : Type} {f : α → List Tk} {l : List α} (h : ∀ x ∈ l, Toks (f x)) : Toks (comT f l) := by
 cases l with
 | nil => exact toks_nil
 | cons x r =>
  refine toks_app (h x (List.mem_cons_self ..)) (fun t ht => ?_)
  obtain ⟨y, hy, ht⟩ := List.mem_flatMap.1 ht
  exact toks_cons (sg_tk (m := [44]) (by decide +kernel)) (h y (List.mem_cons_of_mem _ hy)) t ht
theorem toks_sec (b : Bool) : Toks (secT b) := by
 cases b
 ·exact toks_nil
 ·exact toks_cons (wd_tk (by decide +kernel)) toks_nil
theorem toks_ex {e : Xp} (h : mayB 40 e = true) (hb : e.nb) : Toks (xpT e) := tell_toks 40 e h hb
theorem stH_toks {k : Nat} {nm fr : List UInt8} {sec mu : Bool} {ex : List Xp} {ar : List (List UInt8)} {bd el : List St} (hf : fitsB (.mk k nm fr sec mu ex ar bd el) = true) (hb : nbL ex) : Toks (stH k nm fr sec mu ex ar) := by
 obtain ⟨⟨hk0, hk⟩, hM, har, hex⟩ := fits_parts hf
 have hE : ∀ e ∈ ex, Toks (xpT e) := fun e he => toks_ex (hex e he) (nbL_iff.1 hb e he)
 have S : ∀ m, signsL.contains m = true → TkOk (sg m) m := fun m h => sg_tk h
 have s61 := S [61] (by decide +kernel)
 have s59 := S [59] (by decide +kernel)
 have s91 := S [91] (by decide +kernel)
 have s93 := S [93] (by decide +kernel)
 have s123 := S [123] (by decide +kernel)
 have s60 := S [60] (by decide +kernel)
 have s46 := S [46, 46] (by decide +kernel)
 have s40 := S [40] (by decide +kernel)
 have s41 := S [41] (by decide +kernel)
 have hkk : k = 1 ∨ k = 2 ∨ k = 3 ∨ k = 4 ∨ k = 5 ∨ k = 6 ∨ k = 7 ∨ k = 8 ∨ k = 9 ∨ k = 10 ∨ k = 11 ∨ k = 12 := by omega
 rcases hkk with rfl | rfl | rfl | rfl | rfl | rfl | rfl | rfl | rfl | rfl | rfl | rfl
 ·obtain ⟨h1, -, -, -, h5, h6, -⟩ := met_parts (show metB (2, 0, true, false, 1, 1, 0, false, false) nm fr sec mu _ _ _ _ = true from hM)
  obtain ⟨e, rfl⟩ := one_of h5 h6
  exact toks_cons (wd_tk (w := wLet) (by decide +kernel)) (toks_app (toks_sec sec) (toks_cons (nmd_tk (metA2 h1)) (toks_cons s61 (toks_app (hE e (by simp)) (toks_cons s59 toks_nil)))))
 ·obtain ⟨h1, -, -, -, h5, h6, -⟩ := met_parts (show metB (2, 0, false, false, 1, 1, 0, false, false) nm fr sec mu _ _ _ _ = true from hM)
  obtain ⟨e, rfl⟩ := one_of h5 h6
  exact toks_cons (nmd_tk (metA2 h1)) (toks_cons s61 (toks_app (hE e (by simp)) (toks_cons s59 toks_nil)))
 ·obtain ⟨h1, -, -, -, h5, h6, -⟩ := met_parts (show metB (2, 0, true, false, 1, 1, 0, false, false) nm fr sec mu _ _ _ _ = true from hM)
  obtain ⟨e, rfl⟩ := one_of h5 h6
  exact toks_cons (wd_tk (w := wBuf) (by decide +kernel)) (toks_app (toks_sec sec) (toks_cons (nmd_tk (metA2 h1)) (toks_cons s91 (toks_app (hE e (by simp)) (toks_cons s93 (toks_cons s59 toks_nil))))))
 ·obtain ⟨h1, -, -, -, h5, h6, -⟩ := met_parts (show metB (2, 0, false, false, 2, 2, 0, false, false) nm fr sec mu _ _ _ _ = true from hM)
  obtain ⟨e, f, rfl⟩ := two_of h5 h6
  exact toks_cons (nmd_tk (metA2 h1)) (toks_cons s91 (toks_app (hE e (by simp)) (toks_cons s93 (toks_cons s61 (toks_app (hE f (by simp)) (toks_cons s59 toks_nil))))))
 ·obtain ⟨h1, -, -, -, h5, h6, -⟩ := met_parts (show metB (0, 0, false, false, 1, 1, 0, true, true) nm fr sec mu _ _ _ _ = true from hM)
  obtain ⟨e, rfl⟩ := one_of h5 h6
  exact toks_cons (wd_tk (w := wIf) (by decide +kernel)) (toks_app (hE e (by simp)) (toks_cons s123 toks_nil))
 ·obtain ⟨h1, -, -, -, h5, h6, -⟩ := met_parts (show metB (0, 0, false, false, 1, 1, 0, true, false) nm fr sec mu _ _ _ _ = true from hM)
  obtain ⟨e, rfl⟩ := one_of h5 h6
  exact toks_cons (wd_tk (w := wWhile) (by decide +kernel)) (toks_app (hE e (by simp)) (toks_cons s123 toks_nil))
 ·obtain ⟨h1, -, -, -, h5, h6, -⟩ := met_parts (show metB (2, 0, false, false, 1, 1, 0, true, false) nm fr sec mu _ _ _ _ = true from hM)
  obtain ⟨e, rfl⟩ := one_of h5 h6
  exact toks_cons (wd_tk (w := wFor) (by decide +kernel)) (toks_cons (nmd_tk (metA2 h1)) (toks_cons s60 (toks_app (hE e (by simp)) (toks_cons s123 toks_nil))))
 ·obtain ⟨h1, h2, -, -, h5, h6, -⟩ := met_parts (show metB (2, 2, false, true, 2, 2, 0, true, false) nm fr sec mu _ _ _ _ = true from hM)
  obtain ⟨e, f, rfl⟩ := two_of h5 h6
  exact toks_cons (wd_tk (w := if mu = true then wEdit else wView) (by cases mu <;> decide +kernel)) (toks_cons (nmd_tk (metA2 h1)) (toks_cons s61 (toks_cons (nmd_tk (metA2 h2)) (toks_cons s91 (toks_app (hE e (by simp)) (toks_cons s46 (toks_app (hE f (by simp)) (toks_cons s93 (toks_cons s123 toks_nil)))))))))
 ·obtain ⟨h1, h2, -⟩ := met_parts (show metB (2, 2, false, false, 0, 0, 0, false, false) nm fr sec mu _ _ _ _ = true from hM)
  exact toks_cons (wd_tk (w := wMove) (by decide +kernel)) (toks_cons (nmd_tk (metA2 h1)) (toks_cons s61 (toks_cons (nmd_tk (metA2 h2)) (toks_cons s59 toks_nil))))
 ·obtain ⟨h1, -, -, -, h5, h6, -⟩ := met_parts (show metB (2, 0, false, false, 1, 1, 0, false, false) nm fr sec mu _ _ _ _ = true from hM)
  obtain ⟨e, rfl⟩ := one_of h5 h6
  exact toks_cons (wd_tk (w := wOpen) (by decide +kernel)) (toks_cons (nmd_tk (metA2 h1)) (toks_cons s61 (toks_app (hE e (by simp)) (toks_cons s59 toks_nil))))
 ·obtain ⟨h1, h2, -⟩ := met_parts (show metB (1, 2, false, false, 0, 8, 8, false, false) nm fr sec mu _ _ _ _ = true from hM)
  refine toks_cons (wd_tk (w := wCall) (by decide +kernel)) (toks_app ?_ (toks_cons (nmd_tk (metA2 h2)) (toks_cons s40 (toks_app (toks_com hE) (toks_cons s59 (toks_app (toks_com (fun a ha => toks_cons (nmd_tk (har a ha)) toks_nil)) (toks_cons s41 (toks_cons s59 toks_nil))))))))
  by_cases c : nm = []
  ·rw [if_pos c]; exact toks_nil
  ·rw [if_neg c]; exact toks_cons (nmd_tk ((metA1 h1).resolve_left c)) (toks_cons s61 toks_nil)
 ·exact toks_cons (wd_tk (w := wSeal) (by decide +kernel)) (toks_cons s59 toks_nil)
mutual
theorem stL_toks : ∀ (d : Nat) (s : St), s.fa → s.nb → ∀ x ∈ stL d s, Toks x.2
 | d, .mk k nm fr sec mu ex ar bd el, hf, hb, x, hx => by
   rw [St.fa] at hf
   rw [St.nb] at hb
   rw [stL] at hx
   rcases List.mem_cons.1 hx with rfl | hx
   ·exact stH_toks hf.1 hb.1
   by_cases c : 5 ≤ k ∧ k ≤ 8
   ·rw [if_pos c] at hx
    rcases List.mem_append.1 hx with hx | hx
    ·exact stsL_toks (d + 1) bd hf.2.1 hb.2.1 x hx
    rcases List.mem_append.1 hx with hx | hx
    ·by_cases c2 : el.isEmpty = true
     ·rw [if_pos c2] at hx; simp at hx
     ·rw [if_neg c2] at hx
      rcases List.mem_cons.1 hx with rfl | hx
      ·exact toks_cons (sg_tk (by decide +kernel)) (toks_cons (wd_tk (by decide +kernel)) (toks_cons (sg_tk (by decide +kernel)) toks_nil))
      ·exact stsL_toks (d + 1) el hf.2.2 hb.2.2 x hx
    ·rw [List.mem_singleton.1 hx]
     exact toks_cons (sg_tk (by decide +kernel)) toks_nil
   ·rw [if_neg c] at hx; simp at hx
theorem stsL_toks : ∀ (d : Nat) (l : List St), faS l → nbS l → ∀ x ∈ stsL d l, Toks x.2
 | d, [], _, _, x, hx => by rw [stsL] at hx; simp at hx
 | d, s :: r, hf, hb, x, hx => by
   rw [faS] at hf
   rw [nbS] at hb
   rw [stsL] at hx
   rcases List.mem_append.1 hx with hx | hx
   ·exact stL_toks d s hf.1 hb.1 x hx
   ·exact stsL_toks d r hf.2 hb.2 x hx
end
theorem pmT_toks {x : Pm} (hx : pmB x = true) : Toks (pmT x) := by
 obtain ⟨nm, buf, sec, mu⟩ := x
 simp only [pmB, Bool.and_eq_true] at hx
 refine toks_app ?_ (toks_app (toks_sec sec) (toks_cons (nmd_tk hx.1) toks_nil))
 cases mu <;> cases buf <;> cases sec <;> first | exact toks_nil | exact toks_cons (wd_tk (by decide +kernel)) toks_nil
theorem fdL_toks {f : Fd} {a b : Nat} (h : fdC f a = some b) (hb : f.nb) : ∀ x ∈ fdL f, Toks x.2 := by
 obtain ⟨nm, ps, bd, sec, rt⟩ := f
 change (if (nmdB nm && psB ps && rtB sec rt) = true then blkC 40 bd a else none) = some b at h
 have c : (nmdB nm && psB ps && rtB sec rt) = true := Classical.byContradiction (fun c => by rw [if_neg c] at h; cases h)
 rw [if_pos c] at h
 simp only [psB, Bool.and_eq_true, decide_eq_true_eq, List.all_eq_true] at c
 obtain ⟨⟨c1, c2, c3⟩, c4⟩ := c
 intro x hx
 rcases List.mem_cons.1 hx with rfl | hx
 ·exact toks_cons (wd_tk (w := wFn) (by decide +kernel)) (toks_cons (nmd_tk c1) (toks_cons (sg_tk (m := [40]) (by decide +kernel)) (toks_app (toks_com (fun p hp => pmT_toks (c3 p hp))) (toks_cons (sg_tk (m := [41]) (by decide +kernel)) (toks_cons (sg_tk (m := [123]) (by decide +kernel)) toks_nil)))))
 rcases List.mem_append.1 hx with hx | hx
 ·exact stsL_toks 1 bd (blkC_fa _ _ _ _ h) hb.1 x hx
 ·rw [List.mem_singleton.1 hx]
  refine toks_cons (sg_tk (m := [125]) (by decide +kernel)) (toks_app ?_ (toks_cons (sg_tk (m := [59]) (by decide +kernel)) toks_nil))
  unfold rtB at c4
  cases rt with
  | nil => exact toks_nil
  | cons e r =>
   rw [if_neg (by simp)] at c4
   simp only [Bool.and_eq_true, decide_eq_true_eq, List.all_eq_true, List.length_cons] at c4
   exact toks_cons (sg_tk (m := [61]) (by decide +kernel)) (toks_app (toks_sec sec) (toks_ex (c4.2 e (by simp)) (nbL_iff.1 hb.2 e (by simp))))
theorem pgL_toks : ∀ (l : List Fd) (a b : Nat), pgC l a = some b → (∀ f ∈ l, f.nb) → ∀ x ∈ pgL l, Toks x.2
 | [], _, _, _, _, x, hx => by simp [pgL] at hx
 | f :: r, a, b, h, hb, x, hx => by
   rw [pgC] at h
   obtain ⟨y, h1, h2⟩ := bind_parts h
   rcases List.mem_append.1 (show x ∈ fdL f ++ pgL r from hx) with hx | hx
   ·exact fdL_toks h1 (hb f (List.mem_cons_self ..)) x hx
   ·exact pgL_toks r y b h2 (fun g hg => hb g (List.mem_cons_of_mem _ hg)) x hx
end
end Go.Proofs.YtfbjljcmmbdhkaaGreatDoor
