/- Plain: the tokens of a text, over lists of bytes; what stays of them whatever follows, joined, and with more blanks. -/
import Derived.Lib.ParseIntBCases
import Derived.Lib.ItoaNum
import Derived.Lib.Join
import Derived.ProofKit
import Derived.StillTail
import Derived.RegionTactic
namespace Go.Proofs.YtfpoflddnlbpjaaGreatDoor
set_option linter.unusedVariables false
def isL (c : UInt8) : Bool := (decide (97 ≤ c.toNat) && decide (c.toNat ≤ 122)) || decide (c.toNat = 95)
def isD (c : UInt8) : Bool := decide (48 ≤ c.toNat) && decide (c.toNat ≤ 57)
def isLD (c : UInt8) : Bool := isL c || isD c
def isB (c : UInt8) : Bool := decide (c.toNat = 32) || decide (c.toNat = 10)
def wordsL : List (List UInt8) := [[108, 101, 116], [115, 101, 99, 114, 101, 116], [98, 117, 102], [105, 102], [101, 108, 115, 101], [119, 104, 105, 108, 101], [102, 111, 114], [118, 105, 101, 119], [101, 100, 105, 116], [109, 111, 118, 101], [111, 112, 101, 110], [99, 97, 108, 108], [115, 101, 97, 108], [102, 110], [114, 101, 116, 117, 114, 110], [110, 117, 109]]
def signsL : List (List UInt8) := [[40], [41], [123], [125], [91], [93], [44], [59], [61], [35], [46, 46], [43], [45], [42], [42, 94], [47], [37], [38], [124], [94], [60, 60], [62, 62], [62, 62, 62], [60], [60, 36]]
def lsF : List (List UInt8) → List UInt8 → List UInt8 → List UInt8
  | [], b, _ => b
  | x :: xs, b, l => lsF xs (if b.length < x.length ∧ x.isPrefixOf l = true then x else b) l
def ls (l : List UInt8) : List UInt8 := lsF signsL [] l
structure Tk where
  k : Nat
  t : List UInt8
  n : Nat
inductive Rd
  | er (e : Nat)
  | ok (t : Tk) (m : List UInt8)
def isWd (l : List UInt8) : Bool := wordsL.contains l
def nameP (p : List UInt8) : Rd := if 16 < p.length then .er 5 else .ok ⟨if isWd p then 2 else 1, p, 0⟩ p
def numP (p : List UInt8) : Rd := match Lib.parseUintB 64 p with
  | .ok u => if Lib.decDigits u = p then .ok ⟨3, [], u⟩ p else .er 7
  | _ => .er 7
def signP (p : List UInt8) : Rd := if p = [] then .er 7 else .ok ⟨4, p, 0⟩ p
def tok : List UInt8 → Rd
  | [] => .er 7
  | c :: r => if isL c then nameP ((c :: r).takeWhile isLD) else if isD c then numP ((c :: r).takeWhile isD) else signP (ls (c :: r))
inductive Lx
  | er (e a : Nat)
  | ok (l : List (Tk × Nat))
def Lx.pre (x : Tk × Nat) : Lx → Lx
  | .er e a => .er e a
  | .ok l => .ok (x :: l)
def Lx.app (l : List (Tk × Nat)) (x : Lx) : Lx := l.foldr Lx.pre x
def bl (l : List UInt8) : Nat := (l.takeWhile isB).length
def lexN : Nat → List UInt8 → Nat → Lx
  | 0, _, a => .er 0 a
  | f + 1, l, a =>
    if l.drop (bl l) = [] then .ok [(⟨5, [], 0⟩, a + bl l)]
    else match tok (l.drop (bl l)) with
      | .er e => .er e (a + bl l)
      | .ok t m => (lexN f ((l.drop (bl l)).drop m.length) (a + bl l + m.length)).pre (t, a + bl l)
def lexT (l : List UInt8) : Lx := if 16384 < l.length then .er 5 0 else lexN (l.length + 1) l 0
def Tk.piece (t : Tk) : List UInt8 := if t.k = 3 then Lib.decDigits t.n else t.t
theorem takeWhile_pre (p : UInt8 → Bool) (l : List UInt8) : ∃ r, l = l.takeWhile p ++ r ∧ ∀ c r', r = c :: r' → p c = false := by
  refine ⟨l.dropWhile p, (List.takeWhile_append_dropWhile).symm, fun c r' h => ?_⟩
  have := List.head?_dropWhile_not p l
  rw [h] at this
  simpa using this
theorem takeWhile_ext (p : UInt8 → Bool) (m r : List UInt8) (hm : ∀ c ∈ m, p c = true) (hr : ∀ c r', r = c :: r' → p c = false) : (m ++ r).takeWhile p = m := by
  rw [List.takeWhile_append_of_pos hm]
  cases r with
  | nil => simp
  | cons c r' => simp [hr c r' rfl]
theorem takeWhile_mem (p : UInt8 → Bool) (l : List UInt8) : ∀ c ∈ l.takeWhile p, p c = true := by
  induction l with
  | nil => intro c h; simp at h
  | cons d l ih =>
    intro c h
    by_cases hd : p d = true
    · rw [List.takeWhile_cons, if_pos hd, List.mem_cons] at h
      rcases h with rfl | h
      · exact hd
      · exact ih c h
    · rw [List.takeWhile_cons, if_neg hd] at h; simp at h
def SignAt (m l : List UInt8) : Prop := (m = [] ∨ m ∈ signsL) ∧ m <+: l ∧ ∀ x ∈ signsL, x <+: l → x.length ≤ m.length
theorem lsF_at (l : List UInt8) : ∀ (xs : List (List UInt8)) (b : List UInt8), (∀ x ∈ xs, x ∈ signsL) → (b = [] ∨ b ∈ signsL) → b <+: l →
    (lsF xs b l = [] ∨ lsF xs b l ∈ signsL) ∧ lsF xs b l <+: l ∧ b.length ≤ (lsF xs b l).length ∧ ∀ x ∈ xs, x <+: l → x.length ≤ (lsF xs b l).length := by
  intro xs
  induction xs with
  | nil => intro b _ hb hp; exact ⟨hb, hp, Nat.le_refl _, fun x hx => by simp at hx⟩
  | cons x xs ih =>
    intro b hs hb hp
    rw [lsF]
    by_cases hc : b.length < x.length ∧ x.isPrefixOf l = true
    · rw [if_pos hc]
      have hxp : x <+: l := List.isPrefixOf_iff_prefix.1 hc.2
      obtain ⟨a1, a2, a3, a4⟩ := ih x (fun y hy => hs y (by simp [hy])) (Or.inr (hs x (by simp))) hxp
      refine ⟨a1, a2, by omega, fun y hy hyp => ?_⟩
      rcases List.mem_cons.1 hy with rfl | hy
      · exact a3
      · exact a4 y hy hyp
    · rw [if_neg hc]
      obtain ⟨a1, a2, a3, a4⟩ := ih b (fun y hy => hs y (by simp [hy])) hb hp
      refine ⟨a1, a2, a3, fun y hy hyp => ?_⟩
      rcases List.mem_cons.1 hy with rfl | hy
      · have : ¬ b.length < y.length := fun h => hc ⟨h, List.isPrefixOf_iff_prefix.2 hyp⟩
        omega
      · exact a4 y hy hyp
theorem ls_at (l : List UInt8) : SignAt (ls l) l := by
  obtain ⟨a1, a2, _, a4⟩ := lsF_at l signsL [] (fun _ h => h) (Or.inl rfl) (List.nil_prefix)
  exact ⟨a1, a2, a4⟩
theorem prefix_same {a b l : List UInt8} (ha : a <+: l) (hb : b <+: l) (h : a.length = b.length) : a = b := by
  rw [List.prefix_iff_eq_take] at ha hb
  rw [ha, hb, h]
theorem ls_of {m l : List UInt8} (h : SignAt m l) : ls l = m := by
  have h2 := ls_at l
  refine prefix_same h2.2.1 h.2.1 ?_
  have e1 : (ls l).length ≤ m.length := by
    rcases h2.1 with h0 | h0
    · rw [h0]; simp
    · exact h.2.2 _ h0 h2.2.1
  have e2 : m.length ≤ (ls l).length := by
    rcases h.1 with h0 | h0
    · rw [h0]; simp
    · exact h2.2.2 _ h0 h.2.1
  omega
def closB : Bool := signsL.all fun m => signsL.all fun x => !(m.isPrefixOf x && decide (m.length < x.length)) || signsL.contains (x.take (m.length + 1))
theorem clos_all : closB = true := by decide +kernel
theorem clos {m x : List UInt8} (hm : m ∈ signsL) (hx : x ∈ signsL) (hp : m <+: x) (hl : m.length < x.length) : x.take (m.length + 1) ∈ signsL := by
  have h := clos_all
  unfold closB at h
  have h1 := (List.all_eq_true.1 h) m hm
  have h2 := (List.all_eq_true.1 h1) x hx
  have hp' : m.isPrefixOf x = true := List.isPrefixOf_iff_prefix.2 hp
  simpa [hp', hl] using h2
def blankB : Bool := signsL.all fun m => !signsL.contains (m ++ [32]) && !signsL.contains (m ++ [10])
theorem isB_cases {c : UInt8} (h : isB c = true) : c = 32 ∨ c = 10 := by
  unfold isB at h
  simp only [Bool.or_eq_true, decide_eq_true_eq] at h
  rcases h with h | h
  · exact Or.inl (UInt8.toNat_inj.1 h)
  · exact Or.inr (UInt8.toNat_inj.1 h)
def stop (t : Tk) (c : UInt8) : Prop := if t.k ≤ 2 then isLD c = false else if t.k = 3 then isD c = false else t.t ++ [c] ∉ signsL
def TkOk (t : Tk) (m : List UInt8) : Prop :=
  (t.k = 1 ∨ t.k = 2) ∧ t.t = m ∧ t.n = 0 ∧ nameP m = .ok t m ∧ (∀ c ∈ m, isLD c = true) ∧ (∃ c r, m = c :: r ∧ isL c = true) ∨
  t.k = 3 ∧ t.t = [] ∧ numP m = .ok t m ∧ Lib.decDigits t.n = m ∧ t.n < 18446744073709551616 ∧ (∀ c ∈ m, isD c = true) ∧ m ≠ [] ∨
  t.k = 4 ∧ t.t = m ∧ t.n = 0 ∧ m ∈ signsL
theorem isL_LD {c : UInt8} (h : isL c = true) : isLD c = true := by unfold isLD; rw [h]; rfl
theorem isL_D {c : UInt8} (h : isL c = true) : isD c = false := by
  unfold isL at h; unfold isD
  simp only [Bool.or_eq_true, Bool.and_eq_true, decide_eq_true_eq] at h
  simp only [Bool.and_eq_false_iff, decide_eq_false_iff_not]
  omega
theorem isB_LD {c : UInt8} (h : isB c = true) : isLD c = false := by
  rcases isB_cases h with rfl | rfl <;> decide
theorem isLD_B {c : UInt8} (h : isLD c = true) : isB c = false := by
  cases hb : isB c
  · rfl
  · rw [isB_LD hb] at h; simp at h
theorem isD_LD {c : UInt8} (h : isD c = true) : isLD c = true := by unfold isLD; rw [h]; simp
def firstB : Bool := signsL.all fun m => match m with | [] => false | c :: _ => !isL c && !isD c && !isB c
theorem first_all : firstB = true := by decide +kernel
theorem sign_first {c : UInt8} {r : List UInt8} (h : c :: r ∈ signsL) : isL c = false ∧ isD c = false ∧ isB c = false := by
  have h2 := (List.all_eq_true.1 first_all) _ h
  simp only [Bool.and_eq_true, Bool.not_eq_true'] at h2
  exact ⟨h2.1.1, h2.1.2, h2.2⟩
theorem sign_ne {m : List UInt8} (h : m ∈ signsL) : m ≠ [] := by
  rintro rfl
  have h2 := (List.all_eq_true.1 first_all) _ h
  simp at h2
theorem numP_ok {p : List UInt8} {t : Tk} {m : List UInt8} (h : numP p = .ok t m) : m = p ∧ t.k = 3 ∧ t.t = [] ∧ Lib.decDigits t.n = p ∧ t.n < 18446744073709551616 := by
  unfold numP at h
  split at h
  · rename_i u hu
    split at h
    · rename_i hd
      cases h
      exact ⟨rfl, rfl, rfl, hd, by have := Lib.parseUintB_le hu; simp only; omega⟩
    · cases h
  · cases h
theorem nameP_ok {p : List UInt8} {t : Tk} {m : List UInt8} (h : nameP p = .ok t m) : m = p ∧ (t.k = 1 ∨ t.k = 2) ∧ t.t = p ∧ t.n = 0 := by
  unfold nameP at h
  split at h
  · cases h
  · cases h
    refine ⟨rfl, ?_, rfl, rfl⟩
    simp only
    split
    · exact Or.inr rfl
    · exact Or.inl rfl
theorem signP_ok {p : List UInt8} {t : Tk} {m : List UInt8} (h : signP p = .ok t m) : m = p ∧ p ≠ [] ∧ t.k = 4 ∧ t.t = p ∧ t.n = 0 := by
  unfold signP at h
  split at h
  · cases h
  · rename_i hne
    cases h
    exact ⟨rfl, hne, rfl, rfl, rfl⟩
theorem tok_ok {l : List UInt8} {t : Tk} {m : List UInt8} (h : tok l = .ok t m) : TkOk t m ∧ ∃ r, l = m ++ r ∧ ∀ c r', r = c :: r' → stop t c := by
  cases l with
  | nil => cases h
  | cons c r =>
    rw [tok] at h
    by_cases hL : isL c = true
    · rw [if_pos hL] at h
      obtain ⟨rfl, hk, ht, hn⟩ := nameP_ok h
      obtain ⟨q, hq, hs⟩ := takeWhile_pre isLD (c :: r)
      refine ⟨Or.inl ⟨hk, ht, hn, h, takeWhile_mem _ _, ⟨c, r.takeWhile isLD, by rw [List.takeWhile_cons, isL_LD hL]; rfl, hL⟩⟩, q, hq, fun c' r' e => ?_⟩
      unfold stop
      rw [if_pos (by omega)]
      exact hs c' r' e
    · rw [if_neg hL] at h
      by_cases hD : isD c = true
      · rw [if_pos hD] at h
        obtain ⟨rfl, hk, ht, hn, hlt⟩ := numP_ok h
        obtain ⟨q, hq, hs⟩ := takeWhile_pre isD (c :: r)
        refine ⟨Or.inr (Or.inl ⟨hk, ht, h, hn, hlt, takeWhile_mem _ _, by rw [List.takeWhile_cons, hD]; simp⟩), q, hq, fun c' r' e => ?_⟩
        unfold stop
        rw [if_neg (by omega), if_pos hk]
        exact hs c' r' e
      · rw [if_neg hD] at h
        have hA := ls_at (c :: r)
        generalize ls (c :: r) = p at *
        obtain ⟨rfl, hne, hk, ht, hn⟩ := signP_ok h
        have hm : m ∈ signsL := hA.1.resolve_left hne
        obtain ⟨q, hq⟩ := hA.2.1
        refine ⟨Or.inr (Or.inr ⟨hk, ht, hn, hm⟩), q, hq.symm, fun c' r' e => ?_⟩
        unfold stop
        rw [if_neg (by omega), if_neg (by omega), ht]
        intro hin
        have := hA.2.2 _ hin ⟨r', by rw [← hq, e]; simp⟩
        simp at this
        omega
theorem tok_next {t : Tk} {m : List UInt8} (h : TkOk t m) (r : List UInt8) (hr : ∀ c r', r = c :: r' → stop t c) : tok (m ++ r) = .ok t m := by
  rcases h with ⟨hk, ht, hn, hN, hall, c, q, rfl, hL⟩ | ⟨hk, ht, hN, hn, _, hall, hne⟩ | ⟨hk, ht, hn, hm⟩
  · have e : ((c :: q) ++ r).takeWhile isLD = c :: q := takeWhile_ext _ _ _ hall (fun c' r' e => by
      have := hr c' r' e
      unfold stop at this
      rwa [if_pos (by omega)] at this)
    rw [List.cons_append, tok, if_pos hL, ← List.cons_append, e]
    exact hN
  · obtain ⟨c, q, rfl⟩ := List.exists_cons_of_ne_nil hne
    have hD : isD c = true := hall c (by simp)
    have hL : ¬ isL c = true := fun hL => by rw [isL_D hL] at hD; simp at hD
    have e : ((c :: q) ++ r).takeWhile isD = c :: q := takeWhile_ext _ _ _ hall (fun c' r' e => by
      have := hr c' r' e
      unfold stop at this
      rwa [if_neg (by omega), if_pos hk] at this)
    rw [List.cons_append, tok, if_neg hL, if_pos hD, ← List.cons_append, e]
    exact hN
  · obtain ⟨c, q, rfl⟩ := List.exists_cons_of_ne_nil (sign_ne hm)
    obtain ⟨f1, f2, f3⟩ := sign_first hm
    have e : ls ((c :: q) ++ r) = c :: q := ls_of ⟨Or.inr hm, List.prefix_append _ _, fun x hx hxp => by
      rcases Nat.lt_or_ge (c :: q).length x.length with hlt | hge
      · exfalso
        have hp : (c :: q) <+: x := List.prefix_of_prefix_length_le (List.prefix_append _ _) hxp (by omega)
        have hin := clos hm hx hp hlt
        cases r with
        | nil => have := hxp.length_le; simp at this; simp at hlt; omega
        | cons c' r' =>
          have hst := hr c' r' rfl
          unfold stop at hst
          rw [if_neg (by omega), if_neg (by omega), ht] at hst
          apply hst
          have e2 : x.take ((c :: q).length + 1) = (c :: q) ++ [c'] := by
            rw [List.prefix_iff_eq_take] at hxp
            rw [hxp, List.take_take, Nat.min_eq_left (by omega), List.take_append, List.take_of_length_le (by omega)]
            simp
          rw [← e2]
          exact hin
      · exact hge⟩
    rw [List.cons_append, tok, if_neg (by rw [f1]; simp), if_neg (by rw [f2]; simp), ← List.cons_append, e]
    unfold signP
    rw [if_neg (by simp)]
    obtain ⟨k, t', n⟩ := t
    simp only at hk ht hn
    subst hk ht hn
    rfl
theorem TkOk.ne {t : Tk} {m : List UInt8} (h : TkOk t m) : m ≠ [] := by
  rcases h with ⟨_, _, _, _, _, c, q, rfl, _⟩ | ⟨_, _, _, _, _, _, hne⟩ | ⟨_, _, _, hm⟩
  · simp
  · exact hne
  · exact sign_ne hm
theorem TkOk.piece {t : Tk} {m : List UInt8} (h : TkOk t m) : t.piece = m := by
  unfold Tk.piece
  rcases h with ⟨hk, ht, _⟩ | ⟨hk, _, _, hn, _⟩ | ⟨hk, ht, _⟩
  · rw [if_neg (by omega), ht]
  · rw [if_pos hk, hn]
  · rw [if_neg (by omega), ht]
theorem TkOk.k {t : Tk} {m : List UInt8} (h : TkOk t m) : 1 ≤ t.k ∧ t.k ≤ 4 := by
  rcases h with ⟨hk, _⟩ | ⟨hk, _⟩ | ⟨hk, _⟩ <;> omega
theorem TkOk.first {t : Tk} {m : List UInt8} (h : TkOk t m) : ∃ c r, m = c :: r ∧ isB c = false := by
  rcases h with ⟨_, _, _, _, hall, c, q, rfl, _⟩ | ⟨_, _, _, _, _, hall, hne⟩ | ⟨_, _, _, hm⟩
  · exact ⟨c, q, rfl, isLD_B (hall c (by simp))⟩
  · obtain ⟨c, q, rfl⟩ := List.exists_cons_of_ne_nil hne
    exact ⟨c, q, rfl, isLD_B (isD_LD (hall c (by simp)))⟩
  · obtain ⟨c, q, rfl⟩ := List.exists_cons_of_ne_nil (sign_ne hm)
    exact ⟨c, q, rfl, (sign_first hm).2.2⟩
theorem bl_app (b r : List UInt8) (hb : ∀ c ∈ b, isB c = true) (hr : ∀ c r', r = c :: r' → isB c = false) : bl (b ++ r) = b.length ∧ (b ++ r).drop (bl (b ++ r)) = r := by
  have e : (b ++ r).takeWhile isB = b := takeWhile_ext _ _ _ hb hr
  unfold bl
  rw [e]
  exact ⟨rfl, by simp⟩
theorem bl_split (l : List UInt8) : ∃ b r, l = b ++ r ∧ (∀ c ∈ b, isB c = true) ∧ b.length = bl l ∧ l.drop (bl l) = r ∧ ∀ c r', r = c :: r' → isB c = false := by
  obtain ⟨r, h1, h2⟩ := takeWhile_pre isB l
  refine ⟨_, r, h1, takeWhile_mem _ _, rfl, ?_, h2⟩
  have := (bl_app (l.takeWhile isB) r (takeWhile_mem _ _) h2).2
  rwa [← h1] at this
theorem lex_end (f : Nat) (b : List UInt8) (hb : ∀ c ∈ b, isB c = true) (a : Nat) : lexN (f + 1) b a = .ok [(⟨5, [], 0⟩, a + b.length)] := by
  have h := bl_app b [] hb (by simp)
  rw [List.append_nil] at h
  rw [lexN, if_pos h.2, h.1]
theorem lex_tok (f : Nat) (b : List UInt8) (hb : ∀ c ∈ b, isB c = true) {t : Tk} {m : List UInt8} (h : TkOk t m) (r : List UInt8) (hr : ∀ c r', r = c :: r' → stop t c) (a : Nat) :
    lexN (f + 1) (b ++ (m ++ r)) a = (lexN f r (a + b.length + m.length)).pre (t, a + b.length) := by
  obtain ⟨c, q, hm, hc⟩ := h.first
  have hb2 := bl_app b (m ++ r) hb (fun c' r' e => by rw [hm, List.cons_append] at e; cases e; exact hc)
  rw [lexN, if_neg (by rw [hb2.2, hm]; simp), hb2.2, hb2.1, tok_next h r hr]
  simp
theorem lex_inv {f : Nat} {l : List UInt8} {a : Nat} {T : List (Tk × Nat)} (h : lexN f l a = .ok T) :
    ∃ f', f = f' + 1 ∧ ((∀ c ∈ l, isB c = true) ∧ T = [(⟨5, [], 0⟩, a + l.length)] ∨
      ∃ b t m r T', l = b ++ (m ++ r) ∧ (∀ c ∈ b, isB c = true) ∧ TkOk t m ∧ (∀ c r', r = c :: r' → stop t c) ∧ lexN f' r (a + b.length + m.length) = .ok T' ∧ T = (t, a + b.length) :: T') := by
  cases f with
  | zero => cases h
  | succ f =>
    refine ⟨f, rfl, ?_⟩
    obtain ⟨b, r, hl, hb, hbl, hd, hr⟩ := bl_split l
    rw [lexN, hd, ← hbl] at h
    by_cases h0 : r = []
    · rw [if_pos h0] at h
      cases h
      subst h0
      rw [List.append_nil] at hl
      exact Or.inl ⟨by rw [hl]; exact hb, by rw [hl]⟩
    · rw [if_neg h0] at h
      split at h
      · cases h
      · rename_i t m htok
        obtain ⟨hok, q, hq, hs⟩ := tok_ok htok
        rw [hq, List.drop_left] at h
        cases hx : lexN f q (a + b.length + m.length) with
        | er e a' => rw [hx] at h; cases h
        | ok T' =>
          rw [hx] at h
          cases h
          exact Or.inr ⟨b, t, m, q, T', by rw [hl, hq], hb, hok, hs, hx, rfl⟩
theorem lex_ne {f : Nat} {l : List UInt8} {a : Nat} {T : List (Tk × Nat)} (h : lexN f l a = .ok T) : T ≠ [] := by
  obtain ⟨f', _, h | h⟩ := lex_inv h
  · rw [h.2]; simp
  · obtain ⟨b, t, m, r, T', _, _, _, _, _, e⟩ := h; rw [e]; simp
def pcs (l : List Tk) : List (List UInt8) := l.flatMap fun t => if 1 ≤ t.k ∧ t.k ≤ 4 then [t.piece] else []
def joinT (l : List Tk) : List UInt8 := Lib.join (pcs l) [32]
def bare (T : List (Tk × Nat)) : List Tk := T.map (·.1)
def nmdB (l : List UInt8) : Bool := match lexT l with
  | .ok ((t, _) :: _) => decide (t.k = 1) && decide (t.t = l)
  | _ => false
end Go.Proofs.YtfpoflddnlbpjaaGreatDoor

/- Plain: expressions; which may be; their tokens; what is read; what is told is read again, what is read is told. -/
namespace Go.Proofs.YtfpoflddnlbpjaaGreatDoor
set_option linter.unusedVariables false
inductive Xp
  | mk (k n : Nat) (s : List UInt8) (o : Nat) (l : List Xp)
def Xp.k : Xp → Nat | .mk k _ _ _ _ => k
def Xp.n : Xp → Nat | .mk _ n _ _ _ => n
def Xp.s : Xp → List UInt8 | .mk _ _ s _ _ => s
def Xp.o : Xp → Nat | .mk _ _ _ o _ => o
def Xp.l : Xp → List Xp | .mk _ _ _ _ l => l
instance : Inhabited Xp := ⟨.mk 0 0 [] 0 []⟩
def x0 : Xp := .mk 0 0 [] 0 []
def opsL : List (List UInt8) := [[], [43], [45], [60, 60], [60, 36], [60], [94], [62, 62], [62, 62, 62], [124], [38], [42], [42, 94], [47], [37]]
def opS (o : Nat) : List UInt8 := opsL.getD o []
def sg (t : List UInt8) : Tk := ⟨4, t, 0⟩
def nmT (t : List UInt8) : Tk := ⟨1, t, 0⟩
def fitB (k n : Nat) (s : List UInt8) (o m : Nat) : Bool :=
  if k = 1 then decide (s = []) && decide (o = 0) && decide (m = 0)
  else if k = 2 ∨ k = 4 then decide (n = 0) && nmdB s && decide (o = 0) && decide (m = 0)
  else if k = 5 then decide (n = 0) && nmdB s && decide (o = 0) && decide (m = 1)
  else if k = 3 then decide (n = 0) && decide (s = []) && decide (opS o ≠ []) && decide (m = 2)
  else false
def mayB : Nat → Xp → Bool
  | 0, _ => false
  | d + 1, .mk k n s o l => fitB k n s o l.length && l.all (mayB d)
def tellF : Nat → Xp → List Tk
  | 0, _ => []
  | d + 1, .mk k n s o l =>
    if k = 1 then [⟨3, [], n⟩]
    else if k = 2 then [nmT s]
    else if k = 4 then [sg [35], nmT s]
    else if k = 5 then nmT s :: sg [91] :: (tellF d (l.getD 0 x0) ++ [sg [93]])
    else sg [40] :: (tellF d (l.getD 0 x0) ++ sg (opS o) :: (tellF d (l.getD 1 x0) ++ [sg [41]]))
inductive Ro
  | er (e p : Nat)
  | ok (x : Xp) (p : Nat)
def nameT (t : Tk) : Bool := decide (t.k = 1) && decide (t.n = 0) && nmdB t.t
def opOf (t : Tk) : Nat := if t.k = 4 ∧ t.n = 0 ∧ t.t ≠ [] then (opsL.findIdx? (fun x => decide (x = t.t))).getD 0 else 0
instance : DecidableEq Tk := fun a b => match a, b with
  | ⟨k, t, n⟩, ⟨k', t', n'⟩ => if h : k = k' ∧ t = t' ∧ n = n' then isTrue (by obtain ⟨rfl, rfl, rfl⟩ := h; rfl) else isFalse (fun e => h (by cases e; exact ⟨rfl, rfl, rfl⟩))
def rdE : Nat → List Tk → Nat → Ro
  | 0, _, p => .er 70 p
  | d + 1, T, p =>
    match T[p]? with
    | none => .er 7 p
    | some t =>
      if t.k = 3 then (if t.t = [] then .ok (.mk 1 t.n [] 0 []) (p + 1) else .er 7 p)
      else if t = sg [35] then
        (match T[p + 1]? with
        | none => .er 7 (p + 1)
        | some u => if nameT u = true then .ok (.mk 4 0 u.t 0 []) (p + 2) else .er 7 (p + 1))
      else if t = sg [40] then
        (match rdE d T (p + 1) with
        | .er e q => .er e q
        | .ok a q =>
          match T[q]? with
          | none => .er 7 q
          | some u => if opOf u = 0 then .er 7 q else
            match rdE d T (q + 1) with
            | .er e r => .er e r
            | .ok b r => if T[r]? = some (sg [41]) then .ok (.mk 3 0 [] (opOf u) [a, b]) (r + 1) else .er 7 r)
      else if nameT t = true then
        (if T[p + 1]? = some (sg [91]) then
          (match rdE d T (p + 2) with
          | .er e q => .er e q
          | .ok a q => if T[q]? = some (sg [93]) then .ok (.mk 5 0 t.t 0 [a]) (q + 1) else .er 7 q)
        else .ok (.mk 2 0 t.t 0 []) (p + 1))
      else .er 7 p
theorem opOf_sg (o : Nat) (h : opS o ≠ []) : opOf (sg (opS o)) = o := by
  have ho : o < 15 := by
    rcases Nat.lt_or_ge o 15 with h1 | h1
    · exact h1
    · exact absurd (by unfold opS; rw [List.getD_eq_getElem?_getD, List.getElem?_eq_none (by simp [opsL]; omega)]; rfl) h
  have hc : o = 0 ∨ o = 1 ∨ o = 2 ∨ o = 3 ∨ o = 4 ∨ o = 5 ∨ o = 6 ∨ o = 7 ∨ o = 8 ∨ o = 9 ∨ o = 10 ∨ o = 11 ∨ o = 12 ∨ o = 13 ∨ o = 14 := by omega
  rcases hc with rfl | rfl | rfl | rfl | rfl | rfl | rfl | rfl | rfl | rfl | rfl | rfl | rfl | rfl | rfl <;> first | (exact absurd rfl h) | decide +kernel
theorem opOf_ne {t : Tk} (h : opOf t ≠ 0) : opOf t < 15 ∧ t = sg (opS (opOf t)) ∧ opS (opOf t) ≠ [] := by
  unfold opOf at h ⊢
  by_cases hc : t.k = 4 ∧ t.n = 0 ∧ t.t ≠ []
  · rw [if_pos hc] at h ⊢
    obtain ⟨hk, hn, ht⟩ := hc
    cases hf : opsL.findIdx? (fun x => decide (x = t.t)) with
    | none => rw [hf] at h; exact absurd rfl h
    | some i =>
      obtain ⟨hi, hp, _⟩ := List.findIdx?_eq_some_iff_getElem.1 hf
      have he : opsL[i] = t.t := by simpa using hp
      have hS : opS i = t.t := by unfold opS; rw [List.getD_eq_getElem?_getD, List.getElem?_eq_getElem hi]; exact he
      show i < 15 ∧ t = sg (opS i) ∧ opS i ≠ []
      rw [hS]
      refine ⟨by simpa [opsL] using hi, ?_, ht⟩
      obtain ⟨k, x, n⟩ := t
      simp only at hk hn
      subst hk hn
      rfl
  · rw [if_neg hc] at h; exact absurd rfl h
theorem fit5 {n : Nat} {s : List UInt8} {o m : Nat} (h : fitB 5 n s o m = true) : n = 0 ∧ nmdB s = true ∧ o = 0 ∧ m = 1 := by simpa [fitB, and_assoc] using h
theorem fit3 {n : Nat} {s : List UInt8} {o m : Nat} (h : fitB 3 n s o m = true) : n = 0 ∧ s = [] ∧ opS o ≠ [] ∧ m = 2 := by simpa [fitB, and_assoc] using h
theorem fit_k {k n : Nat} {s : List UInt8} {o m : Nat} (h : fitB k n s o m = true) : k = 1 ∨ k = 2 ∨ k = 3 ∨ k = 4 ∨ k = 5 := by
  unfold fitB at h
  by_cases h1 : k = 1
  · exact .inl h1
  · rw [if_neg h1] at h
    by_cases h2 : k = 2 ∨ k = 4
    · omega
    · rw [if_neg h2] at h
      by_cases h5 : k = 5
      · omega
      · rw [if_neg h5] at h
        by_cases h3 : k = 3
        · omega
        · rw [if_neg h3] at h; cases h
theorem seg_cons {T : List Tk} {p q : Nat} {t : Tk} (h : T[p]? = some t) (hq : p + 1 ≤ q) : (T.drop p).take (q - p) = t :: (T.drop (p + 1)).take (q - (p + 1)) := by
  obtain ⟨hp, he⟩ := List.getElem?_eq_some_iff.1 h
  rw [List.drop_eq_getElem_cons hp, show q - p = (q - (p + 1)) + 1 by omega, List.take_succ_cons, he]
theorem seg_split {T : List Tk} {p q r : Nat} (h1 : p ≤ q) (h2 : q ≤ r) : (T.drop p).take (r - p) = (T.drop p).take (q - p) ++ (T.drop q).take (r - q) := by
  rw [show r - p = (q - p) + (r - q) by omega, List.take_add, List.drop_drop, show p + (q - p) = q by omega]
theorem at_lt {T : List Tk} {p : Nat} {t : Tk} (h : T[p]? = some t) : p < T.length := (List.getElem?_eq_some_iff.1 h).1
theorem name_of {t : Tk} (h : nameT t = true) : t = nmT t.t ∧ nmdB t.t = true := by
  simp only [nameT, Bool.and_eq_true, decide_eq_true_eq] at h
  obtain ⟨⟨h1, h2⟩, h3⟩ := h
  refine ⟨?_, h3⟩
  obtain ⟨k, t, n⟩ := t
  simp only at h1 h2
  subst h1 h2
  rfl
theorem tell_rd : ∀ (d : Nat) (T : List Tk) (p : Nat) (x : Xp) (q : Nat), rdE d T p = .ok x q → mayB d x = true ∧ p < q ∧ q ≤ T.length ∧ (T.drop p).take (q - p) = tellF d x := by
  intro d
  induction d with
  | zero => intro T p x q h; simp [rdE] at h
  | succ d ih =>
    intro T p x q h
    rw [rdE] at h
    cases h0 : T[p]? with
    | none => simp [h0] at h
    | some t =>
      simp only [h0] at h
      have hp := at_lt h0
      by_cases c3 : t.k = 3
      · rw [if_pos c3] at h
        by_cases ct : t.t = []
        · rw [if_pos ct] at h
          cases h
          refine ⟨by simp [mayB, fitB], by omega, by omega, ?_⟩
          rw [seg_cons h0 (by omega), Nat.sub_self, List.take_zero]
          obtain ⟨k, s, n⟩ := t
          simp only at c3 ct
          subst c3 ct
          rfl
        · rw [if_neg ct] at h; cases h
      · rw [if_neg c3] at h
        by_cases c35 : t = sg [35]
        · rw [if_pos c35] at h
          cases h1 : T[p + 1]? with
          | none => simp [h1] at h
          | some u =>
            simp only [h1] at h
            have hp1 := at_lt h1
            by_cases cn : nameT u = true
            · rw [if_pos cn] at h
              cases h
              obtain ⟨e1, e2⟩ := name_of cn
              refine ⟨by simp [mayB, fitB, e2], by omega, by omega, ?_⟩
              rw [seg_cons h0 (by omega), seg_cons h1 (by omega), show p + 2 - (p + 1 + 1) = 0 by omega, List.take_zero, c35]
              show [sg [35], u] = [sg [35], nmT u.t]
              rw [← e1]
            · rw [if_neg cn] at h; cases h
        · rw [if_neg c35] at h
          by_cases c40 : t = sg [40]
          · rw [if_pos c40] at h
            cases ha : rdE d T (p + 1) with
            | er e q' => simp [ha] at h
            | ok a q1 =>
              simp only [ha] at h
              obtain ⟨a1, a2, a3, a4⟩ := ih T (p + 1) a q1 ha
              cases h1 : T[q1]? with
              | none => simp [h1] at h
              | some u =>
                simp only [h1] at h
                by_cases co : opOf u = 0
                · rw [if_pos co] at h; cases h
                · rw [if_neg co] at h
                  obtain ⟨o1, o2, o3⟩ := opOf_ne co
                  cases hb : rdE d T (q1 + 1) with
                  | er e q' => simp [hb] at h
                  | ok b r =>
                    simp only [hb] at h
                    obtain ⟨b1, b2, b3, b4⟩ := ih T (q1 + 1) b r hb
                    by_cases cr : T[r]? = some (sg [41])
                    · rw [if_pos cr] at h
                      cases h
                      have hr := at_lt cr
                      refine ⟨by simp [mayB, fitB, a1, b1, o3], by omega, by omega, ?_⟩
                      rw [seg_cons h0 (by omega), seg_split (show p + 1 ≤ q1 by omega) (show q1 ≤ r + 1 by omega), a4, seg_cons h1 (by omega), seg_split (show q1 + 1 ≤ r by omega) (show r ≤ r + 1 by omega), b4, seg_cons cr (by omega), Nat.sub_self, List.take_zero, c40]
                      show _ = sg [40] :: (tellF d a ++ sg (opS (opOf u)) :: (tellF d b ++ [sg [41]]))
                      rw [← o2]
                    · rw [if_neg cr] at h; cases h
          · rw [if_neg c40] at h
            by_cases cn : nameT t = true
            · rw [if_pos cn] at h
              obtain ⟨e1, e2⟩ := name_of cn
              by_cases c91 : T[p + 1]? = some (sg [91])
              · rw [if_pos c91] at h
                have hp1 := at_lt c91
                cases ha : rdE d T (p + 2) with
                | er e q' => simp [ha] at h
                | ok a q1 =>
                  simp only [ha] at h
                  obtain ⟨a1, a2, a3, a4⟩ := ih T (p + 2) a q1 ha
                  by_cases cr : T[q1]? = some (sg [93])
                  · rw [if_pos cr] at h
                    cases h
                    have hr := at_lt cr
                    refine ⟨by simp [mayB, fitB, a1, e2], by omega, by omega, ?_⟩
                    rw [seg_cons h0 (by omega), seg_cons c91 (by omega), seg_split (show p + 1 + 1 ≤ q1 by omega) (show q1 ≤ q1 + 1 by omega), show p + 1 + 1 = p + 2 from rfl, a4, seg_cons cr (by omega), Nat.sub_self, List.take_zero]
                    show _ = nmT t.t :: sg [91] :: (tellF d a ++ [sg [93]])
                    rw [← e1]
                  · rw [if_neg cr] at h; cases h
              · rw [if_neg c91] at h
                cases h
                refine ⟨by simp [mayB, fitB, e2], by omega, by omega, ?_⟩
                rw [seg_cons h0 (by omega), Nat.sub_self, List.take_zero]
                show [t] = [nmT t.t]
                rw [← e1]
            · rw [if_neg cn] at h; cases h
end Go.Proofs.YtfpoflddnlbpjaaGreatDoor

/- A region that draws its order, with reads that may be taken first as long as a fact on the world holds: for whatever program. -/
namespace Go.Proofs.YtfpoflddnlbpjaaGreatDoor
open Go Go.ChangeShapes Go.WideShapes Go.ChangeAt Go.RowKit
set_option linter.unusedVariables false
section
variable {P : Program} {md : Region.Mode} {ops : Array Oper} {Q : Exit → Act → World → Prop} {F : World → Prop} {st : Nat}
def YF (P : Program) (ops : Array Oper) (F : World → Prop) (o : Oper) (v : Value) (a : Act) : Prop :=
  (Region.wanted o (yielded ops a.tmps) = true ∧ ∀ w, F w → (execOp a.eval o).run P w = .ok (.value v) w) ∨ (Region.wanted o (yielded ops a.tmps) = false ∧ v = undef)
theorem YF.same {o : Oper} {v : Value} {a a' : Act} (h : YF P ops F o v a) (he : execOp a'.eval o = execOp a.eval o) (hw : Region.wanted o (yielded ops a'.tmps) = Region.wanted o (yielded ops a.tmps)) : YF P ops F o v a' := by
  unfold YF; rw [he, hw]; exact h
theorem YF.op {i : Nat} {o : Oper} {v : Value} {a : Act} {w : World} {K : Act → World → Prop} (hi : ops[i]? = some o) (h : YF P ops F o v a) (hF : F w) (hk : K (a.put o.dst v) w) : wpOp P ops Q i K a w := by
  unfold wpOp
  simp only [hi]
  rcases h with ⟨hw, hv⟩ | ⟨hw, rfl⟩
  · rw [if_pos hw]; left; unfold Oper.wp; rw [hv w hF]; exact hk
  · rw [if_neg (by rw [hw]; exact Bool.false_ne_true)]; exact hk
theorem YF.past {j : Nat} {oi oj : Oper} {v : Value} (hj : ops[j]? = some oj) (hap : oi.apart ops oj = true) (hsi : ∀ cs b, oi.op ≠ .select cs b) (hsj : ∀ cs b, oj.op ≠ .select cs b)
    (hQ : ∀ c a w, Q (.panic c) (a.put oi.dst v) w → Q (.panic c) a w) {K : Act → World → Prop} {a : Act} {w : World} (hy : YF P ops F oi v a) (h : wpOp P ops Q j K (a.put oi.dst v) w) :
    wpOp P ops Q j (fun a' w' => YF P ops F oi v a' ∧ K (a'.put oi.dst v) w') a w := by
  obtain ⟨h1, h2, h3⟩ := Oper.apart_spec hap
  have kp : ∀ b, YF P ops F oi v b → ∀ u, YF P ops F oi v (b.put oj.dst u) := fun b hb u => hb.same (execOp_put oi hsi b oj.dst u h3) (wanted_put oi b oj.dst u h3)
  have both : ∀ u w', K ((a.put oi.dst v).put oj.dst u) w' → YF P ops F oi v (a.put oj.dst u) ∧ K ((a.put oj.dst u).put oi.dst v) w' := fun u w' hk => ⟨kp a hy u, by rw [← Act.put_comm a v u h2]; exact hk⟩
  unfold wpOp at h ⊢
  simp only [hj] at h ⊢
  rw [wanted_put oj a oi.dst v h1] at h
  by_cases hw : Region.wanted oj (yielded ops a.tmps) = true
  · rw [if_pos hw] at h ⊢
    rcases h with h | ⟨hk, hl⟩
    · left
      unfold Oper.wp at h ⊢
      rw [execOp_put oj hsj a oi.dst v h1] at h
      cases hr : (execOp a.eval oj).run P w with
      | ok n w' =>
        rw [hr] at h
        cases n <;> simp only [Oper.upon] at h ⊢
        case value u => exact both _ _ h
        case skip => exact both _ _ h
        case defer d => exact ⟨kp { a with defers := d :: a.defers } (hy.same rfl rfl) _, by rw [← Act.put_comm _ v undef h2, ← Act.put_defers]; exact h⟩
        case enter f args => exact Calls.mono h fun e w'' he => by
                                cases e with
                                | returned u => exact both _ _ he
                                | panicked c => exact hQ _ _ _ he
                                | outgrown => exact he
        case row row args => exact Rows.mono h fun u w'' he => both _ _ he
      | halt x w' =>
        rw [hr] at h
        cases x <;> simp only [Oper.upon] at h ⊢
        case panic u => exact hQ _ _ _ h
    · right
      exact ⟨by unfold Oper.asks at hk ⊢; rw [execOp_put oj hsj a oi.dst v h1] at hk; exact hk, hl⟩
  · rw [if_neg hw] at h ⊢
    exact both _ _ h
def wpAnyF (P : Program) (md : Region.Mode) (ops : Array Oper) (Q : Exit → Act → World → Prop) (F : World → Prop) (st : Nat) : Nat → Array Bool → Act → World → Prop
  | 0, L, a, w => Region.ready md ops L = [] ∧ Q .normal a w
  | f + 1, L, a, w => (Region.ready md ops L = [] → Q .normal a w) ∧ ∀ i ∈ Region.ready md ops L, wpOp P ops Q i (fun a' w' => ((L.setIfInBounds i true).getD st true = false → F w') ∧ wpAnyF P md ops Q F st f (L.setIfInBounds i true) a' w') a w
theorem wpAny_of_F : ∀ (f : Nat) (L : Array Bool) (a : Act) (w : World), wpAnyF P md ops Q F st f L a w → wpAny P md ops Q f L a w
  | 0, _, _, _, h => h
  | f + 1, _, _, _, h => ⟨h.1, fun i hi => wpOp_mono (fun a' w' hk => wpAny_of_F f _ a' w' hk.2) (h.2 i hi)⟩
theorem wpAnyF_first {i : Nat} {oi : Oper} {v : Value} (hi : ops[i]? = some oi) (hsel : ∀ (j : Nat) (o : Oper) cs b, ops[j]? = some o → o.op ≠ .select cs b) (hQ : ∀ c a w, Q (.panic c) (a.put oi.dst v) w → Q (.panic c) a w)
    (hst : Region.waitsFor md ops st i = true) : ∀ (f : Nat) (L : Array Bool) (a : Act) (w : World),
      (∀ j oj, ops[j]? = some oj → j ≠ i → L.getD j true = false → (∀ e ∈ oj.after, Region.binds md e = true → e.on ≠ i) → oi.apart ops oj = true) →
      i ∈ Region.ready md ops L → L.getD st true = false → YF P ops F oi v a → F w → wpAnyF P md ops Q F st f (L.setIfInBounds i true) (a.put oi.dst v) w → wpAnyF P md ops Q F st (f + 1) L a w := by
  obtain ⟨os, hos, es, hes, hbs, hon⟩ := Region.waitsFor_spec hst
  -- who waits for i is not ready as long as i is not listed
  have away : ∀ (L : Array Bool) (j : Nat) (oj : Oper), i ∈ Region.ready md ops L → j ∈ Region.ready md ops L → ops[j]? = some oj → ∀ e ∈ oj.after, Region.binds md e = true → e.on ≠ i := fun L j oj hir hjr ho e he hb heq => by
    obtain ⟨_, o', ho', hall⟩ := mem_ready.1 hjr
    obtain rfl : o' = oj := Option.some.inj (ho'.symm.trans ho)
    have h1 := hall e he hb
    have h0 := (mem_ready.1 hir).1
    rw [heq] at h1
    rcases Nat.lt_or_ge i L.size with h' | h'
    · simp [h'] at h0 h1; rw [h0] at h1; cases h1
    · simp [Array.getElem?_eq_none h'] at h1
  intro f
  induction f with
  | zero =>
    intro L a w hfree hr hun hy hF H
    refine ⟨fun h0 => (by rw [h0] at hr; cases hr), fun j hj => ?_⟩
    by_cases hji : j = i
    · subst hji; exact hy.op hi hF ⟨fun _ => hF, H⟩
    · have := ready_mono hj hji
      rw [H.1] at this
      cases this
  | succ f ih =>
    intro L a w hfree hr hun hy hF H
    refine ⟨fun h0 => (by rw [h0] at hr; cases hr), fun j hj => ?_⟩
    by_cases hji : j = i
    · subst hji; exact hy.op hi hF ⟨fun _ => hF, H⟩
    · obtain ⟨hjun, oj, hoj, _⟩ := mem_ready.1 hj
      have hno := away L j oj hr hj hoj
      have hjs : j ≠ st := fun e => by
        subst e
        obtain rfl : os = oj := Option.some.inj (hos.symm.trans hoj)
        exact hno es hes hbs hon
      have h1 := YF.past hoj (hfree j oj hoj hji hjun hno) (fun cs b => hsel i oi cs b hi) (fun cs b => hsel j oj cs b hoj) hQ hy (H.2 j (ready_mono hj hji))
      have hfree' : ∀ k ok, ops[k]? = some ok → k ≠ i → (L.setIfInBounds j true).getD k true = false → (∀ e ∈ ok.after, Region.binds md e = true → e.on ≠ i) → oi.apart ops ok = true := fun k ok hk hki hu hn => by
        refine hfree k ok hk hki ?_ hn
        by_cases hjk : j = k
        · subst hjk; exact hjun
        · rw [getD_set_ne true hjk] at hu; exact hu
      have hunj : (L.setIfInBounds j true).getD st true = false := by rw [getD_set_ne true hjs]; exact hun
      refine wpOp_mono (fun a' w' h3 => ?_) h1
      obtain ⟨hy', hC, hK⟩ := h3
      rw [Array.setIfInBounds_comm _ _ (Ne.symm hji)] at hC hK
      have hF' : F w' := hC (by
        have his : i ≠ st := fun e => by
          subst e
          have := (mem_ready.1 hr).2
          obtain ⟨o', ho', hall⟩ := this
          obtain rfl : o' = os := Option.some.inj (ho'.symm.trans hos)
          have h1 := hall es hes hbs
          rw [hon] at h1
          rcases Nat.lt_or_ge i L.size with h' | h'
          · simp [h'] at hun h1; rw [hun] at h1; cases h1
          · simp [Array.getElem?_eq_none h'] at h1
        rw [getD_set_ne true his]; exact hunj)
      exact ⟨fun _ => hF', ih _ a' w' hfree' (ready_mono hr (Ne.symm hji)) hunj hy' hF' hK⟩
theorem wpAnyF_take {i : Nat} {oi : Oper} {f : Nat} {L : Array Bool} {a : Act} {w : World} (hi : ops[i]? = some oi) (hs : Region.noSelect ops = true) (hf : Region.free md ops L i = true) (hr : (Region.ready md ops L).contains i = true)
    (hst : Region.waitsFor md ops st i = true) (hun : L.getD st true = false) (hQ : ∀ v c a w, Q (.panic c) (a.put oi.dst v) w → Q (.panic c) a w) (hF : F w)
    (h : ∀ K : Act → Prop, (∀ a', wpAnyF P md ops Q F st f (L.setIfInBounds i true) a' w → K a') → ∃ v, YF P ops F oi v a ∧ K (a.put oi.dst v)) : wpAnyF P md ops Q F st (f + 1) L a w := by
  obtain ⟨v, hy, hk⟩ := h _ (fun _ h => h)
  exact wpAnyF_first hi (Region.noSelect_spec hs) (hQ v) hst f L a w (Region.free_spec hi hf) (by simpa using hr) hun hy hF hk
theorem wpAnyF_one {k : Nat} {f : Nat} {L : Array Bool} {a : Act} {w : World} (hr : Region.ready md ops L = [k]) (h : wpOp P ops Q k (fun a' w' => ((L.setIfInBounds k true).getD st true = false → F w') ∧ wpAnyF P md ops Q F st f (L.setIfInBounds k true) a' w') a w) : wpAnyF P md ops Q F st (f + 1) L a w :=
  ⟨fun h0 => (by rw [hr] at h0; cases h0), fun i hi => by
    rw [hr] at hi
    have e : i = k := by simpa using hi
    subst e
    exact h⟩
theorem wpAnyF_done {f : Nat} {L : Array Bool} {a : Act} {w : World} (hr : Region.ready md ops L = []) (h : Q .normal a w) : wpAnyF P md ops Q F st f L a w := by
  cases f with
  | zero => exact ⟨hr, h⟩
  | succ f => exact ⟨fun _ => h, fun i hi => by rw [hr] at hi; cases hi⟩
theorem region_F {id : Nat} {l : List Oper} {a : Act} {w : World} (F : World → Prop) (st : Nat) (hm : P.follows .mixedOrders = true) (h : wpAnyF P .any l.toArray Q F st l.toArray.size (Array.replicate l.toArray.size false) a w.drew) : (Code.region id l.toArray true).wp P Q a w :=
  wp_region_any hm (wpAny_of_F _ _ _ _ h)
def OnlyN (Q : Exit → Act → World → Prop) (e : Exit) (a : Act) (w : World) : Prop := e = .normal ∧ Q .normal a w
theorem onlyN_panic {Q : Exit → Act → World → Prop} (x : Option Tmp) : ∀ (v : Value) (c : List PanicEntry) (a : Act) (w : World), OnlyN Q (.panic c) (a.put x v) w → OnlyN Q (.panic c) a w := fun _ _ _ _ h => by cases h.1
end
end Go.Proofs.YtfpoflddnlbpjaaGreatDoor

namespace Go.Proofs.YtfpoflddnlbpjaaGreatDoor
open Go Go.ChangeShapes Go.WideShapes Go.ChangeAt Go.RowKit
set_option linter.unusedVariables false
section
variable {P : Program} {md : Region.Mode} {ops : Array Oper} {Q : Exit → Act → World → Prop} {F : World → Prop}
def wpAnyK (P : Program) (md : Region.Mode) (ops : Array Oper) (Q : Exit → Act → World → Prop) (F : World → Prop) : Nat → Array Bool → Act → World → Prop
  | 0, L, a, w => Region.ready md ops L = [] ∧ Q .normal a w
  | f + 1, L, a, w => (Region.ready md ops L = [] → Q .normal a w) ∧ ∀ i ∈ Region.ready md ops L, wpOp P ops Q i (fun a' w' => F w' ∧ wpAnyK P md ops Q F f (L.setIfInBounds i true) a' w') a w
theorem wpAny_of_K : ∀ (f : Nat) (L : Array Bool) (a : Act) (w : World), wpAnyK P md ops Q F f L a w → wpAny P md ops Q f L a w
  | 0, _, _, _, h => h
  | f + 1, _, _, _, h => ⟨h.1, fun i hi => wpOp_mono (fun a' w' hk => wpAny_of_K f _ a' w' hk.2) (h.2 i hi)⟩
theorem wpAnyK_first {i : Nat} {oi : Oper} {v : Value} (hi : ops[i]? = some oi) (hsel : ∀ (j : Nat) (o : Oper) cs b, ops[j]? = some o → o.op ≠ .select cs b) (hQ : ∀ c a w, Q (.panic c) (a.put oi.dst v) w → Q (.panic c) a w) : ∀ (f : Nat) (L : Array Bool) (a : Act) (w : World),
      (∀ j oj, ops[j]? = some oj → j ≠ i → L.getD j true = false → (∀ e ∈ oj.after, Region.binds md e = true → e.on ≠ i) → oi.apart ops oj = true) →
      i ∈ Region.ready md ops L → YF P ops F oi v a → F w → wpAnyK P md ops Q F f (L.setIfInBounds i true) (a.put oi.dst v) w → wpAnyK P md ops Q F (f + 1) L a w := by
  have away : ∀ (L : Array Bool) (j : Nat) (oj : Oper), i ∈ Region.ready md ops L → j ∈ Region.ready md ops L → ops[j]? = some oj → ∀ e ∈ oj.after, Region.binds md e = true → e.on ≠ i := fun L j oj hir hjr ho e he hb heq => by
    obtain ⟨_, o', ho', hall⟩ := mem_ready.1 hjr
    obtain rfl : o' = oj := Option.some.inj (ho'.symm.trans ho)
    have h1 := hall e he hb
    have h0 := (mem_ready.1 hir).1
    rw [heq] at h1
    rcases Nat.lt_or_ge i L.size with h' | h'
    · simp [h'] at h0 h1; rw [h0] at h1; cases h1
    · simp [Array.getElem?_eq_none h'] at h1
  intro f
  induction f with
  | zero =>
    intro L a w hfree hr hy hF H
    refine ⟨fun h0 => (by rw [h0] at hr; cases hr), fun j hj => ?_⟩
    by_cases hji : j = i
    · subst hji; exact hy.op hi hF ⟨hF, H⟩
    · have := ready_mono hj hji
      rw [H.1] at this
      cases this
  | succ f ih =>
    intro L a w hfree hr hy hF H
    refine ⟨fun h0 => (by rw [h0] at hr; cases hr), fun j hj => ?_⟩
    by_cases hji : j = i
    · subst hji; exact hy.op hi hF ⟨hF, H⟩
    · obtain ⟨hjun, oj, hoj, _⟩ := mem_ready.1 hj
      have hno := away L j oj hr hj hoj
      have h1 := YF.past hoj (hfree j oj hoj hji hjun hno) (fun cs b => hsel i oi cs b hi) (fun cs b => hsel j oj cs b hoj) hQ hy (H.2 j (ready_mono hj hji))
      have hfree' : ∀ k ok, ops[k]? = some ok → k ≠ i → (L.setIfInBounds j true).getD k true = false → (∀ e ∈ ok.after, Region.binds md e = true → e.on ≠ i) → oi.apart ops ok = true := fun k ok hk hki hu hn => by
        refine hfree k ok hk hki ?_ hn
        by_cases hjk : j = k
        · subst hjk; exact hjun
        · rw [getD_set_ne true hjk] at hu; exact hu
      refine wpOp_mono (fun a' w' h3 => ?_) h1
      obtain ⟨hy', hF', hK⟩ := h3
      rw [Array.setIfInBounds_comm _ _ (Ne.symm hji)] at hK
      exact ⟨hF', ih _ a' w' hfree' (ready_mono hr (Ne.symm hji)) hy' hF' hK⟩
theorem wpAnyK_take {i : Nat} {oi : Oper} {f : Nat} {L : Array Bool} {a : Act} {w : World} (hi : ops[i]? = some oi) (hs : Region.noSelect ops = true) (hf : Region.free md ops L i = true) (hr : (Region.ready md ops L).contains i = true)
    (hQ : ∀ v c a w, Q (.panic c) (a.put oi.dst v) w → Q (.panic c) a w) (hF : F w)
    (h : ∀ K : Act → Prop, (∀ a', wpAnyK P md ops Q F f (L.setIfInBounds i true) a' w → K a') → ∃ v, YF P ops F oi v a ∧ K (a.put oi.dst v)) : wpAnyK P md ops Q F (f + 1) L a w := by
  obtain ⟨v, hy, hk⟩ := h _ (fun _ h => h)
  exact wpAnyK_first hi (Region.noSelect_spec hs) (hQ v) f L a w (Region.free_spec hi hf) (by simpa using hr) hy hF hk
theorem wpAnyK_one {k : Nat} {f : Nat} {L : Array Bool} {a : Act} {w : World} (hr : Region.ready md ops L = [k]) (h : wpOp P ops Q k (fun a' w' => F w' ∧ wpAnyK P md ops Q F f (L.setIfInBounds k true) a' w') a w) : wpAnyK P md ops Q F (f + 1) L a w :=
  ⟨fun h0 => (by rw [hr] at h0; cases h0), fun i hi => by
    rw [hr] at hi
    have e : i = k := by simpa using hi
    subst e
    exact h⟩
theorem wpAnyK_two {k1 k2 f : Nat} {L : Array Bool} {a : Act} {w : World} (hr : Region.ready md ops L = [k1, k2])
    (h1 : wpOp P ops Q k1 (fun a' w' => F w' ∧ wpAnyK P md ops Q F f (L.setIfInBounds k1 true) a' w') a w)
    (h2 : wpOp P ops Q k2 (fun a' w' => F w' ∧ wpAnyK P md ops Q F f (L.setIfInBounds k2 true) a' w') a w) : wpAnyK P md ops Q F (f + 1) L a w :=
  ⟨fun h0 => (by rw [hr] at h0; cases h0), fun i hi => by
    rw [hr] at hi
    rcases List.mem_cons.1 hi with rfl | hi
    · exact h1
    · have e : i = k2 := by simpa using hi
      subst e
      exact h2⟩
theorem wpAnyK_done {f : Nat} {L : Array Bool} {a : Act} {w : World} (hr : Region.ready md ops L = []) (h : Q .normal a w) : wpAnyK P md ops Q F f L a w := by
  cases f with
  | zero => exact ⟨hr, h⟩
  | succ f => exact ⟨fun _ => h, fun i hi => by rw [hr] at hi; cases hi⟩
theorem region_K {id : Nat} {l : List Oper} {a : Act} {w : World} (F : World → Prop) (hm : P.follows .mixedOrders = true) (h : wpAnyK P .any l.toArray Q F l.toArray.size (Array.replicate l.toArray.size false) a w.drew) : (Code.region id l.toArray true).wp P Q a w :=
  wp_region_any hm (wpAny_of_K _ _ _ _ h)
theorem region_KN {id : Nat} {l : List Oper} {a : Act} {w : World} (F : World → Prop) (hm : P.follows .mixedOrders = true) (h : wpAnyK P .any l.toArray (OnlyN Q) F l.toArray.size (Array.replicate l.toArray.size false) a w.drew) : (Code.region id l.toArray true).wp P Q a w := by
  intro b k cs
  obtain ⟨e, a', w', hq, hr⟩ := (region_K F hm h : (Code.region id l.toArray true).wp P (OnlyN Q) a w) b k cs
  exact ⟨e, a', w', by rw [hq.1]; exact hq.2, hr⟩
end
end Go.Proofs.YtfpoflddnlbpjaaGreatDoor

/- A region that draws its order: what reads nothing may be taken first at any time. -/
namespace Go.Proofs.YtfpoflddnlbpjaaGreatDoor
open Go Go.ChangeShapes Go.WideShapes Go.ChangeAt Go.RowKit
set_option linter.unusedVariables false
section
variable {P : Program} {md : Region.Mode} {ops : Array Oper} {Q : Exit → Act → World → Prop} {F : World → Prop} {st : Nat}
theorem wpAnyF_free1 {i : Nat} {oi : Oper} {v : Value} (hi : ops[i]? = some oi) (hsel : ∀ (j : Nat) (o : Oper) cs b, ops[j]? = some o → o.op ≠ .select cs b) (hQ : ∀ c a w, Q (.panic c) (a.put oi.dst v) w → Q (.panic c) a w)
    (his : i ≠ st) : ∀ (f : Nat) (L : Array Bool) (a : Act) (w : World),
      (∀ j oj, ops[j]? = some oj → j ≠ i → L.getD j true = false → (∀ e ∈ oj.after, Region.binds md e = true → e.on ≠ i) → oi.apart ops oj = true) →
      i ∈ Region.ready md ops L → YF P ops (fun _ => True) oi v a → (L.getD st true = false → F w) → wpAnyF P md ops Q F st f (L.setIfInBounds i true) (a.put oi.dst v) w → wpAnyF P md ops Q F st (f + 1) L a w := by
  have away : ∀ (L : Array Bool) (j : Nat) (oj : Oper), i ∈ Region.ready md ops L → j ∈ Region.ready md ops L → ops[j]? = some oj → ∀ e ∈ oj.after, Region.binds md e = true → e.on ≠ i := fun L j oj hir hjr ho e he hb heq => by
    obtain ⟨_, o', ho', hall⟩ := mem_ready.1 hjr
    obtain rfl : o' = oj := Option.some.inj (ho'.symm.trans ho)
    have h1 := hall e he hb
    have h0 := (mem_ready.1 hir).1
    rw [heq] at h1
    rcases Nat.lt_or_ge i L.size with h' | h'
    · simp [h'] at h0 h1; rw [h0] at h1; cases h1
    · simp [Array.getElem?_eq_none h'] at h1
  intro f
  induction f with
  | zero =>
    intro L a w hfree hr hy hF H
    refine ⟨fun h0 => (by rw [h0] at hr; cases hr), fun j hj => ?_⟩
    by_cases hji : j = i
    · subst hji; exact hy.op hi trivial ⟨fun h => hF (by rw [getD_set_ne true his] at h; exact h), H⟩
    · have := ready_mono hj hji
      rw [H.1] at this
      cases this
  | succ f ih =>
    intro L a w hfree hr hy hF H
    refine ⟨fun h0 => (by rw [h0] at hr; cases hr), fun j hj => ?_⟩
    by_cases hji : j = i
    · subst hji; exact hy.op hi trivial ⟨fun h => hF (by rw [getD_set_ne true his] at h; exact h), H⟩
    · obtain ⟨hjun, oj, hoj, _⟩ := mem_ready.1 hj
      have hno := away L j oj hr hj hoj
      have h1 := YF.past hoj (hfree j oj hoj hji hjun hno) (fun cs b => hsel i oi cs b hi) (fun cs b => hsel j oj cs b hoj) hQ hy (H.2 j (ready_mono hj hji))
      have hfree' : ∀ k ok, ops[k]? = some ok → k ≠ i → (L.setIfInBounds j true).getD k true = false → (∀ e ∈ ok.after, Region.binds md e = true → e.on ≠ i) → oi.apart ops ok = true := fun k ok hk hki hu hn => by
        refine hfree k ok hk hki ?_ hn
        by_cases hjk : j = k
        · subst hjk; exact hjun
        · rw [getD_set_ne true hjk] at hu; exact hu
      refine wpOp_mono (fun a' w' h3 => ?_) h1
      obtain ⟨hy', hC, hK⟩ := h3
      rw [Array.setIfInBounds_comm _ _ (Ne.symm hji)] at hC hK
      have hF' : (L.setIfInBounds j true).getD st true = false → F w' := fun h => hC (by rw [getD_set_ne true his]; exact h)
      exact ⟨hF', ih _ a' w' hfree' (ready_mono hr (Ne.symm hji)) hy' hF' hK⟩
theorem wpAnyF_free {i : Nat} {oi : Oper} {f : Nat} {L : Array Bool} {a : Act} {w : World} (hi : ops[i]? = some oi) (hs : Region.noSelect ops = true) (hf : Region.free md ops L i = true) (hr : (Region.ready md ops L).contains i = true)
    (his : i ≠ st) (hQ : ∀ v c a w, Q (.panic c) (a.put oi.dst v) w → Q (.panic c) a w) (hF : L.getD st true = false → F w)
    (h : ∀ K : Act → Prop, (∀ a', wpAnyF P md ops Q F st f (L.setIfInBounds i true) a' w → K a') → ∃ v, YF P ops (fun _ => True) oi v a ∧ K (a.put oi.dst v)) : wpAnyF P md ops Q F st (f + 1) L a w := by
  obtain ⟨v, hy, hk⟩ := h _ (fun _ h => h)
  exact wpAnyF_free1 hi (Region.noSelect_spec hs) (hQ v) his f L a w (Region.free_spec hi hf) (by simpa using hr) hy hF hk
end
end Go.Proofs.YtfpoflddnlbpjaaGreatDoor
