/- Plain: the tokens of a program, as it is shown; what is shown is read as itself. -/
import Derived.Test.YtfbjljcmmbdhkaaGreatDoorD05
import Derived.Test.YtfbjljcmmbdhkaaGreatDoorD02
import Derived.Test.YtfbjljcmmbdhkaaGreatDoorD00
namespace Go.Proofs.YtfbjljcmmbdhkaaGreatDoor
set_option linter.unusedVariables false
set_option linter.unusedSimpArgs false
set_option maxRecDepth 100000
set_option maxHeartbeats 200000000
section
def wdT (s : List UInt8) : Tk := ⟨2, s, 0⟩
def secT (b : Bool) : List Tk := if b = true then [wdT zQo] else []
def xpT (e : Xp) : List Tk := zQw 40 e
def comT {α : Type} (f : α → List Tk) : List α → List Tk
 | [] => []
 | x :: r => f x ++ r.flatMap (fun y => sg [44] :: f y)
def e0T (ex : List Xp) : List Tk := xpT (ex.getD 0 x0)
def e1T (ex : List Xp) : List Tk := xpT (ex.getD 1 x0)
def stH (k : Nat) (nm fr : List UInt8) (sec mu : Bool) (ex : List Xp) (ar : List (List UInt8)) : List Tk :=
 if k = 1 then wdT wLet :: (secT sec ++ nmT nm :: sg [61] :: (e0T ex ++ [sg [59]]))
 else if k = 2 then nmT nm :: sg [61] :: (e0T ex ++ [sg [59]])
 else if k = 3 then wdT wBuf :: (secT sec ++ nmT nm :: sg [91] :: (e0T ex ++ [sg [93], sg [59]]))
 else if k = 4 then nmT nm :: sg [91] :: (e0T ex ++ sg [93] :: sg [61] :: (e1T ex ++ [sg [59]]))
 else if k = 5 then wdT wIf :: (e0T ex ++ [sg [123]])
 else if k = 6 then wdT zZz :: (e0T ex ++ [sg [123]])
 else if k = 7 then wdT wFor :: nmT nm :: sg [60] :: (e0T ex ++ [sg [123]])
 else if k = 8 then wdT (if mu = true then zQt else zXf) :: nmT nm :: sg [61] :: nmT fr :: sg [91] :: (e0T ex ++ sg [46, 46] :: (e1T ex ++ [sg [93], sg [123]]))
 else if k = 9 then [wdT zKw, nmT nm, sg [61], nmT fr, sg [59]]
 else if k = 10 then wdT yQp :: nmT nm :: sg [61] :: (e0T ex ++ [sg [59]])
 else if k = 11 then wdT zKs :: ((if nm = [] then [] else [nmT nm, sg [61]]) ++ nmT fr :: sg [40] :: (comT xpT ex ++ sg [59] :: (comT (fun s => [nmT s]) ar ++ [sg [41], sg [59]])))
 else [wdT yQh, sg [59]]
mutual
def stT : St → List Tk
 | .mk k nm fr sec mu ex ar bd el => stH k nm fr sec mu ex ar ++ (if 5 ≤ k ∧ k ≤ 8 then stsT bd ++ ((if el.isEmpty = true then [] else sg [125] :: wdT zKg :: sg [123] :: stsT el) ++ [sg [125]]) else [])
def stsT : List St → List Tk
 | [] => []
 | s :: r => stT s ++ stsT r
end
def pmT (x : Pm) : List Tk := (if x.mu = true then [wdT zQt] else if x.buf = true then [wdT zXf] else if x.sec = true then [] else [wdT wNum]) ++ (secT x.sec ++ [nmT x.nm])
def hdT (f : Fd) : List Tk := wdT wFn :: nmT f.nm :: sg [40] :: (comT pmT f.ps ++ [sg [41], sg [123]])
def tlT (f : Fd) : List Tk := sg [125] :: ((if f.rt.isEmpty = true then [] else sg [61] :: (secT f.sec ++ e0T f.rt)) ++ [sg [59]])
def fdT (f : Fd) : List Tk := hdT f ++ (stsT f.bd ++ tlT f)
def pgT (l : List Fd) : List Tk := l.flatMap fdT
theorem zQr {α β : Type} (x : α) (p n : Nat) (f : α → Nat → Nat → Rz β) : (Rz.ok x p n).next f = f x p n := rfl
theorem zZr {T : List Tk} {p : Nat} {t : Tk} {L : List Tk} (h : T.drop p = t :: L) : T[p]? = some t ∧ txt T p = t.t ∧ knd T p = t.k ∧ T.drop (p + 1) = L ∧ p < T.length := by
 have h1 : T[p]? = some t := by have := congrArg (·[0]?) h; simpa using this
 have h2 : T.getD p t0 = t := by rw [List.getD_eq_getElem?_getD, h1]; rfl
 refine ⟨h1, by unfold txt; rw [h2], by unfold knd; rw [h2], ?_, (List.getElem?_eq_some_iff.1 h1).1⟩
 have := congrArg (List.drop 1) h
 rw [List.drop_drop] at this
 simpa using this
theorem zJb {T : List Tk} {p n : Nat} {t : Tk} {L : List Tk} {s : List UInt8} (h : T.drop p = t :: L) (ht : t.t = s) : takR T s p n = .ok () (p + 1) n ∧ T.drop (p + 1) = L := by
 obtain ⟨-, h1, -, h2, -⟩ := zZr h
 exact ⟨by unfold takR; rw [if_pos (h1.trans ht)], h2⟩
theorem zJg {T : List Tk} {p n : Nat} {s : List UInt8} {L : List Tk} (h : T.drop p = nmT s :: L) : namR T p n = .ok s (p + 1) n ∧ T.drop (p + 1) = L := by
 obtain ⟨-, h1, h3, h2, -⟩ := zZr h
 exact ⟨by unfold namR; rw [if_pos (show knd T p = 1 from h3), h1]; rfl, h2⟩
theorem yKe {T : List Tk} {p n : Nat} {e : Xp} {c : Tk} {L : List Tk} (h : T.drop p = xpT e ++ c :: L) (hm : mayB 40 e = true) (hc : c ≠ sg [91]) : ∃ q, expR T p n = .ok e q n ∧ T.drop q = c :: L := by
 have hp : p ≤ T.length := by
  rcases Nat.lt_or_ge T.length p with h0 | h0
  ·rw [List.drop_eq_nil_of_le (by omega)] at h
   exact absurd h.symm (by simp)
  ·exact h0
 have e1 := rd_tell 40 e hm (T.take p) (c :: L) (fun _ c' r e => by cases e; exact hc)
 have e2 : (T.take p).length = p := by rw [List.length_take]; omega
 rw [show zQw 40 e ++ c :: L = T.drop p from h.symm, List.take_append_drop, e2] at e1
 refine ⟨p + (xpT e).length, by unfold expR; rw [e1]; rfl, ?_⟩
 rw [← List.drop_drop, h, List.drop_left]
theorem yKk {T : List Tk} {p n : Nat} {e : Xp} {a b : List UInt8} {L : List Tk} (h : T.drop p = sg a :: (xpT e ++ sg b :: L)) (hm : mayB 40 e = true) (hb : b ≠ [91]) : ∃ q, betR T a b p n = .ok e q n ∧ T.drop q = L := by
 obtain ⟨h1, h2⟩ := zJb (n := n) (s := a) h rfl
 obtain ⟨q, h3, h4⟩ := yKe (n := n) h2 hm (fun e => hb (congrArg Tk.t e))
 obtain ⟨h5, h6⟩ := zJb (n := n) (s := b) h4 rfl
 exact ⟨q + 1, by unfold betR; rw [h1, zQr, h3, zQr, h5] <;> rfl, h6⟩
theorem jQx {α : Type} {T : List Tk} {one : Nat → Nat → Rz α} {bh : List UInt8} {f : α → List Tk} {n : Nat} (hbh : bh ≠ [44])
 : ∀ (g : Nat) (r acc : List α) (p : Nat) (L : List Tk), (∀ x ∈ r, ∀ p c L, (c = sg [44] ∨ c = sg bh) → T.drop p = f x ++ c :: L → ∃ q, one p n = .ok x q n ∧ T.drop q = c :: L) → r.length < g → acc.length + r.length ≤ 8 → T.drop p = r.flatMap (fun y => sg [44] :: f y) ++ sg bh :: L → ∃ q, lisL T one bh g acc p n = .ok (acc ++ r) q n ∧ T.drop q = L
 | 0, r, acc, p, L, ho, hg, h8, h => by omega
 | g + 1, [], acc, p, L, ho, hg, h8, h => by
   obtain ⟨-, h1, -, h2, -⟩ := zZr (show T.drop p = sg bh :: L from h)
   exact ⟨p + 1, by rw [lisL, if_pos (show txt T p = bh from h1), List.append_nil], h2⟩
 | g + 1, x :: r, acc, p, L, ho, hg, h8, h => by
   simp only [List.length_cons] at hg h8
   have h' : T.drop p = sg [44] :: (f x ++ (r.flatMap (fun y => sg [44] :: f y) ++ sg bh :: L)) := by rw [h]; simp
   obtain ⟨-, h1, -, -, -⟩ := zZr h'
   obtain ⟨h3, h4⟩ := zJb (n := n) (s := [44]) h' rfl
   obtain ⟨c, L', hc, hL⟩ : ∃ c L', (c = sg [44] ∨ c = sg bh) ∧ r.flatMap (fun y => sg [44] :: f y) ++ sg bh :: L = c :: L' := by
    cases r with
    | nil => exact ⟨_, _, .inr rfl, rfl⟩
    | cons y r => exact ⟨_, _, .inl rfl, rfl⟩
   rw [hL] at h4
   obtain ⟨q, h5, h6⟩ := ho x (List.mem_cons_self ..) (p + 1) c L' hc h4
   rw [← hL] at h6
   obtain ⟨q', h7, h9⟩ := jQx hbh g r (acc ++ [x]) q L (fun y hy => ho y (List.mem_cons_of_mem _ hy)) (by omega) (by simp; omega) h6
   refine ⟨q', ?_, h9⟩
   rw [lisL, if_neg (by rw [h1]; exact fun e => hbh e.symm), h3, zQr, if_neg (by omega), h5, zQr, h7, List.append_assoc] <;> rfl
theorem xZs {α : Type} {T : List Tk} {one : Nat → Nat → Rz α} {bh : List UInt8} {f : α → List Tk} {n : Nat} (hbh : bh ≠ [44]) (l : List α) (p : Nat) (L : List Tk)
 (ho : ∀ x ∈ l, ∀ p c L, (c = sg [44] ∨ c = sg bh) → T.drop p = f x ++ c :: L → ∃ q, one p n = .ok x q n ∧ T.drop q = c :: L) (hf : ∀ x ∈ l, ∃ t u, f x = t :: u ∧ t.t ≠ bh) (h8 : l.length ≤ 8) (h : T.drop p = comT f l ++ sg bh :: L) : ∃ q, lisR T one bh p n = .ok l q n ∧ T.drop q = L := by
 cases l with
 | nil =>
  obtain ⟨-, h1, -, h2, -⟩ := zZr (show T.drop p = sg bh :: L from h)
  exact ⟨p + 1, by rw [lisR, if_pos (show txt T p = bh from h1)], h2⟩
 | cons x r =>
  simp only [List.length_cons] at h8
  obtain ⟨t, u, ht, hne⟩ := hf x (List.mem_cons_self ..)
  have h' : T.drop p = f x ++ (r.flatMap (fun y => sg [44] :: f y) ++ sg bh :: L) := by rw [h]; simp [comT]
  have h1 : txt T p = t.t := by rw [ht] at h'; exact (zZr h').2.1
  obtain ⟨c, L', hc, hL⟩ : ∃ c L', (c = sg [44] ∨ c = sg bh) ∧ r.flatMap (fun y => sg [44] :: f y) ++ sg bh :: L = c :: L' := by
   cases r with
   | nil => exact ⟨_, _, .inr rfl, rfl⟩
   | cons y r => exact ⟨_, _, .inl rfl, rfl⟩
  rw [hL] at h'
  obtain ⟨q, h5, h6⟩ := ho x (List.mem_cons_self ..) p c L' hc h'
  rw [← hL] at h6
  obtain ⟨q', h7, h9⟩ := jQx hbh 9 r [x] q L (fun y hy => ho y (List.mem_cons_of_mem _ hy)) (by omega) (by simp; omega) h6
  refine ⟨q', ?_, h9⟩
  rw [lisR, if_neg (by rw [h1]; exact hne), h5, zQr, h7] <;> rfl
theorem zXq {s x : List UInt8} (h : nmdB s = true) (hx : nmdB x = false) : s ≠ x := by rintro rfl; rw [h] at hx; cases hx
theorem jKv : nmdB wLet = false := by decide +kernel
theorem jKx : nmdB wBuf = false := by decide +kernel
theorem nwIf : nmdB wIf = false := by decide +kernel
theorem jQm : nmdB zZz = false := by decide +kernel
theorem jKw : nmdB wFor = false := by decide +kernel
theorem jQn : nmdB zXf = false := by decide +kernel
theorem jQo : nmdB zQt = false := by decide +kernel
theorem jJk : nmdB zKw = false := by decide +kernel
theorem jJj : nmdB yQp = false := by decide +kernel
theorem jJm : nmdB zKs = false := by decide +kernel
theorem jJi : nmdB yQh = false := by decide +kernel
theorem yJl : nmdB zQo = false := by decide +kernel
theorem jJl : nmdB zKg = false := by decide +kernel
theorem nw41 : nmdB [41] = false := by decide +kernel
theorem jKy : nmdB [125] = false := by decide +kernel
theorem yXk {s : List UInt8} (h : metA 0 s = true) : s = [] := by
 unfold metA at h
 by_cases c : s = []
 ·exact c
 ·rw [if_neg c] at h; simp at h
theorem qQd {s : List UInt8} (h : metA 1 s = true) : s = [] ∨ nmdB s = true := by
 unfold metA at h
 by_cases c : s = []
 ·exact .inl c
 ·rw [if_neg c] at h; simp at h; exact .inr h
theorem zJn {s : List UInt8} (h : metA 2 s = true) : nmdB s = true := by
 unfold metA at h
 by_cases c : s = []
 ·rw [if_pos c] at h; simp at h
 ·rw [if_neg c] at h; simpa using h
theorem yQe {k : Nat} {nm fr : List UInt8} {sec mu : Bool} {ex : List Xp} {ar : List (List UInt8)} {bd el : List St} (h : zZm (.mk k nm fr sec mu ex ar bd el) = true) :
 (k ≠ 0 ∧ k < 13) ∧ metB (nds k) nm fr sec mu ex.length ar.length bd.length el.length = true ∧ (∀ a ∈ ar, nmdB a = true) ∧ ∀ e ∈ ex, mayB 40 e = true := by
 simp only [zZm, St.k, St.nm, St.fr, St.sec, St.mu, St.ex, St.ar, St.bd, St.el, Bool.and_eq_true, List.all_eq_true] at h
 exact ⟨⟨of_decide_eq_true h.1.1.1.1, of_decide_eq_true h.1.1.1.2⟩, h.1.1.2, h.1.2, h.2⟩
theorem zQn {a0 a1 : Nat} {sc mx : Bool} {lo hi ar : Int} {b l : Bool} {nm fr : List UInt8} {sec mu : Bool} {ne na nb nl : Nat} (h : metB (a0, a1, sc, mx, lo, hi, ar, b, l) nm fr sec mu ne na nb nl = true) :
 metA a0 nm = true ∧ metA a1 fr = true ∧ (sc = true ∨ sec = false) ∧ (mx = true ∨ mu = false) ∧ lo ≤ (ne : Int) ∧ (ne : Int) ≤ hi ∧ (na : Int) ≤ ar ∧ (b = true ∨ nb = 0) ∧ (l = true ∨ nl = 0) := by
 simp only [metB, Bool.and_eq_true, Bool.or_eq_true, decide_eq_true_eq, Bool.not_eq_true'] at h
 obtain ⟨⟨⟨⟨⟨⟨⟨⟨h1, h2⟩, h3⟩, h4⟩, h5⟩, h6⟩, h7⟩, h8⟩, h9⟩ := h
 exact ⟨h1, h2, h3, h4, h5, h6, h7, h8, h9⟩
theorem zZu {ex : List Xp} (h1 : (1 : Int) ≤ (ex.length : Int)) (h2 : (ex.length : Int) ≤ 1) : ∃ e, ex = [e] := List.length_eq_one_iff.1 (by omega)
theorem yKr {ex : List Xp} (h1 : (2 : Int) ≤ (ex.length : Int)) (h2 : (ex.length : Int) ≤ 2) : ∃ e f, ex = [e, f] := by
 match ex, h1, h2 with
 | [e, f], _, _ => exact ⟨e, f, rfl⟩
 | [], h, _ => simp at h
 | [_], h, _ => simp at h
 | _ :: _ :: _ :: _, _, h => simp only [List.length_cons] at h; omega
theorem jZr (e : Xp) (h : mayB 40 e = true) : ∃ t u, xpT e = t :: u ∧ (t.t = [] ∨ t.t = [35] ∨ t.t = [40] ∨ nmdB t.t = true) := by
 obtain ⟨k, n, s, o, l⟩ := e
 rw [show (40 : Nat) = 39 + 1 from rfl, mayB, Bool.and_eq_true] at h
 obtain ⟨hf, hl⟩ := h
 show ∃ t u, zQw (39 + 1) _ = _ ∧ _
 rw [zQw]
 rcases xQu hf with rfl | rfl | rfl | rfl | rfl
 ·exact ⟨_, _, by rw [if_pos rfl], .inl rfl⟩
 ·exact ⟨_, _, by rw [if_neg (by decide), if_pos rfl], .inr (.inr (.inr (fit2 hf).2.1))⟩
 ·exact ⟨_, _, by rw [if_neg (by decide), if_neg (by decide), if_neg (by decide), if_neg (by decide)], .inr (.inr (.inl rfl))⟩
 ·exact ⟨_, _, by rw [if_neg (by decide), if_neg (by decide), if_pos rfl], .inr (.inl rfl)⟩
 ·exact ⟨_, _, by rw [if_neg (by decide), if_neg (by decide), if_neg (by decide), if_pos rfl], .inr (.inr (.inr (fit5 hf).2.1))⟩
theorem qQg {t : Tk} {x : List UInt8} (h : t.t = [] ∨ t.t = [35] ∨ t.t = [40] ∨ nmdB t.t = true) (h0 : x ≠ []) (h1 : x ≠ [35]) (h2 : x ≠ [40]) (h3 : nmdB x = false) : t.t ≠ x := by
 rcases h with h | h | h | h
 ·rw [h]; exact fun e => h0 e.symm
 ·rw [h]; exact fun e => h1 e.symm
 ·rw [h]; exact fun e => h2 e.symm
 ·exact zXq h h3
theorem xXh {T : List Tk} {p : Nat} {b : Bool} {t : Tk} {L : List Tk} (h : T.drop p = secT b ++ t :: L) (ht : t.t ≠ zQo) : isP T zQo p = b ∧ T.drop (beP T zQo p) = t :: L := by
 cases b
 ·have h' : T.drop p = t :: L := h
  have h1 : ¬ txt T p = zQo := by rw [(zZr h').2.1]; exact ht
  exact ⟨decide_eq_false h1, by unfold beP; rw [if_neg h1]; exact h'⟩
 ·have h' : T.drop p = wdT zQo :: t :: L := h
  obtain ⟨-, h1, -, h2, -⟩ := zZr h'
  exact ⟨decide_eq_true h1, by unfold beP; rw [if_pos (show txt T p = zQo from h1)]; exact h2⟩
theorem jKl {T : List Tk} {p : Nat} {x : List UInt8} (h : txt T p = x) : isP T x p = true := decide_eq_true h
theorem xKp {T : List Tk} {p : Nat} {x : List UInt8} (h : ¬ txt T p = x) : isP T x p = false := decide_eq_false h
theorem jKn {T : List Tk} {p : Nat} {x : List UInt8} (h : txt T p = x) : beP T x p = p + 1 := if_pos h
theorem xKq {T : List Tk} {p : Nat} {x : List UInt8} (h : ¬ txt T p = x) : beP T x p = p := if_neg h
theorem pmT_hd (x : Pm) (hx : pmB x = true) : ∃ t u, pmT x = t :: u ∧ t.t ≠ [41] := by
 obtain ⟨nm, buf, sec, mu⟩ := x
 simp only [pmB, Bool.and_eq_true] at hx
 have hn := zXq hx.1 nw41
 cases mu <;> cases buf <;> cases sec <;> first | exact ⟨_, _, rfl, by decide⟩ | exact ⟨_, _, rfl, hn⟩
theorem par_at {T : List Tk} {p n : Nat} (x : Pm) (hx : pmB x = true) {c : Tk} {L : List Tk} (h : T.drop p = pmT x ++ c :: L) : ∃ q, parR T p n = .ok x q n ∧ T.drop q = c :: L := by
 obtain ⟨nm, buf, sec, mu⟩ := x
 simp only [pmB, Bool.and_eq_true] at hx
 have hE := zXq hx.1 jQo
 have hV := zXq hx.1 jQn
 have hS := zXq hx.1 yJl
 unfold parR
 dsimp only
 cases mu <;> cases buf
 ·cases sec
  ·have h' : T.drop p = wdT wNum :: nmT nm :: c :: L := h
   obtain ⟨h3, h4⟩ := zJb (n := n) (s := wNum) h' rfl
   obtain ⟨h5, h6⟩ := zJg (n := n) h4
   have z := (zZr h').2.1
   have n1 : ¬ txt T p = zQt := by rw [z]; decide
   have n2 : ¬ txt T p = zXf := by rw [z]; decide
   have n3 : ¬ txt T p = zQo := by rw [z]; decide
   refine ⟨p + 1 + 1, ?_, h6⟩
   rw [xKp n1, xKq n1, xKp n2]
   simp only [Bool.false_eq_true, if_false]
   rw [xKq n2, xKp n3, xKq n3]
   simp only [Bool.or_self, Bool.not_false, Bool.and_self, if_true]
   rw [h3, zQr, h5, zQr]
  ·have h' : T.drop p = wdT zQo :: nmT nm :: c :: L := h
   have z := (zZr h').2.1
   obtain ⟨h5, h6⟩ := zJg (n := n) (zZr h').2.2.2.1
   have n1 : ¬ txt T p = zQt := by rw [z]; decide
   have n2 : ¬ txt T p = zXf := by rw [z]; decide
   refine ⟨p + 1 + 1, ?_, h6⟩
   rw [xKp n1, xKq n1, xKp n2]
   simp only [Bool.false_eq_true, if_false]
   rw [xKq n2, jKl (show txt T p = zQo from z), jKn (show txt T p = zQo from z)]
   simp only [Bool.or_self, Bool.not_false, Bool.not_true, Bool.and_false, Bool.false_eq_true, if_false]
   rw [h5, zQr]
 ·have h' : T.drop p = wdT zXf :: (secT sec ++ nmT nm :: c :: L) := by rw [h]; simp [pmT]
  have z := (zZr h').2.1
  obtain ⟨h1, h2⟩ := xXh (zZr h').2.2.2.1 hS
  obtain ⟨h5, h6⟩ := zJg (n := n) h2
  have n1 : ¬ txt T p = zQt := by rw [z]; decide
  refine ⟨_, ?_, h6⟩
  rw [xKp n1, xKq n1, jKl (show txt T p = zXf from z)]
  simp only [Bool.false_eq_true, if_false]
  rw [jKn (show txt T p = zXf from z), h1]
  simp only [Bool.or_true, Bool.not_true, Bool.false_and, Bool.false_eq_true, if_false]
  rw [h5, zQr]
 ·simp at hx
 ·have h' : T.drop p = wdT zQt :: (secT sec ++ nmT nm :: c :: L) := by rw [h]; simp [pmT]
  have z := (zZr h').2.1
  obtain ⟨h1, h2⟩ := xXh (zZr h').2.2.2.1 hS
  obtain ⟨h5, h6⟩ := zJg (n := n) h2
  refine ⟨_, ?_, h6⟩
  rw [jKl (show txt T p = zQt from z), jKn (show txt T p = zQt from z)]
  simp only [if_true]
  rw [h1]
  simp only [Bool.true_or, Bool.not_true, Bool.false_and, Bool.false_eq_true, if_false]
  rw [h5, zQr]
def BkAt (T : List Tk) (d : Nat) (blk : Nat → Nat → Rz (List St)) : Prop := ∀ (l : List St) (n m p : Nat) (L : List Tk), n ≤ 400 → m ≤ 400 → blkC d l (400 - n) = some (400 - m) → T.drop p = sg [123] :: (stsT l ++ sg [125] :: L) → ∃ q, blk p n = .ok l q m ∧ T.drop q = L
theorem zZh {T : List Tk} {p : Nat} {t : Tk} {L : List Tk} (h : T.drop p = t :: L) {x : List UInt8} (hx : t.t ≠ x) : ¬ txt T p = x := by rw [(zZr h).2.1]; exact hx
theorem xJg {T : List Tk} {p : Nat} {t : Tk} {L : List Tk} (h : T.drop p = t :: L) {x : List UInt8} (hx : t.t = x) : txt T p = x := by rw [(zZr h).2.1]; exact hx
theorem zZx {d a b : Nat} (h : blkC d [] a = some b) : b = a := by rw [yZf] at h; exact (Option.some.inj h).symm
end
section
section
variable {T : List Tk} {d p n m : Nat} {blk : Nat → Nat → Rz (List St)} {nm fr : List UInt8} {sec mu : Bool} {ex : List Xp} {ar : List (List UInt8)} {bd el : List St} {c : Tk} {L : List Tk}
theorem let_at (hn : nmdB nm = true) (e : Xp) (he : mayB 40 e = true) (h : T.drop p = secT sec ++ nmT nm :: sg [61] :: (xpT e ++ sg [59] :: L)) : ∃ q, letR T p n = .ok (.mk 1 nm [] sec false [e] [] [] []) q n ∧ T.drop q = L := by
 obtain ⟨h1, h2⟩ := xXh h (zXq hn yJl)
 obtain ⟨h3, h4⟩ := zJg (n := n) h2
 obtain ⟨q, h5, h6⟩ := yKk (n := n) h4 he (by decide)
 exact ⟨q, by unfold letR; rw [h3, zQr, h5, zQr, h1] <;> rfl, h6⟩
theorem buf_at (hn : nmdB nm = true) (e : Xp) (he : mayB 40 e = true) (h : T.drop p = secT sec ++ nmT nm :: sg [91] :: (xpT e ++ sg [93] :: sg [59] :: L)) : ∃ q, bufR T p n = .ok (.mk 3 nm [] sec false [e] [] [] []) q n ∧ T.drop q = L := by
 obtain ⟨h1, h2⟩ := xXh h (zXq hn yJl)
 obtain ⟨h3, h4⟩ := zJg (n := n) h2
 obtain ⟨q, h5, h6⟩ := yKk (n := n) h4 he (by decide)
 obtain ⟨h7, h8⟩ := zJb (n := n) (s := [59]) h6 rfl
 exact ⟨q + 1, by unfold bufR; rw [h3, zQr, h5, zQr, h7, zQr, h1] <;> rfl, h8⟩
theorem set_at (e : Xp) (he : mayB 40 e = true) (h : T.drop p = nmT nm :: sg [61] :: (xpT e ++ sg [59] :: L)) : ∃ q, setR T p n = .ok (.mk 2 nm [] false false [e] [] [] []) q n ∧ T.drop q = L := by
 obtain ⟨h3, h4⟩ := zJg (n := n) h
 obtain ⟨q, h5, h6⟩ := yKk (n := n) h4 he (by decide)
 exact ⟨q, by unfold setR; rw [h3, zQr, if_neg (zZh h4 (by decide)), h5] <;> rfl, h6⟩
theorem put_at (e f : Xp) (he : mayB 40 e = true) (hf : mayB 40 f = true) (h : T.drop p = nmT nm :: sg [91] :: (xpT e ++ sg [93] :: sg [61] :: (xpT f ++ sg [59] :: L))) : ∃ q, setR T p n = .ok (.mk 4 nm [] false false [e, f] [] [] []) q n ∧ T.drop q = L := by
 obtain ⟨h3, h4⟩ := zJg (n := n) h
 obtain ⟨q, h5, h6⟩ := yKk (n := n) h4 he (by decide)
 obtain ⟨q2, h7, h8⟩ := yKk (n := n) h6 hf (by decide)
 exact ⟨q2, by unfold setR; rw [h3, zQr, if_pos (xJg (x := [91]) h4 rfl), h5, zQr, h7] <;> rfl, h8⟩
theorem mov_at (h : T.drop p = nmT nm :: sg [61] :: nmT fr :: sg [59] :: L) : ∃ q, movR T p n = .ok (.mk 9 nm fr false false [] [] [] []) q n ∧ T.drop q = L := by
 obtain ⟨h1, h2⟩ := zJg (n := n) h
 obtain ⟨h3, h4⟩ := zJb (n := n) h2 (s := [61]) rfl
 obtain ⟨h5, h6⟩ := zJg (n := n) h4
 obtain ⟨h7, h8⟩ := zJb (n := n) h6 (s := [59]) rfl
 exact ⟨_, by unfold movR; rw [h1, zQr, h3, zQr, h5, zQr, h7] <;> rfl, h8⟩
theorem opn_at (e : Xp) (he : mayB 40 e = true) (h : T.drop p = nmT nm :: sg [61] :: (xpT e ++ sg [59] :: L)) : ∃ q, opnR T p n = .ok (.mk 10 nm [] false false [e] [] [] []) q n ∧ T.drop q = L := by
 obtain ⟨h3, h4⟩ := zJg (n := n) h
 obtain ⟨q, h5, h6⟩ := yKk (n := n) h4 he (by decide)
 exact ⟨q, by unfold opnR; rw [h3, zQr, h5] <;> rfl, h6⟩
theorem sea_at (h : T.drop p = sg [59] :: L) : ∃ q, seaR T p n = .ok (.mk 12 [] [] false false [] [] [] []) q n ∧ T.drop q = L := by
 obtain ⟨h7, h8⟩ := zJb (n := n) h (s := [59]) rfl
 exact ⟨_, by unfold seaR; rw [h7, zQr], h8⟩
theorem jKd (hex : ∀ e ∈ ex, mayB 40 e = true) (har : ∀ a ∈ ar, nmdB a = true) (h1 : ex.length ≤ 8) (h2 : ar.length ≤ 8) (x y : List UInt8) (h : T.drop p = sg [40] :: (comT xpT ex ++ sg [59] :: (comT (fun s => [nmT s]) ar ++ sg [41] :: sg [59] :: L))) : ∃ q, argR T x y p n = .ok (.mk 11 x y false false ex ar [] []) q n ∧ T.drop q = L := by
 obtain ⟨a1, a2⟩ := zJb (n := n) h (s := [40]) rfl
 obtain ⟨q1, b1, b2⟩ := xZs (one := expR T) (bh := [59]) (f := xpT) (n := n) (by decide) ex _ _ (fun e he p c L hc hp => yKe hp (hex e he) (by rcases hc with rfl | rfl <;> decide))
  (fun e he => by obtain ⟨t, u, h1, h2⟩ := jZr e (hex e he); exact ⟨t, u, h1, qQg h2 (by decide) (by decide) (by decide) (by decide +kernel)⟩) h1 a2
 obtain ⟨q2, c1, c2⟩ := xZs (one := namR T) (bh := [41]) (f := fun s => [nmT s]) (n := n) (by decide) ar _ _ (fun a ha p c L hc hp => ⟨p + 1, zJg hp⟩) (fun a ha => ⟨nmT a, [], rfl, zXq (har a ha) nw41⟩) h2 b2
 obtain ⟨d1, d2⟩ := zJb (n := n) c2 (s := [59]) rfl
 exact ⟨q2 + 1, by unfold argR; rw [a1, zQr, b1, zQr, c1, zQr, d1] <;> rfl, d2⟩
theorem cal_at (hn : nm = [] ∨ nmdB nm = true) (hex : ∀ e ∈ ex, mayB 40 e = true) (har : ∀ a ∈ ar, nmdB a = true) (h1 : ex.length ≤ 8) (h2 : ar.length ≤ 8)
 (h : T.drop p = (if nm = [] then [] else [nmT nm, sg [61]]) ++ nmT fr :: sg [40] :: (comT xpT ex ++ sg [59] :: (comT (fun s => [nmT s]) ar ++ sg [41] :: sg [59] :: L))) : ∃ q, calR T p n = .ok (.mk 11 nm fr false false ex ar [] []) q n ∧ T.drop q = L := by
 by_cases c : nm = []
 ·subst c
  rw [if_pos rfl, List.nil_append] at h
  obtain ⟨a1, a2⟩ := zJg (n := n) h
  obtain ⟨q, b1, b2⟩ := jKd (n := n) hex har h1 h2 [] fr a2
  exact ⟨q, by unfold calR; rw [a1, zQr, if_neg (zZh a2 (by decide)), b1] <;> rfl, b2⟩
 ·rw [if_neg c] at h
  have h' : T.drop p = nmT nm :: sg [61] :: nmT fr :: sg [40] :: (comT xpT ex ++ sg [59] :: (comT (fun s => [nmT s]) ar ++ sg [41] :: sg [59] :: L)) := h
  obtain ⟨a1, a2⟩ := zJg (n := n) h'
  obtain ⟨-, -, -, a3, -⟩ := zZr a2
  obtain ⟨c1, c2⟩ := zJg (n := n) a3
  obtain ⟨q, b1, b2⟩ := jKd (n := n) hex har h1 h2 nm fr c2
  exact ⟨q, by unfold calR; rw [a1, zQr, if_pos (xJg (x := [61]) a2 rfl), c1, zQr, b1] <;> rfl, b2⟩
theorem whi_at (hB : BkAt T d blk) (e : Xp) (he : mayB 40 e = true) (hn : n ≤ 400) (hm : m ≤ 400) (hb : blkC d bd (400 - n) = some (400 - m)) (h : T.drop p = xpT e ++ sg [123] :: (stsT bd ++ sg [125] :: L)) : ∃ q, whiR T blk p n = .ok (.mk 6 [] [] false false [e] [] bd []) q m ∧ T.drop q = L := by
 obtain ⟨q1, a1, a2⟩ := yKe (n := n) h he (by decide)
 obtain ⟨q, b1, b2⟩ := hB bd n m q1 L hn hm hb a2
 exact ⟨q, by unfold whiR; rw [a1, zQr, b1] <;> rfl, b2⟩
theorem for_at (hB : BkAt T d blk) (e : Xp) (he : mayB 40 e = true) (hn : n ≤ 400) (hm : m ≤ 400) (hb : blkC d bd (400 - n) = some (400 - m)) (h : T.drop p = nmT nm :: sg [60] :: (xpT e ++ sg [123] :: (stsT bd ++ sg [125] :: L))) : ∃ q, forR T blk p n = .ok (.mk 7 nm [] false false [e] [] bd []) q m ∧ T.drop q = L := by
 obtain ⟨c1, c2⟩ := zJg (n := n) h
 obtain ⟨c3, c4⟩ := zJb (n := n) c2 (s := [60]) rfl
 obtain ⟨q1, a1, a2⟩ := yKe (n := n) c4 he (by decide)
 obtain ⟨q, b1, b2⟩ := hB bd n m q1 L hn hm hb a2
 exact ⟨q, by unfold forR; rw [c1, zQr, c3, zQr, a1, zQr, b1] <;> rfl, b2⟩
theorem len_at (hB : BkAt T d blk) (e f : Xp) (he : mayB 40 e = true) (hf : mayB 40 f = true) (hn : n ≤ 400) (hm : m ≤ 400) (hb : blkC d bd (400 - n) = some (400 - m)) (h : T.drop p = nmT nm :: sg [61] :: nmT fr :: sg [91] :: (xpT e ++ sg [46, 46] :: (xpT f ++ sg [93] :: sg [123] :: (stsT bd ++ sg [125] :: L)))) : ∃ q, lenR T blk mu p n = .ok (.mk 8 nm fr false mu [e, f] [] bd []) q m ∧ T.drop q = L := by
 obtain ⟨c1, c2⟩ := zJg (n := n) h
 obtain ⟨c3, c4⟩ := zJb (n := n) c2 (s := [61]) rfl
 obtain ⟨c5, c6⟩ := zJg (n := n) c4
 obtain ⟨q1, a1, a2⟩ := yKk (n := n) c6 he (by decide)
 obtain ⟨q2, a3, a4⟩ := yKe (n := n) a2 hf (by decide)
 obtain ⟨a5, a6⟩ := zJb (n := n) a4 (s := [93]) rfl
 obtain ⟨q, b1, b2⟩ := hB bd n m _ L hn hm hb a6
 exact ⟨q, by unfold lenR; rw [c1, zQr, c3, zQr, c5, zQr, a1, zQr, a3, zQr, a5, zQr, b1] <;> rfl, b2⟩
theorem if_at (hB : BkAt T d blk) (e : Xp) (he : mayB 40 e = true) (hn : n ≤ 400) (k : Nat) (hk : k ≤ 400) (hm : m ≤ 400) (hb : blkC d bd (400 - n) = some (400 - k)) (hl : blkC d el (400 - k) = some (400 - m)) (hc : c.t ≠ zKg)
 (h : T.drop p = xpT e ++ sg [123] :: (stsT bd ++ sg [125] :: ((if el.isEmpty = true then [] else wdT zKg :: sg [123] :: (stsT el ++ [sg [125]])) ++ c :: L))) : ∃ q, ifR T blk p n = .ok (.mk 5 [] [] false false [e] [] bd el) q m ∧ T.drop q = c :: L := by
 obtain ⟨q1, a1, a2⟩ := yKe (n := n) h he (by decide)
 obtain ⟨q2, b1, b2⟩ := hB bd n k q1 _ hn hk hb a2
 cases el with
 | nil =>
  have b3 : T.drop q2 = c :: L := b2
  have : k = m := by have := zZx hl; omega
  subst this
  exact ⟨q2, by unfold ifR; rw [a1, zQr, b1, zQr, if_neg (zZh b3 hc)] <;> rfl, b3⟩
 | cons s r =>
  have b3 : T.drop q2 = wdT zKg :: sg [123] :: (stsT (s :: r) ++ sg [125] :: c :: L) := by rw [b2]; simp
  obtain ⟨-, -, -, b4, -⟩ := zZr b3
  obtain ⟨q, b5, b6⟩ := hB (s :: r) k m (q2 + 1) (c :: L) hk hm hl b4
  exact ⟨q, by unfold ifR; rw [a1, zQr, b1, zQr, if_pos (xJg (x := zKg) b3 rfl), b5] <;> rfl, b6⟩
end
end
section
theorem zXg {α β : Type} {x : Option α} {f : α → Option β} {y : β} (h : x.bind f = some y) : ∃ a, x = some a ∧ f a = some y := Option.bind_eq_some_iff.1 h
theorem yJb {d n m : Nat} {bd el : List St} (h : (blkC d bd (400 - n)).bind (blkC d el) = some (400 - m)) (hn : n ≤ 400) (hm : m ≤ 400) (hb : bd = []) (hl : el = []) : n = m := by
 subst hb hl
 obtain ⟨a, h1, h2⟩ := zXg h
 have e1 := zZx h1
 have e2 := zZx h2
 omega
theorem st_at {T : List Tk} {d p n m : Nat} {blk : Nat → Nat → Rz (List St)} (hB : BkAt T d blk) (hle : ∀ l a b, blkC d l a = some b → b ≤ a) (s : St) (hf : zZm s = true) (hn : n ≤ 400) (hm : m ≤ 400) (hb : (blkC d s.bd (400 - n)).bind (blkC d s.el) = some (400 - m))
 {c : Tk} {L : List Tk} (hc : c.t ≠ zKg) (h : T.drop p = stT s ++ c :: L) : ∃ q, stR T blk p n = .ok s q m ∧ T.drop q = c :: L := by
 obtain ⟨k, nm, fr, sec, mu, ex, ar, bd, el⟩ := s
 obtain ⟨⟨hk0, hk⟩, hM, har, hex⟩ := yQe hf
 simp only [St.bd, St.el] at hb
 have hkk : k = 1 ∨ k = 2 ∨ k = 3 ∨ k = 4 ∨ k = 5 ∨ k = 6 ∨ k = 7 ∨ k = 8 ∨ k = 9 ∨ k = 10 ∨ k = 11 ∨ k = 12 := by omega
 rcases hkk with rfl | rfl | rfl | rfl | rfl | rfl | rfl | rfl | rfl | rfl | rfl | rfl
 ·obtain ⟨h1, h2, -, h4, h5, h6, h7, h8, h9⟩ := zQn (show metB (2, 0, true, false, 1, 1, 0, false, false) nm fr sec mu _ _ _ _ = true from hM)
  obtain ⟨e, rfl⟩ := zZu h5 h6
  obtain rfl := yXk h2
  obtain rfl : mu = false := h4.elim (fun h => by cases h) id
  obtain rfl : ar = [] := List.length_eq_zero_iff.1 (by omega)
  obtain rfl : bd = [] := List.length_eq_zero_iff.1 (h8.elim (fun h => by cases h) id)
  obtain rfl : el = [] := List.length_eq_zero_iff.1 (h9.elim (fun h => by cases h) id)
  obtain rfl := yJb hb hn hm rfl rfl
  have h' : T.drop p = wdT wLet :: (secT sec ++ nmT nm :: sg [61] :: (xpT e ++ sg [59] :: c :: L)) := by rw [h]; simp [stT, stH, e0T]
  obtain ⟨-, w, -, h'', -⟩ := zZr h'
  replace w : txt T p = wLet := w
  obtain ⟨q, a1, a2⟩ := let_at (n := n) (zJn h1) e (hex e (by simp)) h''
  exact ⟨q, by unfold stR; rw [if_pos w, a1], a2⟩
 ·obtain ⟨h1, h2, h3, h4, h5, h6, h7, h8, h9⟩ := zQn (show metB (2, 0, false, false, 1, 1, 0, false, false) nm fr sec mu _ _ _ _ = true from hM)
  obtain ⟨e, rfl⟩ := zZu h5 h6
  obtain rfl := yXk h2
  obtain rfl : sec = false := h3.elim (fun h => by cases h) id
  obtain rfl : mu = false := h4.elim (fun h => by cases h) id
  obtain rfl : ar = [] := List.length_eq_zero_iff.1 (by omega)
  obtain rfl : bd = [] := List.length_eq_zero_iff.1 (h8.elim (fun h => by cases h) id)
  obtain rfl : el = [] := List.length_eq_zero_iff.1 (h9.elim (fun h => by cases h) id)
  obtain rfl := yJb hb hn hm rfl rfl
  have h' : T.drop p = nmT nm :: sg [61] :: (xpT e ++ sg [59] :: c :: L) := by rw [h]; simp [stT, stH, e0T]
  have z := zJn h1
  obtain ⟨q, a1, a2⟩ := set_at (n := n) e (hex e (by simp)) h'
  exact ⟨q, by unfold stR; rw [if_neg (zZh h' (zXq z jKv)), if_neg (zZh h' (zXq z jKx)), if_neg (zZh h' (zXq z nwIf)), if_neg (zZh h' (zXq z jQm)), if_neg (zZh h' (zXq z jKw)), if_neg (zZh h' (zXq z jQn)), if_neg (zZh h' (zXq z jQo)), if_neg (zZh h' (zXq z jJk)), if_neg (zZh h' (zXq z jJj)), if_neg (zZh h' (zXq z jJm)), if_neg (zZh h' (zXq z jJi)), a1], a2⟩
 ·obtain ⟨h1, h2, -, h4, h5, h6, h7, h8, h9⟩ := zQn (show metB (2, 0, true, false, 1, 1, 0, false, false) nm fr sec mu _ _ _ _ = true from hM)
  obtain ⟨e, rfl⟩ := zZu h5 h6
  obtain rfl := yXk h2
  obtain rfl : mu = false := h4.elim (fun h => by cases h) id
  obtain rfl : ar = [] := List.length_eq_zero_iff.1 (by omega)
  obtain rfl : bd = [] := List.length_eq_zero_iff.1 (h8.elim (fun h => by cases h) id)
  obtain rfl : el = [] := List.length_eq_zero_iff.1 (h9.elim (fun h => by cases h) id)
  obtain rfl := yJb hb hn hm rfl rfl
  have h' : T.drop p = wdT wBuf :: (secT sec ++ nmT nm :: sg [91] :: (xpT e ++ sg [93] :: sg [59] :: c :: L)) := by rw [h]; simp [stT, stH, e0T]
  obtain ⟨-, w, -, h'', -⟩ := zZr h'
  replace w : txt T p = wBuf := w
  obtain ⟨q, a1, a2⟩ := buf_at (n := n) (zJn h1) e (hex e (by simp)) h''
  exact ⟨q, by unfold stR; (repeat rw [if_neg (by rw [w]; decide)]); rw [if_pos w, a1], a2⟩
 ·obtain ⟨h1, h2, h3, h4, h5, h6, h7, h8, h9⟩ := zQn (show metB (2, 0, false, false, 2, 2, 0, false, false) nm fr sec mu _ _ _ _ = true from hM)
  obtain ⟨e, f, rfl⟩ := yKr h5 h6
  obtain rfl := yXk h2
  obtain rfl : sec = false := h3.elim (fun h => by cases h) id
  obtain rfl : mu = false := h4.elim (fun h => by cases h) id
  obtain rfl : ar = [] := List.length_eq_zero_iff.1 (by omega)
  obtain rfl : bd = [] := List.length_eq_zero_iff.1 (h8.elim (fun h => by cases h) id)
  obtain rfl : el = [] := List.length_eq_zero_iff.1 (h9.elim (fun h => by cases h) id)
  obtain rfl := yJb hb hn hm rfl rfl
  have h' : T.drop p = nmT nm :: sg [91] :: (xpT e ++ sg [93] :: sg [61] :: (xpT f ++ sg [59] :: c :: L)) := by rw [h]; simp [stT, stH, e0T, e1T]
  have z := zJn h1
  obtain ⟨q, a1, a2⟩ := put_at (n := n) e f (hex e (by simp)) (hex f (by simp)) h'
  exact ⟨q, by unfold stR; rw [if_neg (zZh h' (zXq z jKv)), if_neg (zZh h' (zXq z jKx)), if_neg (zZh h' (zXq z nwIf)), if_neg (zZh h' (zXq z jQm)), if_neg (zZh h' (zXq z jKw)), if_neg (zZh h' (zXq z jQn)), if_neg (zZh h' (zXq z jQo)), if_neg (zZh h' (zXq z jJk)), if_neg (zZh h' (zXq z jJj)), if_neg (zZh h' (zXq z jJm)), if_neg (zZh h' (zXq z jJi)), a1], a2⟩
 ·obtain ⟨h1, h2, h3, h4, h5, h6, h7, h8, h9⟩ := zQn (show metB (0, 0, false, false, 1, 1, 0, true, true) nm fr sec mu _ _ _ _ = true from hM)
  obtain ⟨e, rfl⟩ := zZu h5 h6
  obtain rfl := yXk h1
  obtain rfl := yXk h2
  obtain rfl : sec = false := h3.elim (fun h => by cases h) id
  obtain rfl : mu = false := h4.elim (fun h => by cases h) id
  obtain rfl : ar = [] := List.length_eq_zero_iff.1 (by omega)
  obtain ⟨a, hb1, hb2⟩ := zXg hb
  have ha := hle _ _ _ hb1
  have h' : T.drop p = wdT wIf :: (xpT e ++ sg [123] :: (stsT bd ++ sg [125] :: ((if el.isEmpty = true then [] else wdT zKg :: sg [123] :: (stsT el ++ [sg [125]])) ++ c :: L))) := by
   rw [h]; cases el <;> simp [stT, stH, e0T]
  obtain ⟨-, w, -, h'', -⟩ := zZr h'
  replace w : txt T p = wIf := w
  obtain ⟨q, a1, a2⟩ := if_at hB e (hex e (by simp)) hn (400 - a) (by omega) hm (by rw [hb1]; congr 1; omega) (by rw [show 400 - (400 - a) = a by omega]; exact hb2) hc h''
  exact ⟨q, by unfold stR; (repeat rw [if_neg (by rw [w]; decide)]); rw [if_pos w, a1], a2⟩
 ·obtain ⟨h1, h2, h3, h4, h5, h6, h7, h8, h9⟩ := zQn (show metB (0, 0, false, false, 1, 1, 0, true, false) nm fr sec mu _ _ _ _ = true from hM)
  obtain ⟨e, rfl⟩ := zZu h5 h6
  obtain rfl := yXk h1
  obtain rfl := yXk h2
  obtain rfl : sec = false := h3.elim (fun h => by cases h) id
  obtain rfl : mu = false := h4.elim (fun h => by cases h) id
  obtain rfl : ar = [] := List.length_eq_zero_iff.1 (by omega)
  obtain rfl : el = [] := List.length_eq_zero_iff.1 (h9.elim (fun h => by cases h) id)
  obtain ⟨a, hb1, hb2⟩ := zXg hb
  obtain rfl := zZx hb2
  have h' : T.drop p = wdT zZz :: (xpT e ++ sg [123] :: (stsT bd ++ sg [125] :: c :: L)) := by rw [h]; simp [stT, stH, e0T]
  obtain ⟨-, w, -, h'', -⟩ := zZr h'
  replace w : txt T p = zZz := w
  obtain ⟨q, a1, a2⟩ := whi_at hB e (hex e (by simp)) hn hm hb1 h''
  exact ⟨q, by unfold stR; (repeat rw [if_neg (by rw [w]; decide)]); rw [if_pos w, a1], a2⟩
 ·obtain ⟨h1, h2, h3, h4, h5, h6, h7, h8, h9⟩ := zQn (show metB (2, 0, false, false, 1, 1, 0, true, false) nm fr sec mu _ _ _ _ = true from hM)
  obtain ⟨e, rfl⟩ := zZu h5 h6
  obtain rfl := yXk h2
  obtain rfl : sec = false := h3.elim (fun h => by cases h) id
  obtain rfl : mu = false := h4.elim (fun h => by cases h) id
  obtain rfl : ar = [] := List.length_eq_zero_iff.1 (by omega)
  obtain rfl : el = [] := List.length_eq_zero_iff.1 (h9.elim (fun h => by cases h) id)
  obtain ⟨a, hb1, hb2⟩ := zXg hb
  obtain rfl := zZx hb2
  have h' : T.drop p = wdT wFor :: nmT nm :: sg [60] :: (xpT e ++ sg [123] :: (stsT bd ++ sg [125] :: c :: L)) := by rw [h]; simp [stT, stH, e0T]
  obtain ⟨-, w, -, h'', -⟩ := zZr h'
  replace w : txt T p = wFor := w
  obtain ⟨q, a1, a2⟩ := for_at hB e (hex e (by simp)) hn hm hb1 h''
  exact ⟨q, by unfold stR; (repeat rw [if_neg (by rw [w]; decide)]); rw [if_pos w, a1], a2⟩
 ·obtain ⟨h1, h2, h3, h4, h5, h6, h7, h8, h9⟩ := zQn (show metB (2, 2, false, true, 2, 2, 0, true, false) nm fr sec mu _ _ _ _ = true from hM)
  obtain ⟨e, f, rfl⟩ := yKr h5 h6
  obtain rfl : sec = false := h3.elim (fun h => by cases h) id
  obtain rfl : ar = [] := List.length_eq_zero_iff.1 (by omega)
  obtain rfl : el = [] := List.length_eq_zero_iff.1 (h9.elim (fun h => by cases h) id)
  obtain ⟨a, hb1, hb2⟩ := zXg hb
  obtain rfl := zZx hb2
  have h' : T.drop p = wdT (if mu = true then zQt else zXf) :: nmT nm :: sg [61] :: nmT fr :: sg [91] :: (xpT e ++ sg [46, 46] :: (xpT f ++ sg [93] :: sg [123] :: (stsT bd ++ sg [125] :: c :: L))) := by rw [h]; simp [stT, stH, e0T, e1T]
  obtain ⟨-, w, -, h'', -⟩ := zZr h'
  obtain ⟨q, a1, a2⟩ := len_at hB (mu := mu) e f (hex e (by simp)) (hex f (by simp)) hn hm hb1 h''
  cases mu
  ·replace w : txt T p = zXf := w
   exact ⟨q, by unfold stR; (repeat rw [if_neg (by rw [w]; decide)]); rw [if_pos w, a1], a2⟩
  ·replace w : txt T p = zQt := w
   exact ⟨q, by unfold stR; (repeat rw [if_neg (by rw [w]; decide)]); rw [if_pos w, a1], a2⟩
 ·obtain ⟨h1, h2, h3, h4, h5, h6, h7, h8, h9⟩ := zQn (show metB (2, 2, false, false, 0, 0, 0, false, false) nm fr sec mu _ _ _ _ = true from hM)
  obtain rfl : ex = [] := List.length_eq_zero_iff.1 (by omega)
  obtain rfl : sec = false := h3.elim (fun h => by cases h) id
  obtain rfl : mu = false := h4.elim (fun h => by cases h) id
  obtain rfl : ar = [] := List.length_eq_zero_iff.1 (by omega)
  obtain rfl : bd = [] := List.length_eq_zero_iff.1 (h8.elim (fun h => by cases h) id)
  obtain rfl : el = [] := List.length_eq_zero_iff.1 (h9.elim (fun h => by cases h) id)
  obtain rfl := yJb hb hn hm rfl rfl
  have h' : T.drop p = wdT zKw :: nmT nm :: sg [61] :: nmT fr :: sg [59] :: c :: L := by rw [h]; simp [stT, stH]
  obtain ⟨-, w, -, h'', -⟩ := zZr h'
  replace w : txt T p = zKw := w
  obtain ⟨q, a1, a2⟩ := mov_at (n := n) h''
  exact ⟨q, by unfold stR; (repeat rw [if_neg (by rw [w]; decide)]); rw [if_pos w, a1], a2⟩
 ·obtain ⟨h1, h2, h3, h4, h5, h6, h7, h8, h9⟩ := zQn (show metB (2, 0, false, false, 1, 1, 0, false, false) nm fr sec mu _ _ _ _ = true from hM)
  obtain ⟨e, rfl⟩ := zZu h5 h6
  obtain rfl := yXk h2
  obtain rfl : sec = false := h3.elim (fun h => by cases h) id
  obtain rfl : mu = false := h4.elim (fun h => by cases h) id
  obtain rfl : ar = [] := List.length_eq_zero_iff.1 (by omega)
  obtain rfl : bd = [] := List.length_eq_zero_iff.1 (h8.elim (fun h => by cases h) id)
  obtain rfl : el = [] := List.length_eq_zero_iff.1 (h9.elim (fun h => by cases h) id)
  obtain rfl := yJb hb hn hm rfl rfl
  have h' : T.drop p = wdT yQp :: nmT nm :: sg [61] :: (xpT e ++ sg [59] :: c :: L) := by rw [h]; simp [stT, stH, e0T]
  obtain ⟨-, w, -, h'', -⟩ := zZr h'
  replace w : txt T p = yQp := w
  obtain ⟨q, a1, a2⟩ := opn_at (n := n) e (hex e (by simp)) h''
  exact ⟨q, by unfold stR; (repeat rw [if_neg (by rw [w]; decide)]); rw [if_pos w, a1], a2⟩
 ·obtain ⟨h1, h2, h3, h4, h5, h6, h7, h8, h9⟩ := zQn (show metB (1, 2, false, false, 0, 8, 8, false, false) nm fr sec mu _ _ _ _ = true from hM)
  obtain rfl : sec = false := h3.elim (fun h => by cases h) id
  obtain rfl : mu = false := h4.elim (fun h => by cases h) id
  obtain rfl : bd = [] := List.length_eq_zero_iff.1 (h8.elim (fun h => by cases h) id)
  obtain rfl : el = [] := List.length_eq_zero_iff.1 (h9.elim (fun h => by cases h) id)
  obtain rfl := yJb hb hn hm rfl rfl
  have h' : T.drop p = wdT zKs :: ((if nm = [] then [] else [nmT nm, sg [61]]) ++ nmT fr :: sg [40] :: (comT xpT ex ++ sg [59] :: (comT (fun s => [nmT s]) ar ++ sg [41] :: sg [59] :: c :: L))) := by rw [h]; simp [stT, stH]
  obtain ⟨-, w, -, h'', -⟩ := zZr h'
  replace w : txt T p = zKs := w
  obtain ⟨q, a1, a2⟩ := cal_at (n := n) (qQd h1) hex har (by omega) (by omega) h''
  exact ⟨q, by unfold stR; (repeat rw [if_neg (by rw [w]; decide)]); rw [if_pos w, a1], a2⟩
 ·obtain ⟨h1, h2, h3, h4, h5, h6, h7, h8, h9⟩ := zQn (show metB (0, 0, false, false, 0, 0, 0, false, false) nm fr sec mu _ _ _ _ = true from hM)
  obtain rfl : ex = [] := List.length_eq_zero_iff.1 (by omega)
  obtain rfl := yXk h1
  obtain rfl := yXk h2
  obtain rfl : sec = false := h3.elim (fun h => by cases h) id
  obtain rfl : mu = false := h4.elim (fun h => by cases h) id
  obtain rfl : ar = [] := List.length_eq_zero_iff.1 (by omega)
  obtain rfl : bd = [] := List.length_eq_zero_iff.1 (h8.elim (fun h => by cases h) id)
  obtain rfl : el = [] := List.length_eq_zero_iff.1 (h9.elim (fun h => by cases h) id)
  obtain rfl := yJb hb hn hm rfl rfl
  have h' : T.drop p = wdT yQh :: sg [59] :: c :: L := by rw [h]; simp [stT, stH]
  obtain ⟨-, w, -, h'', -⟩ := zZr h'
  replace w : txt T p = yQh := w
  obtain ⟨q, a1, a2⟩ := sea_at (n := n) h''
  exact ⟨q, by unfold stR; (repeat rw [if_neg (by rw [w]; decide)]); rw [if_pos w, a1], a2⟩
theorem jZz (s : St) (hf : zZm s = true) : ∃ t u, stT s = t :: u ∧ t.t ≠ [125] ∧ t.t ≠ zKg := by
 obtain ⟨k, nm, fr, sec, mu, ex, ar, bd, el⟩ := s
 obtain ⟨⟨hk0, hk⟩, hM, har, hex⟩ := yQe hf
 have hkk : k = 1 ∨ k = 2 ∨ k = 3 ∨ k = 4 ∨ k = 5 ∨ k = 6 ∨ k = 7 ∨ k = 8 ∨ k = 9 ∨ k = 10 ∨ k = 11 ∨ k = 12 := by omega
 rcases hkk with rfl | rfl | rfl | rfl | rfl | rfl | rfl | rfl | rfl | rfl | rfl | rfl
 ·exact ⟨wdT wLet, _, by simp [stT, stH]; rfl, by decide, by decide⟩
 ·obtain ⟨h1, -⟩ := zQn (show metB (2, 0, false, false, 1, 1, 0, false, false) nm fr sec mu _ _ _ _ = true from hM)
  exact ⟨nmT nm, _, by simp [stT, stH]; rfl, zXq (zJn h1) jKy, zXq (zJn h1) jJl⟩
 ·exact ⟨wdT wBuf, _, by simp [stT, stH]; rfl, by decide, by decide⟩
 ·obtain ⟨h1, -⟩ := zQn (show metB (2, 0, false, false, 2, 2, 0, false, false) nm fr sec mu _ _ _ _ = true from hM)
  exact ⟨nmT nm, _, by simp [stT, stH]; rfl, zXq (zJn h1) jKy, zXq (zJn h1) jJl⟩
 ·exact ⟨wdT wIf, _, by simp [stT, stH]; rfl, by decide, by decide⟩
 ·exact ⟨wdT zZz, _, by simp [stT, stH]; rfl, by decide, by decide⟩
 ·exact ⟨wdT wFor, _, by simp [stT, stH]; rfl, by decide, by decide⟩
 ·exact ⟨wdT (if mu = true then zQt else zXf), _, by simp [stT, stH]; rfl, by cases mu <;> decide, by cases mu <;> decide⟩
 ·exact ⟨wdT zKw, _, by simp [stT, stH]; rfl, by decide, by decide⟩
 ·exact ⟨wdT yQp, _, by simp [stT, stH]; rfl, by decide, by decide⟩
 ·exact ⟨wdT zKs, _, by simp [stT, stH]; rfl, by decide, by decide⟩
 ·exact ⟨wdT yQh, _, by simp [stT, stH]; rfl, by decide, by decide⟩
theorem yQb {d : Nat} {s : St} {a b : Nat} (h : oneC d s a = some b) : a ≠ 0 ∧ zZm s = true ∧ (blkC d s.bd (a - 1)).bind (blkC d s.el) = some b := by
 unfold oneC at h
 by_cases c : a = 0 ∨ zZm s = false
 ·rw [if_pos c] at h; cases h
 ·rw [if_neg c] at h
  exact ⟨fun e => c (.inl e), by cases hf : zZm s; exact absurd (.inr hf) c; rfl, h⟩
theorem xZk {one : St → Nat → Option Nat} (ho : ∀ s a b, one s a = some b → b < a) : ∀ l a b, rowC one l a = some b → l.length + b ≤ a
 | [], a, b, h => by rw [rowC] at h; cases h; simp
 | s :: r, a, b, h => by
   rw [rowC] at h
   obtain ⟨x, h1, h2⟩ := zXg h
   have := ho _ _ _ h1
   have := xZk ho r x b h2
   simp only [List.length_cons]
   omega
theorem yZw : ∀ d l a b, blkC d l a = some b → b ≤ a
 | 0, [], a, b, h => by rw [blkC] at h; cases h; exact Nat.le_refl _
 | 0, _ :: _, a, b, h => by rw [blkC] at h; cases h
 | d + 1, l, a, b, h => by
   rw [zJi] at h
   have := xZk (fun s a b h => by
    obtain ⟨h0, -, h1⟩ := yQb h
    obtain ⟨x, h2, h3⟩ := zXg h1
    have := yZw d _ _ _ h2
    have := yZw d _ _ _ h3
    omega) l a b h
   omega
theorem jQl {d : Nat} {s : St} {a b : Nat} (h : oneC d s a = some b) : b < a := by
 obtain ⟨h0, -, h1⟩ := yQb h
 obtain ⟨x, h2, h3⟩ := zXg h1
 have := yZw d _ _ _ h2
 have := yZw d _ _ _ h3
 omega
theorem next_no {d : Nat} {l : List St} {a b : Nat} (h : rowC (oneC d) l a = some b) (L : List Tk) : ∃ c L', stsT l ++ sg [125] :: L = c :: L' ∧ c.t ≠ zKg := by
 cases l with
 | nil => exact ⟨_, _, rfl, by decide⟩
 | cons s r =>
  rw [rowC] at h
  obtain ⟨x, h1, h2⟩ := zXg h
  obtain ⟨t, u, h3, -, h4⟩ := jZz s (yQb h1).2.1
  exact ⟨t, _, by rw [stsT, h3]; rfl, h4⟩
theorem jZc {T : List Tk} {d : Nat} (hB : BkAt T d (blkR T d)) : ∀ (g : Nat) (l acc : List St) (p n m : Nat) (L : List Tk), l.length < g → n ≤ 400 → m ≤ 400 → rowC (oneC d) l (400 - n) = some (400 - m) → T.drop p = stsT l ++ sg [125] :: L → ∃ q, blkL T (staR T (blkR T d)) g acc p n = .ok (acc ++ l) q m ∧ T.drop q = L
 | 0, l, acc, p, n, m, L, hg, _, _, _, _ => by omega
 | g + 1, [], acc, p, n, m, L, hg, hn, hm, hr, h => by
   rw [rowC] at hr
   have e : n = m := by have := Option.some.inj hr; omega
   subst e
   obtain ⟨-, h1, -, h2, -⟩ := zZr (show T.drop p = sg [125] :: L from h)
   exact ⟨p + 1, by rw [blkL, if_pos (show txt T p = [125] from h1), List.append_nil], h2⟩
 | g + 1, s :: r, acc, p, n, m, L, hg, hn, hm, hr, h => by
   simp only [List.length_cons] at hg
   rw [rowC] at hr
   obtain ⟨x, h1, h2⟩ := zXg hr
   obtain ⟨h0, hf, h3⟩ := yQb h1
   have hx := jQl h1
   obtain ⟨t, u, ht, h125, -⟩ := jZz s hf
   have h' : T.drop p = stT s ++ (stsT r ++ sg [125] :: L) := by rw [h, stsT, List.append_assoc]
   have hne : ¬ txt T p = [125] := by rw [ht] at h'; exact zZh h' h125
   obtain ⟨c, L', hc, hce⟩ := next_no h2 L
   rw [hc] at h'
   obtain ⟨q, a1, a2⟩ := st_at (n := n + 1) (m := 400 - x) hB (yZw d) s hf (by omega) (by omega) (by rw [show 400 - (n + 1) = 400 - n - 1 by omega, show 400 - (400 - x) = x by omega]; exact h3) hce h'
   rw [← hc] at a2
   obtain ⟨q', b1, b2⟩ := jZc hB g r (acc ++ [s]) q (400 - x) m L (by omega) (by omega) hm (by rw [show 400 - (400 - x) = x by omega]; exact h2) a2
   refine ⟨q', ?_, b2⟩
   have e : staR T (blkR T d) p n = .ok s q (400 - x) := by unfold staR; rw [if_neg (by omega), a1]
   rw [blkL, if_neg hne, e, zQr, b1, List.append_assoc] <;> rfl
theorem jXz (T : List Tk) : ∀ d, BkAt T d (blkR T d)
 | 0 => fun l n m p L hn hm hb h => by
   cases l with
   | cons s r => rw [blkC] at hb; cases hb
   | nil =>
    have e : n = m := by have := zZx hb; omega
    subst e
    obtain ⟨h1, h2⟩ := zJb (n := n) h (s := [123]) rfl
    obtain ⟨-, h3, -, h4, -⟩ := zZr (show T.drop (p + 1) = sg [125] :: L from h2)
    exact ⟨p + 1 + 1, by rw [blkR, h1, zQr, blkL, if_pos (show txt T (p + 1) = [125] from h3)] <;> rfl, h4⟩
 | d + 1 => fun l n m p L hn hm hb h => by
   rw [zJi] at hb
   have hlen := xZk (fun s a b h => jQl h) l _ _ hb
   obtain ⟨h1, h2⟩ := zJb (n := n) h (s := [123]) rfl
   obtain ⟨q, h3, h4⟩ := jZc (jXz T d) (401 - n) l [] (p + 1) n m L (by omega) hn hm hb h2
   exact ⟨q, by rw [blkR, h1, zQr, h3] <;> rfl, h4⟩
theorem fun_at {T : List Tk} {p n m : Nat} (f : Fd) (hn : n ≤ 400) (hm : m ≤ 400) (hf : fdC f (400 - n) = some (400 - m)) {L : List Tk} (h : T.drop p = fdT f ++ L) : ∃ q, funR T p n = .ok f q m ∧ T.drop q = L := by
 obtain ⟨nm, ps, bd, sec, rt⟩ := f
 unfold fdC at hf
 change (if (nmdB nm && psB ps && rtB sec rt) = true then blkC 40 bd (400 - n) else none) = some (400 - m) at hf
 have c : (nmdB nm && psB ps && rtB sec rt) = true := Classical.byContradiction (fun c => by rw [if_neg c] at hf; cases hf)
 rw [if_pos c] at hf
 simp only [psB, Bool.and_eq_true, decide_eq_true_eq, List.all_eq_true] at c
 obtain ⟨⟨c1, c2, c3⟩, c4⟩ := c
 have h' : T.drop p = wdT wFn :: nmT nm :: sg [40] :: (comT pmT ps ++ sg [41] :: sg [123] :: (stsT bd ++ sg [125] :: ((if rt.isEmpty = true then [] else sg [61] :: (secT sec ++ e0T rt)) ++ sg [59] :: L))) := by
  rw [h]; simp [fdT, hdT, tlT]
 obtain ⟨a1, a2⟩ := zJb (n := n) h' (s := wFn) rfl
 obtain ⟨a3, a4⟩ := zJg (n := n) a2
 obtain ⟨a5, a6⟩ := zJb (n := n) a4 (s := [40]) rfl
 obtain ⟨q1, b1, b2⟩ := xZs (one := parR T) (bh := [41]) (f := pmT) (n := n) (by decide) ps _ _ (fun x hx p c L _ hp => par_at x (c3 x hx) hp) (fun x hx => pmT_hd x (c3 x hx)) c2 a6
 obtain ⟨q2, b3, b4⟩ := jXz T 40 bd n m q1 _ hn hm hf b2
 have key : ∃ q, retR T nm ps bd q2 m = .ok ⟨nm, ps, bd, sec, rt⟩ q m ∧ T.drop q = L := by
  unfold rtB at c4
  cases rt with
  | nil =>
   obtain rfl : sec = false := by simpa using c4
   have b5 : T.drop q2 = sg [59] :: L := b4
   obtain ⟨d1, d2⟩ := zJb (n := m) b5 (s := [59]) rfl
   exact ⟨q2 + 1, by unfold retR; rw [if_neg (zZh b5 (by decide)), d1]; rfl, d2⟩
  | cons e r =>
   rw [if_neg (by simp)] at c4
   simp only [Bool.and_eq_true, decide_eq_true_eq, List.all_eq_true, List.length_cons] at c4
   obtain rfl : r = [] := List.length_eq_zero_iff.1 (by omega)
   have he := c4.2 e (by simp)
   have b5 : T.drop q2 = sg [61] :: (secT sec ++ (xpT e ++ sg [59] :: L)) := by rw [b4]; simp [e0T]
   obtain ⟨-, -, -, b6, -⟩ := zZr b5
   obtain ⟨t, u, ht, hth⟩ := jZr e he
   have b7 : T.drop (q2 + 1) = secT sec ++ t :: (u ++ sg [59] :: L) := by rw [b6, ht]; rfl
   obtain ⟨d1, d2⟩ := xXh b7 (qQg hth (by decide) (by decide) (by decide) yJl)
   obtain ⟨q3, d3, d4⟩ := yKe (n := m) (show T.drop (beP T zQo (q2 + 1)) = xpT e ++ sg [59] :: L by rw [d2, ht]; rfl) he (by decide)
   obtain ⟨d5, d6⟩ := zJb (n := m) d4 (s := [59]) rfl
   exact ⟨q3 + 1, by unfold retR; rw [if_pos (xJg (x := [61]) b5 rfl), d3, zQr, d5, zQr, d1] <;> rfl, d6⟩
 obtain ⟨q, k1, k2⟩ := key
 exact ⟨q, by unfold funR; rw [a1, zQr, a3, zQr, a5, zQr, b1, zQr, b3, zQr, k1] <;> rfl, k2⟩
theorem jJx {f : Fd} {a b : Nat} (h : fdC f a = some b) : b ≤ a := by
 unfold fdC at h
 split at h
 ·exact yZw _ _ _ _ h
 ·cases h
theorem fdT_hd (f : Fd) : ∃ u, fdT f = wdT wFn :: u := ⟨_, rfl⟩
theorem jQe {T : List Tk} : ∀ (g : Nat) (l acc : List Fd) (p n m : Nat), l.length < g → acc.length + l.length ≤ 16 → n ≤ 400 → m ≤ 400 → pgC l (400 - n) = some (400 - m) → T.drop p = pgT l ++ [⟨5, [], 0⟩] → ∃ q, proL T g acc p n = .ok (acc ++ l) q m
 | 0, l, acc, p, n, m, hg, _, _, _, _, _ => by omega
 | g + 1, [], acc, p, n, m, hg, h16, hn, hm, hr, h => by
   rw [pgC] at hr
   have e : n = m := by have := Option.some.inj hr; omega
   subst e
   obtain ⟨-, -, h1, -, -⟩ := zZr (show T.drop p = ⟨5, [], 0⟩ :: [] from h)
   exact ⟨p, by rw [proL, if_pos h1, List.append_nil]⟩
 | g + 1, f :: r, acc, p, n, m, hg, h16, hn, hm, hr, h => by
   simp only [List.length_cons] at hg h16
   rw [pgC] at hr
   obtain ⟨x, h1, h2⟩ := zXg hr
   have hx := jJx h1
   have h' : T.drop p = fdT f ++ (pgT r ++ [⟨5, [], 0⟩]) := by rw [h]; simp [pgT]
   obtain ⟨u, hu⟩ := fdT_hd f
   have hk : ¬ knd T p = 5 := by rw [hu] at h'; rw [(zZr h').2.2.1]; decide
   obtain ⟨q, a1, a2⟩ := fun_at (m := 400 - x) f hn (by omega) (by rw [show 400 - (400 - x) = x by omega]; exact h1) h'
   obtain ⟨q', b1⟩ := jQe g r (acc ++ [f]) q (400 - x) m (by omega) (by simp; omega) (by omega) hm (by rw [show 400 - (400 - x) = x by omega]; exact h2) a2
   refine ⟨q', ?_⟩
   rw [proL, if_neg hk, if_neg (by omega), a1, zQr, b1, List.append_assoc] <;> rfl
theorem jJf : ∀ l a b, pgC l a = some b → b ≤ a
 | [], a, b, h => by rw [pgC] at h; cases h; exact Nat.le_refl _
 | f :: r, a, b, h => by
   rw [pgC] at h
   obtain ⟨x, h1, h2⟩ := zXg h
   have := jJx h1
   have := jJf r x b h2
   omega
theorem pro_at (l : List Fd) (h : pgB l = true) : ∃ q m, proR (pgT l ++ [⟨5, [], 0⟩]) = .ok l q m := by
 simp only [pgB, Bool.and_eq_true, decide_eq_true_eq] at h
 obtain ⟨h16, hs⟩ := h
 obtain ⟨b, hb⟩ := Option.isSome_iff_exists.1 hs
 have hle := jJf _ _ _ hb
 obtain ⟨q, h1⟩ := jQe (T := pgT l ++ [⟨5, [], 0⟩]) 17 l [] 0 0 (400 - b) (by omega) (by simpa using h16) (by omega) (by omega) (by rw [show 400 - (400 - b) = b by omega]; exact hb) rfl
 exact ⟨q, _, h1⟩
inductive LexTo : List UInt8 → List Tk → Prop
 | nil {b : List UInt8} (hb : ∀ c ∈ b, isB c = true) : LexTo b []
 | cons {b m rest : List UInt8} {t : Tk} {L : List Tk} (hb : ∀ c ∈ b, isB c = true) (ht : TkOk t m) (hr : ∀ c r', rest = c :: r' → stop t c) (h : LexTo rest L) : LexTo (b ++ (m ++ rest)) (t :: L)
theorem LexTo.lex {s : List UInt8} {L : List Tk} (h : LexTo s L) : ∀ (g a : Nat), s.length < g → ∃ T, lexN g s a = .ok T ∧ T.map (·.1) = L ++ [⟨5, [], 0⟩] := by
 induction h with
 | nil hb =>
  intro g a hg
  obtain ⟨g, rfl⟩ : ∃ g', g = g' + 1 := ⟨g - 1, by omega⟩
  exact ⟨_, jXa g _ hb a, rfl⟩
 | @cons b m rest t L hb ht hr h ih =>
  intro g a hg
  obtain ⟨g, rfl⟩ : ∃ g', g = g' + 1 := ⟨g - 1, by omega⟩
  have hm : 0 < m.length := List.length_pos_iff.2 ht.ne
  simp only [List.length_append] at hg
  obtain ⟨T, h1, h2⟩ := ih g (a + b.length + m.length) (by omega)
  exact ⟨_, by rw [jQy g b hb ht rest hr a, h1]; rfl, by simp [h2]⟩
theorem LexTo.blank {b s : List UInt8} {L : List Tk} (hb : ∀ c ∈ b, isB c = true) (h : LexTo s L) : LexTo (b ++ s) L := by
 cases h with
 | nil h => exact .nil (fun c hc => (List.mem_append.1 hc).elim (hb c) (h c))
 | cons h1 ht hr h =>
  rw [← List.append_assoc]
  exact .cons (fun c hc => (List.mem_append.1 hc).elim (hb c) (h1 c)) ht hr h
theorem LexTo.row {s : List UInt8} {L : List Tk} {c : UInt8} (hc : isB c = true) (h : LexTo s L) : ∀ (r : List Tk), (∀ t ∈ r, ∃ m, TkOk t m) → LexTo (yQm r ++ c :: s) (r ++ L)
 | [], _ => LexTo.blank (b := [c]) (fun x hx => by rw [List.mem_singleton.1 hx]; exact hc) h
 | [t], hr => by
   obtain ⟨m, ht⟩ := hr t (List.mem_cons_self ..)
   have e : yQm [t] = m := by unfold yQm; rw [xZl ht]; simp [pcs, Lib.join]
   rw [e]
   exact LexTo.cons (b := []) (by simp) ht (fun c' r' e => by cases e; exact yKw ht hc) (LexTo.blank (b := [c]) (fun x hx => by rw [List.mem_singleton.1 hx]; exact hc) h)
 | t :: t' :: r, hr => by
   obtain ⟨m, ht⟩ := hr t (List.mem_cons_self ..)
   obtain ⟨m', ht'⟩ := hr t' (List.mem_cons_of_mem _ (List.mem_cons_self ..))
   have ih := LexTo.row hc h (t' :: r) (fun x hx => hr x (List.mem_cons_of_mem _ hx))
   have e : yQm (t :: t' :: r) = m ++ 32 :: yQm (t' :: r) := by unfold yQm; rw [xZl ht, xZl ht', xKe]
   rw [e, List.append_assoc]
   exact LexTo.cons (b := []) (by simp) ht (fun c' r' e => by cases e; exact yKw ht (by decide)) (LexTo.blank (b := [32]) (fun x hx => by rw [List.mem_singleton.1 hx]; decide) ih)
def lnT (d : Nat) (r : List Tk) : List UInt8 := List.replicate (2 * d) 32 ++ (yQm r ++ [10])
def lnsT (l : List (Nat × List Tk)) : List UInt8 := l.flatMap fun x => lnT x.1 x.2
theorem jQv : ∀ (l : List (Nat × List Tk)), (∀ x ∈ l, ∀ t ∈ x.2, ∃ m, TkOk t m) → LexTo (lnsT l) (l.flatMap (·.2))
 | [], _ => .nil (by simp [lnsT])
 | x :: l, h => by
   have ih := jQv l (fun y hy => h y (List.mem_cons_of_mem _ hy))
   have h1 := LexTo.row (c := 10) (by decide) ih x.2 (h x (List.mem_cons_self ..))
   have h2 := LexTo.blank (b := List.replicate (2 * x.1) 32) (fun c hc => by rw [List.eq_of_mem_replicate hc]; decide) h1
   have e : lnsT (x :: l) = List.replicate (2 * x.1) 32 ++ (yQm x.2 ++ 10 :: lnsT l) := by simp [lnsT, lnT]
   rw [e]
   exact h2
mutual
def stL : Nat → St → List (Nat × List Tk)
 | d, .mk k nm fr sec mu ex ar bd el => (d, stH k nm fr sec mu ex ar) :: (if 5 ≤ k ∧ k ≤ 8 then stsL (d + 1) bd ++ ((if el.isEmpty = true then [] else (d, [sg [125], wdT zKg, sg [123]]) :: stsL (d + 1) el) ++ [(d, [sg [125]])]) else [])
def stsL : Nat → List St → List (Nat × List Tk)
 | _, [] => []
 | d, s :: r => stL d s ++ stsL d r
end
def fdL (f : Fd) : List (Nat × List Tk) := (0, hdT f) :: (stsL 1 f.bd ++ [(0, tlT f)])
def pgL (l : List Fd) : List (Nat × List Tk) := l.flatMap fdL
def shoT (l : List Fd) : List UInt8 := lnsT (pgL l)
mutual
theorem stL_flat : ∀ (d : Nat) (s : St), (stL d s).flatMap (·.2) = stT s
 | d, .mk k nm fr sec mu ex ar bd el => by
   rw [stL, stT, List.flatMap_cons]
   congr 1
   by_cases c : 5 ≤ k ∧ k ≤ 8
   ·rw [if_pos c, if_pos c, List.flatMap_append, List.flatMap_append, yXs (d + 1) bd]
    congr 1
    by_cases c2 : el.isEmpty = true
    ·rw [if_pos c2, if_pos c2]; rfl
    ·rw [if_neg c2, if_neg c2, List.flatMap_cons, yXs (d + 1) el]; rfl
   ·rw [if_neg c, if_neg c]; rfl
theorem yXs : ∀ (d : Nat) (l : List St), (stsL d l).flatMap (·.2) = stsT l
 | d, [] => by rw [stsL, stsT]; rfl
 | d, s :: r => by rw [stsL, stsT, List.flatMap_append, stL_flat d s, yXs d r]
end
theorem xJy : ∀ (l : List Fd), (pgL l).flatMap (·.2) = pgT l
 | [] => rfl
 | f :: r => by
   have ih := xJy r
   have e : pgL (f :: r) = fdL f ++ pgL r := rfl
   have e2 : pgT (f :: r) = fdT f ++ pgT r := rfl
   rw [e, e2, List.flatMap_append, ih]
   congr 1
   unfold fdL fdT
   rw [List.flatMap_cons, List.flatMap_append, yXs]
   simp
theorem sho_back (l : List Fd) (h : pgB l = true) (ht : ∀ x ∈ pgL l, ∀ t ∈ x.2, ∃ m, TkOk t m) (hs : (shoT l).length ≤ 16384) : parB (shoT l) = .ok l := by
 obtain ⟨T, h1, h2⟩ := (jQv (pgL l) ht).lex ((shoT l).length + 1) 0 (by unfold shoT; omega)
 obtain ⟨q, m, h3⟩ := pro_at l h
 have h4 : lexT (shoT l) = .ok T := by unfold lexT; rw [if_neg (by omega)]; exact h1
 unfold parB
 rw [h4]
 simp only
 rw [h2, xJy, h3]
theorem xKl {k : Nat} (h : k < 10) : isD (UInt8.ofNat (48 + k)) = true ∧ (UInt8.ofNat (48 + k)).toNat - 48 = k := by
 have e : (UInt8.ofNat (48 + k)).toNat = 48 + k := by simp; omega
 exact ⟨isD_iff.2 (by omega), by omega⟩
theorem numR_app (a b : List UInt8) : ∀ acc, numR acc (a ++ b) = (numR acc a).bind (fun x => numR x b) := by
 induction a with
 | nil => intro acc; rfl
 | cons c r ih =>
  intro acc
  rw [List.cons_append, numR, numR]
  split
  ·rfl
  ·exact ih _
theorem dec_digits (u : Nat) : (∀ c ∈ Lib.decDigits u, isD c = true) ∧ Lib.decDigits u ≠ [] := by
 induction u using Nat.strongRecOn with
 | _ u ih =>
  rw [Lib.decDigits]
  by_cases h : u < 10
  ·rw [dif_pos h]
   exact ⟨fun c hc => by rw [List.mem_singleton.1 hc]; exact (xKl h).1, by simp⟩
  ·rw [dif_neg h]
   refine ⟨fun c hc => ?_, by simp⟩
   rcases List.mem_append.1 hc with hc | hc
   ·exact (ih _ (by omega)).1 c hc
   ·rw [List.mem_singleton.1 hc]; exact (xKl (by omega)).1
theorem numR_dec (u : Nat) : u < 18446744073709551616 → numR 0 (Lib.decDigits u) = some u := by
 induction u using Nat.strongRecOn with
 | _ u ih =>
  intro hu
  rw [Lib.decDigits]
  by_cases h : u < 10
  ·rw [dif_pos h, numR, (xKl h).2, if_neg (by omega), numR]
   congr 1; omega
  ·rw [dif_neg h, numR_app, ih (u / 10) (by omega) (by omega)]
   show numR (u / 10) _ = _
   rw [numR, (xKl (show u % 10 < 10 by omega)).2, if_neg (by omega), numR]
   congr 1; omega
theorem num_tk (u : Nat) (hu : u < 18446744073709551616) : TkOk ⟨3, [], u⟩ (Lib.decDigits u) := by
 obtain ⟨h1, h2⟩ := dec_digits u
 refine .inr (.inl ⟨rfl, rfl, ?_, rfl, hu, h1, h2⟩)
 rw [numP_digits _ h2 h1, numR_dec u hu, if_neg]
 rintro ⟨h3, h4⟩
 match hd : Lib.decDigits u with
 | [] => exact h2 hd
 | [_] => rw [hd] at h3; simp at h3
 | c :: d :: r =>
  rw [hd] at h4
  obtain rfl : c = 48 := by simpa using h4
  exact jXb u d r hd
theorem zJm {s : List UInt8} (h : nmdB s = true) : TkOk (nmT s) s := by
 unfold nmdB at h
 split at h
 ·rename_i t z r hl
  simp only [Bool.and_eq_true, decide_eq_true_eq] at h
  obtain ⟨hk, hs⟩ := h
  unfold lexT at hl
  split at hl
  ·cases hl
  ·obtain ⟨f', hf, h1 | ⟨b, t', m, r', T', -, -, ht, -, -, hT⟩⟩ := yJx hl
   ·have := h1.2
    cases this
    exact absurd hk (by decide)
   ·cases hT
    have h0 := ht
    rcases ht with ⟨-, e1, e2, -⟩ | ⟨h3, -⟩ | ⟨h4, -⟩
    ·obtain ⟨k, x, n⟩ := t
     simp only at hk hs e1 e2
     subst hk hs e1 e2
     exact h0
    ·exact absurd (hk.symm.trans h3) (by decide)
    ·exact absurd (hk.symm.trans h4) (by decide)
 ·cases h
def wdB (w : List UInt8) : Bool := isWd w && decide (w.length ≤ 16) && w.all isLD && match w with | [] => false | c :: _ => isL c
theorem yXq {w : List UInt8} (h : wdB w = true) : TkOk (wdT w) w := by
 simp only [wdB, Bool.and_eq_true, decide_eq_true_eq, List.all_eq_true] at h
 obtain ⟨⟨⟨h1, h2⟩, h3⟩, h4⟩ := h
 refine .inl ⟨.inr rfl, rfl, rfl, ?_, h3, ?_⟩
 ·unfold yXa; rw [if_neg (by omega), h1]; rfl
 ·cases w with
  | nil => cases h4
  | cons c r => exact ⟨c, r, rfl, h4⟩
theorem yQs {m : List UInt8} (h : signsL.contains m = true) : TkOk (sg m) m := .inr (.inr ⟨rfl, rfl, rfl, List.contains_iff_mem.1 h⟩)
def Toks (r : List Tk) : Prop := ∀ t ∈ r, ∃ m, TkOk t m
theorem zQx : Toks [] := fun t h => by simp at h
theorem zQg {t : Tk} {r : List Tk} {m : List UInt8} (h : TkOk t m) (hr : Toks r) : Toks (t :: r) := fun x hx => by
 rcases List.mem_cons.1 hx with rfl | hx
 ·exact ⟨m, h⟩
 ·exact hr x hx
theorem zXh {a b : List Tk} (ha : Toks a) (hb : Toks b) : Toks (a ++ b) := fun x hx => (List.mem_append.1 hx).elim (ha x) (hb x)
mutual
def Xp.nb : Xp → Prop
 | .mk _ n _ _ l => n < 18446744073709551616 ∧ nbL l
def nbL : List Xp → Prop
 | [] => True
 | x :: r => x.nb ∧ nbL r
end
theorem nbL_iff : ∀ {l : List Xp}, nbL l ↔ ∀ x ∈ l, x.nb
 | [] => by rw [nbL]; simp
 | x :: r => by rw [nbL, nbL_iff (l := r)]; simp
theorem op_sign : ∀ o, opS o ≠ [] → signsL.contains (opS o) = true := by
 intro o h
 by_cases c : o < 15
 ·exact (show ∀ o, o < 15 → opS o ≠ [] → signsL.contains (opS o) = true by decide +kernel) o c h
 ·exact absurd (by unfold opS; rw [List.getD_eq_getElem?_getD, List.getElem?_eq_none (by show opsL.length ≤ o; have : opsL.length = 15 := rfl; omega)]; rfl) h
theorem xXe : ∀ (d : Nat) (e : Xp), mayB d e = true → e.nb → Toks (zQw d e)
 | 0, e, h, _ => by simp [mayB] at h
 | d + 1, .mk k n s o l, h, hb => by
   rw [mayB, Bool.and_eq_true, List.all_eq_true] at h
   obtain ⟨hf, hl⟩ := h
   rw [Xp.nb] at hb
   have hk : ∀ j, j < l.length → Toks (zQw d (l.getD j x0)) := fun j hj => by
    have e : l.getD j x0 = l[j] := by rw [List.getD_eq_getElem?_getD, List.getElem?_eq_getElem hj]; rfl
    rw [e]
    exact xXe d _ (hl _ (List.getElem_mem hj)) (nbL_iff.1 hb.2 _ (List.getElem_mem hj))
   rw [zQw]
   rcases xQu hf with rfl | rfl | rfl | rfl | rfl
   ·rw [if_pos rfl]; exact zQg (num_tk n hb.1) zQx
   ·rw [if_neg (by decide), if_pos rfl]; exact zQg (zJm (fit2 hf).2.1) zQx
   ·rw [if_neg (by decide), if_neg (by decide), if_neg (by decide), if_neg (by decide)]
    obtain ⟨-, -, ho, hm⟩ := fit3 hf
    exact zQg (yQs (by decide +kernel)) (zXh (hk 0 (by omega)) (zQg (yQs (op_sign o ho)) (zXh (hk 1 (by omega)) (zQg (yQs (by decide +kernel)) zQx))))
   ·rw [if_neg (by decide), if_neg (by decide), if_pos rfl]; exact zQg (yQs (by decide +kernel)) (zQg (zJm (fit4 hf).2.1) zQx)
   ·rw [if_neg (by decide), if_neg (by decide), if_neg (by decide), if_pos rfl]
    obtain ⟨-, h2, -, hm⟩ := fit5 hf
    exact zQg (zJm h2) (zQg (yQs (by decide +kernel)) (zXh (hk 0 (by omega)) (zQg (yQs (by decide +kernel)) zQx)))
end
end Go.Proofs.YtfbjljcmmbdhkaaGreatDoor
