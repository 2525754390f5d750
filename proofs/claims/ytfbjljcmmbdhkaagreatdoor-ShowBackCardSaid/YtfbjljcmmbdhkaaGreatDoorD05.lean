/- Plain: programs; which may be; how they are read. -/
import Derived.Test.YtfbjljcmmbdhkaaGreatDoorD04
namespace Go.Proofs.YtfbjljcmmbdhkaaGreatDoor
set_option linter.unusedVariables false
set_option linter.unusedSimpArgs false
set_option maxRecDepth 100000
set_option maxHeartbeats 200000000
inductive St
 | mk (k : Nat) (nm fr : List UInt8) (sec mu : Bool) (ex : List Xp) (ar : List (List UInt8)) (bd el : List St)
def St.k : St → Nat | .mk k _ _ _ _ _ _ _ _ => k
def St.nm : St → List UInt8 | .mk _ x _ _ _ _ _ _ _ => x
def St.fr : St → List UInt8 | .mk _ _ x _ _ _ _ _ _ => x
def St.sec : St → Bool | .mk _ _ _ x _ _ _ _ _ => x
def St.mu : St → Bool | .mk _ _ _ _ x _ _ _ _ => x
def St.ex : St → List Xp | .mk _ _ _ _ _ x _ _ _ => x
def St.ar : St → List (List UInt8) | .mk _ _ _ _ _ _ x _ _ => x
def St.bd : St → List St | .mk _ _ _ _ _ _ _ x _ => x
def St.el : St → List St | .mk _ _ _ _ _ _ _ _ x => x
instance : Inhabited St := ⟨.mk 0 [] [] false false [] [] [] []⟩
structure Pm where
 nm : List UInt8
 buf : Bool
 sec : Bool
 mu : Bool
structure Fd where
 nm : List UInt8
 ps : List Pm
 bd : List St
 sec : Bool
 rt : List Xp
def metA (a : Nat) (s : List UInt8) : Bool := if s = [] then decide (a ≠ 2) else decide (a ≠ 0) && nmdB s
def nds (k : Nat) : Nat × Nat × Bool × Bool × Int × Int × Int × Bool × Bool := kindsN.getD k (0, 0, false, false, 0, 0, 0, false, false)
def metB (x : Nat × Nat × Bool × Bool × Int × Int × Int × Bool × Bool) (nm fr : List UInt8) (sec mu : Bool) (ne na nb nl : Nat) : Bool :=
 metA x.1 nm && metA x.2.1 fr && (x.2.2.1 || !sec) && (x.2.2.2.1 || !mu) && decide (x.2.2.2.2.1 ≤ (ne : Int)) && decide ((ne : Int) ≤ x.2.2.2.2.2.1) && decide ((na : Int) ≤ x.2.2.2.2.2.2.1) && (x.2.2.2.2.2.2.2.1 || decide (nb = 0)) && (x.2.2.2.2.2.2.2.2 || decide (nl = 0))
def zZm (s : St) : Bool := decide (s.k ≠ 0) && decide (s.k < 13) && metB (nds s.k) s.nm s.fr s.sec s.mu s.ex.length s.ar.length s.bd.length s.el.length && s.ar.all nmdB && s.ex.all (mayB 40)
def rowC (one : St → Nat → Option Nat) : List St → Nat → Option Nat
 | [], n => some n
 | s :: r, n => (one s n).bind (rowC one r)
def blkC : Nat → List St → Nat → Option Nat
 | 0, [], n => some n
 | 0, _ :: _, _ => none
 | d + 1, l, n => rowC (fun s n => if n = 0 ∨ zZm s = false then none else (blkC d s.bd (n - 1)).bind (blkC d s.el)) l n
def oneC (d : Nat) (s : St) (n : Nat) : Option Nat := if n = 0 ∨ zZm s = false then none else (blkC d s.bd (n - 1)).bind (blkC d s.el)
theorem zJi (d : Nat) (l : List St) (n : Nat) : blkC (d + 1) l n = rowC (oneC d) l n := by unfold blkC; rfl
def pmB (p : Pm) : Bool := nmdB p.nm && (!p.mu || p.buf)
def psB (l : List Pm) : Bool := decide (l.length ≤ 8) && l.all pmB
def rtB (sec : Bool) (l : List Xp) : Bool := if l.length = 0 then !sec else decide (l.length = 1) && l.all (mayB 40)
def fdC (f : Fd) (n : Nat) : Option Nat := if (nmdB f.nm && psB f.ps && rtB f.sec f.rt) = true then blkC 40 f.bd n else none
def pgC : List Fd → Nat → Option Nat
 | [], n => some n
 | f :: r, n => (fdC f n).bind (pgC r)
def pgB (l : List Fd) : Bool := decide (l.length ≤ 16) && (pgC l 400).isSome
inductive Rz (α : Type)
 | er (e p : Nat)
 | ok (x : α) (p n : Nat)
def Rz.next {α β : Type} : Rz α → (α → Nat → Nat → Rz β) → Rz β
 | .er e p, _ => .er e p
 | .ok x p n, f => f x p n
def t0 : Tk := ⟨0, [], 0⟩
def txt (T : List Tk) (p : Nat) : List UInt8 := (T.getD p t0).t
def knd (T : List Tk) (p : Nat) : Nat := (T.getD p t0).k
def takR (T : List Tk) (s : List UInt8) (p n : Nat) : Rz Unit := if txt T p = s then .ok () (p + 1) n else .er 7 p
def namR (T : List Tk) (p n : Nat) : Rz (List UInt8) := if knd T p = 1 then .ok (txt T p) (p + 1) n else .er 7 p
def expR (T : List Tk) (p n : Nat) : Rz Xp := match rdE 40 T p with
 | .er e q => .er e q
 | .ok x q => .ok x q n
def betR (T : List Tk) (a b : List UInt8) (p n : Nat) : Rz Xp := (takR T a p n).next fun _ p n => (expR T p n).next fun x p n => (takR T b p n).next fun _ p n => .ok x p n
def lisL {α : Type} (T : List Tk) (one : Nat → Nat → Rz α) (bh : List UInt8) : Nat → List α → Nat → Nat → Rz (List α)
 | 0, _, p, _ => .er 7 p
 | f + 1, l, p, n => if txt T p = bh then .ok l (p + 1) n else (takR T [44] p n).next fun _ p n => if l.length = 8 then .er 5 p else (one p n).next fun x p n => lisL T one bh f (l ++ [x]) p n
def lisR {α : Type} (T : List Tk) (one : Nat → Nat → Rz α) (bh : List UInt8) (p n : Nat) : Rz (List α) := if txt T p = bh then .ok [] (p + 1) n else (one p n).next fun x p n => lisL T one bh 9 [x] p n
def wLet : List UInt8 := [108, 101, 116]
def wBuf : List UInt8 := [98, 117, 102]
def wIf : List UInt8 := [105, 102]
def zZz : List UInt8 := [119, 104, 105, 108, 101]
def wFor : List UInt8 := [102, 111, 114]
def zXf : List UInt8 := [118, 105, 101, 119]
def zQt : List UInt8 := [101, 100, 105, 116]
def zKw : List UInt8 := [109, 111, 118, 101]
def yQp : List UInt8 := [111, 112, 101, 110]
def zKs : List UInt8 := [99, 97, 108, 108]
def yQh : List UInt8 := [115, 101, 97, 108]
def zQo : List UInt8 := [115, 101, 99, 114, 101, 116]
def wFn : List UInt8 := [102, 110]
def wNum : List UInt8 := [110, 117, 109]
def zKg : List UInt8 := [101, 108, 115, 101]
def isP (T : List Tk) (s : List UInt8) (p : Nat) : Bool := decide (txt T p = s)
def beP (T : List Tk) (s : List UInt8) (p : Nat) : Nat := if txt T p = s then p + 1 else p
def parR (T : List Tk) (p n : Nat) : Rz Pm :=
 let mu := isP T zQt p
 let p1 := beP T zQt p
 let buf := mu || isP T zXf p1
 let p2 := if mu = true then p1 else beP T zXf p1
 let sec := isP T zQo p2
 let p3 := beP T zQo p2
 if (!buf && !sec) = true then (takR T wNum p3 n).next fun _ p n => (namR T p n).next fun x p n => .ok ⟨x, buf, sec, mu⟩ p n
 else (namR T p3 n).next fun x p n => .ok ⟨x, buf, sec, mu⟩ p n
def letR (T : List Tk) (p n : Nat) : Rz St := (namR T (beP T zQo p) n).next fun x q n => (betR T [61] [59] q n).next fun e q n => .ok (.mk 1 x [] (isP T zQo p) false [e] [] [] []) q n
def setR (T : List Tk) (p n : Nat) : Rz St := (namR T p n).next fun x p n =>
 if txt T p = [91] then (betR T [91] [93] p n).next fun i p n => (betR T [61] [59] p n).next fun e p n => .ok (.mk 4 x [] false false [i, e] [] [] []) p n
 else (betR T [61] [59] p n).next fun e p n => .ok (.mk 2 x [] false false [e] [] [] []) p n
def bufR (T : List Tk) (p n : Nat) : Rz St := (namR T (beP T zQo p) n).next fun x q n => (betR T [91] [93] q n).next fun e q n => (takR T [59] q n).next fun _ q n => .ok (.mk 3 x [] (isP T zQo p) false [e] [] [] []) q n
def ifR (T : List Tk) (blk : Nat → Nat → Rz (List St)) (p n : Nat) : Rz St := (expR T p n).next fun e p n => (blk p n).next fun b p n =>
 if txt T p = zKg then (blk (p + 1) n).next fun l p n => .ok (.mk 5 [] [] false false [e] [] b l) p n else .ok (.mk 5 [] [] false false [e] [] b []) p n
def whiR (T : List Tk) (blk : Nat → Nat → Rz (List St)) (p n : Nat) : Rz St := (expR T p n).next fun e p n => (blk p n).next fun b p n => .ok (.mk 6 [] [] false false [e] [] b []) p n
def forR (T : List Tk) (blk : Nat → Nat → Rz (List St)) (p n : Nat) : Rz St := (namR T p n).next fun x p n => (takR T [60] p n).next fun _ p n => (expR T p n).next fun e p n => (blk p n).next fun b p n => .ok (.mk 7 x [] false false [e] [] b []) p n
def lenR (T : List Tk) (blk : Nat → Nat → Rz (List St)) (mu : Bool) (p n : Nat) : Rz St := (namR T p n).next fun x p n => (takR T [61] p n).next fun _ p n => (namR T p n).next fun y p n => (betR T [91] [46, 46] p n).next fun a p n => (expR T p n).next fun e p n => (takR T [93] p n).next fun _ p n => (blk p n).next fun b p n => .ok (.mk 8 x y false mu [a, e] [] b []) p n
def movR (T : List Tk) (p n : Nat) : Rz St := (namR T p n).next fun x p n => (takR T [61] p n).next fun _ p n => (namR T p n).next fun y p n => (takR T [59] p n).next fun _ p n => .ok (.mk 9 x y false false [] [] [] []) p n
def opnR (T : List Tk) (p n : Nat) : Rz St := (namR T p n).next fun x p n => (betR T [61] [59] p n).next fun e p n => .ok (.mk 10 x [] false false [e] [] [] []) p n
def argR (T : List Tk) (x y : List UInt8) (p n : Nat) : Rz St := (takR T [40] p n).next fun _ p n => (lisR T (expR T) [59] p n).next fun ex p n => (lisR T (namR T) [41] p n).next fun ar p n => (takR T [59] p n).next fun _ p n => .ok (.mk 11 x y false false ex ar [] []) p n
def calR (T : List Tk) (p n : Nat) : Rz St := (namR T p n).next fun x p n =>
 if txt T p = [61] then (namR T (p + 1) n).next fun y p n => argR T x y p n else argR T [] x p n
def seaR (T : List Tk) (p n : Nat) : Rz St := (takR T [59] p n).next fun _ p n => .ok (.mk 12 [] [] false false [] [] [] []) p n
def stR (T : List Tk) (blk : Nat → Nat → Rz (List St)) (p n : Nat) : Rz St :=
 if txt T p = wLet then letR T (p + 1) n
 else if txt T p = wBuf then bufR T (p + 1) n
 else if txt T p = wIf then ifR T blk (p + 1) n
 else if txt T p = zZz then whiR T blk (p + 1) n
 else if txt T p = wFor then forR T blk (p + 1) n
 else if txt T p = zXf then lenR T blk false (p + 1) n
 else if txt T p = zQt then lenR T blk true (p + 1) n
 else if txt T p = zKw then movR T (p + 1) n
 else if txt T p = yQp then opnR T (p + 1) n
 else if txt T p = zKs then calR T (p + 1) n
 else if txt T p = yQh then seaR T (p + 1) n
 else setR T p n
def blkL (T : List Tk) (one : Nat → Nat → Rz St) : Nat → List St → Nat → Nat → Rz (List St)
 | 0, _, p, _ => .er 7 p
 | f + 1, l, p, n => if txt T p = [125] then .ok l (p + 1) n else (one p n).next fun x p n => blkL T one f (l ++ [x]) p n
def staR (T : List Tk) (blk : Nat → Nat → Rz (List St)) (p n : Nat) : Rz St := if n = 400 then .er 5 p else stR T blk p (n + 1)
def blkR (T : List Tk) : Nat → Nat → Nat → Rz (List St)
 | 0, p, n => (takR T [123] p n).next fun _ p n => blkL T (fun p _ => .er 70 p) 1 [] p n
 | d + 1, p, n => (takR T [123] p n).next fun _ p n => blkL T (staR T (blkR T d)) (401 - n) [] p n
def retR (T : List Tk) (x : List UInt8) (ps : List Pm) (b : List St) (p n : Nat) : Rz Fd :=
 if txt T p = [61] then (expR T (beP T zQo (p + 1)) n).next fun e q n => (takR T [59] q n).next fun _ q n => .ok ⟨x, ps, b, isP T zQo (p + 1), [e]⟩ q n
 else (takR T [59] p n).next fun _ q n => .ok ⟨x, ps, b, false, []⟩ q n
def funR (T : List Tk) (p n : Nat) : Rz Fd := (takR T wFn p n).next fun _ p n => (namR T p n).next fun x p n => (takR T [40] p n).next fun _ p n => (lisR T (parR T) [41] p n).next fun ps p n => (blkR T 40 p n).next fun b p n => retR T x ps b p n
def proL (T : List Tk) : Nat → List Fd → Nat → Nat → Rz (List Fd)
 | 0, _, p, _ => .er 7 p
 | f + 1, l, p, n => if knd T p = 5 then .ok l p n else if l.length = 16 ∧ txt T p = wFn then .er 5 p else (funR T p n).next fun x p n => proL T f (l ++ [x]) p n
def proR (T : List Tk) : Rz (List Fd) := proL T 17 [] 0 0
inductive Pz
 | er (e a : Nat)
 | ok (l : List Fd)
def parB (s : List UInt8) : Pz := match lexT s with
 | .er e a => .er e a
 | .ok T => match proR (T.map (·.1)) with
   | .er e p => .er e (T.getD (min p (T.length - 1)) (t0, 0)).2
   | .ok l _ _ => .ok l
theorem zQk {α β : Type} {r : Rz α} {f : α → Nat → Nat → Rz β} {y : β} {p n : Nat} (h : r.next f = .ok y p n) : ∃ x q m, r = .ok x q m ∧ f x q m = .ok y p n := by
 cases r with
 | er e p => cases h
 | ok x q m => exact ⟨x, q, m, rfl, h⟩
theorem zZt {T : List Tk} {s : List UInt8} {p n : Nat} {u : Unit} {q m : Nat} (h : takR T s p n = .ok u q m) : m = n := by
 unfold takR at h; split at h <;> cases h; rfl
theorem qQb {T : List Tk} {p n : Nat} {x : List UInt8} {q m : Nat} (h : namR T p n = .ok x q m) : m = n ∧ knd T p = 1 ∧ x = txt T p := by
 unfold namR at h; split at h <;> cases h; exact ⟨rfl, by assumption, rfl⟩
theorem xZw {T : List Tk} {p n : Nat} {x : Xp} {q m : Nat} (h : expR T p n = .ok x q m) : m = n ∧ rdE 40 T p = .ok x q := by
 unfold expR at h; split at h <;> cases h; exact ⟨rfl, by assumption⟩
theorem jZo {T : List Tk} {a b : List UInt8} {p n : Nat} {x : Xp} {q m : Nat} (h : betR T a b p n = .ok x q m) : m = n ∧ ∃ p' q', rdE 40 T p' = .ok x q' := by
 unfold betR at h
 obtain ⟨_, q1, m1, h1, h⟩ := zQk h
 obtain ⟨x2, q2, m2, h2, h⟩ := zQk h
 obtain ⟨_, q3, m3, h3, h⟩ := zQk h
 cases h
 have e1 := zZt h1
 obtain ⟨e2, e2'⟩ := xZw h2
 have e3 := zZt h3
 exact ⟨by omega, _, _, e2'⟩
def Good (T : List Tk) : Prop := ∀ t ∈ T, t.k = 1 → nmdB t.t = true
theorem zZf {T : List Tk} (hG : Good T) {p n : Nat} {x : List UInt8} {q m : Nat} (h : namR T p n = .ok x q m) : m = n ∧ nmdB x = true := by
 obtain ⟨e, hk, rfl⟩ := qQb h
 refine ⟨e, ?_⟩
 unfold knd at hk
 unfold txt
 rw [List.getD_eq_getElem?_getD] at hk ⊢
 cases ht : T[p]? with
 | none => rw [ht] at hk; simp [t0] at hk
 | some t => rw [ht] at hk; exact hG t (List.mem_of_getElem? ht) hk
theorem yXm {T : List Tk} {p n : Nat} {x : Xp} {q m : Nat} (h : expR T p n = .ok x q m) : m = n ∧ mayB 40 x = true := by
 obtain ⟨e, h⟩ := xZw h
 exact ⟨e, (yJp _ _ _ _ _ h).1⟩
theorem yXo {T : List Tk} {a b : List UInt8} {p n : Nat} {x : Xp} {q m : Nat} (h : betR T a b p n = .ok x q m) : m = n ∧ mayB 40 x = true := by
 obtain ⟨e, p', q', h⟩ := jZo h
 exact ⟨e, (yJp _ _ _ _ _ h).1⟩
theorem lisL_all {α : Type} {T : List Tk} {one : Nat → Nat → Rz α} {P : α → Prop} {bh : List UInt8} (ho : ∀ p n x q m, one p n = .ok x q m → m = n ∧ P x) : ∀ (f : Nat) (l : List α) (p n : Nat) (r : List α) (q m : Nat), l.length ≤ 8 → (∀ x ∈ l, P x) → lisL T one bh f l p n = .ok r q m → m = n ∧ r.length ≤ 8 ∧ ∀ x ∈ r, P x := by
 intro f
 induction f with
 | zero => intro l p n r q m _ _ h; cases h
 | succ f ih =>
  intro l p n r q m hl hP h
  unfold lisL at h
  split at h
  ·cases h; exact ⟨rfl, hl, hP⟩
  ·obtain ⟨_, q1, m1, h1, h⟩ := zQk h
   have e1 := zZt h1
   split at h
   ·cases h
   ·rename_i h8
    obtain ⟨x2, q2, m2, h2, h⟩ := zQk h
    obtain ⟨e2, p2⟩ := ho _ _ _ _ _ h2
    obtain ⟨a, b, c⟩ := ih (l ++ [x2]) q2 m2 r q m (by simp; omega) (fun x hx => by
     rcases List.mem_append.1 hx with hx | hx
     ·exact hP x hx
     ·rw [List.mem_singleton] at hx; subst hx; exact p2) h
    exact ⟨by omega, b, c⟩
theorem yZe {α : Type} {T : List Tk} {one : Nat → Nat → Rz α} {P : α → Prop} {bh : List UInt8} (ho : ∀ p n x q m, one p n = .ok x q m → m = n ∧ P x) {p n : Nat} {r : List α} {q m : Nat} (h : lisR T one bh p n = .ok r q m) : m = n ∧ r.length ≤ 8 ∧ ∀ x ∈ r, P x := by
 unfold lisR at h
 split at h
 ·cases h; exact ⟨rfl, by simp, fun x hx => by cases hx⟩
 ·obtain ⟨x2, q2, m2, h2, h⟩ := zQk h
  obtain ⟨e2, p2⟩ := ho _ _ _ _ _ h2
  obtain ⟨a, b, c⟩ := lisL_all ho 9 [x2] q2 m2 r q m (by simp) (fun x hx => by rw [List.mem_singleton] at hx; subst hx; exact p2) h
  exact ⟨by omega, b, c⟩
theorem par_may {T : List Tk} (hG : Good T) {p n : Nat} {x : Pm} {q m : Nat} (h : parR T p n = .ok x q m) : m = n ∧ pmB x = true := by
 unfold parR at h
 simp only at h
 generalize (if isP T zQt p = true then beP T zQt p else beP T zXf (beP T zQt p)) = p2 at h
 split at h
 ·rename_i hc
  obtain ⟨_, q1, m1, h1, h⟩ := zQk h
  obtain ⟨y, q2, m2, h2, h⟩ := zQk h
  cases h
  have e1 := zZt h1
  obtain ⟨e2, e3⟩ := zZf hG h2
  refine ⟨by omega, ?_⟩
  unfold pmB
  simp only [e3, Bool.true_and]
  cases isP T zQt p <;> simp
 ·obtain ⟨y, q2, m2, h2, h⟩ := zQk h
  cases h
  obtain ⟨e2, e3⟩ := zZf hG h2
  refine ⟨e2, ?_⟩
  unfold pmB
  simp only [e3, Bool.true_and]
  cases isP T zQt p <;> simp
theorem jQp {x : List UInt8} (h : nmdB x = true) : x ≠ [] := by
 rintro rfl
 revert h
 decide +kernel
theorem zJh {x : List UInt8} (h : nmdB x = true) : metA 2 x = true := by unfold metA; rw [if_neg (jQp h), h]; rfl
theorem met_may {x : List UInt8} (h : nmdB x = true) : metA 1 x = true := by unfold metA; rw [if_neg (jQp h), h]; rfl
def qQo (T : List Tk) (d : Nat) (blk : Nat → Nat → Rz (List St)) : Prop := ∀ p n l q m, n ≤ 400 → blk p n = .ok l q m → n ≤ m ∧ m ≤ 400 ∧ blkC d l (400 - n) = some (400 - m)
def StOk (d : Nat) (s : St) (n m : Nat) : Prop := zZm s = true ∧ n ≤ m ∧ m ≤ 400 ∧ (blkC d s.bd (400 - n)).bind (blkC d s.el) = some (400 - m)
theorem yZf (d n : Nat) : blkC d [] n = some n := by cases d <;> rfl
theorem yQq {d : Nat} {s : St} {n : Nat} (hn : n ≤ 400) (h : zZm s = true) (hb : s.bd = []) (hl : s.el = []) : StOk d s n n := ⟨h, Nat.le_refl _, hn, by rw [hb, hl, yZf]; show blkC d [] _ = _; rw [yZf]⟩
theorem xJo {d : Nat} {s : St} {n m : Nat} (h : zZm s = true) (h1 : n ≤ m) (h2 : m ≤ 400) (hb : blkC d s.bd (400 - n) = some (400 - m)) (hl : s.el = []) : StOk d s n m := ⟨h, h1, h2, by rw [hb, hl]; show blkC d [] _ = _; rw [yZf]⟩
theorem st_two {d : Nat} {s : St} {n k m : Nat} (h : zZm s = true) (h1 : n ≤ k) (h2 : k ≤ m) (h3 : m ≤ 400) (hb : blkC d s.bd (400 - n) = some (400 - k)) (hl : blkC d s.el (400 - k) = some (400 - m)) : StOk d s n m := ⟨h, by omega, h3, by rw [hb]; exact hl⟩
theorem stR_may {T : List Tk} (hG : Good T) {d : Nat} {blk : Nat → Nat → Rz (List St)} (hB : qQo T d blk) {p n : Nat} (hn : n ≤ 400) {s : St} {q m : Nat} (h : stR T blk p n = .ok s q m) : StOk d s n m := by
 unfold stR at h
 by_cases c1 : txt T p = wLet
 ·rw [if_pos c1] at h
  unfold letR at h
  obtain ⟨x, q1, m1, h1, h⟩ := zQk h
  obtain ⟨e, q2, m2, h2, h⟩ := zQk h
  cases h
  obtain ⟨rfl, hx⟩ := zZf hG h1
  obtain ⟨rfl, he⟩ := yXo h2
  exact yQq hn (by simp [zZm, St.k, St.nm, St.fr, St.sec, St.mu, St.ex, St.ar, St.bd, St.el, nds, kindsN, metB, zJh hx, he]; rfl) rfl rfl
 rw [if_neg c1] at h
 by_cases c2 : txt T p = wBuf
 ·rw [if_pos c2] at h
  unfold bufR at h
  obtain ⟨x, q1, m1, h1, h⟩ := zQk h
  obtain ⟨e, q2, m2, h2, h⟩ := zQk h
  obtain ⟨_, q3, m3, h3, h⟩ := zQk h
  cases h
  obtain ⟨rfl, hx⟩ := zZf hG h1
  obtain ⟨rfl, he⟩ := yXo h2
  obtain rfl := zZt h3
  exact yQq hn (by simp [zZm, St.k, St.nm, St.fr, St.sec, St.mu, St.ex, St.ar, St.bd, St.el, nds, kindsN, metB, zJh hx, he]; rfl) rfl rfl
 rw [if_neg c2] at h
 by_cases c3 : txt T p = wIf
 ·rw [if_pos c3] at h
  unfold ifR at h
  obtain ⟨e, q2, m2, h2, h⟩ := zQk h
  obtain ⟨b, q3, m3, h3, h⟩ := zQk h
  split at h
  ·obtain ⟨l, q4, m4, h4, h⟩ := zQk h
   cases h
   obtain ⟨rfl, he⟩ := yXm h2
   obtain ⟨b1, b2, b3⟩ := hB _ _ _ _ _ hn h3
   obtain ⟨l1, l2, l3⟩ := hB _ _ _ _ _ b2 h4
   exact st_two (by simp [zZm, St.k, St.nm, St.fr, St.sec, St.mu, St.ex, St.ar, St.bd, St.el, nds, kindsN, metB, he, metA]) b1 l1 l2 b3 l3
  ·cases h
   obtain ⟨rfl, he⟩ := yXm h2
   obtain ⟨b1, b2, b3⟩ := hB _ _ _ _ _ hn h3
   exact xJo (by simp [zZm, St.k, St.nm, St.fr, St.sec, St.mu, St.ex, St.ar, St.bd, St.el, nds, kindsN, metB, he, metA]) b1 b2 b3 rfl
 rw [if_neg c3] at h
 by_cases c4 : txt T p = zZz
 ·rw [if_pos c4] at h
  unfold whiR at h
  obtain ⟨e, q2, m2, h2, h⟩ := zQk h
  obtain ⟨b, q3, m3, h3, h⟩ := zQk h
  cases h
  obtain ⟨rfl, he⟩ := yXm h2
  obtain ⟨b1, b2, b3⟩ := hB _ _ _ _ _ hn h3
  exact xJo (by simp [zZm, St.k, St.nm, St.fr, St.sec, St.mu, St.ex, St.ar, St.bd, St.el, nds, kindsN, metB, he, metA]) b1 b2 b3 rfl
 rw [if_neg c4] at h
 by_cases c5 : txt T p = wFor
 ·rw [if_pos c5] at h
  unfold forR at h
  obtain ⟨x, q1, m1, h1, h⟩ := zQk h
  obtain ⟨_, q5, m5, h5, h⟩ := zQk h
  obtain ⟨e, q2, m2, h2, h⟩ := zQk h
  obtain ⟨b, q3, m3, h3, h⟩ := zQk h
  cases h
  obtain ⟨rfl, hx⟩ := zZf hG h1
  obtain rfl := zZt h5
  obtain ⟨rfl, he⟩ := yXm h2
  obtain ⟨b1, b2, b3⟩ := hB _ _ _ _ _ hn h3
  exact xJo (by simp [zZm, St.k, St.nm, St.fr, St.sec, St.mu, St.ex, St.ar, St.bd, St.el, nds, kindsN, metB, zJh hx, he]; rfl) b1 b2 b3 rfl
 rw [if_neg c5] at h
 have hlen : ∀ mu p, lenR T blk mu p n = .ok s q m → StOk d s n m := fun mu p h => by
  unfold lenR at h
  obtain ⟨x, q1, m1, h1, h⟩ := zQk h
  obtain ⟨_, q5, m5, h5, h⟩ := zQk h
  obtain ⟨y, q6, m6, h6, h⟩ := zQk h
  obtain ⟨a, q7, m7, h7, h⟩ := zQk h
  obtain ⟨e, q2, m2, h2, h⟩ := zQk h
  obtain ⟨_, q8, m8, h8, h⟩ := zQk h
  obtain ⟨b, q3, m3, h3, h⟩ := zQk h
  cases h
  obtain ⟨rfl, hx⟩ := zZf hG h1
  obtain rfl := zZt h5
  obtain ⟨rfl, hy⟩ := zZf hG h6
  obtain ⟨rfl, ha⟩ := yXo h7
  obtain ⟨rfl, he⟩ := yXm h2
  obtain rfl := zZt h8
  obtain ⟨b1, b2, b3⟩ := hB _ _ _ _ _ hn h3
  exact xJo (by simp [zZm, St.k, St.nm, St.fr, St.sec, St.mu, St.ex, St.ar, St.bd, St.el, nds, kindsN, metB, zJh hx, zJh hy, he, ha]) b1 b2 b3 rfl
 by_cases c6 : txt T p = zXf
 ·rw [if_pos c6] at h
  exact hlen _ _ h
 rw [if_neg c6] at h
 by_cases c7 : txt T p = zQt
 ·rw [if_pos c7] at h
  exact hlen _ _ h
 rw [if_neg c7] at h
 by_cases c8 : txt T p = zKw
 ·rw [if_pos c8] at h
  unfold movR at h
  obtain ⟨x, q1, m1, h1, h⟩ := zQk h
  obtain ⟨_, q5, m5, h5, h⟩ := zQk h
  obtain ⟨y, q6, m6, h6, h⟩ := zQk h
  obtain ⟨_, q7, m7, h7, h⟩ := zQk h
  cases h
  obtain ⟨rfl, hx⟩ := zZf hG h1
  obtain rfl := zZt h5
  obtain ⟨rfl, hy⟩ := zZf hG h6
  obtain rfl := zZt h7
  exact yQq hn (by simp [zZm, St.k, St.nm, St.fr, St.sec, St.mu, St.ex, St.ar, St.bd, St.el, nds, kindsN, metB, zJh hx, zJh hy]) rfl rfl
 rw [if_neg c8] at h
 by_cases c9 : txt T p = yQp
 ·rw [if_pos c9] at h
  unfold opnR at h
  obtain ⟨x, q1, m1, h1, h⟩ := zQk h
  obtain ⟨e, q2, m2, h2, h⟩ := zQk h
  cases h
  obtain ⟨rfl, hx⟩ := zZf hG h1
  obtain ⟨rfl, he⟩ := yXo h2
  exact yQq hn (by simp [zZm, St.k, St.nm, St.fr, St.sec, St.mu, St.ex, St.ar, St.bd, St.el, nds, kindsN, metB, zJh hx, he]; rfl) rfl rfl
 rw [if_neg c9] at h
 by_cases c10 : txt T p = zKs
 ·rw [if_pos c10] at h
  have harg : ∀ x y p, metA 1 x = true → nmdB y = true → argR T x y p n = .ok s q m → StOk d s n m := fun x y p hx hy h => by
   unfold argR at h
   obtain ⟨_, q1, m1, h1, h⟩ := zQk h
   obtain ⟨ex, q2, m2, h2, h⟩ := zQk h
   obtain ⟨ar, q3, m3, h3, h⟩ := zQk h
   obtain ⟨_, q4, m4, h4, h⟩ := zQk h
   cases h
   obtain rfl := zZt h1
   obtain ⟨rfl, x1, x2⟩ := yZe (P := fun x => mayB 40 x = true) (fun p n x q m h => yXm h) h2
   obtain ⟨rfl, a1, a2⟩ := yZe (P := fun x => nmdB x = true) (fun p n x q m h => zZf hG h) h3
   obtain rfl := zZt h4
   have y1 : ex.all (mayB 40) = true := List.all_eq_true.2 x2
   have y2 : ar.all nmdB = true := List.all_eq_true.2 a2
   exact yQq hn (by simp [zZm, St.k, St.nm, St.fr, St.sec, St.mu, St.ex, St.ar, St.bd, St.el, nds, kindsN, metB, hx, zJh hy, y1, y2]; omega) rfl rfl
  unfold calR at h
  obtain ⟨x, q1, m1, h1, h⟩ := zQk h
  obtain ⟨e1, hx⟩ := zZf hG h1
  split at h
  ·obtain ⟨y, q2, m2, h2, h⟩ := zQk h
   obtain ⟨e2, hy⟩ := zZf hG h2
   rw [e2, e1] at h
   exact harg _ _ _ (met_may hx) hy h
  ·rw [e1] at h
   exact harg _ _ _ rfl hx h
 rw [if_neg c10] at h
 by_cases c11 : txt T p = yQh
 ·rw [if_pos c11] at h
  unfold seaR at h
  obtain ⟨_, q1, m1, h1, h⟩ := zQk h
  cases h
  obtain rfl := zZt h1
  exact yQq hn (by simp [zZm, St.k, St.nm, St.fr, St.sec, St.mu, St.ex, St.ar, St.bd, St.el, nds, kindsN, metB, metA]) rfl rfl
 rw [if_neg c11] at h
 unfold setR at h
 obtain ⟨x, q1, m1, h1, h⟩ := zQk h
 split at h
 ·obtain ⟨i, q2, m2, h2, h⟩ := zQk h
  obtain ⟨e, q3, m3, h3, h⟩ := zQk h
  cases h
  obtain ⟨rfl, hx⟩ := zZf hG h1
  obtain ⟨rfl, hi⟩ := yXo h2
  obtain ⟨rfl, he⟩ := yXo h3
  exact yQq hn (by simp [zZm, St.k, St.nm, St.fr, St.sec, St.mu, St.ex, St.ar, St.bd, St.el, nds, kindsN, metB, zJh hx, he, hi]; rfl) rfl rfl
 ·obtain ⟨e, q3, m3, h3, h⟩ := zQk h
  cases h
  obtain ⟨rfl, hx⟩ := zZf hG h1
  obtain ⟨rfl, he⟩ := yXo h3
  exact yQq hn (by simp [zZm, St.k, St.nm, St.fr, St.sec, St.mu, St.ex, St.ar, St.bd, St.el, nds, kindsN, metB, zJh hx, he]; rfl) rfl rfl
theorem xJs (one : St → Nat → Option Nat) : ∀ (a b : List St) (n : Nat), rowC one (a ++ b) n = (rowC one a n).bind (rowC one b)
 | [], b, n => rfl
 | s :: a, b, n => by
   show (one s n).bind (rowC one (a ++ b)) = ((one s n).bind (rowC one a)).bind (rowC one b)
   cases one s n with
   | none => rfl
   | some k => exact xJs one a b k
theorem blkL_may {T : List Tk} {one : Nat → Nat → Rz St} {C : St → Nat → Option Nat} (ho : ∀ p n s q m, n ≤ 400 → one p n = .ok s q m → n < m ∧ m ≤ 400 ∧ C s (400 - n) = some (400 - m)) :
 ∀ (f : Nat) (l : List St) (p n n0 : Nat) (r : List St) (q m : Nat), n0 ≤ n → n ≤ 400 → rowC C l (400 - n0) = some (400 - n) → blkL T one f l p n = .ok r q m → n ≤ m ∧ m ≤ 400 ∧ rowC C r (400 - n0) = some (400 - m) := by
 intro f
 induction f with
 | zero => intro l p n n0 r q m _ _ _ h; cases h
 | succ f ih =>
  intro l p n n0 r q m h0 hn hl h
  unfold blkL at h
  split at h
  ·cases h; exact ⟨Nat.le_refl _, hn, hl⟩
  ·obtain ⟨s, q1, m1, h1, h⟩ := zQk h
   obtain ⟨o1, o2, o3⟩ := ho _ _ _ _ _ hn h1
   obtain ⟨a, b, c⟩ := ih (l ++ [s]) q1 m1 n0 r q m (by omega) o2 (by
    rw [xJs, hl]
    show (C s (400 - n)).bind (rowC C []) = _
    rw [o3]; rfl) h
   exact ⟨by omega, b, c⟩
theorem blkR_may {T : List Tk} (hG : Good T) : ∀ d, qQo T d (blkR T d) := by
 intro d
 induction d with
 | zero =>
  intro p n l q m hn h
  unfold blkR at h
  obtain ⟨_, q1, m1, h1, h⟩ := zQk h
  rw [zZt h1] at h
  unfold blkL at h
  split at h
  ·cases h; exact ⟨Nat.le_refl _, hn, rfl⟩
  ·cases h
 | succ d ih =>
  intro p n l q m hn h
  unfold blkR at h
  obtain ⟨_, q1, m1, h1, h⟩ := zQk h
  rw [zZt h1] at h
  have := blkL_may (T := T) (one := staR T (blkR T d)) (C := oneC d) (fun p n s q m hn h => by
   unfold staR at h
   by_cases c : n = 400
   ·rw [if_pos c] at h; cases h
   ·rw [if_neg c] at h
    obtain ⟨a1, a2, a3, a4⟩ := stR_may hG ih (by omega) h
    refine ⟨by omega, a3, ?_⟩
    unfold oneC
    rw [if_neg (by rw [a1]; simp; omega), show 400 - n - 1 = 400 - (n + 1) by omega]
    exact a4) _ [] q1 n n l q m (Nat.le_refl _) hn rfl h
  rw [zJi]
  exact this
theorem fun_may {T : List Tk} (hG : Good T) {p n : Nat} (hn : n ≤ 400) {f : Fd} {q m : Nat} (h : funR T p n = .ok f q m) : n ≤ m ∧ m ≤ 400 ∧ fdC f (400 - n) = some (400 - m) := by
 unfold funR at h
 obtain ⟨_, q1, m1, h1, h⟩ := zQk h
 obtain ⟨x, q2, m2, h2, h⟩ := zQk h
 obtain ⟨_, q3, m3, h3, h⟩ := zQk h
 obtain ⟨ps, q4, m4, h4, h⟩ := zQk h
 obtain ⟨b, q5, m5, h5, h⟩ := zQk h
 have e1 := zZt h1
 obtain ⟨e2, hx⟩ := zZf hG h2
 have e3 := zZt h3
 obtain ⟨e4, p1, p2⟩ := yZe (P := fun x => pmB x = true) (fun p n x q m h => par_may hG h) h4
 rw [e4, e3, e2, e1] at h5
 obtain ⟨b1, b2, b3⟩ := blkR_may hG 40 _ _ _ _ _ hn h5
 have y1 : psB ps = true := by
  unfold psB
  rw [Bool.and_eq_true]
  exact ⟨by simpa using p1, List.all_eq_true.2 p2⟩
 unfold retR at h
 split at h
 ·obtain ⟨e, q6, m6, h6, h⟩ := zQk h
  obtain ⟨_, q7, m7, h7, h⟩ := zQk h
  cases h
  obtain ⟨rfl, he⟩ := yXm h6
  obtain rfl := zZt h7
  refine ⟨b1, b2, ?_⟩
  unfold fdC
  simp only [hx, y1]
  rw [if_pos (by simp [rtB, he])]
  exact b3
 ·obtain ⟨_, q7, m7, h7, h⟩ := zQk h
  cases h
  obtain rfl := zZt h7
  refine ⟨b1, b2, ?_⟩
  unfold fdC
  simp only [hx, y1]
  rw [if_pos (by simp [rtB])]
  exact b3
theorem jQi : ∀ (a b : List Fd) (n : Nat), pgC (a ++ b) n = (pgC a n).bind (pgC b)
 | [], b, n => rfl
 | f :: a, b, n => by
   show (fdC f n).bind (pgC (a ++ b)) = ((fdC f n).bind (pgC a)).bind (pgC b)
   cases fdC f n with
   | none => rfl
   | some k => exact jQi a b k
theorem proL_may {T : List Tk} (hG : Good T) : ∀ (f : Nat) (l : List Fd) (p n : Nat) (r : List Fd) (q m : Nat), l.length ≤ 16 → n ≤ 400 → pgC l 400 = some (400 - n) → proL T f l p n = .ok r q m → r.length ≤ 16 ∧ (pgC r 400).isSome = true := by
 intro f
 induction f with
 | zero => intro l p n r q m _ _ _ h; cases h
 | succ f ih =>
  intro l p n r q m hl hn hc h
  unfold proL at h
  split at h
  ·cases h; exact ⟨hl, by rw [hc]; rfl⟩
  ·split at h
   ·cases h
   ·rename_i c
    obtain ⟨x, q1, m1, h1, h⟩ := zQk h
    obtain ⟨a1, a2, a3⟩ := fun_may hG hn h1
    have hl' : l.length ≠ 16 := fun e => by
     refine c ⟨e, ?_⟩
     unfold funR at h1
     obtain ⟨_, q2, m2, h2, _⟩ := zQk h1
     unfold takR at h2
     split at h2
     ·assumption
     ·cases h2
    exact ih (l ++ [x]) q1 m1 r q m (by simp; omega) a2 (by
     rw [jQi, hc]
     show (fdC x (400 - n)).bind (pgC []) = _
     rw [a3]; rfl) h
theorem pro_may {T : List Tk} (hG : Good T) {r : List Fd} {q m : Nat} (h : proR T = .ok r q m) : pgB r = true := by
 obtain ⟨a, b⟩ := proL_may hG 17 [] 0 0 r q m (by simp) (by omega) rfl h
 unfold pgB
 rw [b]
 simpa using a
end Go.Proofs.YtfbjljcmmbdhkaaGreatDoor
