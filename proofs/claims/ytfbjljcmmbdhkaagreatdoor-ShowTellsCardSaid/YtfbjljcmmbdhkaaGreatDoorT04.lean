/- Plain: programs; which may be; how they are read. -/
import Derived.Test.YtfbjljcmmbdhkaaGreatDoorT03
namespace Go.Proofs.YtfbjljcmmbdhkaaGreatDoor
set_option linter.unusedVariables false
set_option linter.unusedSimpArgs false
set_option maxRecDepth 100000
set_option maxHeartbeats 200000000
inductive St
 | mk (k : Nat) (nm fr : List UInt8) (sec mu : Bool) (ex : List Xp) (ar : List (List UInt8)) (bd el : List St)
def St.k : St → Nat | .mk k _ _ _ _ _ _ _ _ => k
def St.nm : St → List UInt8 | .mk _ x _ _ _ _ _ _ _ => x
def St.fr : St → List UInt8 | .mk _ _ x _ _ _ _ _ _ => x
def St.sec : St → Bool | .mk _ _ _ x _ _ _ _ _ => x
def St.mu : St → Bool | .mk _ _ _ _ x _ _ _ _ => x
def St.ex : St → List Xp | .mk _ _ _ _ _ x _ _ _ => x
def St.ar : St → List (List UInt8) | .mk _ _ _ _ _ _ x _ _ => x
def St.bd : St → List St | .mk _ _ _ _ _ _ _ x _ => x
def St.el : St → List St | .mk _ _ _ _ _ _ _ _ x => x
instance : Inhabited St := ⟨.mk 0 [] [] false false [] [] [] []⟩
structure Pm where
 nm : List UInt8
 buf : Bool
 sec : Bool
 mu : Bool
structure Fd where
 nm : List UInt8
 ps : List Pm
 bd : List St
 sec : Bool
 rt : List Xp
def metA (a : Nat) (s : List UInt8) : Bool := if s = [] then decide (a ≠ 2) else decide (a ≠ 0) && nmdB s
def nds (k : Nat) : Nat × Nat × Bool × Bool × Int × Int × Int × Bool × Bool := kindsN.getD k (0, 0, false, false, 0, 0, 0, false, false)
def metB (x : Nat × Nat × Bool × Bool × Int × Int × Int × Bool × Bool) (nm fr : List UInt8) (sec mu : Bool) (ne na nb nl : Nat) : Bool :=
 metA x.1 nm && metA x.2.1 fr && (x.2.2.1 || !sec) && (x.2.2.2.1 || !mu) && decide (x.2.2.2.2.1 ≤ (ne : Int)) && decide ((ne : Int) ≤ x.2.2.2.2.2.1) && decide ((na : Int) ≤ x.2.2.2.2.2.2.1) && (x.2.2.2.2.2.2.2.1 || decide (nb = 0)) && (x.2.2.2.2.2.2.2.2 || decide (nl = 0))
def fitsB (s : St) : Bool := decide (s.k ≠ 0) && decide (s.k < 13) && metB (nds s.k) s.nm s.fr s.sec s.mu s.ex.length s.ar.length s.bd.length s.el.length && s.ar.all nmdB && s.ex.all (mayB 40)
def rowC (one : St → Nat → Option Nat) : List St → Nat → Option Nat
 | [], n => some n
 | s :: r, n => (one s n).bind (rowC one r)
def blkC : Nat → List St → Nat → Option Nat
 | 0, [], n => some n
 | 0, _ :: _, _ => none
 | d + 1, l, n => rowC (fun s n => if n = 0 ∨ fitsB s = false then none else (blkC d s.bd (n - 1)).bind (blkC d s.el)) l n
def oneC (d : Nat) (s : St) (n : Nat) : Option Nat := if n = 0 ∨ fitsB s = false then none else (blkC d s.bd (n - 1)).bind (blkC d s.el)
theorem blkC_succ (d : Nat) (l : List St) (n : Nat) : blkC (d + 1) l n = rowC (oneC d) l n := by unfold blkC; rfl
def pmB (p : Pm) : Bool := nmdB p.nm && (!p.mu || p.buf)
def psB (l : List Pm) : Bool := decide (l.length ≤ 8) && l.all pmB
def rtB (sec : Bool) (l : List Xp) : Bool := if l.length = 0 then !sec else decide (l.length = 1) && l.all (mayB 40)
def fdC (f : Fd) (n : Nat) : Option Nat := if (nmdB f.nm && psB f.ps && rtB f.sec f.rt) = true then blkC 40 f.bd n else none
def pgC : List Fd → Nat → Option Nat
 | [], n => some n
 | f :: r, n => (fdC f n).bind (pgC r)
def pgB (l : List Fd) : Bool := decide (l.length ≤ 16) && (pgC l 400).isSome
inductive Rz (α : Type)
 | er (e p : Nat)
 | ok (x : α) (p n : Nat)
def Rz.next {α β : Type} : Rz α → (α → Nat → Nat → Rz β) → Rz β
 | .er e p, _ => .er e p
 | .ok x p n, f => f x p n
def t0 : Tk := ⟨0, [], 0⟩
def txt (T : List Tk) (p : Nat) : List UInt8 := (T.getD p t0).t
def knd (T : List Tk) (p : Nat) : Nat := (T.getD p t0).k
def takR (T : List Tk) (s : List UInt8) (p n : Nat) : Rz Unit := if txt T p = s then .ok () (p + 1) n else .er 7 p
def namR (T : List Tk) (p n : Nat) : Rz (List UInt8) := if knd T p = 1 then .ok (txt T p) (p + 1) n else .er 7 p
def expR (T : List Tk) (p n : Nat) : Rz Xp := match rdE 40 T p with
 | .er e q => .er e q
 | .ok x q => .ok x q n
def betR (T : List Tk) (a b : List UInt8) (p n : Nat) : Rz Xp := (takR T a p n).next fun _ p n => (expR T p n).next fun x p n => (takR T b p n).next fun _ p n => .ok x p n
def lisL {α : Type} (T : List Tk) (one : Nat → Nat → Rz α) (bh : List UInt8) : Nat → List α → Nat → Nat → Rz (List α)
 | 0, _, p, _ => .er 7 p
 | f + 1, l, p, n => if txt T p = bh then .ok l (p + 1) n else (takR T [44] p n).next fun _ p n => if l.length = 8 then .er 5 p else (one p n).next fun x p n => lisL T one bh f (l ++ [x]) p n
def lisR {α : Type} (T : List Tk) (one : Nat → Nat → Rz α) (bh : List UInt8) (p n : Nat) : Rz (List α) := if txt T p = bh then .ok [] (p + 1) n else (one p n).next fun x p n => lisL T one bh 9 [x] p n
def wLet : List UInt8 := [108, 101, 116]
def wBuf : List UInt8 := [98, 117, 102]
def wIf : List UInt8 := [105, 102]
def wWhile : List UInt8 := [119, 104, 105, 108, 101]
def wFor : List UInt8 := [102, 111, 114]
def wView : List UInt8 := [118, 105, 101, 119]
def wEdit : List UInt8 := [101, 100, 105, 116]
def wMove : List UInt8 := [109, 111, 118, 101]
def wOpen : List UInt8 := [111, 112, 101, 110]
def wCall : List UInt8 := [99, 97, 108, 108]
def wSeal : List UInt8 := [115, 101, 97, 108]
def wSecret : List UInt8 := [115, 101, 99, 114, 101, 116]
def wFn : List UInt8 := [102, 110]
def wNum : List UInt8 := [110, 117, 109]
def wElse : List UInt8 := [101, 108, 115, 101]
def isP (T : List Tk) (s : List UInt8) (p : Nat) : Bool := decide (txt T p = s)
def beP (T : List Tk) (s : List UInt8) (p : Nat) : Nat := if txt T p = s then p + 1 else p
def parR (T : List Tk) (p n : Nat) : Rz Pm :=
 let mu := isP T wEdit p
 let p1 := beP T wEdit p
 let buf := mu || isP T wView p1
 let p2 := if mu = true then p1 else beP T wView p1
 let sec := isP T wSecret p2
 let p3 := beP T wSecret p2
 if (!buf && !sec) = true then (takR T wNum p3 n).next fun _ p n => (namR T p n).next fun x p n => .ok ⟨x, buf, sec, mu⟩ p n
 else (namR T p3 n).next fun x p n => .ok ⟨x, buf, sec, mu⟩ p n
def letR (T : List Tk) (p n : Nat) : Rz St := (namR T (beP T wSecret p) n).next fun x q n => (betR T [61] [59] q n).next fun e q n => .ok (.mk 1 x [] (isP T wSecret p) false [e] [] [] []) q n
def setR (T : List Tk) (p n : Nat) : Rz St := (namR T p n).next fun x p n =>
 if txt T p = [91] then (betR T [91] [93] p n).next fun i p n => (betR T [61] [59] p n).next fun e p n => .ok (.mk 4 x [] false false [i, e] [] [] []) p n
 else (betR T [61] [59] p n).next fun e p n => .ok (.mk 2 x [] false false [e] [] [] []) p n
def bufR (T : List Tk) (p n : Nat) : Rz St := (namR T (beP T wSecret p) n).next fun x q n => (betR T [91] [93] q n).next fun e q n => (takR T [59] q n).next fun _ q n => .ok (.mk 3 x [] (isP T wSecret p) false [e] [] [] []) q n
def ifR (T : List Tk) (blk : Nat → Nat → Rz (List St)) (p n : Nat) : Rz St := (expR T p n).next fun e p n => (blk p n).next fun b p n =>
 if txt T p = wElse then (blk (p + 1) n).next fun l p n => .ok (.mk 5 [] [] false false [e] [] b l) p n else .ok (.mk 5 [] [] false false [e] [] b []) p n
def whiR (T : List Tk) (blk : Nat → Nat → Rz (List St)) (p n : Nat) : Rz St := (expR T p n).next fun e p n => (blk p n).next fun b p n => .ok (.mk 6 [] [] false false [e] [] b []) p n
def forR (T : List Tk) (blk : Nat → Nat → Rz (List St)) (p n : Nat) : Rz St := (namR T p n).next fun x p n => (takR T [60] p n).next fun _ p n => (expR T p n).next fun e p n => (blk p n).next fun b p n => .ok (.mk 7 x [] false false [e] [] b []) p n
def lenR (T : List Tk) (blk : Nat → Nat → Rz (List St)) (mu : Bool) (p n : Nat) : Rz St := (namR T p n).next fun x p n => (takR T [61] p n).next fun _ p n => (namR T p n).next fun y p n => (betR T [91] [46, 46] p n).next fun a p n => (expR T p n).next fun e p n => (takR T [93] p n).next fun _ p n => (blk p n).next fun b p n => .ok (.mk 8 x y false mu [a, e] [] b []) p n
def movR (T : List Tk) (p n : Nat) : Rz St := (namR T p n).next fun x p n => (takR T [61] p n).next fun _ p n => (namR T p n).next fun y p n => (takR T [59] p n).next fun _ p n => .ok (.mk 9 x y false false [] [] [] []) p n
def opnR (T : List Tk) (p n : Nat) : Rz St := (namR T p n).next fun x p n => (betR T [61] [59] p n).next fun e p n => .ok (.mk 10 x [] false false [e] [] [] []) p n
def argR (T : List Tk) (x y : List UInt8) (p n : Nat) : Rz St := (takR T [40] p n).next fun _ p n => (lisR T (expR T) [59] p n).next fun ex p n => (lisR T (namR T) [41] p n).next fun ar p n => (takR T [59] p n).next fun _ p n => .ok (.mk 11 x y false false ex ar [] []) p n
def calR (T : List Tk) (p n : Nat) : Rz St := (namR T p n).next fun x p n =>
 if txt T p = [61] then (namR T (p + 1) n).next fun y p n => argR T x y p n else argR T [] x p n
def seaR (T : List Tk) (p n : Nat) : Rz St := (takR T [59] p n).next fun _ p n => .ok (.mk 12 [] [] false false [] [] [] []) p n
def stR (T : List Tk) (blk : Nat → Nat → Rz (List St)) (p n : Nat) : Rz St :=
 if txt T p = wLet then letR T (p + 1) n
 else if txt T p = wBuf then bufR T (p + 1) n
 else if txt T p = wIf then ifR T blk (p + 1) n
 else if txt T p = wWhile then whiR T blk (p + 1) n
 else if txt T p = wFor then forR T blk (p + 1) n
 else if txt T p = wView then lenR T blk false (p + 1) n
 else if txt T p = wEdit then lenR T blk true (p + 1) n
 else if txt T p = wMove then movR T (p + 1) n
 else if txt T p = wOpen then opnR T (p + 1) n
 else if txt T p = wCall then calR T (p + 1) n
 else if txt T p = wSeal then seaR T (p + 1) n
 else setR T p n
def blkL (T : List Tk) (one : Nat → Nat → Rz St) : Nat → List St → Nat → Nat → Rz (List St)
 | 0, _, p, _ => .er 7 p
 | f + 1, l, p, n => if txt T p = [125] then .ok l (p + 1) n else (one p n).next fun x p n => blkL T one f (l ++ [x]) p n
def staR (T : List Tk) (blk : Nat → Nat → Rz (List St)) (p n : Nat) : Rz St := if n = 400 then .er 5 p else stR T blk p (n + 1)
def blkR (T : List Tk) : Nat → Nat → Nat → Rz (List St)
 | 0, p, n => (takR T [123] p n).next fun _ p n => blkL T (fun p _ => .er 70 p) 1 [] p n
 | d + 1, p, n => (takR T [123] p n).next fun _ p n => blkL T (staR T (blkR T d)) (401 - n) [] p n
def retR (T : List Tk) (x : List UInt8) (ps : List Pm) (b : List St) (p n : Nat) : Rz Fd :=
 if txt T p = [61] then (expR T (beP T wSecret (p + 1)) n).next fun e q n => (takR T [59] q n).next fun _ q n => .ok ⟨x, ps, b, isP T wSecret (p + 1), [e]⟩ q n
 else (takR T [59] p n).next fun _ q n => .ok ⟨x, ps, b, false, []⟩ q n
def funR (T : List Tk) (p n : Nat) : Rz Fd := (takR T wFn p n).next fun _ p n => (namR T p n).next fun x p n => (takR T [40] p n).next fun _ p n => (lisR T (parR T) [41] p n).next fun ps p n => (blkR T 40 p n).next fun b p n => retR T x ps b p n
def proL (T : List Tk) : Nat → List Fd → Nat → Nat → Rz (List Fd)
 | 0, _, p, _ => .er 7 p
 | f + 1, l, p, n => if knd T p = 5 then .ok l p n else if l.length = 16 ∧ txt T p = wFn then .er 5 p else (funR T p n).next fun x p n => proL T f (l ++ [x]) p n
def proR (T : List Tk) : Rz (List Fd) := proL T 17 [] 0 0
inductive Pz
 | er (e a : Nat)
 | ok (l : List Fd)
def parB (s : List UInt8) : Pz := match lexT s with
 | .er e a => .er e a
 | .ok T => match proR (T.map (·.1)) with
   | .er e p => .er e (T.getD (min p (T.length - 1)) (t0, 0)).2
   | .ok l _ _ => .ok l
def Good (T : List Tk) : Prop := ∀ t ∈ T, t.k = 1 → nmdB t.t = true
theorem nmd_ne {x : List UInt8} (h : nmdB x = true) : x ≠ [] := by
 rintro rfl
 revert h
 decide +kernel
def BlkOk (T : List Tk) (d : Nat) (blk : Nat → Nat → Rz (List St)) : Prop := ∀ p n l q m, n ≤ 400 → blk p n = .ok l q m → n ≤ m ∧ m ≤ 400 ∧ blkC d l (400 - n) = some (400 - m)
def StOk (d : Nat) (s : St) (n m : Nat) : Prop := fitsB s = true ∧ n ≤ m ∧ m ≤ 400 ∧ (blkC d s.bd (400 - n)).bind (blkC d s.el) = some (400 - m)
theorem blkC_nil (d n : Nat) : blkC d [] n = some n := by cases d <;> rfl
end Go.Proofs.YtfbjljcmmbdhkaaGreatDoor
