/- Plain: programs; which may be; how they are read. -/
import Derived.Test.YtkibkaoffgnmkaaGreatDoorL01
import Derived.Test.YtkibkaoffgnmkaaGreatDoorL10
import Derived.WalkSmall
import Derived.LoopN
namespace Go.Proofs.YtkibkaoffgnmkaaGreatDoor
set_option linter.unusedVariables false
set_option linter.unusedSimpArgs false
set_option maxRecDepth 100000
set_option maxHeartbeats 200000000
section
inductive St
 | mk (k : Nat) (nm fr : List UInt8) (sec mu : Bool) (ex : List Xp) (ar : List (List UInt8)) (bd el : List St)
def St.k : St → Nat | .mk k _ _ _ _ _ _ _ _ => k
def St.nm : St → List UInt8 | .mk _ x _ _ _ _ _ _ _ => x
def St.fr : St → List UInt8 | .mk _ _ x _ _ _ _ _ _ => x
def St.sec : St → Bool | .mk _ _ _ x _ _ _ _ _ => x
def St.mu : St → Bool | .mk _ _ _ _ x _ _ _ _ => x
def St.ex : St → List Xp | .mk _ _ _ _ _ x _ _ _ => x
def St.ar : St → List (List UInt8) | .mk _ _ _ _ _ _ x _ _ => x
def St.bd : St → List St | .mk _ _ _ _ _ _ _ x _ => x
def St.el : St → List St | .mk _ _ _ _ _ _ _ _ x => x
instance : Inhabited St := ⟨.mk 0 [] [] false false [] [] [] []⟩
structure Pm where
 nm : List UInt8
 buf : Bool
 sec : Bool
 mu : Bool
structure Fd where
 nm : List UInt8
 ps : List Pm
 bd : List St
 sec : Bool
 rt : List Xp
def metA (a : Nat) (s : List UInt8) : Bool := if s = [] then decide (a ≠ 2) else decide (a ≠ 0) && nmdB s
def nds (k : Nat) : Nat × Nat × Bool × Bool × Int × Int × Int × Bool × Bool := kindsN.getD k (0, 0, false, false, 0, 0, 0, false, false)
def metB (x : Nat × Nat × Bool × Bool × Int × Int × Int × Bool × Bool) (nm fr : List UInt8) (sec mu : Bool) (ne na nb nl : Nat) : Bool :=
 metA x.1 nm && metA x.2.1 fr && (x.2.2.1 || !sec) && (x.2.2.2.1 || !mu) && decide (x.2.2.2.2.1 ≤ (ne : Int)) && decide ((ne : Int) ≤ x.2.2.2.2.2.1) && decide ((na : Int) ≤ x.2.2.2.2.2.2.1) && (x.2.2.2.2.2.2.2.1 || decide (nb = 0)) && (x.2.2.2.2.2.2.2.2 || decide (nl = 0))
def fitsB (s : St) : Bool := decide (s.k ≠ 0) && decide (s.k < 13) && metB (nds s.k) s.nm s.fr s.sec s.mu s.ex.length s.ar.length s.bd.length s.el.length && s.ar.all nmdB && s.ex.all (mayB 40)
def rowC (one : St → Nat → Option Nat) : List St → Nat → Option Nat
 | [], n => some n
 | s :: r, n => (one s n).bind (rowC one r)
def blkC : Nat → List St → Nat → Option Nat
 | 0, [], n => some n
 | 0, _ :: _, _ => none
 | d + 1, l, n => rowC (fun s n => if n = 0 ∨ fitsB s = false then none else (blkC d s.bd (n - 1)).bind (blkC d s.el)) l n
def oneC (d : Nat) (s : St) (n : Nat) : Option Nat := if n = 0 ∨ fitsB s = false then none else (blkC d s.bd (n - 1)).bind (blkC d s.el)
theorem blkC_succ (d : Nat) (l : List St) (n : Nat) : blkC (d + 1) l n = rowC (oneC d) l n := by unfold blkC; rfl
def pmB (p : Pm) : Bool := nmdB p.nm && (!p.mu || p.buf)
def psB (l : List Pm) : Bool := decide (l.length ≤ 8) && l.all pmB
def rtB (sec : Bool) (l : List Xp) : Bool := if l.length = 0 then !sec else decide (l.length = 1) && l.all (mayB 40)
def fdC (f : Fd) (n : Nat) : Option Nat := if (nmdB f.nm && psB f.ps && rtB f.sec f.rt) = true then blkC 40 f.bd n else none
def pgC : List Fd → Nat → Option Nat
 | [], n => some n
 | f :: r, n => (fdC f n).bind (pgC r)
def pgB (l : List Fd) : Bool := decide (l.length ≤ 16) && (pgC l 400).isSome
inductive Rz (α : Type)
 | er (e p : Nat)
 | ok (x : α) (p n : Nat)
def Rz.next {α β : Type} : Rz α → (α → Nat → Nat → Rz β) → Rz β
 | .er e p, _ => .er e p
 | .ok x p n, f => f x p n
def t0 : Tk := ⟨0, [], 0⟩
def txt (T : List Tk) (p : Nat) : List UInt8 := (T.getD p t0).t
def knd (T : List Tk) (p : Nat) : Nat := (T.getD p t0).k
def takR (T : List Tk) (s : List UInt8) (p n : Nat) : Rz Unit := if txt T p = s then .ok () (p + 1) n else .er 7 p
def namR (T : List Tk) (p n : Nat) : Rz (List UInt8) := if knd T p = 1 then .ok (txt T p) (p + 1) n else .er 7 p
def expR (T : List Tk) (p n : Nat) : Rz Xp := match rdE 40 T p with
 | .er e q => .er e q
 | .ok x q => .ok x q n
def betR (T : List Tk) (a b : List UInt8) (p n : Nat) : Rz Xp := (takR T a p n).next fun _ p n => (expR T p n).next fun x p n => (takR T b p n).next fun _ p n => .ok x p n
def lisL {α : Type} (T : List Tk) (one : Nat → Nat → Rz α) (bh : List UInt8) : Nat → List α → Nat → Nat → Rz (List α)
 | 0, _, p, _ => .er 7 p
 | f + 1, l, p, n => if txt T p = bh then .ok l (p + 1) n else (takR T [44] p n).next fun _ p n => if l.length = 8 then .er 5 p else (one p n).next fun x p n => lisL T one bh f (l ++ [x]) p n
def lisR {α : Type} (T : List Tk) (one : Nat → Nat → Rz α) (bh : List UInt8) (p n : Nat) : Rz (List α) := if txt T p = bh then .ok [] (p + 1) n else (one p n).next fun x p n => lisL T one bh 9 [x] p n
def wLet : List UInt8 := [108, 101, 116]
def wBuf : List UInt8 := [98, 117, 102]
def wIf : List UInt8 := [105, 102]
def wWhile : List UInt8 := [119, 104, 105, 108, 101]
def wFor : List UInt8 := [102, 111, 114]
def wView : List UInt8 := [118, 105, 101, 119]
def wEdit : List UInt8 := [101, 100, 105, 116]
def wMove : List UInt8 := [109, 111, 118, 101]
def wOpen : List UInt8 := [111, 112, 101, 110]
def wCall : List UInt8 := [99, 97, 108, 108]
def wSeal : List UInt8 := [115, 101, 97, 108]
def wSecret : List UInt8 := [115, 101, 99, 114, 101, 116]
def wFn : List UInt8 := [102, 110]
def wNum : List UInt8 := [110, 117, 109]
def wElse : List UInt8 := [101, 108, 115, 101]
def isP (T : List Tk) (s : List UInt8) (p : Nat) : Bool := decide (txt T p = s)
def beP (T : List Tk) (s : List UInt8) (p : Nat) : Nat := if txt T p = s then p + 1 else p
def parR (T : List Tk) (p n : Nat) : Rz Pm :=
 let mu := isP T wEdit p
 let p1 := beP T wEdit p
 let buf := mu || isP T wView p1
 let p2 := if mu = true then p1 else beP T wView p1
 let sec := isP T wSecret p2
 let p3 := beP T wSecret p2
 if (!buf && !sec) = true then (takR T wNum p3 n).next fun _ p n => (namR T p n).next fun x p n => .ok ⟨x, buf, sec, mu⟩ p n
 else (namR T p3 n).next fun x p n => .ok ⟨x, buf, sec, mu⟩ p n
def letR (T : List Tk) (p n : Nat) : Rz St := (namR T (beP T wSecret p) n).next fun x q n => (betR T [61] [59] q n).next fun e q n => .ok (.mk 1 x [] (isP T wSecret p) false [e] [] [] []) q n
def setR (T : List Tk) (p n : Nat) : Rz St := (namR T p n).next fun x p n =>
 if txt T p = [91] then (betR T [91] [93] p n).next fun i p n => (betR T [61] [59] p n).next fun e p n => .ok (.mk 4 x [] false false [i, e] [] [] []) p n
 else (betR T [61] [59] p n).next fun e p n => .ok (.mk 2 x [] false false [e] [] [] []) p n
def bufR (T : List Tk) (p n : Nat) : Rz St := (namR T (beP T wSecret p) n).next fun x q n => (betR T [91] [93] q n).next fun e q n => (takR T [59] q n).next fun _ q n => .ok (.mk 3 x [] (isP T wSecret p) false [e] [] [] []) q n
def ifR (T : List Tk) (blk : Nat → Nat → Rz (List St)) (p n : Nat) : Rz St := (expR T p n).next fun e p n => (blk p n).next fun b p n =>
 if txt T p = wElse then (blk (p + 1) n).next fun l p n => .ok (.mk 5 [] [] false false [e] [] b l) p n else .ok (.mk 5 [] [] false false [e] [] b []) p n
def whiR (T : List Tk) (blk : Nat → Nat → Rz (List St)) (p n : Nat) : Rz St := (expR T p n).next fun e p n => (blk p n).next fun b p n => .ok (.mk 6 [] [] false false [e] [] b []) p n
def forR (T : List Tk) (blk : Nat → Nat → Rz (List St)) (p n : Nat) : Rz St := (namR T p n).next fun x p n => (takR T [60] p n).next fun _ p n => (expR T p n).next fun e p n => (blk p n).next fun b p n => .ok (.mk 7 x [] false false [e] [] b []) p n
def lenR (T : List Tk) (blk : Nat → Nat → Rz (List St)) (mu : Bool) (p n : Nat) : Rz St := (namR T p n).next fun x p n => (takR T [61] p n).next fun _ p n => (namR T p n).next fun y p n => (betR T [91] [46, 46] p n).next fun a p n => (expR T p n).next fun e p n => (takR T [93] p n).next fun _ p n => (blk p n).next fun b p n => .ok (.mk 8 x y false mu [a, e] [] b []) p n
def movR (T : List Tk) (p n : Nat) : Rz St := (namR T p n).next fun x p n => (takR T [61] p n).next fun _ p n => (namR T p n).next fun y p n => (takR T [59] p n).next fun _ p n => .ok (.mk 9 x y false false [] [] [] []) p n
def opnR (T : List Tk) (p n : Nat) : Rz St := (namR T p n).next fun x p n => (betR T [61] [59] p n).next fun e p n => .ok (.mk 10 x [] false false [e] [] [] []) p n
def argR (T : List Tk) (x y : List UInt8) (p n : Nat) : Rz St := (takR T [40] p n).next fun _ p n => (lisR T (expR T) [59] p n).next fun ex p n => (lisR T (namR T) [41] p n).next fun ar p n => (takR T [59] p n).next fun _ p n => .ok (.mk 11 x y false false ex ar [] []) p n
def calR (T : List Tk) (p n : Nat) : Rz St := (namR T p n).next fun x p n =>
 if txt T p = [61] then (namR T (p + 1) n).next fun y p n => argR T x y p n else argR T [] x p n
def seaR (T : List Tk) (p n : Nat) : Rz St := (takR T [59] p n).next fun _ p n => .ok (.mk 12 [] [] false false [] [] [] []) p n
def stR (T : List Tk) (blk : Nat → Nat → Rz (List St)) (p n : Nat) : Rz St :=
 if txt T p = wLet then letR T (p + 1) n
 else if txt T p = wBuf then bufR T (p + 1) n
 else if txt T p = wIf then ifR T blk (p + 1) n
 else if txt T p = wWhile then whiR T blk (p + 1) n
 else if txt T p = wFor then forR T blk (p + 1) n
 else if txt T p = wView then lenR T blk false (p + 1) n
 else if txt T p = wEdit then lenR T blk true (p + 1) n
 else if txt T p = wMove then movR T (p + 1) n
 else if txt T p = wOpen then opnR T (p + 1) n
 else if txt T p = wCall then calR T (p + 1) n
 else if txt T p = wSeal then seaR T (p + 1) n
 else setR T p n
def blkL (T : List Tk) (one : Nat → Nat → Rz St) : Nat → List St → Nat → Nat → Rz (List St)
 | 0, _, p, _ => .er 7 p
 | f + 1, l, p, n => if txt T p = [125] then .ok l (p + 1) n else (one p n).next fun x p n => blkL T one f (l ++ [x]) p n
def staR (T : List Tk) (blk : Nat → Nat → Rz (List St)) (p n : Nat) : Rz St := if n = 400 then .er 5 p else stR T blk p (n + 1)
def blkR (T : List Tk) : Nat → Nat → Nat → Rz (List St)
 | 0, p, n => (takR T [123] p n).next fun _ p n => blkL T (fun p _ => .er 70 p) 1 [] p n
 | d + 1, p, n => (takR T [123] p n).next fun _ p n => blkL T (staR T (blkR T d)) (401 - n) [] p n
def retR (T : List Tk) (x : List UInt8) (ps : List Pm) (b : List St) (p n : Nat) : Rz Fd :=
 if txt T p = [61] then (expR T (beP T wSecret (p + 1)) n).next fun e q n => (takR T [59] q n).next fun _ q n => .ok ⟨x, ps, b, isP T wSecret (p + 1), [e]⟩ q n
 else (takR T [59] p n).next fun _ q n => .ok ⟨x, ps, b, false, []⟩ q n
def funR (T : List Tk) (p n : Nat) : Rz Fd := (takR T wFn p n).next fun _ p n => (namR T p n).next fun x p n => (takR T [40] p n).next fun _ p n => (lisR T (parR T) [41] p n).next fun ps p n => (blkR T 40 p n).next fun b p n => retR T x ps b p n
def proL (T : List Tk) : Nat → List Fd → Nat → Nat → Rz (List Fd)
 | 0, _, p, _ => .er 7 p
 | f + 1, l, p, n => if knd T p = 5 then .ok l p n else if l.length = 16 ∧ txt T p = wFn then .er 5 p else (funR T p n).next fun x p n => proL T f (l ++ [x]) p n
def proR (T : List Tk) : Rz (List Fd) := proL T 17 [] 0 0
inductive Pz
 | er (e a : Nat)
 | ok (l : List Fd)
def parB (s : List UInt8) : Pz := match lexT s with
 | .er e a => .er e a
 | .ok T => match proR (T.map (·.1)) with
  | .er e p => .er e (T.getD (min p (T.length - 1)) (t0, 0)).2
  | .ok l _ _ => .ok l
end
section
open Go.ChangeShapes Go.WideShapes Go.ChangeAt Go.RowKit
def readsM : Array MapEntry := #[⟨.string (str wLet), .func (.func 101) #[] #[], 0⟩, ⟨.string (str wBuf), .func (.func 102) #[] #[], 1⟩, ⟨.string (str wIf), .func (.func 103) #[] #[], 2⟩, ⟨.string (str wWhile), .func (.func 104) #[] #[], 3⟩, ⟨.string (str wFor), .func (.func 105) #[] #[], 4⟩, ⟨.string (str wView), .func (.func 106) #[] #[], 5⟩, ⟨.string (str wEdit), .func (.func 107) #[] #[], 6⟩, ⟨.string (str wMove), .func (.func 108) #[] #[], 7⟩, ⟨.string (str wOpen), .func (.func 109) #[] #[], 8⟩, ⟨.string (str wCall), .func (.func 110) #[] #[], 9⟩, ⟨.string (str wSeal), .func (.func 111) #[] #[], 10⟩]
structure IsRs (w : World) (rb mb : Nat) (v : Value) (T : List (Tk × Int)) (p d n : Nat) : Prop where
 c0 : w.cell? ⟨rb, 0, none⟩ = some v
 c1 : w.cell? ⟨rb, 1, none⟩ = some (.int .i64 (p : Int))
 c2 : w.cell? ⟨rb, 2, none⟩ = some (.map (some mb))
 c3 : w.cell? ⟨rb, 3, none⟩ = some (.int .i64 (d : Int))
 c4 : w.cell? ⟨rb, 4, none⟩ = some (.int .i64 (n : Int))
 f : ∀ k, w.frozen? ⟨rb, k, none⟩ = false
 row : RowZ w v T
 ne : ¬ ob v T = some rb
 mp : w.heap[mb]? = some (.map readsM 11)
 nm : ¬ mb = rb
 len : T.length ≤ 16385
 lt : p < T.length
 fin : ∃ a, T[T.length - 1]? = some (⟨5, [], 0⟩, a)
 hd : d ≤ 41
 hn : n ≤ 400
 ng : ¬ GB rb
 tb : Tb w
section
variable {w w' : World} {rb mb : Nat} {v : Value} {T : List (Tk × Int)} {p d n : Nat}
theorem IsRs.rl (h : IsRs w rb mb v T p d n) : rb < w.heap.size := World.block_lt_of_cell? w _ h.c0
theorem IsRs.ml (h : IsRs w rb mb v T p d n) : mb < w.heap.size := by
 rcases Nat.lt_or_ge mb w.heap.size with hh | hh
 ·exact hh
 ·have := h.mp; rw [Array.getElem?_eq_none hh] at this; cases this
theorem IsRs.only {S : Nat → Prop} (h : IsRs w rb mb v T p d n) (ho : Only S w w') (h1 : ¬ S rb) (h2 : ∀ j, ob v T = some j → ¬ S j) (h3 : ¬ S mb) (h4 : ∀ j, GB j → ¬ S j) : IsRs w' rb mb v T p d n :=
 { h with c0 := ho.cell h1 h.c0, c1 := ho.cell h1 h.c1, c2 := ho.cell h1 h.c2, c3 := ho.cell h1 h.c3, c4 := ho.cell h1 h.c4, f := (fun k => ((ho.frozen (a := ⟨rb, k, none⟩) h.rl h1).trans (h.f k))), row := h.row.onlyo ho h2, mp := (ho.block mb h.ml h3).trans h.mp, tb := h.tb.only ho h4 }
theorem IsRs.of (h : IsRs w rb mb v T p d n) (hb : Below w.heap.size w w') : IsRs w' rb mb v T p d n :=
 h.only (S := fun _ => False) (only_below hb) (fun h => h) (fun _ _ h => h) (fun h => h) (fun _ _ h => h)
theorem IsRs.drewN (h : IsRs w rb mb v T p d n) (k : Nat) : IsRs (w.drewN k) rb mb v T p d n := h.of (bdN (Below.refl _ _) k)
theorem IsRs.set (h : IsRs w rb mb v T p d n) {o : Nat} {x : Value} {p' d' n' : Nat} (c0 : ¬ o = 0) (c1 : (w.setCell ⟨rb, o, none⟩ x).cell? ⟨rb, 1, none⟩ = some (.int .i64 (p' : Int))) (c2 : ¬ o = 2) (c3 : (w.setCell ⟨rb, o, none⟩ x).cell? ⟨rb, 3, none⟩ = some (.int .i64 (d' : Int))) (c4 : (w.setCell ⟨rb, o, none⟩ x).cell? ⟨rb, 4, none⟩ = some (.int .i64 (n' : Int)))
  (lt : p' < T.length) (hd : d' ≤ 41) (hn : n' ≤ 400) : IsRs (w.setCell ⟨rb, o, none⟩ x) rb mb v T p' d' n' :=
 have ho := only_one w rb o x
 { c0 := cset h.c0 (fun e => c0 e.symm), c1 := c1, c2 := cset h.c2 (fun e => c2 e.symm), c3 := c3, c4 := c4, f := (fun k => by rw [World.frozen?_setCell]; exact h.f k), row := h.row.onlyo ho (fun j hj e => h.ne (by rw [hj, e])), ne := h.ne, mp := (ho.block mb h.ml h.nm).trans h.mp, nm := h.nm, len := h.len, lt := lt, fin := h.fin, hd := hd, hn := hn, ng := h.ng, tb := h.tb.only ho (fun j hj (e : j = rb) => h.ng (by rw [← e]; exact hj)) }
structure TokAt (w : World) (rb : Nat) (T : List (Tk × Int)) (p : Nat) (t : Tk) (z : Int) : Prop where
 at_ : ∃ (b o N c : Nat), w.cell? ⟨rb, 0, none⟩ = some (.slice (some ⟨b, o, none⟩) N c) ∧ p < N ∧ N ≤ 16385 ∧ b < w.heap.size ∧ w.cell? ⟨b, o + p * 4, none⟩ = some (.int .u8 (t.k : Int)) ∧ w.cell? ⟨b, o + p * 4 + 1, none⟩ = some (.string (str t.t)) ∧ w.cell? ⟨b, o + p * 4 + 2, none⟩ = some (.int .u64 (t.n : Int)) ∧ w.cell? ⟨b, o + p * 4 + 3, none⟩ = some (.int .i64 z)
 txt_ : txt (bareZ T) p = t.t
 knd_ : knd (bareZ T) p = t.k
 plc_ : placeZ T (p : Int) = z
theorem IsRs.tok (h : IsRs w rb mb v T p d n) : ∃ t z, TokAt w rb T p t z := by
 obtain ⟨ma, c, hv, hc⟩ := h.row.row
 obtain ⟨b, o, rfl, hl, q0, q1, q2, q3⟩ := hc p h.lt
 have c0 := h.c0
 rw [hv] at c0
 have hlt := h.lt
 have hb : (bareZ T).getD p t0 = T[p].1 := by
  unfold bareZ
  rw [List.getD_eq_getElem?_getD, List.getElem?_map, List.getElem?_eq_getElem h.lt]
  rfl
 refine ⟨T[p].1, T[p].2, ⟨⟨b, o, T.length, c, c0, h.lt, h.len, hl, q0, q1, q2, q3⟩, by unfold txt; rw [hb], by unfold knd; rw [hb], ?_⟩⟩
 unfold placeZ
 rw [if_neg (by omega), Int.toNat_natCast, Nat.min_eq_left (by have := h.lt; omega), List.getD_eq_getElem?_getD, List.getElem?_eq_getElem h.lt]
 rfl
theorem IsRs.more (h : IsRs w rb mb v T p d n) (hh : txt (bareZ T) p ≠ [] ∨ knd (bareZ T) p ≠ 5) : p + 1 < T.length := by
 rcases Nat.lt_or_ge (p + 1) T.length with h1 | h1
 ·exact h1
 ·exfalso
  obtain ⟨a, ha⟩ := h.fin
  have hp : p = T.length - 1 := by have := h.lt; omega
  have hb : (bareZ T).getD p t0 = ⟨5, [], 0⟩ := by
   unfold bareZ
   rw [List.getD_eq_getElem?_getD, List.getElem?_map, hp, ha]
   rfl
  rcases hh with hh | hh
  ·exact hh (by unfold txt; rw [hb])
  ·exact hh (by unfold knd; rw [hb])
end
def Flt (T : List (Tk × Int)) (e p : Nat) : Ending := .panicked [{ v := .iface 115 (.agg #[.int .i64 (placeZ T (p : Int)), .int .i64 (e : Int)]), recovered := false }]
def RP {α : Type} (V : World → World → Value → α → Prop) (w : World) (rb mb : Nat) (v : Value) (T : List (Tk × Int)) (d : Nat) (r : Rz α) (e : Ending) (w' : World) : Prop :=
 Only (fun j => j = rb) w w' ∧ match r with
  | .er c q => e = Flt T c q
  | .ok x q m => IsRs w' rb mb v T q d m ∧ ∃ u, e = .returned u ∧ V w w' u x
theorem RP.er {α : Type} {V : World → World → Value → α → Prop} {w : World} {rb mb : Nat} {v : Value} {T : List (Tk × Int)} {d : Nat} {c q : Nat} {w' : World} (h : Only (fun j => j = rb) w w') : RP V w rb mb v T d (.er c q : Rz α) (Flt T c q) w' := ⟨h, rfl⟩
theorem RP.ok {α : Type} {V : World → World → Value → α → Prop} {w : World} {rb mb : Nat} {v : Value} {T : List (Tk × Int)} {d : Nat} {x : α} {q m : Nat} {u : Value} {w' : World} (h : Only (fun j => j = rb) w w') (h1 : IsRs w' rb mb v T q d m) (h2 : V w w' u x) : RP V w rb mb v T d (.ok x q m) (.returned u) w' := ⟨h, h1, u, rfl, h2⟩
def VU (w w' : World) (u : Value) (_ : Unit) : Prop := u = .tuple #[]
def VN (w w' : World) (u : Value) (x : List UInt8) : Prop := u = .string (str x)
end
section
open Go.ChangeShapes Go.WideShapes Go.ChangeAt Go.RowKit
structure Ex4 (w w4 : World) (rb eb : Nat) (v : Value) (T : List (Tk × Int)) (p d : Int) (K : Int) : Prop where
 rd : IsRd w4 rb v T p d
 bx : Bx w4 eb rb (ob v T) (.int .u8 K) (.int .u64 0) (.string ⟨#[]⟩) (.int .u8 0) (.slice none 0 0)
 res : rowG #[.int .u8 0, .int .u64 0, .string ⟨#[]⟩, .int .u8 0, .slice none 0 0] w4 w.heap.size
 tb : Tb w4
 only : Only (fun j => j = rb) w w4
 lo : w.heap.size < eb
theorem Ex4.ne {w w4 : World} {rb eb : Nat} {v : Value} {T : List (Tk × Int)} {p d K : Int} (h4 : Ex4 w w4 rb eb v T p d K) {b : Nat} {x : Value} (hb : w4.cell? ⟨b, 0, none⟩ = some x) (hx : Value.int .u8 K ≠ x) : ¬ b = eb := fun e => by
 have h1 := h4.bx.row.1 0 (by simp)
 rw [← e] at h1
 exact hx (Option.some.inj (h1.symm.trans hb))
theorem Ex4.ng {w w4 : World} {rb eb : Nat} {v : Value} {T : List (Tk × Int)} {p d K : Int} (h4 : Ex4 w w4 rb eb v T p d K) {g : Nat} {x : Value} (p0 : w4.cell? ⟨g, 0, none⟩ = some x) (hx : ∀ ma n c, Value.slice ma n c ≠ x) : ¬ g = rb := fun e => by
 subst e
 obtain ⟨ma, c, hv⟩ := h4.rd.row_sl
 have := h4.rd.c0.symm.trans p0
 rw [hv] at this
 exact hx _ _ _ (Option.some.inj this)
theorem Ex4.gb {w w4 : World} {rb eb : Nat} {v : Value} {T : List (Tk × Int)} {p d K : Int} (h4 : Ex4 w w4 rb eb v T p d K) (hT : Tb w) : ¬ GB eb := fun hg => by have h1 := hT.lt hg; have h2 := h4.lo; omega
theorem z5 {a0 a1 a2 a3 a4 : Value} {w : World} {k : Nat} (h : rowG #[a0, a1, a2, a3, a4] w k) : w.cell? ⟨k, 0, none⟩ = some a0 ∧ w.cell? ⟨k, 1, none⟩ = some a1 ∧ w.cell? ⟨k, 2, none⟩ = some a2 ∧ w.cell? ⟨k, 3, none⟩ = some a3 ∧ w.cell? ⟨k, 4, none⟩ = some a4 ∧ w.frozen? ⟨k, 0, none⟩ = false ∧ w.frozen? ⟨k, 1, none⟩ = false ∧ w.frozen? ⟨k, 2, none⟩ = false ∧ w.frozen? ⟨k, 3, none⟩ = false ∧ w.frozen? ⟨k, 4, none⟩ = false ∧ k < w.heap.size :=
 ⟨h.1 0 (by simp), h.1 1 (by simp), h.1 2 (by simp), h.1 3 (by simp), h.1 4 (by simp), h.2.1 0, h.2.1 1, h.2.1 2, h.2.1 3, h.2.1 4, h.2.2⟩
def ReadIH (D : Nat) : Prop := ∀ (w : World) (rb : Nat) (v : Value) (T : List (Tk × Int)) (p : Nat) (d : Int), d = 40 - (D : Int) → IsRd w rb v T (p : Int) d → Tb w → ¬ GB rb → Calls Tryz.prog 178 #[.pointer (some ⟨rb, 0, none⟩)] w (ExP w rb v T d (rdE D (bareZ T) p))
def RdP (w : World) (T : List (Tk × Int)) (R : Ro) (e : Ending) (w' : World) : Prop :=
 match R with
 | .er c q => e = .returned (.tuple #[zX, .int .i64 0, .iface 115 (.agg #[.int .i64 (placeZ T (q : Int)), .int .i64 (c : Int)])]) ∧ Below w.heap.size w w'
 | .ok x q => (∃ (k n : Int) (s : ByteArray) (o : Int) (mk : Option Addr) (m cap : Nat), e = .returned (.tuple #[vX k n s o mk m cap, .int .i64 (q : Int), .nilIface]) ∧ IsE (fun b => w.heap.size ≤ b ∧ b < w'.heap.size) w' (vX k n s o mk m cap) x) ∧ Below w.heap.size w w'
def VX (w w' : World) (u : Value) (x : Xp) : Prop := IsE (fun b => w.heap.size ≤ b ∧ b < w'.heap.size) w' u x
theorem os1 {b : Nat} {w w' : World} (h : Only (fun j => j = b) w w') (o : Nat) (x : Value) : Only (fun j => j = b) w (w'.setCell ⟨b, o, none⟩ x) := h.setCell (S := fun j => j = b) (b := b) rfl
theorem or1 (b : Nat) (w : World) : Only (fun j => j = b) w w := Only.refl _ w
theorem row_set {C : Array Value} {w : World} {k i : Nat} (hi : i < C.size) (u : Value) (h : rowG C w k) : rowG (C.set! i u) (w.setCell ⟨k, i, none⟩ u) k := by
 refine ⟨fun j hj => ?_, fun j => by rw [World.frozen?_setCell]; exact h.2.1 j, by rw [World.size_setCell]; exact h.2.2⟩
 have hj' : j < C.size := by simpa using hj
 by_cases e : j = i
 ·subst e
  rw [cset_same (u := C[j]) (by rw [h.1 j hj']; simp [hj'])]
  simp [hj']
 ·rw [World.cell?_setCell_other (h := by intro h; injection h with _ h2 _; exact e h2.symm), h.1 j hj']
  simp [Ne.symm e]
theorem bdd {w w1 : World} (h : Below w.heap.size w w1) : Below w.heap.size w w1.drew := bdN h 1
end
end Go.Proofs.YtkibkaoffgnmkaaGreatDoor
