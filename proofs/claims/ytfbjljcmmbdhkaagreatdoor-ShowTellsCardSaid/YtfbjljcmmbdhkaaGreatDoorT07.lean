/- Plain: which programs may be, by how many statements there are. -/
import Derived.Test.YtfbjljcmmbdhkaaGreatDoorT04
namespace Go.Proofs.YtfbjljcmmbdhkaaGreatDoor
set_option linter.unusedVariables false
set_option linter.unusedSimpArgs false
set_option maxRecDepth 100000
set_option maxHeartbeats 200000000
def rowS (one : St → Option Nat) : List St → Option Nat
 | [] => some 0
 | s :: r => (one s).bind fun a => (rowS one r).map fun b => a + b
def cntR : Nat → List St → Option Nat
 | 0, l => if l = [] then some 0 else none
 | d + 1, l => rowS (fun s => if fitsB s = true then (cntR d s.bd).bind fun a => (cntR d s.el).map fun b => 1 + a + b else none) l
def oneR (d : Nat) (s : St) : Option Nat := if fitsB s = true then (cntR d s.bd).bind fun a => (cntR d s.el).map fun b => 1 + a + b else none
theorem cntR_succ (d : Nat) (l : List St) : cntR (d + 1) l = rowS (oneR d) l := by unfold cntR; rfl
def lessO (k : Option Nat) (n : Nat) : Option Nat := k.bind fun k => if k ≤ n then some (n - k) else none
theorem less_add (a b : Option Nat) (n : Nat) : (lessO a n).bind (lessO b) = lessO (a.bind fun a => b.map fun b => a + b) n := by
 cases a with
 | none => rfl
 | some a =>
  cases b with
  | none => by_cases h : a ≤ n <;> simp [lessO, h]
  | some b =>
   simp only [lessO, Option.bind_some, Option.map_some]
   by_cases h : a ≤ n
   ·rw [if_pos h]
    simp only [Option.bind_some, lessO]
    by_cases h2 : b ≤ n - a
    ·rw [if_pos h2, if_pos (by omega)]; congr 1; omega
    ·rw [if_neg h2, if_neg (by omega)]
   ·rw [if_neg h, if_neg (by omega)]; rfl
theorem row_less {one : St → Nat → Option Nat} {two : St → Option Nat} (h : ∀ s n, one s n = lessO (two s) n) : ∀ (l : List St) (n : Nat), rowC one l n = lessO (rowS two l) n := by
 intro l
 induction l with
 | nil => intro n; simp [rowC, rowS, lessO]
 | cons s r ih =>
  intro n
  rw [rowC, rowS, h s n, ← less_add]
  congr 1
  funext m
  exact ih m
theorem blk_cnt : ∀ (d : Nat) (l : List St) (n : Nat), blkC d l n = lessO (cntR d l) n := by
 intro d
 induction d with
 | zero => intro l n; cases l <;> simp [blkC, cntR, lessO]
 | succ d ih =>
  intro l n
  rw [blkC_succ, cntR_succ]
  refine row_less (fun s n => ?_) l n
  unfold oneC oneR
  cases hf : fitsB s
  ·simp [lessO]
  ·have h1 : (blkC d s.bd (n - 1)).bind (blkC d s.el) = lessO ((cntR d s.bd).bind fun a => (cntR d s.el).map fun b => a + b) (n - 1) := by
    rw [← less_add, ih s.bd]
    congr 1
    funext m
    exact ih s.el m
   rw [if_pos rfl, h1]
   by_cases h0 : n = 0
   ·rw [if_pos (.inl h0), h0]
    cases cntR d s.bd with
    | none => rfl
    | some a => cases cntR d s.el with
      | none => rfl
      | some b => simp [lessO]
   ·rw [if_neg (by simp [h0])]
    cases cntR d s.bd with
    | none => rfl
    | some a => cases cntR d s.el with
      | none => rfl
      | some b =>
       simp only [lessO, Option.bind_some, Option.map_some]
       by_cases h2 : a + b ≤ n - 1
       ·rw [if_pos h2, if_pos (by omega)]; congr 1; omega
       ·rw [if_neg h2, if_neg (by omega)]
def fdB (f : Fd) : Bool := nmdB f.nm && psB f.ps && rtB f.sec f.rt
def fdS (f : Fd) : Option Nat := if fdB f = true then cntR 40 f.bd else none
def pgS : List Fd → Option Nat
 | [] => some 0
 | f :: r => (fdS f).bind fun a => (pgS r).map fun b => a + b
theorem pg_less : ∀ (l : List Fd) (n : Nat), pgC l n = lessO (pgS l) n := by
 intro l
 induction l with
 | nil => intro n; simp [pgC, pgS, lessO]
 | cons f r ih =>
  intro n
  have h1 : fdC f n = lessO (fdS f) n := by
   unfold fdC fdS fdB
   cases h : (nmdB f.nm && psB f.ps && rtB f.sec f.rt)
   ·rfl
   ·rw [if_pos rfl, if_pos rfl, blk_cnt]
  rw [pgC, pgS, h1, ← less_add]
  congr 1
  funext m
  exact ih m
def mayP (l : List Fd) : Bool := decide (l.length ≤ 16) && match pgS l with
 | none => false
 | some n => decide (n ≤ 400)
theorem pg_may (l : List Fd) : pgB l = mayP l := by
 unfold pgB mayP
 rw [pg_less]
 congr 1
 cases pgS l with
 | none => rfl
 | some k =>
  simp only [lessO, Option.bind_some]
  by_cases h : k ≤ 400
  ·rw [if_pos h]; simp [h]
  ·rw [if_neg h]; simp [h]
theorem rowS_app (one : St → Option Nat) : ∀ (a b : List St), rowS one (a ++ b) = (rowS one a).bind fun x => (rowS one b).map fun y => x + y := by
 intro a
 induction a with
 | nil => intro b; cases h : rowS one b <;> simp [rowS, h]
 | cons s r ih =>
  intro b
  rw [List.cons_append, rowS, rowS, ih]
  cases one s with
  | none => rfl
  | some x => cases rowS one r with
    | none => rfl
    | some y => cases rowS one b with
      | none => rfl
      | some z => simp; omega
theorem pgS_app : ∀ (a b : List Fd), pgS (a ++ b) = (pgS a).bind fun x => (pgS b).map fun y => x + y := by
 intro a
 induction a with
 | nil => intro b; cases h : pgS b <;> simp [pgS, h]
 | cons s r ih =>
  intro b
  rw [List.cons_append, pgS, pgS, ih]
  cases fdS s with
  | none => rfl
  | some x => cases pgS r with
    | none => rfl
    | some y => cases pgS b with
      | none => rfl
      | some z => simp; omega
theorem rowS_take (one : St → Option Nat) {l : List St} {k : Nat} (hk : k < l.length) {n : Nat} (h : rowS one (l.take k) = some n) : rowS one (l.take (k + 1)) = (one l[k]).map fun a => n + a := by
 rw [List.take_succ_eq_append_getElem hk, rowS_app, h]
 simp only [rowS, Option.bind_some]
 cases one l[k] <;> simp
theorem rowS_none (one : St → Option Nat) {l : List St} {k : Nat} (hk : k < l.length) (h : one l[k] = none) : rowS one l = none := by
 have e : l = l.take k ++ (l[k] :: l.drop (k + 1)) := by rw [← List.drop_eq_getElem_cons hk, List.take_append_drop]
 rw [e, rowS_app, rowS, h]
 cases rowS one (l.take k) <;> rfl
theorem pgS_take {l : List Fd} {k : Nat} (hk : k < l.length) {n : Nat} (h : pgS (l.take k) = some n) : pgS (l.take (k + 1)) = (fdS l[k]).map fun a => n + a := by
 rw [List.take_succ_eq_append_getElem hk, pgS_app, h]
 simp only [pgS, Option.bind_some]
 cases fdS l[k] <;> simp
theorem pgS_none {l : List Fd} {k : Nat} (hk : k < l.length) (h : fdS l[k] = none) : pgS l = none := by
 have e : l = l.take k ++ (l[k] :: l.drop (k + 1)) := by rw [← List.drop_eq_getElem_cons hk, List.take_append_drop]
 rw [e, pgS_app, pgS, h]
 cases pgS (l.take k) <;> rfl
end Go.Proofs.YtfbjljcmmbdhkaaGreatDoor
