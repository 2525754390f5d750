/- Plain: which programs may be, by how many statements there are. -/
import Derived.Test.YtfbjljcmmbdhkaaGreatDoorD05
namespace Go.Proofs.YtfbjljcmmbdhkaaGreatDoor
set_option linter.unusedVariables false
set_option linter.unusedSimpArgs false
set_option maxRecDepth 100000
set_option maxHeartbeats 200000000
def rowS (one : St → Option Nat) : List St → Option Nat
 | [] => some 0
 | s :: r => (one s).bind fun a => (rowS one r).map fun b => a + b
def cntR : Nat → List St → Option Nat
 | 0, l => if l = [] then some 0 else none
 | d + 1, l => rowS (fun s => if zZm s = true then (cntR d s.bd).bind fun a => (cntR d s.el).map fun b => 1 + a + b else none) l
def oneR (d : Nat) (s : St) : Option Nat := if zZm s = true then (cntR d s.bd).bind fun a => (cntR d s.el).map fun b => 1 + a + b else none
theorem cntR_succ (d : Nat) (l : List St) : cntR (d + 1) l = rowS (oneR d) l := by unfold cntR; rfl
def yQu (k : Option Nat) (n : Nat) : Option Nat := k.bind fun k => if k ≤ n then some (n - k) else none
theorem xKc (a b : Option Nat) (n : Nat) : (yQu a n).bind (yQu b) = yQu (a.bind fun a => b.map fun b => a + b) n := by
 cases a with
 | none => rfl
 | some a =>
  cases b with
  | none => by_cases h : a ≤ n <;> simp [yQu, h]
  | some b =>
   simp only [yQu, Option.bind_some, Option.map_some]
   by_cases h : a ≤ n
   ·rw [if_pos h]
    simp only [Option.bind_some, yQu]
    by_cases h2 : b ≤ n - a
    ·rw [if_pos h2, if_pos (by omega)]; congr 1; omega
    ·rw [if_neg h2, if_neg (by omega)]
   ·rw [if_neg h, if_neg (by omega)]; rfl
theorem row_less {one : St → Nat → Option Nat} {two : St → Option Nat} (h : ∀ s n, one s n = yQu (two s) n) : ∀ (l : List St) (n : Nat), rowC one l n = yQu (rowS two l) n := by
 intro l
 induction l with
 | nil => intro n; simp [rowC, rowS, yQu]
 | cons s r ih =>
  intro n
  rw [rowC, rowS, h s n, ← xKc]
  congr 1
  funext m
  exact ih m
theorem blk_cnt : ∀ (d : Nat) (l : List St) (n : Nat), blkC d l n = yQu (cntR d l) n := by
 intro d
 induction d with
 | zero => intro l n; cases l <;> simp [blkC, cntR, yQu]
 | succ d ih =>
  intro l n
  rw [zJi, cntR_succ]
  refine row_less (fun s n => ?_) l n
  unfold oneC oneR
  cases hf : zZm s
  ·simp [yQu]
  ·have h1 : (blkC d s.bd (n - 1)).bind (blkC d s.el) = yQu ((cntR d s.bd).bind fun a => (cntR d s.el).map fun b => a + b) (n - 1) := by
    rw [← xKc, ih s.bd]
    congr 1
    funext m
    exact ih s.el m
   rw [if_pos rfl, h1]
   by_cases h0 : n = 0
   ·rw [if_pos (.inl h0), h0]
    cases cntR d s.bd with
    | none => rfl
    | some a => cases cntR d s.el with
      | none => rfl
      | some b => simp [yQu]
   ·rw [if_neg (by simp [h0])]
    cases cntR d s.bd with
    | none => rfl
    | some a => cases cntR d s.el with
      | none => rfl
      | some b =>
       simp only [yQu, Option.bind_some, Option.map_some]
       by_cases h2 : a + b ≤ n - 1
       ·rw [if_pos h2, if_pos (by omega)]; congr 1; omega
       ·rw [if_neg h2, if_neg (by omega)]
def fdB (f : Fd) : Bool := nmdB f.nm && psB f.ps && rtB f.sec f.rt
def fdS (f : Fd) : Option Nat := if fdB f = true then cntR 40 f.bd else none
def pgS : List Fd → Option Nat
 | [] => some 0
 | f :: r => (fdS f).bind fun a => (pgS r).map fun b => a + b
def mayP (l : List Fd) : Bool := decide (l.length ≤ 16) && match pgS l with
 | none => false
 | some n => decide (n ≤ 400)
end Go.Proofs.YtfbjljcmmbdhkaaGreatDoor
