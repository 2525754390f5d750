/- Contract of the document's form of a statement. -/
import Derived.Test.YtfbjljcmmbdhkaaGreatDoorT37
import Derived.Test.YtfbjljcmmbdhkaaGreatDoorT32
import Derived.Test.YtfbjljcmmbdhkaaGreatDoorT39
import Derived.Deep.CutRange
namespace Go.Proofs.YtfbjljcmmbdhkaaGreatDoor
set_option linter.unusedVariables false
set_option linter.unusedSimpArgs false
set_option maxRecDepth 100000
set_option maxHeartbeats 200000000
open Go.ChangeShapes Go.WideShapes Go.ChangeAt Go.RowKit
def badB (D : Int × Bool × Bool × Bool × Bool × Bool × Bool × Bool) (fr : List UInt8) (sec mu : Bool) (nb nl : Nat) : Bool := !D.2.2.2.2.2.2.2 || (sec && !D.2.2.2.1) || (mu && !D.2.2.2.2.1) || (decide (0 < nb) && !D.2.2.2.2.2.1) || (decide (0 < nl) && !D.2.2.2.2.2.2.1) || !(namedB fr D.2.2.1)
def formB (k : Nat) (nm fr : List UInt8) (sec mu : Bool) (P R : Bool) (nx na nb nl : Nat) : Bool :=
 if badB (ndsD k) fr sec mu nb nl = true then false
 else if k = 11 then (decide (nm = []) || nmdB nm) && (P && decide (nx ≤ 8) && (R && decide (na ≤ 8)))
 else namedB nm (ndsD k).2.1 && (decide (na = 0) && (P && ((nx : Int) == (ndsD k).1)))
theorem nmd_nil : nmdB [] = false := by decide +kernel
theorem met2 (s : List UInt8) : metA 2 s = nmdB s := by
 unfold metA
 by_cases h : s = []
 ·subst h; rw [nmd_nil]; rfl
 ·rw [if_neg h]; simp
theorem met0 (s : List UInt8) : metA 0 s = decide (s = []) := by
 unfold metA
 by_cases h : s = []
 ·rw [if_pos h]; simp [h]
 ·rw [if_neg h]; simp [h]
theorem met1 (s : List UInt8) : metA 1 s = (decide (s = []) || nmdB s) := by
 unfold metA
 by_cases h : s = []
 ·rw [if_pos h]; simp [h]
 ·rw [if_neg h]; simp [h]
theorem named_t (s : List UInt8) : namedB s true = nmdB s := rfl
theorem named_f (s : List UInt8) : namedB s false = decide (s = []) := rfl
theorem eq_one (n : Nat) (b : Bool) : (decide ((1 : Int) ≤ (n : Int)) && (decide ((n : Int) ≤ 1) && b)) = (decide (n = 1) && b) := by rw [← Bool.and_assoc, ← Bool.decide_and]; congr 1; exact decide_eq_decide.2 (by omega)
theorem eq_two (n : Nat) (b : Bool) : (decide ((2 : Int) ≤ (n : Int)) && (decide ((n : Int) ≤ 2) && b)) = (decide (n = 2) && b) := by rw [← Bool.and_assoc, ← Bool.decide_and]; congr 1; exact decide_eq_decide.2 (by omega)
theorem le_zer (n : Nat) : decide ((n : Int) ≤ 0) = decide (n = 0) := decide_eq_decide.2 (by omega)
theorem le_eig (n : Nat) : decide ((n : Int) ≤ 8) = decide (n ≤ 8) := decide_eq_decide.2 (by omega)
theorem ge_zer (n : Nat) : decide ((0 : Int) ≤ (n : Int)) = true := decide_eq_true (by omega)
theorem beq_nat (n m : Nat) : (((n : Int)) == ((m : Nat) : Int)) = decide (n = m) := by
 by_cases h : n = m
 ·subst h; simp
 ·rw [decide_eq_false h]; simp only [beq_eq_false_iff_ne]; omega
theorem pos_not (n : Nat) : decide (0 < n) = !decide (n = 0) := by
 cases n with
 | zero => rfl
 | succ n => simp
theorem form_fits (k : Nat) (nm fr : List UInt8) (sec mu : Bool) (ex : List Xp) (ar : List (List UInt8)) (bd el : List St) :
 formB k nm fr sec mu (ex.all (mayB 40)) (ar.all nmdB) ex.length ar.length bd.length el.length = fitsB (.mk k nm fr sec mu ex ar bd el) := by
 have e : fitsB (.mk k nm fr sec mu ex ar bd el) = (decide (k ≠ 0) && decide (k < 13) && metB (nds k) nm fr sec mu ex.length ar.length bd.length el.length && ar.all nmdB && ex.all (mayB 40)) := rfl
 rw [e]
 have hR : decide (ar.length = 0) = true → ar.all nmdB = true := fun h => by
  have := List.length_eq_zero_iff.1 (of_decide_eq_true h)
  rw [this]; rfl
 have hE : decide (nm = []) = true → nmdB nm = false := fun h => by rw [of_decide_eq_true h]; exact nmd_nil
 unfold formB
 by_cases h13 : 13 ≤ k
 ·rw [ndsD_big k h13, decide_eq_false (show ¬ k < 13 by omega)]
  simp [badB]
 have hc : k = 0 ∨ k = 1 ∨ k = 2 ∨ k = 3 ∨ k = 4 ∨ k = 5 ∨ k = 6 ∨ k = 7 ∨ k = 8 ∨ k = 9 ∨ k = 10 ∨ k = 11 ∨ k = 12 := by omega
 have n0 : ((ex.length : Int) == 0) = decide (ex.length = 0) := beq_nat ex.length 0
 have n1 : ((ex.length : Int) == 1) = decide (ex.length = 1) := beq_nat ex.length 1
 have n2 : ((ex.length : Int) == 2) = decide (ex.length = 2) := beq_nat ex.length 2
 rcases hc with rfl | rfl | rfl | rfl | rfl | rfl | rfl | rfl | rfl | rfl | rfl | rfl | rfl
 all_goals
  simp only [badB, ndsD, nds, kindsN, List.getD_cons_zero, List.getD_cons_succ, metB, met2, met1, met0, named_t, named_f, eq_one, eq_two, le_zer, le_eig, ge_zer, pos_not, n0, n1, n2, Bool.and_assoc]
  clear n0 n1 n2
  generalize nmdB nm = a1 at *
  generalize decide (nm = []) = a2 at *
  generalize nmdB fr = a3 at *
  generalize decide (fr = []) = a4 at *
  generalize ex.all (mayB 40) = a5 at *
  generalize ar.all nmdB = a6 at *
  generalize decide (ar.length = 0) = b1 at *
  generalize decide (bd.length = 0) = b2 at *
  generalize decide (el.length = 0) = b3 at *
  clear e h13
  revert hR hE
  cases b1 <;> cases a2 <;> cases sec <;> cases mu <;> cases b2 <;> cases b3 <;> cases a6 <;> cases a5 <;> cases a3 <;> cases a1 <;> simp
end Go.Proofs.YtfbjljcmmbdhkaaGreatDoor
