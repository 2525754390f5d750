/- Contracts of the reader's expression, kind by kind. -/
import Derived.Test.YtfbjljcmmbdhkaaGreatDoorT11
import Derived.LoopN
namespace Go.Proofs.YtfbjljcmmbdhkaaGreatDoor
set_option linter.unusedVariables false
set_option linter.unusedSimpArgs false
set_option maxRecDepth 100000
set_option maxHeartbeats 200000000
open Go.ChangeShapes Go.WideShapes Go.ChangeAt Go.RowKit
structure Ex4 (w w4 : World) (rb eb : Nat) (v : Value) (T : List (Tk × Int)) (p d : Int) (K : Int) : Prop where
 rd : IsRd w4 rb v T p d
 bx : Bx w4 eb rb (ob v T) (.int .u8 K) (.int .u64 0) (.string ⟨#[]⟩) (.int .u8 0) (.slice none 0 0)
 res : rowG #[.int .u8 0, .int .u64 0, .string ⟨#[]⟩, .int .u8 0, .slice none 0 0] w4 w.heap.size
 tb : Tb w4
 only : Only (fun j => j = rb) w w4
 lo : w.heap.size < eb
theorem Ex4.ne {w w4 : World} {rb eb : Nat} {v : Value} {T : List (Tk × Int)} {p d K : Int} (h4 : Ex4 w w4 rb eb v T p d K) {b : Nat} {x : Value} (hb : w4.cell? ⟨b, 0, none⟩ = some x) (hx : Value.int .u8 K ≠ x) : ¬ b = eb := fun e => by
 have h1 := h4.bx.row.1 0 (by simp)
 rw [← e] at h1
 exact hx (Option.some.inj (h1.symm.trans hb))
theorem Ex4.ng {w w4 : World} {rb eb : Nat} {v : Value} {T : List (Tk × Int)} {p d K : Int} (h4 : Ex4 w w4 rb eb v T p d K) {g : Nat} {x : Value} (p0 : w4.cell? ⟨g, 0, none⟩ = some x) (hx : ∀ ma n c, Value.slice ma n c ≠ x) : ¬ g = rb := fun e => by
 subst e
 obtain ⟨ma, c, hv⟩ := h4.rd.row_sl
 have := h4.rd.c0.symm.trans p0
 rw [hv] at this
 exact hx _ _ _ (Option.some.inj this)
theorem Ex4.gb {w w4 : World} {rb eb : Nat} {v : Value} {T : List (Tk × Int)} {p d K : Int} (h4 : Ex4 w w4 rb eb v T p d K) (hT : Tb w) : ¬ GB eb := fun hg => by have h1 := hT.lt hg; have h2 := h4.lo; omega
theorem z5 {a0 a1 a2 a3 a4 : Value} {w : World} {k : Nat} (h : rowG #[a0, a1, a2, a3, a4] w k) : w.cell? ⟨k, 0, none⟩ = some a0 ∧ w.cell? ⟨k, 1, none⟩ = some a1 ∧ w.cell? ⟨k, 2, none⟩ = some a2 ∧ w.cell? ⟨k, 3, none⟩ = some a3 ∧ w.cell? ⟨k, 4, none⟩ = some a4 ∧ w.frozen? ⟨k, 0, none⟩ = false ∧ w.frozen? ⟨k, 1, none⟩ = false ∧ w.frozen? ⟨k, 2, none⟩ = false ∧ w.frozen? ⟨k, 3, none⟩ = false ∧ w.frozen? ⟨k, 4, none⟩ = false ∧ k < w.heap.size :=
 ⟨h.1 0 (by simp), h.1 1 (by simp), h.1 2 (by simp), h.1 3 (by simp), h.1 4 (by simp), h.2.1 0, h.2.1 1, h.2.1 2, h.2.1 3, h.2.1 4, h.2.2⟩
end Go.Proofs.YtfbjljcmmbdhkaaGreatDoor
