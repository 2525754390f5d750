/- Contracts of the reader: parts, number, name, op. -/
import Derived.Test.YtnblnmehfhkfmaaGreatDoorEh
namespace Go.Proofs.YtnblnmehfhkfmaaGreatDoor
open Go.ChangeShapes Go.WideShapes Go.ChangeAt Go.RowKit
set_option linter.unusedVariables false
/-- A part that is a sign. -/
def SgF (w : World) (rb : Nat) (s : List UInt8) (f : Value) : Prop := ∃ br bs, f = .func (.func 74) #[] #[.pointer (some ⟨br, 0, none⟩), .pointer (some ⟨bs, 0, none⟩)] ∧ w.cell? ⟨br, 0, none⟩ = some (.pointer (some ⟨rb, 0, none⟩)) ∧ w.cell? ⟨bs, 0, none⟩ = some (.string (str s))
theorem SgF.of {w w' : World} {rb : Nat} {s : List UInt8} {f : Value} (h : SgF w rb s f) (hb : Below w.heap.size w w') : SgF w' rb s f := by
  obtain ⟨br, bs, rfl, h1, h2⟩ := h
  exact ⟨br, bs, rfl, stay hb h1, stay hb h2⟩
theorem sign_part (rb : Nat) (s : List UInt8) (w : World) : Calls Tryz.prog 59 #[.pointer (some ⟨rb, 0, none⟩), .string (str s)] w fun e w' => (∃ f, e = .returned f ∧ SgF w' rb s f) ∧ Below w.heap.size w w' := by
  go_enter Tryz.func59, Tryz.ntmps59
  go_wp2
  go_ret
  have hn := new_cell (w.alloc (.cells #[.pointer (some ⟨rb, 0, none⟩)] 69)) #[.string (str s)] 9 0
  rw [World.size_alloc] at hn
  refine ⟨⟨_, rfl, w.heap.size, w.heap.size + 1, rfl, ?_, hn⟩, aB (aB (Below.refl _ _) _) _⟩
  exact (World.cell?_alloc_lt _ _ ⟨w.heap.size, 0, none⟩ (by simp)).trans (new_cell w _ _ 0)
abbrev bnd (f rb : Nat) : Value := .func (.func f) #[.pointer (some ⟨rb, 0, none⟩)] #[]

set_option maxRecDepth 100000 in
theorem parts_num (rb : Nat) (w : World) : Calls Tryz.prog 39 #[.pointer (some ⟨rb, 0, none⟩), .int .u8 1] w fun e w' => (∃ g, e = .returned (.slice (some ⟨g, 0, none⟩) 1 1) ∧ g < w'.heap.size ∧ (w'.cell? ⟨g, 0, none⟩ = some (bnd 58 rb))) ∧ Below w.heap.size w w' := by
  go_enter Tryz.func39, Tryz.ntmps39
  go_wp2
  go_ret
  have hn := new_cell w #[bnd 58 rb] 74
  exact ⟨⟨_, rfl, by simp, hn 0⟩, aB (Below.refl _ _) _⟩
set_option maxRecDepth 100000 in
theorem parts_var (rb : Nat) (w : World) : Calls Tryz.prog 39 #[.pointer (some ⟨rb, 0, none⟩), .int .u8 2] w fun e w' => (∃ g, e = .returned (.slice (some ⟨g, 0, none⟩) 1 1) ∧ g < w'.heap.size ∧ (w'.cell? ⟨g, 0, none⟩ = some (bnd 60 rb))) ∧ Below w.heap.size w w' := by
  go_enter Tryz.func39, Tryz.ntmps39
  go_wp2
  go_ret
  have hn := new_cell w #[bnd 60 rb] 74
  exact ⟨⟨_, rfl, by simp, hn 0⟩, aB (Below.refl _ _) _⟩
set_option maxRecDepth 100000 in
theorem parts_len (rb : Nat) (w : World) : Calls Tryz.prog 39 #[.pointer (some ⟨rb, 0, none⟩), .int .u8 4] w fun e w' => (∃ g, e = .returned (.slice (some ⟨g, 0, none⟩) 2 2) ∧ g < w'.heap.size ∧ (∃ f, w'.cell? ⟨g, 0, none⟩ = some f ∧ SgF w' rb [35] f) ∧ (w'.cell? ⟨g, 1, none⟩ = some (bnd 60 rb))) ∧ Below w.heap.size w w' := by
  have hS0 : ∀ w, Calls Tryz.prog 59 #[.pointer (some ⟨rb, 0, none⟩), .string ⟨#[35]⟩] w fun e w' => (∃ f, e = .returned f ∧ SgF w' rb [35] f) ∧ Below w.heap.size w w' := sign_part rb [35]
  go_enter Tryz.func39, Tryz.ntmps39
  go_wp2_with (first | (go_at_call 59; ((with_reducible refine (hS0 _).mono ?_); (rintro e v0 ⟨⟨f0, rfl, br0, bs0, rfl, hr0, hs0⟩, hb0⟩); have hf0 : SgF v0 rb [35] _ := ⟨br0, bs0, rfl, hr0, hs0⟩)))
  go_ret
  have hn := new_cell v0 #[.func (.func 74) #[] #[.pointer (some ⟨br0, 0, none⟩), .pointer (some ⟨bs0, 0, none⟩)], bnd 60 rb] 74
  exact ⟨⟨_, rfl, by simp, ⟨_, hn 0, SgF.of hf0 (aB (Below.refl _ _) _)⟩, hn 1⟩, aB hb0 _⟩
set_option maxRecDepth 100000 in
theorem parts_byte (rb : Nat) (w : World) : Calls Tryz.prog 39 #[.pointer (some ⟨rb, 0, none⟩), .int .u8 5] w fun e w' => (∃ g, e = .returned (.slice (some ⟨g, 0, none⟩) 4 4) ∧ g < w'.heap.size ∧ (w'.cell? ⟨g, 0, none⟩ = some (bnd 60 rb)) ∧ (∃ f, w'.cell? ⟨g, 1, none⟩ = some f ∧ SgF w' rb [91] f) ∧ (w'.cell? ⟨g, 2, none⟩ = some (bnd 61 rb)) ∧ (∃ f, w'.cell? ⟨g, 3, none⟩ = some f ∧ SgF w' rb [93] f)) ∧ Below w.heap.size w w' := by
  have hS0 : ∀ w, Calls Tryz.prog 59 #[.pointer (some ⟨rb, 0, none⟩), .string ⟨#[91]⟩] w fun e w' => (∃ f, e = .returned f ∧ SgF w' rb [91] f) ∧ Below w.heap.size w w' := sign_part rb [91]
  have hS1 : ∀ w, Calls Tryz.prog 59 #[.pointer (some ⟨rb, 0, none⟩), .string ⟨#[93]⟩] w fun e w' => (∃ f, e = .returned f ∧ SgF w' rb [93] f) ∧ Below w.heap.size w w' := sign_part rb [93]
  go_enter Tryz.func39, Tryz.ntmps39
  go_wp2_with (first | (go_at_call 59; ((with_reducible refine (hS0 _).mono ?_); (rintro e v0 ⟨⟨f0, rfl, br0, bs0, rfl, hr0, hs0⟩, hb0⟩); have hf0 : SgF v0 rb [91] _ := ⟨br0, bs0, rfl, hr0, hs0⟩)) | (go_at_call 59; ((with_reducible refine (hS1 _).mono ?_); (rintro e v1 ⟨⟨f1, rfl, br1, bs1, rfl, hr1, hs1⟩, hb1⟩); have hf1 : SgF v1 rb [93] _ := ⟨br1, bs1, rfl, hr1, hs1⟩)))
  go_ret
  have hn := new_cell v1 #[bnd 60 rb, .func (.func 74) #[] #[.pointer (some ⟨br0, 0, none⟩), .pointer (some ⟨bs0, 0, none⟩)], bnd 61 rb, .func (.func 74) #[] #[.pointer (some ⟨br1, 0, none⟩), .pointer (some ⟨bs1, 0, none⟩)]] 74
  exact ⟨⟨_, rfl, by simp, hn 0, ⟨_, hn 1, SgF.of (SgF.of hf0 hb1) (aB (Below.refl _ _) _)⟩, hn 2, ⟨_, hn 3, SgF.of hf1 (aB (Below.refl _ _) _)⟩⟩, aB (tr hb0 hb1) _⟩
set_option maxRecDepth 100000 in
theorem parts_bin (rb : Nat) (w : World) : Calls Tryz.prog 39 #[.pointer (some ⟨rb, 0, none⟩), .int .u8 3] w fun e w' => (∃ g, e = .returned (.slice (some ⟨g, 0, none⟩) 5 5) ∧ g < w'.heap.size ∧ (∃ f, w'.cell? ⟨g, 0, none⟩ = some f ∧ SgF w' rb [40] f) ∧ (w'.cell? ⟨g, 1, none⟩ = some (bnd 61 rb)) ∧ (w'.cell? ⟨g, 2, none⟩ = some (bnd 62 rb)) ∧ (w'.cell? ⟨g, 3, none⟩ = some (bnd 61 rb)) ∧ (∃ f, w'.cell? ⟨g, 4, none⟩ = some f ∧ SgF w' rb [41] f)) ∧ Below w.heap.size w w' := by
  have hS0 : ∀ w, Calls Tryz.prog 59 #[.pointer (some ⟨rb, 0, none⟩), .string ⟨#[40]⟩] w fun e w' => (∃ f, e = .returned f ∧ SgF w' rb [40] f) ∧ Below w.heap.size w w' := sign_part rb [40]
  have hS1 : ∀ w, Calls Tryz.prog 59 #[.pointer (some ⟨rb, 0, none⟩), .string ⟨#[41]⟩] w fun e w' => (∃ f, e = .returned f ∧ SgF w' rb [41] f) ∧ Below w.heap.size w w' := sign_part rb [41]
  go_enter Tryz.func39, Tryz.ntmps39
  go_wp2_with (first | (go_at_call 59; ((with_reducible refine (hS0 _).mono ?_); (rintro e v0 ⟨⟨f0, rfl, br0, bs0, rfl, hr0, hs0⟩, hb0⟩); have hf0 : SgF v0 rb [40] _ := ⟨br0, bs0, rfl, hr0, hs0⟩)) | (go_at_call 59; ((with_reducible refine (hS1 _).mono ?_); (rintro e v1 ⟨⟨f1, rfl, br1, bs1, rfl, hr1, hs1⟩, hb1⟩); have hf1 : SgF v1 rb [41] _ := ⟨br1, bs1, rfl, hr1, hs1⟩)))
  go_ret
  have hn := new_cell v1 #[.func (.func 74) #[] #[.pointer (some ⟨br0, 0, none⟩), .pointer (some ⟨bs0, 0, none⟩)], bnd 61 rb, bnd 62 rb, bnd 61 rb, .func (.func 74) #[] #[.pointer (some ⟨br1, 0, none⟩), .pointer (some ⟨bs1, 0, none⟩)]] 74
  exact ⟨⟨_, rfl, by simp, ⟨_, hn 0, SgF.of (SgF.of hf0 hb1) (aB (Below.refl _ _) _)⟩, hn 1, hn 2, hn 3, ⟨_, hn 4, SgF.of hf1 (aB (Below.refl _ _) _)⟩⟩, aB (tr hb0 hb1) _⟩
end Go.Proofs.YtnblnmehfhkfmaaGreatDoor
