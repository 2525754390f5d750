/- Contract of what each statement asks ahead of all else: the chapter's examples. -/
import Derived.Test.YtmccnoimnieldaaGreatDoorVm
namespace Go.Proofs.YtmccnoimnieldaaGreatDoor
open Go.ChangeShapes Go.WideShapes Go.ChangeAt Go.RowKit
set_option linter.unusedVariables false
theorem tr {w w1 w2 : World} (h : Below w.heap.size w w1) (h2 : Below w1.heap.size w1 w2) : Below w.heap.size w w2 := h.trans (h2.mono h.size)
theorem bwn {w w1 : World} (h : Below w.heap.size w w1) (n : Nat) : Below w.heap.size w (w1.drewN n) := bdN h n
def exA : Array Value := #[.int .u8 1, .string ⟨#[97, 49]⟩, .int .u64 0, .int .i64 0, .int .u8 4, .string ⟨#[60, 60]⟩, .int .u64 0, .int .i64 2, .int .u8 3, .string ⟨#[]⟩, .int .u64 2, .int .i64 4, .int .u8 4, .string ⟨#[59]⟩, .int .u64 0, .int .i64 5, .int .u8 5, .string ⟨#[]⟩, .int .u64 0, .int .i64 6]
theorem exRow (w : World) : RowAt (w.alloc (.cells exA 39)) (.slice (some ⟨w.heap.size, 0, none⟩) 5 5) exT := by
  refine ⟨w.heap.size, 0, 5, 5, rfl, rfl, by simp, fun i hi => ?_⟩
  have hi' : i < 5 := hi
  simp only [Nat.zero_add, new_cell]
  have hc : i = 0 ∨ i = 1 ∨ i = 2 ∨ i = 3 ∨ i = 4 := by omega
  rcases hc with rfl | rfl | rfl | rfl | rfl <;> exact ⟨rfl, rfl, rfl, rfl⟩
theorem exK : KOk exT := by
  intro x hx
  simp only [exT, List.mem_cons, List.not_mem_nil, or_false] at hx
  rcases hx with rfl | rfl | rfl | rfl | rfl <;> simp
set_option maxRecDepth 100000 in
set_option maxHeartbeats 4000000 in
theorem alive_yes (w : World) (hT : Tb w) : Calls Tryz.prog 4 #[] w fun e w' => e = .returned (.bool true) ∧ Below w.heap.size w w' := by
  have k1 : Calls Tryz.prog 5 #[.string ⟨#[97, 49, 60, 60, 50, 59]⟩] w fun e w' => (∃ v, e = .returned (.tuple #[v, .nilIface]) ∧ RowAt w' v exT) ∧ Below w.heap.size w w' :=
    (cut_ok ⟨#[97, 49, 60, 60, 50, 59]⟩ exT w hT ex1).mono fun e w' ⟨⟨v, he, hv⟩, hb⟩ => ⟨⟨v, he, hv.at (by simp [exT])⟩, hb⟩
  have k2 : ∀ w, Tb w → Calls Tryz.prog 5 #[.string ⟨#[48, 49]⟩] w fun e w' => e = .returned (.tuple #[.slice none 0 0, .iface 30 (.agg #[.int .i64 0, .int .i64 7])]) ∧ Below w.heap.size w w' := fun w hT => cut_er ⟨#[48, 49]⟩ 7 0 w hT ex2
  have k3 : ∀ w, Tb w → Calls Tryz.prog 5 #[.string ⟨#[97, 33]⟩] w fun e w' => e = .returned (.tuple #[.slice none 0 0, .iface 30 (.agg #[.int .i64 1, .int .i64 7])]) ∧ Below w.heap.size w w' := fun w hT => cut_er ⟨#[97, 33]⟩ 7 1 w hT ex3
  have kT := fun a w hT => told_er a 7 (by omega) w hT
  have kJ : ∀ v w, RowAt w v exT → Tb w → Calls Tryz.prog 11 #[v] w fun e w' => e = .returned (.string ⟨#[97, 49, 32, 60, 60, 32, 50, 32, 59]⟩) ∧ Below w.heap.size w w' := fun v w h hT => by
    have := join_any v exT w h (by simp [exT]) exK (by rw [exJ]; simp) hT
    rw [exJ] at this
    exact this
  have n1 : ∀ w, Tb w → Calls Tryz.prog 9 #[.string ⟨#[120, 95, 49]⟩] w fun e w' => e = .returned (.bool true) ∧ Below w.heap.size w w' := fun w hT => by
    have := nmd_any ⟨#[120, 95, 49]⟩ w hT
    rw [show nmdB (⟨#[120, 95, 49]⟩ : ByteArray).data.toList = true from exN1] at this
    exact this
  have n2 : ∀ w, Tb w → Calls Tryz.prog 9 #[.string ⟨#[108, 101, 116]⟩] w fun e w' => e = .returned (.bool false) ∧ Below w.heap.size w w' := fun w hT => by
    have := nmd_any ⟨#[108, 101, 116]⟩ w hT
    rw [show nmdB (⟨#[108, 101, 116]⟩ : ByteArray).data.toList = false from exN2] at this
    exact this
  have eR := exRow
  unfold exA at eR
  have ES := Lib.hid eR
  clear eR
  go_enter Tryz.func4, Tryz.ntmps4
  go_wp2_with (first | (go_at_call 5; ((with_reducible refine k1.mono ?_); (rintro e w1 ⟨⟨v, rfl, hr1⟩, hb1⟩); have hT1 := hT.of hb1)) | (go_at_call 5; ((with_reducible refine (k2 _ hT1).mono ?_); (rintro e w2 ⟨rfl, hb2⟩); have hT2 := hT1.of hb2; have hr2 := hr1.of hb2)) | (go_at_call 5; ((with_reducible refine (k3 _ hT2).mono ?_); (rintro e w3 ⟨rfl, hb3⟩); have hT3 := hT2.of hb3; have hr3 := hr2.of hb3)) | (go_at_call 7; ((with_reducible refine (same_yes _ _ exT _ (hr3.of ((Below.refl _ _).alloc (Nat.le_refl _) _)) (ES.out w3) (by simp [exT])).mono ?_); (rintro e w4 ⟨rfl, n, rfl⟩); have hb4 := bwn (aB (Below.refl w3.heap.size w3) (.cells #[.int .u8 1, .string ⟨#[97, 49]⟩, .int .u64 0, .int .i64 0, .int .u8 4, .string ⟨#[60, 60]⟩, .int .u64 0, .int .i64 2, .int .u8 3, .string ⟨#[]⟩, .int .u64 2, .int .i64 4, .int .u8 4, .string ⟨#[59]⟩, .int .u64 0, .int .i64 5, .int .u8 5, .string ⟨#[]⟩, .int .u64 0, .int .i64 6] 39)) n; have hT4 := hT3.of hb4; have hr4 := hr3.of hb4)) | (go_at_call 8; ((with_reducible refine (kT 0 _ hT4).mono ?_); (rintro e w5 ⟨rfl, hb5⟩); have hT5 := hT4.of hb5; have hr5 := hr4.of hb5)) | (go_at_call 8; ((with_reducible refine (kT 1 _ hT5).mono ?_); (rintro e w6 ⟨rfl, hb6⟩); have hT6 := hT5.of hb6; have hr6 := hr5.of hb6)) | (go_at_call 11; ((with_reducible refine (kJ _ _ hr6 hT6).mono ?_); (rintro e w7 ⟨rfl, hb7⟩); have hT7 := hT6.of hb7)) | (go_at_call 9; ((with_reducible refine (n1 _ hT7).mono ?_); (rintro e w8 ⟨rfl, hb8⟩); have hT8 := hT7.of hb8)) | (go_at_call 9; ((with_reducible refine (n2 _ hT8).mono ?_); (rintro e w9 ⟨rfl, hb9⟩))))
  go_ret
  exact ⟨rfl, tr (tr (tr (tr (tr (tr (tr (tr hb1 hb2) hb3) hb4) hb5) hb6) hb7) hb8) hb9⟩
end Go.Proofs.YtmccnoimnieldaaGreatDoor
