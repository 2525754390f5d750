/- Contract of the document's own answer name of layer 3: the name of each Op. -/
import Derived.Test.YtjkagpmepokihaaDoorTxt
namespace Go.Proofs.YtjkagpmepokihaaDoor
open Go.ChangeShapes Go.WideShapes Go.ChangeAt Go.RowKit
set_option linter.unusedVariables false
set_option maxRecDepth 100000 in
theorem rnam_1 (w : World) : Calls Tryd.prog 24 #[.int .u8 1] w fun e w' => e = .returned (.string (str (nameB 1))) ∧ Below w.heap.size w w' := by
  go_enter Tryd.func24, Tryd.ntmps24
  go_wp2
  go_ret
  exact ⟨rfl, (Below.refl _ _).alloc (Nat.le_refl _) _⟩
set_option maxRecDepth 100000 in
theorem rnam_2 (w : World) : Calls Tryd.prog 24 #[.int .u8 2] w fun e w' => e = .returned (.string (str (nameB 2))) ∧ Below w.heap.size w w' := by
  go_enter Tryd.func24, Tryd.ntmps24
  go_wp2
  go_ret
  exact ⟨rfl, (Below.refl _ _).alloc (Nat.le_refl _) _⟩
set_option maxRecDepth 100000 in
theorem rnam_3 (w : World) : Calls Tryd.prog 24 #[.int .u8 3] w fun e w' => e = .returned (.string (str (nameB 3))) ∧ Below w.heap.size w w' := by
  go_enter Tryd.func24, Tryd.ntmps24
  go_wp2
  go_ret
  exact ⟨rfl, (Below.refl _ _).alloc (Nat.le_refl _) _⟩
set_option maxRecDepth 100000 in
theorem rnam_4 (w : World) : Calls Tryd.prog 24 #[.int .u8 4] w fun e w' => e = .returned (.string (str (nameB 4))) ∧ Below w.heap.size w w' := by
  go_enter Tryd.func24, Tryd.ntmps24
  go_wp2
  go_ret
  exact ⟨rfl, (Below.refl _ _).alloc (Nat.le_refl _) _⟩
set_option maxRecDepth 100000 in
theorem rnam_5 (w : World) : Calls Tryd.prog 24 #[.int .u8 5] w fun e w' => e = .returned (.string (str (nameB 5))) ∧ Below w.heap.size w w' := by
  go_enter Tryd.func24, Tryd.ntmps24
  go_wp2
  go_ret
  exact ⟨rfl, (Below.refl _ _).alloc (Nat.le_refl _) _⟩
set_option maxRecDepth 100000 in
theorem rnam_6 (w : World) : Calls Tryd.prog 24 #[.int .u8 6] w fun e w' => e = .returned (.string (str (nameB 6))) ∧ Below w.heap.size w w' := by
  go_enter Tryd.func24, Tryd.ntmps24
  go_wp2
  go_ret
  exact ⟨rfl, (Below.refl _ _).alloc (Nat.le_refl _) _⟩
set_option maxRecDepth 100000 in
theorem rnam_7 (w : World) : Calls Tryd.prog 24 #[.int .u8 7] w fun e w' => e = .returned (.string (str (nameB 7))) ∧ Below w.heap.size w w' := by
  go_enter Tryd.func24, Tryd.ntmps24
  go_wp2
  go_ret
  exact ⟨rfl, (Below.refl _ _).alloc (Nat.le_refl _) _⟩
set_option maxRecDepth 100000 in
theorem rnam_8 (w : World) : Calls Tryd.prog 24 #[.int .u8 8] w fun e w' => e = .returned (.string (str (nameB 8))) ∧ Below w.heap.size w w' := by
  go_enter Tryd.func24, Tryd.ntmps24
  go_wp2
  go_ret
  exact ⟨rfl, (Below.refl _ _).alloc (Nat.le_refl _) _⟩
set_option maxRecDepth 100000 in
theorem rnam_9 (w : World) : Calls Tryd.prog 24 #[.int .u8 9] w fun e w' => e = .returned (.string (str (nameB 9))) ∧ Below w.heap.size w w' := by
  go_enter Tryd.func24, Tryd.ntmps24
  go_wp2
  go_ret
  exact ⟨rfl, (Below.refl _ _).alloc (Nat.le_refl _) _⟩
set_option maxRecDepth 100000 in
theorem rnam_10 (w : World) : Calls Tryd.prog 24 #[.int .u8 10] w fun e w' => e = .returned (.string (str (nameB 10))) ∧ Below w.heap.size w w' := by
  go_enter Tryd.func24, Tryd.ntmps24
  go_wp2
  go_ret
  exact ⟨rfl, (Below.refl _ _).alloc (Nat.le_refl _) _⟩
set_option maxRecDepth 100000 in
theorem rnam_11 (w : World) : Calls Tryd.prog 24 #[.int .u8 11] w fun e w' => e = .returned (.string (str (nameB 11))) ∧ Below w.heap.size w w' := by
  go_enter Tryd.func24, Tryd.ntmps24
  go_wp2
  go_ret
  exact ⟨rfl, (Below.refl _ _).alloc (Nat.le_refl _) _⟩
set_option maxRecDepth 100000 in
theorem rnam_12 (w : World) : Calls Tryd.prog 24 #[.int .u8 12] w fun e w' => e = .returned (.string (str (nameB 12))) ∧ Below w.heap.size w w' := by
  go_enter Tryd.func24, Tryd.ntmps24
  go_wp2
  go_ret
  exact ⟨rfl, (Below.refl _ _).alloc (Nat.le_refl _) _⟩
set_option maxRecDepth 100000 in
theorem rnam_13 (w : World) : Calls Tryd.prog 24 #[.int .u8 13] w fun e w' => e = .returned (.string (str (nameB 13))) ∧ Below w.heap.size w w' := by
  go_enter Tryd.func24, Tryd.ntmps24
  go_wp2
  go_ret
  exact ⟨rfl, (Below.refl _ _).alloc (Nat.le_refl _) _⟩
set_option maxRecDepth 100000 in
theorem rnam_14 (w : World) : Calls Tryd.prog 24 #[.int .u8 14] w fun e w' => e = .returned (.string (str (nameB 14))) ∧ Below w.heap.size w w' := by
  go_enter Tryd.func24, Tryd.ntmps24
  go_wp2
  go_ret
  exact ⟨rfl, (Below.refl _ _).alloc (Nat.le_refl _) _⟩
set_option maxRecDepth 100000 in
theorem rnam_15 (w : World) : Calls Tryd.prog 24 #[.int .u8 15] w fun e w' => e = .returned (.string (str (nameB 15))) ∧ Below w.heap.size w w' := by
  go_enter Tryd.func24, Tryd.ntmps24
  go_wp2
  go_ret
  exact ⟨rfl, (Below.refl _ _).alloc (Nat.le_refl _) _⟩
set_option maxRecDepth 100000 in
theorem rnam_16 (w : World) : Calls Tryd.prog 24 #[.int .u8 16] w fun e w' => e = .returned (.string (str (nameB 16))) ∧ Below w.heap.size w w' := by
  go_enter Tryd.func24, Tryd.ntmps24
  go_wp2
  go_ret
  exact ⟨rfl, (Below.refl _ _).alloc (Nat.le_refl _) _⟩
set_option maxRecDepth 100000 in
theorem rnam_17 (w : World) : Calls Tryd.prog 24 #[.int .u8 17] w fun e w' => e = .returned (.string (str (nameB 17))) ∧ Below w.heap.size w w' := by
  go_enter Tryd.func24, Tryd.ntmps24
  go_wp2
  go_ret
  exact ⟨rfl, (Below.refl _ _).alloc (Nat.le_refl _) _⟩
set_option maxRecDepth 100000 in
theorem rnam_18 (w : World) : Calls Tryd.prog 24 #[.int .u8 18] w fun e w' => e = .returned (.string (str (nameB 18))) ∧ Below w.heap.size w w' := by
  go_enter Tryd.func24, Tryd.ntmps24
  go_wp2
  go_ret
  exact ⟨rfl, (Below.refl _ _).alloc (Nat.le_refl _) _⟩
set_option maxRecDepth 100000 in
theorem rnam_19 (w : World) : Calls Tryd.prog 24 #[.int .u8 19] w fun e w' => e = .returned (.string (str (nameB 19))) ∧ Below w.heap.size w w' := by
  go_enter Tryd.func24, Tryd.ntmps24
  go_wp2
  go_ret
  exact ⟨rfl, (Below.refl _ _).alloc (Nat.le_refl _) _⟩
set_option maxRecDepth 100000 in
theorem rnam_20 (w : World) : Calls Tryd.prog 24 #[.int .u8 20] w fun e w' => e = .returned (.string (str (nameB 20))) ∧ Below w.heap.size w w' := by
  go_enter Tryd.func24, Tryd.ntmps24
  go_wp2
  go_ret
  exact ⟨rfl, (Below.refl _ _).alloc (Nat.le_refl _) _⟩
set_option maxRecDepth 100000 in
theorem rnam_21 (w : World) : Calls Tryd.prog 24 #[.int .u8 21] w fun e w' => e = .returned (.string (str (nameB 21))) ∧ Below w.heap.size w w' := by
  go_enter Tryd.func24, Tryd.ntmps24
  go_wp2
  go_ret
  exact ⟨rfl, (Below.refl _ _).alloc (Nat.le_refl _) _⟩
set_option maxRecDepth 100000 in
theorem rnam_22 (w : World) : Calls Tryd.prog 24 #[.int .u8 22] w fun e w' => e = .returned (.string (str (nameB 22))) ∧ Below w.heap.size w w' := by
  go_enter Tryd.func24, Tryd.ntmps24
  go_wp2
  go_ret
  exact ⟨rfl, (Below.refl _ _).alloc (Nat.le_refl _) _⟩
set_option maxRecDepth 100000 in
theorem rnam_23 (w : World) : Calls Tryd.prog 24 #[.int .u8 23] w fun e w' => e = .returned (.string (str (nameB 23))) ∧ Below w.heap.size w w' := by
  go_enter Tryd.func24, Tryd.ntmps24
  go_wp2
  go_ret
  exact ⟨rfl, (Below.refl _ _).alloc (Nat.le_refl _) _⟩
set_option maxRecDepth 100000 in
theorem rnam_24 (w : World) : Calls Tryd.prog 24 #[.int .u8 24] w fun e w' => e = .returned (.string (str (nameB 24))) ∧ Below w.heap.size w w' := by
  go_enter Tryd.func24, Tryd.ntmps24
  go_wp2
  go_ret
  exact ⟨rfl, (Below.refl _ _).alloc (Nat.le_refl _) _⟩
set_option maxRecDepth 100000 in
theorem rnam_25 (w : World) : Calls Tryd.prog 24 #[.int .u8 25] w fun e w' => e = .returned (.string (str (nameB 25))) ∧ Below w.heap.size w w' := by
  go_enter Tryd.func24, Tryd.ntmps24
  go_wp2
  go_ret
  exact ⟨rfl, (Below.refl _ _).alloc (Nat.le_refl _) _⟩
set_option maxRecDepth 100000 in
theorem rnam_26 (w : World) : Calls Tryd.prog 24 #[.int .u8 26] w fun e w' => e = .returned (.string (str (nameB 26))) ∧ Below w.heap.size w w' := by
  go_enter Tryd.func24, Tryd.ntmps24
  go_wp2
  go_ret
  exact ⟨rfl, (Below.refl _ _).alloc (Nat.le_refl _) _⟩
set_option maxRecDepth 100000 in
theorem rnam_27 (w : World) : Calls Tryd.prog 24 #[.int .u8 27] w fun e w' => e = .returned (.string (str (nameB 27))) ∧ Below w.heap.size w w' := by
  go_enter Tryd.func24, Tryd.ntmps24
  go_wp2
  go_ret
  exact ⟨rfl, (Below.refl _ _).alloc (Nat.le_refl _) _⟩
set_option maxRecDepth 100000 in
theorem rnam_28 (w : World) : Calls Tryd.prog 24 #[.int .u8 28] w fun e w' => e = .returned (.string (str (nameB 28))) ∧ Below w.heap.size w w' := by
  go_enter Tryd.func24, Tryd.ntmps24
  go_wp2
  go_ret
  exact ⟨rfl, (Below.refl _ _).alloc (Nat.le_refl _) _⟩
set_option maxRecDepth 100000 in
theorem rnam_29 (w : World) : Calls Tryd.prog 24 #[.int .u8 29] w fun e w' => e = .returned (.string (str (nameB 29))) ∧ Below w.heap.size w w' := by
  go_enter Tryd.func24, Tryd.ntmps24
  go_wp2
  go_ret
  exact ⟨rfl, (Below.refl _ _).alloc (Nat.le_refl _) _⟩
set_option maxRecDepth 100000 in
theorem rnam_30 (w : World) : Calls Tryd.prog 24 #[.int .u8 30] w fun e w' => e = .returned (.string (str (nameB 30))) ∧ Below w.heap.size w w' := by
  go_enter Tryd.func24, Tryd.ntmps24
  go_wp2
  go_ret
  exact ⟨rfl, (Below.refl _ _).alloc (Nat.le_refl _) _⟩
set_option maxRecDepth 100000 in
theorem rnam_31 (w : World) : Calls Tryd.prog 24 #[.int .u8 31] w fun e w' => e = .returned (.string (str (nameB 31))) ∧ Below w.heap.size w w' := by
  go_enter Tryd.func24, Tryd.ntmps24
  go_wp2
  go_ret
  exact ⟨rfl, (Below.refl _ _).alloc (Nat.le_refl _) _⟩
set_option maxRecDepth 100000 in
theorem rnam_32 (w : World) : Calls Tryd.prog 24 #[.int .u8 32] w fun e w' => e = .returned (.string (str (nameB 32))) ∧ Below w.heap.size w w' := by
  go_enter Tryd.func24, Tryd.ntmps24
  go_wp2
  go_ret
  exact ⟨rfl, (Below.refl _ _).alloc (Nat.le_refl _) _⟩
set_option maxRecDepth 100000 in
theorem rnam_33 (w : World) : Calls Tryd.prog 24 #[.int .u8 33] w fun e w' => e = .returned (.string (str (nameB 33))) ∧ Below w.heap.size w w' := by
  go_enter Tryd.func24, Tryd.ntmps24
  go_wp2
  go_ret
  exact ⟨rfl, (Below.refl _ _).alloc (Nat.le_refl _) _⟩
set_option maxRecDepth 100000 in
theorem rnam_34 (w : World) : Calls Tryd.prog 24 #[.int .u8 34] w fun e w' => e = .returned (.string (str (nameB 34))) ∧ Below w.heap.size w w' := by
  go_enter Tryd.func24, Tryd.ntmps24
  go_wp2
  go_ret
  exact ⟨rfl, (Below.refl _ _).alloc (Nat.le_refl _) _⟩
theorem rnam_any (k : Nat) (h1 : 1 ≤ k) (h2 : k ≤ 34) (w : World) : Calls Tryd.prog 24 #[.int .u8 k] w fun e w' => e = .returned (.string (str (nameB k))) ∧ Below w.heap.size w w' := by
  have hc : k = 1 ∨ k = 2 ∨ k = 3 ∨ k = 4 ∨ k = 5 ∨ k = 6 ∨ k = 7 ∨ k = 8 ∨ k = 9 ∨ k = 10 ∨ k = 11 ∨ k = 12 ∨ k = 13 ∨ k = 14 ∨ k = 15 ∨ k = 16 ∨ k = 17 ∨ k = 18 ∨ k = 19 ∨ k = 20 ∨ k = 21 ∨ k = 22 ∨ k = 23 ∨ k = 24 ∨ k = 25 ∨ k = 26 ∨ k = 27 ∨ k = 28 ∨ k = 29 ∨ k = 30 ∨ k = 31 ∨ k = 32 ∨ k = 33 ∨ k = 34 := by omega
  clear h1 h2
  rcases hc with rfl | rfl | rfl | rfl | rfl | rfl | rfl | rfl | rfl | rfl | rfl | rfl | rfl | rfl | rfl | rfl | rfl | rfl | rfl | rfl | rfl | rfl | rfl | rfl | rfl | rfl | rfl | rfl | rfl | rfl | rfl | rfl | rfl | rfl
  · exact rnam_1 w
  · exact rnam_2 w
  · exact rnam_3 w
  · exact rnam_4 w
  · exact rnam_5 w
  · exact rnam_6 w
  · exact rnam_7 w
  · exact rnam_8 w
  · exact rnam_9 w
  · exact rnam_10 w
  · exact rnam_11 w
  · exact rnam_12 w
  · exact rnam_13 w
  · exact rnam_14 w
  · exact rnam_15 w
  · exact rnam_16 w
  · exact rnam_17 w
  · exact rnam_18 w
  · exact rnam_19 w
  · exact rnam_20 w
  · exact rnam_21 w
  · exact rnam_22 w
  · exact rnam_23 w
  · exact rnam_24 w
  · exact rnam_25 w
  · exact rnam_26 w
  · exact rnam_27 w
  · exact rnam_28 w
  · exact rnam_29 w
  · exact rnam_30 w
  · exact rnam_31 w
  · exact rnam_32 w
  · exact rnam_33 w
  · exact rnam_34 w
end Go.Proofs.YtjkagpmepokihaaDoor
