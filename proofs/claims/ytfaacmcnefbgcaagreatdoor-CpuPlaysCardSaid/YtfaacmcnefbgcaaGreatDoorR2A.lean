/- Contracts of the document's own answers two and Of of layer 2: the row of an instruction. -/
import Derived.Test.YtfaacmcnefbgcaaGreatDoorJa
import Derived.Test.YtfaacmcnefbgcaaGreatDoorQp
import Derived.Handy
namespace Go.Proofs.YtfaacmcnefbgcaaGreatDoor
open Go.ChangeShapes Go.WideShapes Go.ChangeAt Go.RowKit
set_option linter.unusedVariables false
theorem btl {w w' : World} {o : Obj} (h : Below w.heap.size w w') : Below w.heap.size w (w'.alloc o) := h.alloc h.size o
theorem bsl {w w' : World} {o : Nat} {u : Value} (h : Below w.heap.size w w') : Below w.heap.size w (w'.setCell ⟨w.heap.size, o, none⟩ u) := h.setCell (Nat.le_refl _) u
theorem rtwo_1 (w : World) : Calls Tryz.prog 103 #[.int .u8 1] w fun e w' => e = .returned (.tuple #[.agg #[.int .u32 51, .int .u32 0, .int .u32 0, .int .i64 1], .bool true]) ∧ Below w.heap.size w w' := by
  go_enter Tryz.func103, Tryz.ntmps103
  go_wp2
  exact bodyPost_ret (v := .tuple #[.agg #[.int .u32 51, .int .u32 0, .int .u32 0, .int .i64 1], .bool true]) (by simp [results, Tryz.results103, go_sem]) rfl ⟨rfl, by repeat (first | exact Below.refl _ _ | refine Below.drew ?_ | (refine Below.alloc ?_ (by first | exact Nat.le_refl _ | (simp; done) | (simp; omega)) _))⟩
theorem rtwo_2 (w : World) : Calls Tryz.prog 103 #[.int .u8 2] w fun e w' => e = .returned (.tuple #[.agg #[.int .u32 51, .int .u32 0, .int .u32 32, .int .i64 1], .bool true]) ∧ Below w.heap.size w w' := by
  go_enter Tryz.func103, Tryz.ntmps103
  go_wp2
  exact bodyPost_ret (v := .tuple #[.agg #[.int .u32 51, .int .u32 0, .int .u32 32, .int .i64 1], .bool true]) (by simp [results, Tryz.results103, go_sem]) rfl ⟨rfl, by repeat (first | exact Below.refl _ _ | refine Below.drew ?_ | (refine Below.alloc ?_ (by first | exact Nat.le_refl _ | (simp; done) | (simp; omega)) _))⟩
theorem rtwo_3 (w : World) : Calls Tryz.prog 103 #[.int .u8 3] w fun e w' => e = .returned (.tuple #[.agg #[.int .u32 51, .int .u32 1, .int .u32 0, .int .i64 1], .bool true]) ∧ Below w.heap.size w w' := by
  go_enter Tryz.func103, Tryz.ntmps103
  go_wp2
  exact bodyPost_ret (v := .tuple #[.agg #[.int .u32 51, .int .u32 1, .int .u32 0, .int .i64 1], .bool true]) (by simp [results, Tryz.results103, go_sem]) rfl ⟨rfl, by repeat (first | exact Below.refl _ _ | refine Below.drew ?_ | (refine Below.alloc ?_ (by first | exact Nat.le_refl _ | (simp; done) | (simp; omega)) _))⟩
theorem rtwo_4 (w : World) : Calls Tryz.prog 103 #[.int .u8 4] w fun e w' => e = .returned (.tuple #[.agg #[.int .u32 51, .int .u32 2, .int .u32 0, .int .i64 1], .bool true]) ∧ Below w.heap.size w w' := by
  go_enter Tryz.func103, Tryz.ntmps103
  go_wp2
  exact bodyPost_ret (v := .tuple #[.agg #[.int .u32 51, .int .u32 2, .int .u32 0, .int .i64 1], .bool true]) (by simp [results, Tryz.results103, go_sem]) rfl ⟨rfl, by repeat (first | exact Below.refl _ _ | refine Below.drew ?_ | (refine Below.alloc ?_ (by first | exact Nat.le_refl _ | (simp; done) | (simp; omega)) _))⟩
theorem rtwo_5 (w : World) : Calls Tryz.prog 103 #[.int .u8 5] w fun e w' => e = .returned (.tuple #[.agg #[.int .u32 51, .int .u32 3, .int .u32 0, .int .i64 1], .bool true]) ∧ Below w.heap.size w w' := by
  go_enter Tryz.func103, Tryz.ntmps103
  go_wp2
  exact bodyPost_ret (v := .tuple #[.agg #[.int .u32 51, .int .u32 3, .int .u32 0, .int .i64 1], .bool true]) (by simp [results, Tryz.results103, go_sem]) rfl ⟨rfl, by repeat (first | exact Below.refl _ _ | refine Below.drew ?_ | (refine Below.alloc ?_ (by first | exact Nat.le_refl _ | (simp; done) | (simp; omega)) _))⟩
theorem rtwo_6 (w : World) : Calls Tryz.prog 103 #[.int .u8 6] w fun e w' => e = .returned (.tuple #[.agg #[.int .u32 51, .int .u32 4, .int .u32 0, .int .i64 1], .bool true]) ∧ Below w.heap.size w w' := by
  go_enter Tryz.func103, Tryz.ntmps103
  go_wp2
  exact bodyPost_ret (v := .tuple #[.agg #[.int .u32 51, .int .u32 4, .int .u32 0, .int .i64 1], .bool true]) (by simp [results, Tryz.results103, go_sem]) rfl ⟨rfl, by repeat (first | exact Below.refl _ _ | refine Below.drew ?_ | (refine Below.alloc ?_ (by first | exact Nat.le_refl _ | (simp; done) | (simp; omega)) _))⟩
theorem rtwo_7 (w : World) : Calls Tryz.prog 103 #[.int .u8 7] w fun e w' => e = .returned (.tuple #[.agg #[.int .u32 51, .int .u32 5, .int .u32 0, .int .i64 1], .bool true]) ∧ Below w.heap.size w w' := by
  go_enter Tryz.func103, Tryz.ntmps103
  go_wp2
  exact bodyPost_ret (v := .tuple #[.agg #[.int .u32 51, .int .u32 5, .int .u32 0, .int .i64 1], .bool true]) (by simp [results, Tryz.results103, go_sem]) rfl ⟨rfl, by repeat (first | exact Below.refl _ _ | refine Below.drew ?_ | (refine Below.alloc ?_ (by first | exact Nat.le_refl _ | (simp; done) | (simp; omega)) _))⟩
theorem rtwo_8 (w : World) : Calls Tryz.prog 103 #[.int .u8 8] w fun e w' => e = .returned (.tuple #[.agg #[.int .u32 51, .int .u32 5, .int .u32 32, .int .i64 1], .bool true]) ∧ Below w.heap.size w w' := by
  go_enter Tryz.func103, Tryz.ntmps103
  go_wp2
  exact bodyPost_ret (v := .tuple #[.agg #[.int .u32 51, .int .u32 5, .int .u32 32, .int .i64 1], .bool true]) (by simp [results, Tryz.results103, go_sem]) rfl ⟨rfl, by repeat (first | exact Below.refl _ _ | refine Below.drew ?_ | (refine Below.alloc ?_ (by first | exact Nat.le_refl _ | (simp; done) | (simp; omega)) _))⟩
theorem rtwo_9 (w : World) : Calls Tryz.prog 103 #[.int .u8 9] w fun e w' => e = .returned (.tuple #[.agg #[.int .u32 51, .int .u32 6, .int .u32 0, .int .i64 1], .bool true]) ∧ Below w.heap.size w w' := by
  go_enter Tryz.func103, Tryz.ntmps103
  go_wp2
  exact bodyPost_ret (v := .tuple #[.agg #[.int .u32 51, .int .u32 6, .int .u32 0, .int .i64 1], .bool true]) (by simp [results, Tryz.results103, go_sem]) rfl ⟨rfl, by repeat (first | exact Below.refl _ _ | refine Below.drew ?_ | (refine Below.alloc ?_ (by first | exact Nat.le_refl _ | (simp; done) | (simp; omega)) _))⟩
theorem rtwo_10 (w : World) : Calls Tryz.prog 103 #[.int .u8 10] w fun e w' => e = .returned (.tuple #[.agg #[.int .u32 51, .int .u32 7, .int .u32 0, .int .i64 1], .bool true]) ∧ Below w.heap.size w w' := by
  go_enter Tryz.func103, Tryz.ntmps103
  go_wp2
  exact bodyPost_ret (v := .tuple #[.agg #[.int .u32 51, .int .u32 7, .int .u32 0, .int .i64 1], .bool true]) (by simp [results, Tryz.results103, go_sem]) rfl ⟨rfl, by repeat (first | exact Below.refl _ _ | refine Below.drew ?_ | (refine Below.alloc ?_ (by first | exact Nat.le_refl _ | (simp; done) | (simp; omega)) _))⟩
theorem rtwo_11 (w : World) : Calls Tryz.prog 103 #[.int .u8 11] w fun e w' => e = .returned (.tuple #[.agg #[.int .u32 51, .int .u32 0, .int .u32 1, .int .i64 1], .bool true]) ∧ Below w.heap.size w w' := by
  go_enter Tryz.func103, Tryz.ntmps103
  go_wp2
  exact bodyPost_ret (v := .tuple #[.agg #[.int .u32 51, .int .u32 0, .int .u32 1, .int .i64 1], .bool true]) (by simp [results, Tryz.results103, go_sem]) rfl ⟨rfl, by repeat (first | exact Below.refl _ _ | refine Below.drew ?_ | (refine Below.alloc ?_ (by first | exact Nat.le_refl _ | (simp; done) | (simp; omega)) _))⟩
theorem rtwo_12 (w : World) : Calls Tryz.prog 103 #[.int .u8 12] w fun e w' => e = .returned (.tuple #[.agg #[.int .u32 51, .int .u32 3, .int .u32 1, .int .i64 1], .bool true]) ∧ Below w.heap.size w w' := by
  go_enter Tryz.func103, Tryz.ntmps103
  go_wp2
  exact bodyPost_ret (v := .tuple #[.agg #[.int .u32 51, .int .u32 3, .int .u32 1, .int .i64 1], .bool true]) (by simp [results, Tryz.results103, go_sem]) rfl ⟨rfl, by repeat (first | exact Below.refl _ _ | refine Below.drew ?_ | (refine Below.alloc ?_ (by first | exact Nat.le_refl _ | (simp; done) | (simp; omega)) _))⟩
theorem rtwo_13 (w : World) : Calls Tryz.prog 103 #[.int .u8 13] w fun e w' => e = .returned (.tuple #[.agg #[.int .u32 51, .int .u32 5, .int .u32 1, .int .i64 1], .bool true]) ∧ Below w.heap.size w w' := by
  go_enter Tryz.func103, Tryz.ntmps103
  go_wp2
  exact bodyPost_ret (v := .tuple #[.agg #[.int .u32 51, .int .u32 5, .int .u32 1, .int .i64 1], .bool true]) (by simp [results, Tryz.results103, go_sem]) rfl ⟨rfl, by repeat (first | exact Below.refl _ _ | refine Below.drew ?_ | (refine Below.alloc ?_ (by first | exact Nat.le_refl _ | (simp; done) | (simp; omega)) _))⟩
theorem rtwo_14 (w : World) : Calls Tryz.prog 103 #[.int .u8 14] w fun e w' => e = .returned (.tuple #[.agg #[.int .u32 51, .int .u32 7, .int .u32 1, .int .i64 1], .bool true]) ∧ Below w.heap.size w w' := by
  go_enter Tryz.func103, Tryz.ntmps103
  go_wp2
  exact bodyPost_ret (v := .tuple #[.agg #[.int .u32 51, .int .u32 7, .int .u32 1, .int .i64 1], .bool true]) (by simp [results, Tryz.results103, go_sem]) rfl ⟨rfl, by repeat (first | exact Below.refl _ _ | refine Below.drew ?_ | (refine Below.alloc ?_ (by first | exact Nat.le_refl _ | (simp; done) | (simp; omega)) _))⟩
theorem rtwo_no (k : Nat) (hk : k < 256) (h : k = 0 ∨ 14 < k) (w : World) : Calls Tryz.prog 103 #[.int .u8 k] w fun e w' => e = .returned (.tuple #[.agg #[.int .u32 0, .int .u32 0, .int .u32 0, .int .i64 0], .bool false]) ∧ Below w.heap.size w w' := by
  by_cases h0 : k < 1
  · clear h
    go_enter Tryz.func103, Tryz.ntmps103
    go_wp2
    exact bodyPost_ret (v := .tuple #[.agg #[.int .u32 0, .int .u32 0, .int .u32 0, .int .i64 0], .bool false]) (by simp [results, Tryz.results103, go_sem]) rfl ⟨rfl, by repeat (first | exact Below.refl _ _ | refine Below.drew ?_ | (refine Below.alloc ?_ (by first | exact Nat.le_refl _ | (simp; done) | (simp; omega)) _))⟩
  · have h1 : 14 < k := by omega
    clear h
    go_enter Tryz.func103, Tryz.ntmps103
    go_wp2
    exact bodyPost_ret (v := .tuple #[.agg #[.int .u32 0, .int .u32 0, .int .u32 0, .int .i64 0], .bool false]) (by simp [results, Tryz.results103, go_sem]) rfl ⟨rfl, by repeat (first | exact Below.refl _ _ | refine Below.drew ?_ | (refine Below.alloc ?_ (by first | exact Nat.le_refl _ | (simp; done) | (simp; omega)) _))⟩
theorem rof_1 (w : World) : Calls Tryz.prog 76 #[.int .u8 1] w fun e w' => e = .returned (.tuple #[.agg #[.int .u32 51, .int .u32 0, .int .u32 0, .int .i64 1], .bool true]) ∧ Below w.heap.size w w' := by
  go_enter Tryz.func76, Tryz.ntmps76
  go_wp2_with (go_at_call 103; (refine (rtwo_1 _).mono ?_); (rintro e w1 ⟨rfl, hb1⟩); have hz : w.heap.size < w1.heap.size := (by have := hb1.size; simp at this; omega); obtain ⟨hc1, hf1⟩ := bcell hb1)
  have hB : Below w.heap.size w w1 := ((Below.refl _ _).alloc (Nat.le_refl _) _).trans (hb1.mono (by simp))
  exact bodyPost_ret (v := .tuple #[.agg #[.int .u32 51, .int .u32 0, .int .u32 0, .int .i64 1], .bool true]) (by simp [results, Tryz.results76, go_sem, hc1, hz]) rfl ⟨rfl, by repeat (first | (with_reducible exact hB) | (with_reducible refine Below.drew ?_) | (with_reducible refine bsl ?_) | (with_reducible refine btl ?_))⟩
theorem rof_2 (w : World) : Calls Tryz.prog 76 #[.int .u8 2] w fun e w' => e = .returned (.tuple #[.agg #[.int .u32 51, .int .u32 0, .int .u32 32, .int .i64 1], .bool true]) ∧ Below w.heap.size w w' := by
  go_enter Tryz.func76, Tryz.ntmps76
  go_wp2_with (go_at_call 103; (refine (rtwo_2 _).mono ?_); (rintro e w1 ⟨rfl, hb1⟩); have hz : w.heap.size < w1.heap.size := (by have := hb1.size; simp at this; omega); obtain ⟨hc1, hf1⟩ := bcell hb1)
  have hB : Below w.heap.size w w1 := ((Below.refl _ _).alloc (Nat.le_refl _) _).trans (hb1.mono (by simp))
  exact bodyPost_ret (v := .tuple #[.agg #[.int .u32 51, .int .u32 0, .int .u32 32, .int .i64 1], .bool true]) (by simp [results, Tryz.results76, go_sem, hc1, hz]) rfl ⟨rfl, by repeat (first | (with_reducible exact hB) | (with_reducible refine Below.drew ?_) | (with_reducible refine bsl ?_) | (with_reducible refine btl ?_))⟩
theorem rof_3 (w : World) : Calls Tryz.prog 76 #[.int .u8 3] w fun e w' => e = .returned (.tuple #[.agg #[.int .u32 51, .int .u32 1, .int .u32 0, .int .i64 1], .bool true]) ∧ Below w.heap.size w w' := by
  go_enter Tryz.func76, Tryz.ntmps76
  go_wp2_with (go_at_call 103; (refine (rtwo_3 _).mono ?_); (rintro e w1 ⟨rfl, hb1⟩); have hz : w.heap.size < w1.heap.size := (by have := hb1.size; simp at this; omega); obtain ⟨hc1, hf1⟩ := bcell hb1)
  have hB : Below w.heap.size w w1 := ((Below.refl _ _).alloc (Nat.le_refl _) _).trans (hb1.mono (by simp))
  exact bodyPost_ret (v := .tuple #[.agg #[.int .u32 51, .int .u32 1, .int .u32 0, .int .i64 1], .bool true]) (by simp [results, Tryz.results76, go_sem, hc1, hz]) rfl ⟨rfl, by repeat (first | (with_reducible exact hB) | (with_reducible refine Below.drew ?_) | (with_reducible refine bsl ?_) | (with_reducible refine btl ?_))⟩
theorem rof_4 (w : World) : Calls Tryz.prog 76 #[.int .u8 4] w fun e w' => e = .returned (.tuple #[.agg #[.int .u32 51, .int .u32 2, .int .u32 0, .int .i64 1], .bool true]) ∧ Below w.heap.size w w' := by
  go_enter Tryz.func76, Tryz.ntmps76
  go_wp2_with (go_at_call 103; (refine (rtwo_4 _).mono ?_); (rintro e w1 ⟨rfl, hb1⟩); have hz : w.heap.size < w1.heap.size := (by have := hb1.size; simp at this; omega); obtain ⟨hc1, hf1⟩ := bcell hb1)
  have hB : Below w.heap.size w w1 := ((Below.refl _ _).alloc (Nat.le_refl _) _).trans (hb1.mono (by simp))
  exact bodyPost_ret (v := .tuple #[.agg #[.int .u32 51, .int .u32 2, .int .u32 0, .int .i64 1], .bool true]) (by simp [results, Tryz.results76, go_sem, hc1, hz]) rfl ⟨rfl, by repeat (first | (with_reducible exact hB) | (with_reducible refine Below.drew ?_) | (with_reducible refine bsl ?_) | (with_reducible refine btl ?_))⟩
theorem rof_5 (w : World) : Calls Tryz.prog 76 #[.int .u8 5] w fun e w' => e = .returned (.tuple #[.agg #[.int .u32 51, .int .u32 3, .int .u32 0, .int .i64 1], .bool true]) ∧ Below w.heap.size w w' := by
  go_enter Tryz.func76, Tryz.ntmps76
  go_wp2_with (go_at_call 103; (refine (rtwo_5 _).mono ?_); (rintro e w1 ⟨rfl, hb1⟩); have hz : w.heap.size < w1.heap.size := (by have := hb1.size; simp at this; omega); obtain ⟨hc1, hf1⟩ := bcell hb1)
  have hB : Below w.heap.size w w1 := ((Below.refl _ _).alloc (Nat.le_refl _) _).trans (hb1.mono (by simp))
  exact bodyPost_ret (v := .tuple #[.agg #[.int .u32 51, .int .u32 3, .int .u32 0, .int .i64 1], .bool true]) (by simp [results, Tryz.results76, go_sem, hc1, hz]) rfl ⟨rfl, by repeat (first | (with_reducible exact hB) | (with_reducible refine Below.drew ?_) | (with_reducible refine bsl ?_) | (with_reducible refine btl ?_))⟩
theorem rof_6 (w : World) : Calls Tryz.prog 76 #[.int .u8 6] w fun e w' => e = .returned (.tuple #[.agg #[.int .u32 51, .int .u32 4, .int .u32 0, .int .i64 1], .bool true]) ∧ Below w.heap.size w w' := by
  go_enter Tryz.func76, Tryz.ntmps76
  go_wp2_with (go_at_call 103; (refine (rtwo_6 _).mono ?_); (rintro e w1 ⟨rfl, hb1⟩); have hz : w.heap.size < w1.heap.size := (by have := hb1.size; simp at this; omega); obtain ⟨hc1, hf1⟩ := bcell hb1)
  have hB : Below w.heap.size w w1 := ((Below.refl _ _).alloc (Nat.le_refl _) _).trans (hb1.mono (by simp))
  exact bodyPost_ret (v := .tuple #[.agg #[.int .u32 51, .int .u32 4, .int .u32 0, .int .i64 1], .bool true]) (by simp [results, Tryz.results76, go_sem, hc1, hz]) rfl ⟨rfl, by repeat (first | (with_reducible exact hB) | (with_reducible refine Below.drew ?_) | (with_reducible refine bsl ?_) | (with_reducible refine btl ?_))⟩
theorem rof_7 (w : World) : Calls Tryz.prog 76 #[.int .u8 7] w fun e w' => e = .returned (.tuple #[.agg #[.int .u32 51, .int .u32 5, .int .u32 0, .int .i64 1], .bool true]) ∧ Below w.heap.size w w' := by
  go_enter Tryz.func76, Tryz.ntmps76
  go_wp2_with (go_at_call 103; (refine (rtwo_7 _).mono ?_); (rintro e w1 ⟨rfl, hb1⟩); have hz : w.heap.size < w1.heap.size := (by have := hb1.size; simp at this; omega); obtain ⟨hc1, hf1⟩ := bcell hb1)
  have hB : Below w.heap.size w w1 := ((Below.refl _ _).alloc (Nat.le_refl _) _).trans (hb1.mono (by simp))
  exact bodyPost_ret (v := .tuple #[.agg #[.int .u32 51, .int .u32 5, .int .u32 0, .int .i64 1], .bool true]) (by simp [results, Tryz.results76, go_sem, hc1, hz]) rfl ⟨rfl, by repeat (first | (with_reducible exact hB) | (with_reducible refine Below.drew ?_) | (with_reducible refine bsl ?_) | (with_reducible refine btl ?_))⟩
theorem rof_8 (w : World) : Calls Tryz.prog 76 #[.int .u8 8] w fun e w' => e = .returned (.tuple #[.agg #[.int .u32 51, .int .u32 5, .int .u32 32, .int .i64 1], .bool true]) ∧ Below w.heap.size w w' := by
  go_enter Tryz.func76, Tryz.ntmps76
  go_wp2_with (go_at_call 103; (refine (rtwo_8 _).mono ?_); (rintro e w1 ⟨rfl, hb1⟩); have hz : w.heap.size < w1.heap.size := (by have := hb1.size; simp at this; omega); obtain ⟨hc1, hf1⟩ := bcell hb1)
  have hB : Below w.heap.size w w1 := ((Below.refl _ _).alloc (Nat.le_refl _) _).trans (hb1.mono (by simp))
  exact bodyPost_ret (v := .tuple #[.agg #[.int .u32 51, .int .u32 5, .int .u32 32, .int .i64 1], .bool true]) (by simp [results, Tryz.results76, go_sem, hc1, hz]) rfl ⟨rfl, by repeat (first | (with_reducible exact hB) | (with_reducible refine Below.drew ?_) | (with_reducible refine bsl ?_) | (with_reducible refine btl ?_))⟩
theorem rof_9 (w : World) : Calls Tryz.prog 76 #[.int .u8 9] w fun e w' => e = .returned (.tuple #[.agg #[.int .u32 51, .int .u32 6, .int .u32 0, .int .i64 1], .bool true]) ∧ Below w.heap.size w w' := by
  go_enter Tryz.func76, Tryz.ntmps76
  go_wp2_with (go_at_call 103; (refine (rtwo_9 _).mono ?_); (rintro e w1 ⟨rfl, hb1⟩); have hz : w.heap.size < w1.heap.size := (by have := hb1.size; simp at this; omega); obtain ⟨hc1, hf1⟩ := bcell hb1)
  have hB : Below w.heap.size w w1 := ((Below.refl _ _).alloc (Nat.le_refl _) _).trans (hb1.mono (by simp))
  exact bodyPost_ret (v := .tuple #[.agg #[.int .u32 51, .int .u32 6, .int .u32 0, .int .i64 1], .bool true]) (by simp [results, Tryz.results76, go_sem, hc1, hz]) rfl ⟨rfl, by repeat (first | (with_reducible exact hB) | (with_reducible refine Below.drew ?_) | (with_reducible refine bsl ?_) | (with_reducible refine btl ?_))⟩
theorem rof_10 (w : World) : Calls Tryz.prog 76 #[.int .u8 10] w fun e w' => e = .returned (.tuple #[.agg #[.int .u32 51, .int .u32 7, .int .u32 0, .int .i64 1], .bool true]) ∧ Below w.heap.size w w' := by
  go_enter Tryz.func76, Tryz.ntmps76
  go_wp2_with (go_at_call 103; (refine (rtwo_10 _).mono ?_); (rintro e w1 ⟨rfl, hb1⟩); have hz : w.heap.size < w1.heap.size := (by have := hb1.size; simp at this; omega); obtain ⟨hc1, hf1⟩ := bcell hb1)
  have hB : Below w.heap.size w w1 := ((Below.refl _ _).alloc (Nat.le_refl _) _).trans (hb1.mono (by simp))
  exact bodyPost_ret (v := .tuple #[.agg #[.int .u32 51, .int .u32 7, .int .u32 0, .int .i64 1], .bool true]) (by simp [results, Tryz.results76, go_sem, hc1, hz]) rfl ⟨rfl, by repeat (first | (with_reducible exact hB) | (with_reducible refine Below.drew ?_) | (with_reducible refine bsl ?_) | (with_reducible refine btl ?_))⟩
theorem rof_11 (w : World) : Calls Tryz.prog 76 #[.int .u8 11] w fun e w' => e = .returned (.tuple #[.agg #[.int .u32 51, .int .u32 0, .int .u32 1, .int .i64 1], .bool true]) ∧ Below w.heap.size w w' := by
  go_enter Tryz.func76, Tryz.ntmps76
  go_wp2_with (go_at_call 103; (refine (rtwo_11 _).mono ?_); (rintro e w1 ⟨rfl, hb1⟩); have hz : w.heap.size < w1.heap.size := (by have := hb1.size; simp at this; omega); obtain ⟨hc1, hf1⟩ := bcell hb1)
  have hB : Below w.heap.size w w1 := ((Below.refl _ _).alloc (Nat.le_refl _) _).trans (hb1.mono (by simp))
  exact bodyPost_ret (v := .tuple #[.agg #[.int .u32 51, .int .u32 0, .int .u32 1, .int .i64 1], .bool true]) (by simp [results, Tryz.results76, go_sem, hc1, hz]) rfl ⟨rfl, by repeat (first | (with_reducible exact hB) | (with_reducible refine Below.drew ?_) | (with_reducible refine bsl ?_) | (with_reducible refine btl ?_))⟩
theorem rof_12 (w : World) : Calls Tryz.prog 76 #[.int .u8 12] w fun e w' => e = .returned (.tuple #[.agg #[.int .u32 51, .int .u32 3, .int .u32 1, .int .i64 1], .bool true]) ∧ Below w.heap.size w w' := by
  go_enter Tryz.func76, Tryz.ntmps76
  go_wp2_with (go_at_call 103; (refine (rtwo_12 _).mono ?_); (rintro e w1 ⟨rfl, hb1⟩); have hz : w.heap.size < w1.heap.size := (by have := hb1.size; simp at this; omega); obtain ⟨hc1, hf1⟩ := bcell hb1)
  have hB : Below w.heap.size w w1 := ((Below.refl _ _).alloc (Nat.le_refl _) _).trans (hb1.mono (by simp))
  exact bodyPost_ret (v := .tuple #[.agg #[.int .u32 51, .int .u32 3, .int .u32 1, .int .i64 1], .bool true]) (by simp [results, Tryz.results76, go_sem, hc1, hz]) rfl ⟨rfl, by repeat (first | (with_reducible exact hB) | (with_reducible refine Below.drew ?_) | (with_reducible refine bsl ?_) | (with_reducible refine btl ?_))⟩
theorem rof_13 (w : World) : Calls Tryz.prog 76 #[.int .u8 13] w fun e w' => e = .returned (.tuple #[.agg #[.int .u32 51, .int .u32 5, .int .u32 1, .int .i64 1], .bool true]) ∧ Below w.heap.size w w' := by
  go_enter Tryz.func76, Tryz.ntmps76
  go_wp2_with (go_at_call 103; (refine (rtwo_13 _).mono ?_); (rintro e w1 ⟨rfl, hb1⟩); have hz : w.heap.size < w1.heap.size := (by have := hb1.size; simp at this; omega); obtain ⟨hc1, hf1⟩ := bcell hb1)
  have hB : Below w.heap.size w w1 := ((Below.refl _ _).alloc (Nat.le_refl _) _).trans (hb1.mono (by simp))
  exact bodyPost_ret (v := .tuple #[.agg #[.int .u32 51, .int .u32 5, .int .u32 1, .int .i64 1], .bool true]) (by simp [results, Tryz.results76, go_sem, hc1, hz]) rfl ⟨rfl, by repeat (first | (with_reducible exact hB) | (with_reducible refine Below.drew ?_) | (with_reducible refine bsl ?_) | (with_reducible refine btl ?_))⟩
theorem rof_14 (w : World) : Calls Tryz.prog 76 #[.int .u8 14] w fun e w' => e = .returned (.tuple #[.agg #[.int .u32 51, .int .u32 7, .int .u32 1, .int .i64 1], .bool true]) ∧ Below w.heap.size w w' := by
  go_enter Tryz.func76, Tryz.ntmps76
  go_wp2_with (go_at_call 103; (refine (rtwo_14 _).mono ?_); (rintro e w1 ⟨rfl, hb1⟩); have hz : w.heap.size < w1.heap.size := (by have := hb1.size; simp at this; omega); obtain ⟨hc1, hf1⟩ := bcell hb1)
  have hB : Below w.heap.size w w1 := ((Below.refl _ _).alloc (Nat.le_refl _) _).trans (hb1.mono (by simp))
  exact bodyPost_ret (v := .tuple #[.agg #[.int .u32 51, .int .u32 7, .int .u32 1, .int .i64 1], .bool true]) (by simp [results, Tryz.results76, go_sem, hc1, hz]) rfl ⟨rfl, by repeat (first | (with_reducible exact hB) | (with_reducible refine Below.drew ?_) | (with_reducible refine bsl ?_) | (with_reducible refine btl ?_))⟩
theorem rof_15 (w : World) : Calls Tryz.prog 76 #[.int .u8 15] w fun e w' => e = .returned (.tuple #[.agg #[.int .u32 19, .int .u32 0, .int .u32 0, .int .i64 2], .bool true]) ∧ Below w.heap.size w w' := by
  have hc := rtwo_no 15 (by omega) (by omega)
  go_enter Tryz.func76, Tryz.ntmps76
  go_wp2_with (go_at_call 103; (refine (hc _).mono ?_); (rintro e w1 ⟨rfl, hb1⟩); have hz : w.heap.size < w1.heap.size := (by have := hb1.size; simp at this; omega); obtain ⟨hc1, hf1⟩ := bcell hb1)
  have hB : Below w.heap.size w w1 := ((Below.refl _ _).alloc (Nat.le_refl _) _).trans (hb1.mono (by simp))
  exact bodyPost_ret (v := .tuple #[.agg #[.int .u32 19, .int .u32 0, .int .u32 0, .int .i64 2], .bool true]) (by simp [results, Tryz.results76, go_sem, hc1, hz]) rfl ⟨rfl, by repeat (first | (with_reducible exact hB) | (with_reducible refine Below.drew ?_) | (with_reducible refine bsl ?_) | (with_reducible refine btl ?_))⟩
theorem rof_16 (w : World) : Calls Tryz.prog 76 #[.int .u8 16] w fun e w' => e = .returned (.tuple #[.agg #[.int .u32 19, .int .u32 3, .int .u32 0, .int .i64 2], .bool true]) ∧ Below w.heap.size w w' := by
  have hc := rtwo_no 16 (by omega) (by omega)
  go_enter Tryz.func76, Tryz.ntmps76
  go_wp2_with (go_at_call 103; (refine (hc _).mono ?_); (rintro e w1 ⟨rfl, hb1⟩); have hz : w.heap.size < w1.heap.size := (by have := hb1.size; simp at this; omega); obtain ⟨hc1, hf1⟩ := bcell hb1)
  have hB : Below w.heap.size w w1 := ((Below.refl _ _).alloc (Nat.le_refl _) _).trans (hb1.mono (by simp))
  exact bodyPost_ret (v := .tuple #[.agg #[.int .u32 19, .int .u32 3, .int .u32 0, .int .i64 2], .bool true]) (by simp [results, Tryz.results76, go_sem, hc1, hz]) rfl ⟨rfl, by repeat (first | (with_reducible exact hB) | (with_reducible refine Below.drew ?_) | (with_reducible refine bsl ?_) | (with_reducible refine btl ?_))⟩
theorem rof_17 (w : World) : Calls Tryz.prog 76 #[.int .u8 17] w fun e w' => e = .returned (.tuple #[.agg #[.int .u32 19, .int .u32 4, .int .u32 0, .int .i64 2], .bool true]) ∧ Below w.heap.size w w' := by
  have hc := rtwo_no 17 (by omega) (by omega)
  go_enter Tryz.func76, Tryz.ntmps76
  go_wp2_with (go_at_call 103; (refine (hc _).mono ?_); (rintro e w1 ⟨rfl, hb1⟩); have hz : w.heap.size < w1.heap.size := (by have := hb1.size; simp at this; omega); obtain ⟨hc1, hf1⟩ := bcell hb1)
  have hB : Below w.heap.size w w1 := ((Below.refl _ _).alloc (Nat.le_refl _) _).trans (hb1.mono (by simp))
  exact bodyPost_ret (v := .tuple #[.agg #[.int .u32 19, .int .u32 4, .int .u32 0, .int .i64 2], .bool true]) (by simp [results, Tryz.results76, go_sem, hc1, hz]) rfl ⟨rfl, by repeat (first | (with_reducible exact hB) | (with_reducible refine Below.drew ?_) | (with_reducible refine bsl ?_) | (with_reducible refine btl ?_))⟩
theorem rof_18 (w : World) : Calls Tryz.prog 76 #[.int .u8 18] w fun e w' => e = .returned (.tuple #[.agg #[.int .u32 19, .int .u32 6, .int .u32 0, .int .i64 2], .bool true]) ∧ Below w.heap.size w w' := by
  have hc := rtwo_no 18 (by omega) (by omega)
  go_enter Tryz.func76, Tryz.ntmps76
  go_wp2_with (go_at_call 103; (refine (hc _).mono ?_); (rintro e w1 ⟨rfl, hb1⟩); have hz : w.heap.size < w1.heap.size := (by have := hb1.size; simp at this; omega); obtain ⟨hc1, hf1⟩ := bcell hb1)
  have hB : Below w.heap.size w w1 := ((Below.refl _ _).alloc (Nat.le_refl _) _).trans (hb1.mono (by simp))
  exact bodyPost_ret (v := .tuple #[.agg #[.int .u32 19, .int .u32 6, .int .u32 0, .int .i64 2], .bool true]) (by simp [results, Tryz.results76, go_sem, hc1, hz]) rfl ⟨rfl, by repeat (first | (with_reducible exact hB) | (with_reducible refine Below.drew ?_) | (with_reducible refine bsl ?_) | (with_reducible refine btl ?_))⟩
theorem rof_19 (w : World) : Calls Tryz.prog 76 #[.int .u8 19] w fun e w' => e = .returned (.tuple #[.agg #[.int .u32 19, .int .u32 7, .int .u32 0, .int .i64 2], .bool true]) ∧ Below w.heap.size w w' := by
  have hc := rtwo_no 19 (by omega) (by omega)
  go_enter Tryz.func76, Tryz.ntmps76
  go_wp2_with (go_at_call 103; (refine (hc _).mono ?_); (rintro e w1 ⟨rfl, hb1⟩); have hz : w.heap.size < w1.heap.size := (by have := hb1.size; simp at this; omega); obtain ⟨hc1, hf1⟩ := bcell hb1)
  have hB : Below w.heap.size w w1 := ((Below.refl _ _).alloc (Nat.le_refl _) _).trans (hb1.mono (by simp))
  exact bodyPost_ret (v := .tuple #[.agg #[.int .u32 19, .int .u32 7, .int .u32 0, .int .i64 2], .bool true]) (by simp [results, Tryz.results76, go_sem, hc1, hz]) rfl ⟨rfl, by repeat (first | (with_reducible exact hB) | (with_reducible refine Below.drew ?_) | (with_reducible refine bsl ?_) | (with_reducible refine btl ?_))⟩
theorem rof_20 (w : World) : Calls Tryz.prog 76 #[.int .u8 20] w fun e w' => e = .returned (.tuple #[.agg #[.int .u32 19, .int .u32 1, .int .u32 0, .int .i64 3], .bool true]) ∧ Below w.heap.size w w' := by
  have hc := rtwo_no 20 (by omega) (by omega)
  go_enter Tryz.func76, Tryz.ntmps76
  go_wp2_with (go_at_call 103; (refine (hc _).mono ?_); (rintro e w1 ⟨rfl, hb1⟩); have hz : w.heap.size < w1.heap.size := (by have := hb1.size; simp at this; omega); obtain ⟨hc1, hf1⟩ := bcell hb1)
  have hB : Below w.heap.size w w1 := ((Below.refl _ _).alloc (Nat.le_refl _) _).trans (hb1.mono (by simp))
  exact bodyPost_ret (v := .tuple #[.agg #[.int .u32 19, .int .u32 1, .int .u32 0, .int .i64 3], .bool true]) (by simp [results, Tryz.results76, go_sem, hc1, hz]) rfl ⟨rfl, by repeat (first | (with_reducible exact hB) | (with_reducible refine Below.drew ?_) | (with_reducible refine bsl ?_) | (with_reducible refine btl ?_))⟩
theorem rof_21 (w : World) : Calls Tryz.prog 76 #[.int .u8 21] w fun e w' => e = .returned (.tuple #[.agg #[.int .u32 19, .int .u32 5, .int .u32 0, .int .i64 3], .bool true]) ∧ Below w.heap.size w w' := by
  have hc := rtwo_no 21 (by omega) (by omega)
  go_enter Tryz.func76, Tryz.ntmps76
  go_wp2_with (go_at_call 103; (refine (hc _).mono ?_); (rintro e w1 ⟨rfl, hb1⟩); have hz : w.heap.size < w1.heap.size := (by have := hb1.size; simp at this; omega); obtain ⟨hc1, hf1⟩ := bcell hb1)
  have hB : Below w.heap.size w w1 := ((Below.refl _ _).alloc (Nat.le_refl _) _).trans (hb1.mono (by simp))
  exact bodyPost_ret (v := .tuple #[.agg #[.int .u32 19, .int .u32 5, .int .u32 0, .int .i64 3], .bool true]) (by simp [results, Tryz.results76, go_sem, hc1, hz]) rfl ⟨rfl, by repeat (first | (with_reducible exact hB) | (with_reducible refine Below.drew ?_) | (with_reducible refine bsl ?_) | (with_reducible refine btl ?_))⟩
theorem rof_22 (w : World) : Calls Tryz.prog 76 #[.int .u8 22] w fun e w' => e = .returned (.tuple #[.agg #[.int .u32 19, .int .u32 5, .int .u32 32, .int .i64 3], .bool true]) ∧ Below w.heap.size w w' := by
  have hc := rtwo_no 22 (by omega) (by omega)
  go_enter Tryz.func76, Tryz.ntmps76
  go_wp2_with (go_at_call 103; (refine (hc _).mono ?_); (rintro e w1 ⟨rfl, hb1⟩); have hz : w.heap.size < w1.heap.size := (by have := hb1.size; simp at this; omega); obtain ⟨hc1, hf1⟩ := bcell hb1)
  have hB : Below w.heap.size w w1 := ((Below.refl _ _).alloc (Nat.le_refl _) _).trans (hb1.mono (by simp))
  exact bodyPost_ret (v := .tuple #[.agg #[.int .u32 19, .int .u32 5, .int .u32 32, .int .i64 3], .bool true]) (by simp [results, Tryz.results76, go_sem, hc1, hz]) rfl ⟨rfl, by repeat (first | (with_reducible exact hB) | (with_reducible refine Below.drew ?_) | (with_reducible refine bsl ?_) | (with_reducible refine btl ?_))⟩
theorem rof_23 (w : World) : Calls Tryz.prog 76 #[.int .u8 23] w fun e w' => e = .returned (.tuple #[.agg #[.int .u32 55, .int .u32 0, .int .u32 0, .int .i64 4], .bool true]) ∧ Below w.heap.size w w' := by
  have hc := rtwo_no 23 (by omega) (by omega)
  go_enter Tryz.func76, Tryz.ntmps76
  go_wp2_with (go_at_call 103; (refine (hc _).mono ?_); (rintro e w1 ⟨rfl, hb1⟩); have hz : w.heap.size < w1.heap.size := (by have := hb1.size; simp at this; omega); obtain ⟨hc1, hf1⟩ := bcell hb1)
  have hB : Below w.heap.size w w1 := ((Below.refl _ _).alloc (Nat.le_refl _) _).trans (hb1.mono (by simp))
  exact bodyPost_ret (v := .tuple #[.agg #[.int .u32 55, .int .u32 0, .int .u32 0, .int .i64 4], .bool true]) (by simp [results, Tryz.results76, go_sem, hc1, hz]) rfl ⟨rfl, by repeat (first | (with_reducible exact hB) | (with_reducible refine Below.drew ?_) | (with_reducible refine bsl ?_) | (with_reducible refine btl ?_))⟩
theorem rof_24 (w : World) : Calls Tryz.prog 76 #[.int .u8 24] w fun e w' => e = .returned (.tuple #[.agg #[.int .u32 3, .int .u32 4, .int .u32 0, .int .i64 2], .bool true]) ∧ Below w.heap.size w w' := by
  have hc := rtwo_no 24 (by omega) (by omega)
  go_enter Tryz.func76, Tryz.ntmps76
  go_wp2_with (go_at_call 103; (refine (hc _).mono ?_); (rintro e w1 ⟨rfl, hb1⟩); have hz : w.heap.size < w1.heap.size := (by have := hb1.size; simp at this; omega); obtain ⟨hc1, hf1⟩ := bcell hb1)
  have hB : Below w.heap.size w w1 := ((Below.refl _ _).alloc (Nat.le_refl _) _).trans (hb1.mono (by simp))
  exact bodyPost_ret (v := .tuple #[.agg #[.int .u32 3, .int .u32 4, .int .u32 0, .int .i64 2], .bool true]) (by simp [results, Tryz.results76, go_sem, hc1, hz]) rfl ⟨rfl, by repeat (first | (with_reducible exact hB) | (with_reducible refine Below.drew ?_) | (with_reducible refine bsl ?_) | (with_reducible refine btl ?_))⟩
theorem rof_25 (w : World) : Calls Tryz.prog 76 #[.int .u8 25] w fun e w' => e = .returned (.tuple #[.agg #[.int .u32 3, .int .u32 3, .int .u32 0, .int .i64 2], .bool true]) ∧ Below w.heap.size w w' := by
  have hc := rtwo_no 25 (by omega) (by omega)
  go_enter Tryz.func76, Tryz.ntmps76
  go_wp2_with (go_at_call 103; (refine (hc _).mono ?_); (rintro e w1 ⟨rfl, hb1⟩); have hz : w.heap.size < w1.heap.size := (by have := hb1.size; simp at this; omega); obtain ⟨hc1, hf1⟩ := bcell hb1)
  have hB : Below w.heap.size w w1 := ((Below.refl _ _).alloc (Nat.le_refl _) _).trans (hb1.mono (by simp))
  exact bodyPost_ret (v := .tuple #[.agg #[.int .u32 3, .int .u32 3, .int .u32 0, .int .i64 2], .bool true]) (by simp [results, Tryz.results76, go_sem, hc1, hz]) rfl ⟨rfl, by repeat (first | (with_reducible exact hB) | (with_reducible refine Below.drew ?_) | (with_reducible refine bsl ?_) | (with_reducible refine btl ?_))⟩
theorem rof_26 (w : World) : Calls Tryz.prog 76 #[.int .u8 26] w fun e w' => e = .returned (.tuple #[.agg #[.int .u32 35, .int .u32 0, .int .u32 0, .int .i64 5], .bool true]) ∧ Below w.heap.size w w' := by
  have hc := rtwo_no 26 (by omega) (by omega)
  go_enter Tryz.func76, Tryz.ntmps76
  go_wp2_with (go_at_call 103; (refine (hc _).mono ?_); (rintro e w1 ⟨rfl, hb1⟩); have hz : w.heap.size < w1.heap.size := (by have := hb1.size; simp at this; omega); obtain ⟨hc1, hf1⟩ := bcell hb1)
  have hB : Below w.heap.size w w1 := ((Below.refl _ _).alloc (Nat.le_refl _) _).trans (hb1.mono (by simp))
  exact bodyPost_ret (v := .tuple #[.agg #[.int .u32 35, .int .u32 0, .int .u32 0, .int .i64 5], .bool true]) (by simp [results, Tryz.results76, go_sem, hc1, hz]) rfl ⟨rfl, by repeat (first | (with_reducible exact hB) | (with_reducible refine Below.drew ?_) | (with_reducible refine bsl ?_) | (with_reducible refine btl ?_))⟩
theorem rof_27 (w : World) : Calls Tryz.prog 76 #[.int .u8 27] w fun e w' => e = .returned (.tuple #[.agg #[.int .u32 35, .int .u32 3, .int .u32 0, .int .i64 5], .bool true]) ∧ Below w.heap.size w w' := by
  have hc := rtwo_no 27 (by omega) (by omega)
  go_enter Tryz.func76, Tryz.ntmps76
  go_wp2_with (go_at_call 103; (refine (hc _).mono ?_); (rintro e w1 ⟨rfl, hb1⟩); have hz : w.heap.size < w1.heap.size := (by have := hb1.size; simp at this; omega); obtain ⟨hc1, hf1⟩ := bcell hb1)
  have hB : Below w.heap.size w w1 := ((Below.refl _ _).alloc (Nat.le_refl _) _).trans (hb1.mono (by simp))
  exact bodyPost_ret (v := .tuple #[.agg #[.int .u32 35, .int .u32 3, .int .u32 0, .int .i64 5], .bool true]) (by simp [results, Tryz.results76, go_sem, hc1, hz]) rfl ⟨rfl, by repeat (first | (with_reducible exact hB) | (with_reducible refine Below.drew ?_) | (with_reducible refine bsl ?_) | (with_reducible refine btl ?_))⟩
theorem rof_28 (w : World) : Calls Tryz.prog 76 #[.int .u8 28] w fun e w' => e = .returned (.tuple #[.agg #[.int .u32 99, .int .u32 0, .int .u32 0, .int .i64 6], .bool true]) ∧ Below w.heap.size w w' := by
  have hc := rtwo_no 28 (by omega) (by omega)
  go_enter Tryz.func76, Tryz.ntmps76
  go_wp2_with (go_at_call 103; (refine (hc _).mono ?_); (rintro e w1 ⟨rfl, hb1⟩); have hz : w.heap.size < w1.heap.size := (by have := hb1.size; simp at this; omega); obtain ⟨hc1, hf1⟩ := bcell hb1)
  have hB : Below w.heap.size w w1 := ((Below.refl _ _).alloc (Nat.le_refl _) _).trans (hb1.mono (by simp))
  exact bodyPost_ret (v := .tuple #[.agg #[.int .u32 99, .int .u32 0, .int .u32 0, .int .i64 6], .bool true]) (by simp [results, Tryz.results76, go_sem, hc1, hz]) rfl ⟨rfl, by repeat (first | (with_reducible exact hB) | (with_reducible refine Below.drew ?_) | (with_reducible refine bsl ?_) | (with_reducible refine btl ?_))⟩
theorem rof_29 (w : World) : Calls Tryz.prog 76 #[.int .u8 29] w fun e w' => e = .returned (.tuple #[.agg #[.int .u32 99, .int .u32 1, .int .u32 0, .int .i64 6], .bool true]) ∧ Below w.heap.size w w' := by
  have hc := rtwo_no 29 (by omega) (by omega)
  go_enter Tryz.func76, Tryz.ntmps76
  go_wp2_with (go_at_call 103; (refine (hc _).mono ?_); (rintro e w1 ⟨rfl, hb1⟩); have hz : w.heap.size < w1.heap.size := (by have := hb1.size; simp at this; omega); obtain ⟨hc1, hf1⟩ := bcell hb1)
  have hB : Below w.heap.size w w1 := ((Below.refl _ _).alloc (Nat.le_refl _) _).trans (hb1.mono (by simp))
  exact bodyPost_ret (v := .tuple #[.agg #[.int .u32 99, .int .u32 1, .int .u32 0, .int .i64 6], .bool true]) (by simp [results, Tryz.results76, go_sem, hc1, hz]) rfl ⟨rfl, by repeat (first | (with_reducible exact hB) | (with_reducible refine Below.drew ?_) | (with_reducible refine bsl ?_) | (with_reducible refine btl ?_))⟩
theorem rof_30 (w : World) : Calls Tryz.prog 76 #[.int .u8 30] w fun e w' => e = .returned (.tuple #[.agg #[.int .u32 99, .int .u32 6, .int .u32 0, .int .i64 6], .bool true]) ∧ Below w.heap.size w w' := by
  have hc := rtwo_no 30 (by omega) (by omega)
  go_enter Tryz.func76, Tryz.ntmps76
  go_wp2_with (go_at_call 103; (refine (hc _).mono ?_); (rintro e w1 ⟨rfl, hb1⟩); have hz : w.heap.size < w1.heap.size := (by have := hb1.size; simp at this; omega); obtain ⟨hc1, hf1⟩ := bcell hb1)
  have hB : Below w.heap.size w w1 := ((Below.refl _ _).alloc (Nat.le_refl _) _).trans (hb1.mono (by simp))
  exact bodyPost_ret (v := .tuple #[.agg #[.int .u32 99, .int .u32 6, .int .u32 0, .int .i64 6], .bool true]) (by simp [results, Tryz.results76, go_sem, hc1, hz]) rfl ⟨rfl, by repeat (first | (with_reducible exact hB) | (with_reducible refine Below.drew ?_) | (with_reducible refine bsl ?_) | (with_reducible refine btl ?_))⟩
theorem rof_31 (w : World) : Calls Tryz.prog 76 #[.int .u8 31] w fun e w' => e = .returned (.tuple #[.agg #[.int .u32 99, .int .u32 7, .int .u32 0, .int .i64 6], .bool true]) ∧ Below w.heap.size w w' := by
  have hc := rtwo_no 31 (by omega) (by omega)
  go_enter Tryz.func76, Tryz.ntmps76
  go_wp2_with (go_at_call 103; (refine (hc _).mono ?_); (rintro e w1 ⟨rfl, hb1⟩); have hz : w.heap.size < w1.heap.size := (by have := hb1.size; simp at this; omega); obtain ⟨hc1, hf1⟩ := bcell hb1)
  have hB : Below w.heap.size w w1 := ((Below.refl _ _).alloc (Nat.le_refl _) _).trans (hb1.mono (by simp))
  exact bodyPost_ret (v := .tuple #[.agg #[.int .u32 99, .int .u32 7, .int .u32 0, .int .i64 6], .bool true]) (by simp [results, Tryz.results76, go_sem, hc1, hz]) rfl ⟨rfl, by repeat (first | (with_reducible exact hB) | (with_reducible refine Below.drew ?_) | (with_reducible refine bsl ?_) | (with_reducible refine btl ?_))⟩
theorem rof_32 (w : World) : Calls Tryz.prog 76 #[.int .u8 32] w fun e w' => e = .returned (.tuple #[.agg #[.int .u32 111, .int .u32 0, .int .u32 0, .int .i64 7], .bool true]) ∧ Below w.heap.size w w' := by
  have hc := rtwo_no 32 (by omega) (by omega)
  go_enter Tryz.func76, Tryz.ntmps76
  go_wp2_with (go_at_call 103; (refine (hc _).mono ?_); (rintro e w1 ⟨rfl, hb1⟩); have hz : w.heap.size < w1.heap.size := (by have := hb1.size; simp at this; omega); obtain ⟨hc1, hf1⟩ := bcell hb1)
  have hB : Below w.heap.size w w1 := ((Below.refl _ _).alloc (Nat.le_refl _) _).trans (hb1.mono (by simp))
  exact bodyPost_ret (v := .tuple #[.agg #[.int .u32 111, .int .u32 0, .int .u32 0, .int .i64 7], .bool true]) (by simp [results, Tryz.results76, go_sem, hc1, hz]) rfl ⟨rfl, by repeat (first | (with_reducible exact hB) | (with_reducible refine Below.drew ?_) | (with_reducible refine bsl ?_) | (with_reducible refine btl ?_))⟩
theorem rof_33 (w : World) : Calls Tryz.prog 76 #[.int .u8 33] w fun e w' => e = .returned (.tuple #[.agg #[.int .u32 103, .int .u32 0, .int .u32 0, .int .i64 2], .bool true]) ∧ Below w.heap.size w w' := by
  have hc := rtwo_no 33 (by omega) (by omega)
  go_enter Tryz.func76, Tryz.ntmps76
  go_wp2_with (go_at_call 103; (refine (hc _).mono ?_); (rintro e w1 ⟨rfl, hb1⟩); have hz : w.heap.size < w1.heap.size := (by have := hb1.size; simp at this; omega); obtain ⟨hc1, hf1⟩ := bcell hb1)
  have hB : Below w.heap.size w w1 := ((Below.refl _ _).alloc (Nat.le_refl _) _).trans (hb1.mono (by simp))
  exact bodyPost_ret (v := .tuple #[.agg #[.int .u32 103, .int .u32 0, .int .u32 0, .int .i64 2], .bool true]) (by simp [results, Tryz.results76, go_sem, hc1, hz]) rfl ⟨rfl, by repeat (first | (with_reducible exact hB) | (with_reducible refine Below.drew ?_) | (with_reducible refine bsl ?_) | (with_reducible refine btl ?_))⟩
theorem rof_34 (w : World) : Calls Tryz.prog 76 #[.int .u8 34] w fun e w' => e = .returned (.tuple #[.agg #[.int .u32 115, .int .u32 0, .int .u32 0, .int .i64 8], .bool true]) ∧ Below w.heap.size w w' := by
  have hc := rtwo_no 34 (by omega) (by omega)
  go_enter Tryz.func76, Tryz.ntmps76
  go_wp2_with (go_at_call 103; (refine (hc _).mono ?_); (rintro e w1 ⟨rfl, hb1⟩); have hz : w.heap.size < w1.heap.size := (by have := hb1.size; simp at this; omega); obtain ⟨hc1, hf1⟩ := bcell hb1)
  have hB : Below w.heap.size w w1 := ((Below.refl _ _).alloc (Nat.le_refl _) _).trans (hb1.mono (by simp))
  exact bodyPost_ret (v := .tuple #[.agg #[.int .u32 115, .int .u32 0, .int .u32 0, .int .i64 8], .bool true]) (by simp [results, Tryz.results76, go_sem, hc1, hz]) rfl ⟨rfl, by repeat (first | (with_reducible exact hB) | (with_reducible refine Below.drew ?_) | (with_reducible refine bsl ?_) | (with_reducible refine btl ?_))⟩
theorem rof_no (k : Nat) (hk : k < 256) (h : k = 0 ∨ 34 < k) (w : World) : Calls Tryz.prog 76 #[.int .u8 k] w fun e w' => e = .returned (.tuple #[.agg #[.int .u32 0, .int .u32 0, .int .u32 0, .int .i64 0], .bool false]) ∧ Below w.heap.size w w' := by
  have hc := rtwo_no k hk (by omega)
  have e15 : ((k : Int) == 15) = false := by rw [beq_eq_false_iff_ne]; omega
  have e16 : ((k : Int) == 16) = false := by rw [beq_eq_false_iff_ne]; omega
  have e17 : ((k : Int) == 17) = false := by rw [beq_eq_false_iff_ne]; omega
  have e18 : ((k : Int) == 18) = false := by rw [beq_eq_false_iff_ne]; omega
  have e19 : ((k : Int) == 19) = false := by rw [beq_eq_false_iff_ne]; omega
  have e20 : ((k : Int) == 20) = false := by rw [beq_eq_false_iff_ne]; omega
  have e21 : ((k : Int) == 21) = false := by rw [beq_eq_false_iff_ne]; omega
  have e22 : ((k : Int) == 22) = false := by rw [beq_eq_false_iff_ne]; omega
  have e23 : ((k : Int) == 23) = false := by rw [beq_eq_false_iff_ne]; omega
  have e24 : ((k : Int) == 24) = false := by rw [beq_eq_false_iff_ne]; omega
  have e25 : ((k : Int) == 25) = false := by rw [beq_eq_false_iff_ne]; omega
  have e26 : ((k : Int) == 26) = false := by rw [beq_eq_false_iff_ne]; omega
  have e27 : ((k : Int) == 27) = false := by rw [beq_eq_false_iff_ne]; omega
  have e28 : ((k : Int) == 28) = false := by rw [beq_eq_false_iff_ne]; omega
  have e29 : ((k : Int) == 29) = false := by rw [beq_eq_false_iff_ne]; omega
  have e30 : ((k : Int) == 30) = false := by rw [beq_eq_false_iff_ne]; omega
  have e31 : ((k : Int) == 31) = false := by rw [beq_eq_false_iff_ne]; omega
  have e32 : ((k : Int) == 32) = false := by rw [beq_eq_false_iff_ne]; omega
  have e33 : ((k : Int) == 33) = false := by rw [beq_eq_false_iff_ne]; omega
  have e34 : ((k : Int) == 34) = false := by rw [beq_eq_false_iff_ne]; omega
  clear h
  go_enter Tryz.func76, Tryz.ntmps76
  go_wp2_with (go_at_call 103; (refine (hc _).mono ?_); (rintro e w1 ⟨rfl, hb1⟩); have hz : w.heap.size < w1.heap.size := (by have := hb1.size; simp at this; omega); obtain ⟨hc1, hf1⟩ := bcell hb1)
  have hB : Below w.heap.size w w1 := ((Below.refl _ _).alloc (Nat.le_refl _) _).trans (hb1.mono (by simp))
  exact bodyPost_ret (v := .tuple #[.agg #[.int .u32 0, .int .u32 0, .int .u32 0, .int .i64 0], .bool false]) (by simp [results, Tryz.results76, go_sem, hc1, hz]) rfl ⟨rfl, by repeat (first | (with_reducible exact hB) | (with_reducible refine Below.drew ?_) | (with_reducible refine bsl ?_) | (with_reducible refine btl ?_))⟩
end Go.Proofs.YtfaacmcnefbgcaaGreatDoor
