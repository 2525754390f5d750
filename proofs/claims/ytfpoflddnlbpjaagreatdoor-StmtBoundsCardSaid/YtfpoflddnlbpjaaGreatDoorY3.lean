/- Leaves of needs.met. -/
import Derived.Test.YtfpoflddnlbpjaaGreatDoorZm
namespace Go.Proofs.YtfpoflddnlbpjaaGreatDoor
open Go.ChangeShapes Go.WideShapes Go.ChangeAt Go.RowKit
set_option linter.unusedVariables false
set_option maxRecDepth 100000 in
set_option maxHeartbeats 8000000 in
theorem met_2 {a0 a1 k ne na nb nl ce ca cb cl : Nat} {lo hi ar : Int} {nm fr : List UInt8} {me ma mb ml : Option Addr} {b5 b6 b7 mx mu bd b8 el b9 : Bool} {w : World} (hT : Tb w) (hA1 : ∀ (w : World), Tb w → Calls Tryz.prog 156 #[.int .u8 (a0 : Int), .string (str nm)] w fun e w' => e = .returned (.bool true) ∧ Below w.heap.size w w') (hA2 : ∀ (w : World), Tb w → Calls Tryz.prog 156 #[.int .u8 (a1 : Int), .string (str fr)] w fun e w' => e = .returned (.bool true) ∧ Below w.heap.size w w') :
    Calls Tryz.prog 126 #[.agg #[.int .u8 (a0 : Int), .int .u8 (a1 : Int), .bool false, .bool mx, .int .i64 lo, .int .i64 hi, .int .i64 ar, .bool bd, .bool el], .agg #[.int .u8 (k : Int), .string (str nm), .string (str fr), .bool true, .bool mu, .slice me ne ce, .slice ma na ca, .slice mb nb cb, .slice ml nl cl]] w fun e w' => e = .returned (.bool false) ∧ Below w.heap.size w w' := by
  obtain ⟨W, hW⟩ : ∃ W, (w.alloc (.cells #[.int .u8 (a0 : Int), .int .u8 (a1 : Int), .bool false, .bool mx, .int .i64 lo, .int .i64 hi, .int .i64 ar, .bool bd, .bool el] 185)).alloc (.cells #[.int .u8 (k : Int), .string (str nm), .string (str fr), .bool true, .bool mu, .slice me ne ce, .slice ma na ca, .slice mb nb cb, .slice ml nl cl] 44) = W := ⟨_, rfl⟩
  have hBW : Below w.heap.size w W := by rw [← hW]; exact aB (aB (Below.refl _ _) _) _
  have hTW := hT.of hBW
  have hR0 : rowG #[.int .u8 (a0 : Int), .int .u8 (a1 : Int), .bool false, .bool mx, .int .i64 lo, .int .i64 hi, .int .i64 ar, .bool bd, .bool el] W w.heap.size := by rw [← hW]; exact rowG_alloc (rowG_at _ _ _ _ rfl) _
  have hR1 : rowG #[.int .u8 (k : Int), .string (str nm), .string (str fr), .bool true, .bool mu, .slice me ne ce, .slice ma na ca, .slice mb nb cb, .slice ml nl cl] W (w.heap.size + 1) := by rw [← hW]; exact rowG_at _ _ _ _ (by simp)
  obtain ⟨w00, -, -, -, -, -, -, -, -⟩ := nine hR0
  obtain ⟨-, w11, -, -, -, -, -, -, -⟩ := nine hR1
  clear hT
  have hun : undef = Value.tuple #[] := rfl
  go_enter Tryz.func126, Tryz.ntmps126
  go_wp2_with first
    | (go_at_call 156; ((generalize Value.agg #[.int .u8 (a0 : Int), .int .u8 (a1 : Int), .bool false, .bool mx, .int .i64 lo, .int .i64 hi, .int .i64 ar, .bool bd, .bool el] = V0); (generalize Value.agg #[.int .u8 (k : Int), .string (str nm), .string (str fr), .bool true, .bool mu, .slice me ne ce, .slice ma na ca, .slice mb nb cb, .slice ml nl cl] = V1); (clear hW); (with_reducible refine (hA1 _ hTW).mono ?_); (rintro e w1 ⟨rfl, hb1⟩); (have hT1 := hTW.of hb1); (have hS0 := rowG_b hR0 hb1); (have hS1 := rowG_b hR1 hb1); (clear hR0 hR1 w00 w11 hA1); (obtain ⟨-, x01, -, -, -, -, -, -, -⟩ := nine hS0); (obtain ⟨-, -, x12, -, -, -, -, -, -⟩ := nine hS1)))
    | (go_at_call 156; ((with_reducible refine (hA2 _ hT1).mono ?_); (rintro e w2 ⟨rfl, hb2⟩); (have hU0 := rowG_b hS0 hb2); (have hU1 := rowG_b hS1 hb2); (clear hS0 hS1 x01 x12 hA2); (obtain ⟨-, -, y02, -, -, -, -, -, -⟩ := nine hU0); (obtain ⟨-, -, -, y13, -, -, -, -, -⟩ := nine hU1)))
  go_ret
  exact ⟨rfl, (hBW.trans (hb1.mono hBW.size)).trans (hb2.mono (hBW.trans (hb1.mono hBW.size)).size)⟩
set_option maxRecDepth 100000 in
set_option maxHeartbeats 8000000 in
theorem met_6 {a0 a1 k ne na nb nl ce ca cb cl : Nat} {lo hi ar : Int} {nm fr : List UInt8} {me ma mb ml : Option Addr} {sec mu bd b8 el b9 : Bool} {w : World} (hT : Tb w) (hA1 : ∀ (w : World), Tb w → Calls Tryz.prog 156 #[.int .u8 (a0 : Int), .string (str nm)] w fun e w' => e = .returned (.bool true) ∧ Below w.heap.size w w') (hA2 : ∀ (w : World), Tb w → Calls Tryz.prog 156 #[.int .u8 (a1 : Int), .string (str fr)] w fun e w' => e = .returned (.bool true) ∧ Below w.heap.size w w') (h5 : decide (lo ≤ (ne : Int)) = true) (h6 : decide ((ne : Int) ≤ hi) = true) (h7 : decide ((na : Int) ≤ ar) = false) :
    Calls Tryz.prog 126 #[.agg #[.int .u8 (a0 : Int), .int .u8 (a1 : Int), .bool true, .bool true, .int .i64 lo, .int .i64 hi, .int .i64 ar, .bool bd, .bool el], .agg #[.int .u8 (k : Int), .string (str nm), .string (str fr), .bool sec, .bool mu, .slice me ne ce, .slice ma na ca, .slice mb nb cb, .slice ml nl cl]] w fun e w' => e = .returned (.bool false) ∧ Below w.heap.size w w' := by
  obtain ⟨W, hW⟩ : ∃ W, (w.alloc (.cells #[.int .u8 (a0 : Int), .int .u8 (a1 : Int), .bool true, .bool true, .int .i64 lo, .int .i64 hi, .int .i64 ar, .bool bd, .bool el] 185)).alloc (.cells #[.int .u8 (k : Int), .string (str nm), .string (str fr), .bool sec, .bool mu, .slice me ne ce, .slice ma na ca, .slice mb nb cb, .slice ml nl cl] 44) = W := ⟨_, rfl⟩
  have hBW : Below w.heap.size w W := by rw [← hW]; exact aB (aB (Below.refl _ _) _) _
  have hTW := hT.of hBW
  have hR0 : rowG #[.int .u8 (a0 : Int), .int .u8 (a1 : Int), .bool true, .bool true, .int .i64 lo, .int .i64 hi, .int .i64 ar, .bool bd, .bool el] W w.heap.size := by rw [← hW]; exact rowG_alloc (rowG_at _ _ _ _ rfl) _
  have hR1 : rowG #[.int .u8 (k : Int), .string (str nm), .string (str fr), .bool sec, .bool mu, .slice me ne ce, .slice ma na ca, .slice mb nb cb, .slice ml nl cl] W (w.heap.size + 1) := by rw [← hW]; exact rowG_at _ _ _ _ (by simp)
  obtain ⟨w00, -, -, -, -, -, -, -, -⟩ := nine hR0
  obtain ⟨-, w11, -, -, -, -, -, -, -⟩ := nine hR1
  clear hT
  have hun : undef = Value.tuple #[] := rfl
  go_enter Tryz.func126, Tryz.ntmps126
  go_wp2_with first
    | (go_at_call 156; ((generalize Value.agg #[.int .u8 (a0 : Int), .int .u8 (a1 : Int), .bool true, .bool true, .int .i64 lo, .int .i64 hi, .int .i64 ar, .bool bd, .bool el] = V0); (generalize Value.agg #[.int .u8 (k : Int), .string (str nm), .string (str fr), .bool sec, .bool mu, .slice me ne ce, .slice ma na ca, .slice mb nb cb, .slice ml nl cl] = V1); (clear hW); (with_reducible refine (hA1 _ hTW).mono ?_); (rintro e w1 ⟨rfl, hb1⟩); (have hT1 := hTW.of hb1); (have hS0 := rowG_b hR0 hb1); (have hS1 := rowG_b hR1 hb1); (clear hR0 hR1 w00 w11 hA1); (obtain ⟨-, x01, -, -, -, -, -, -, -⟩ := nine hS0); (obtain ⟨-, -, x12, -, -, -, -, -, -⟩ := nine hS1)))
    | (go_at_call 156; ((with_reducible refine (hA2 _ hT1).mono ?_); (rintro e w2 ⟨rfl, hb2⟩); (have hU0 := rowG_b hS0 hb2); (have hU1 := rowG_b hS1 hb2); (clear hS0 hS1 x01 x12 hA2); (obtain ⟨-, -, y02, y03, y04, y05, y06, -, -⟩ := nine hU0); (obtain ⟨-, -, -, y13, y14, y15, y16, -, -⟩ := nine hU1)))
  go_ret
  exact ⟨rfl, (hBW.trans (hb1.mono hBW.size)).trans (hb2.mono (hBW.trans (hb1.mono hBW.size)).size)⟩
set_option maxRecDepth 100000 in
set_option maxHeartbeats 8000000 in
theorem met_10 {a0 a1 k ne na nb nl ce ca cb cl : Nat} {lo hi ar : Int} {nm fr : List UInt8} {me ma mb ml : Option Addr} {sec mu b8 : Bool} {w : World} (hT : Tb w) (hA1 : ∀ (w : World), Tb w → Calls Tryz.prog 156 #[.int .u8 (a0 : Int), .string (str nm)] w fun e w' => e = .returned (.bool true) ∧ Below w.heap.size w w') (hA2 : ∀ (w : World), Tb w → Calls Tryz.prog 156 #[.int .u8 (a1 : Int), .string (str fr)] w fun e w' => e = .returned (.bool true) ∧ Below w.heap.size w w') (h5 : decide (lo ≤ (ne : Int)) = true) (h6 : decide ((ne : Int) ≤ hi) = true) (h7 : decide ((na : Int) ≤ ar) = true) (h9 : ((nl : Int) == 0) = true) :
    Calls Tryz.prog 126 #[.agg #[.int .u8 (a0 : Int), .int .u8 (a1 : Int), .bool true, .bool true, .int .i64 lo, .int .i64 hi, .int .i64 ar, .bool true, .bool false], .agg #[.int .u8 (k : Int), .string (str nm), .string (str fr), .bool sec, .bool mu, .slice me ne ce, .slice ma na ca, .slice mb nb cb, .slice ml nl cl]] w fun e w' => e = .returned (.bool true) ∧ Below w.heap.size w w' := by
  obtain ⟨W, hW⟩ : ∃ W, (w.alloc (.cells #[.int .u8 (a0 : Int), .int .u8 (a1 : Int), .bool true, .bool true, .int .i64 lo, .int .i64 hi, .int .i64 ar, .bool true, .bool false] 185)).alloc (.cells #[.int .u8 (k : Int), .string (str nm), .string (str fr), .bool sec, .bool mu, .slice me ne ce, .slice ma na ca, .slice mb nb cb, .slice ml nl cl] 44) = W := ⟨_, rfl⟩
  have hBW : Below w.heap.size w W := by rw [← hW]; exact aB (aB (Below.refl _ _) _) _
  have hTW := hT.of hBW
  have hR0 : rowG #[.int .u8 (a0 : Int), .int .u8 (a1 : Int), .bool true, .bool true, .int .i64 lo, .int .i64 hi, .int .i64 ar, .bool true, .bool false] W w.heap.size := by rw [← hW]; exact rowG_alloc (rowG_at _ _ _ _ rfl) _
  have hR1 : rowG #[.int .u8 (k : Int), .string (str nm), .string (str fr), .bool sec, .bool mu, .slice me ne ce, .slice ma na ca, .slice mb nb cb, .slice ml nl cl] W (w.heap.size + 1) := by rw [← hW]; exact rowG_at _ _ _ _ (by simp)
  obtain ⟨w00, -, -, -, -, -, -, -, -⟩ := nine hR0
  obtain ⟨-, w11, -, -, -, -, -, -, -⟩ := nine hR1
  clear hT
  have hun : undef = Value.tuple #[] := rfl
  go_enter Tryz.func126, Tryz.ntmps126
  go_wp2_with first
    | (go_at_call 156; ((generalize Value.agg #[.int .u8 (a0 : Int), .int .u8 (a1 : Int), .bool true, .bool true, .int .i64 lo, .int .i64 hi, .int .i64 ar, .bool true, .bool false] = V0); (generalize Value.agg #[.int .u8 (k : Int), .string (str nm), .string (str fr), .bool sec, .bool mu, .slice me ne ce, .slice ma na ca, .slice mb nb cb, .slice ml nl cl] = V1); (clear hW); (with_reducible refine (hA1 _ hTW).mono ?_); (rintro e w1 ⟨rfl, hb1⟩); (have hT1 := hTW.of hb1); (have hS0 := rowG_b hR0 hb1); (have hS1 := rowG_b hR1 hb1); (clear hR0 hR1 w00 w11 hA1); (obtain ⟨-, x01, -, -, -, -, -, -, -⟩ := nine hS0); (obtain ⟨-, -, x12, -, -, -, -, -, -⟩ := nine hS1)))
    | (go_at_call 156; ((with_reducible refine (hA2 _ hT1).mono ?_); (rintro e w2 ⟨rfl, hb2⟩); (have hU0 := rowG_b hS0 hb2); (have hU1 := rowG_b hS1 hb2); (clear hS0 hS1 x01 x12 hA2); (obtain ⟨-, -, y02, y03, y04, y05, y06, y07, y08⟩ := nine hU0); (obtain ⟨-, -, -, y13, y14, y15, y16, y17, y18⟩ := nine hU1)))
  go_ret
  exact ⟨rfl, (hBW.trans (hb1.mono hBW.size)).trans (hb2.mono (hBW.trans (hb1.mono hBW.size)).size)⟩
set_option maxRecDepth 100000 in
set_option maxHeartbeats 8000000 in
theorem met_14 {a0 a1 k ne na nb nl ce ca cb cl : Nat} {lo hi ar : Int} {nm fr : List UInt8} {me ma mb ml : Option Addr} {b6 b7 sec bd b8 el b9 : Bool} {w : World} (hT : Tb w) (hA1 : ∀ (w : World), Tb w → Calls Tryz.prog 156 #[.int .u8 (a0 : Int), .string (str nm)] w fun e w' => e = .returned (.bool true) ∧ Below w.heap.size w w') (hA2 : ∀ (w : World), Tb w → Calls Tryz.prog 156 #[.int .u8 (a1 : Int), .string (str fr)] w fun e w' => e = .returned (.bool true) ∧ Below w.heap.size w w') (h5 : decide (lo ≤ (ne : Int)) = false) :
    Calls Tryz.prog 126 #[.agg #[.int .u8 (a0 : Int), .int .u8 (a1 : Int), .bool true, .bool false, .int .i64 lo, .int .i64 hi, .int .i64 ar, .bool bd, .bool el], .agg #[.int .u8 (k : Int), .string (str nm), .string (str fr), .bool sec, .bool false, .slice me ne ce, .slice ma na ca, .slice mb nb cb, .slice ml nl cl]] w fun e w' => e = .returned (.bool false) ∧ Below w.heap.size w w' := by
  obtain ⟨W, hW⟩ : ∃ W, (w.alloc (.cells #[.int .u8 (a0 : Int), .int .u8 (a1 : Int), .bool true, .bool false, .int .i64 lo, .int .i64 hi, .int .i64 ar, .bool bd, .bool el] 185)).alloc (.cells #[.int .u8 (k : Int), .string (str nm), .string (str fr), .bool sec, .bool false, .slice me ne ce, .slice ma na ca, .slice mb nb cb, .slice ml nl cl] 44) = W := ⟨_, rfl⟩
  have hBW : Below w.heap.size w W := by rw [← hW]; exact aB (aB (Below.refl _ _) _) _
  have hTW := hT.of hBW
  have hR0 : rowG #[.int .u8 (a0 : Int), .int .u8 (a1 : Int), .bool true, .bool false, .int .i64 lo, .int .i64 hi, .int .i64 ar, .bool bd, .bool el] W w.heap.size := by rw [← hW]; exact rowG_alloc (rowG_at _ _ _ _ rfl) _
  have hR1 : rowG #[.int .u8 (k : Int), .string (str nm), .string (str fr), .bool sec, .bool false, .slice me ne ce, .slice ma na ca, .slice mb nb cb, .slice ml nl cl] W (w.heap.size + 1) := by rw [← hW]; exact rowG_at _ _ _ _ (by simp)
  obtain ⟨w00, -, -, -, -, -, -, -, -⟩ := nine hR0
  obtain ⟨-, w11, -, -, -, -, -, -, -⟩ := nine hR1
  clear hT
  have hun : undef = Value.tuple #[] := rfl
  go_enter Tryz.func126, Tryz.ntmps126
  go_wp2_with first
    | (go_at_call 156; ((generalize Value.agg #[.int .u8 (a0 : Int), .int .u8 (a1 : Int), .bool true, .bool false, .int .i64 lo, .int .i64 hi, .int .i64 ar, .bool bd, .bool el] = V0); (generalize Value.agg #[.int .u8 (k : Int), .string (str nm), .string (str fr), .bool sec, .bool false, .slice me ne ce, .slice ma na ca, .slice mb nb cb, .slice ml nl cl] = V1); (clear hW); (with_reducible refine (hA1 _ hTW).mono ?_); (rintro e w1 ⟨rfl, hb1⟩); (have hT1 := hTW.of hb1); (have hS0 := rowG_b hR0 hb1); (have hS1 := rowG_b hR1 hb1); (clear hR0 hR1 w00 w11 hA1); (obtain ⟨-, x01, -, -, -, -, -, -, -⟩ := nine hS0); (obtain ⟨-, -, x12, -, -, -, -, -, -⟩ := nine hS1)))
    | (go_at_call 156; ((with_reducible refine (hA2 _ hT1).mono ?_); (rintro e w2 ⟨rfl, hb2⟩); (have hU0 := rowG_b hS0 hb2); (have hU1 := rowG_b hS1 hb2); (clear hS0 hS1 x01 x12 hA2); (obtain ⟨-, -, y02, y03, y04, -, -, -, -⟩ := nine hU0); (obtain ⟨-, -, -, y13, y14, y15, -, -, -⟩ := nine hU1)))
  go_ret
  exact ⟨rfl, (hBW.trans (hb1.mono hBW.size)).trans (hb2.mono (hBW.trans (hb1.mono hBW.size)).size)⟩
set_option maxRecDepth 100000 in
set_option maxHeartbeats 8000000 in
theorem met_18 {a0 a1 k ne na nb nl ce ca cb cl : Nat} {lo hi ar : Int} {nm fr : List UInt8} {me ma mb ml : Option Addr} {sec b8 : Bool} {w : World} (hT : Tb w) (hA1 : ∀ (w : World), Tb w → Calls Tryz.prog 156 #[.int .u8 (a0 : Int), .string (str nm)] w fun e w' => e = .returned (.bool true) ∧ Below w.heap.size w w') (hA2 : ∀ (w : World), Tb w → Calls Tryz.prog 156 #[.int .u8 (a1 : Int), .string (str fr)] w fun e w' => e = .returned (.bool true) ∧ Below w.heap.size w w') (h5 : decide (lo ≤ (ne : Int)) = true) (h6 : decide ((ne : Int) ≤ hi) = true) (h7 : decide ((na : Int) ≤ ar) = true) (h9 : ((nl : Int) == 0) = false) :
    Calls Tryz.prog 126 #[.agg #[.int .u8 (a0 : Int), .int .u8 (a1 : Int), .bool true, .bool false, .int .i64 lo, .int .i64 hi, .int .i64 ar, .bool true, .bool false], .agg #[.int .u8 (k : Int), .string (str nm), .string (str fr), .bool sec, .bool false, .slice me ne ce, .slice ma na ca, .slice mb nb cb, .slice ml nl cl]] w fun e w' => e = .returned (.bool false) ∧ Below w.heap.size w w' := by
  obtain ⟨W, hW⟩ : ∃ W, (w.alloc (.cells #[.int .u8 (a0 : Int), .int .u8 (a1 : Int), .bool true, .bool false, .int .i64 lo, .int .i64 hi, .int .i64 ar, .bool true, .bool false] 185)).alloc (.cells #[.int .u8 (k : Int), .string (str nm), .string (str fr), .bool sec, .bool false, .slice me ne ce, .slice ma na ca, .slice mb nb cb, .slice ml nl cl] 44) = W := ⟨_, rfl⟩
  have hBW : Below w.heap.size w W := by rw [← hW]; exact aB (aB (Below.refl _ _) _) _
  have hTW := hT.of hBW
  have hR0 : rowG #[.int .u8 (a0 : Int), .int .u8 (a1 : Int), .bool true, .bool false, .int .i64 lo, .int .i64 hi, .int .i64 ar, .bool true, .bool false] W w.heap.size := by rw [← hW]; exact rowG_alloc (rowG_at _ _ _ _ rfl) _
  have hR1 : rowG #[.int .u8 (k : Int), .string (str nm), .string (str fr), .bool sec, .bool false, .slice me ne ce, .slice ma na ca, .slice mb nb cb, .slice ml nl cl] W (w.heap.size + 1) := by rw [← hW]; exact rowG_at _ _ _ _ (by simp)
  obtain ⟨w00, -, -, -, -, -, -, -, -⟩ := nine hR0
  obtain ⟨-, w11, -, -, -, -, -, -, -⟩ := nine hR1
  clear hT
  have hun : undef = Value.tuple #[] := rfl
  go_enter Tryz.func126, Tryz.ntmps126
  go_wp2_with first
    | (go_at_call 156; ((generalize Value.agg #[.int .u8 (a0 : Int), .int .u8 (a1 : Int), .bool true, .bool false, .int .i64 lo, .int .i64 hi, .int .i64 ar, .bool true, .bool false] = V0); (generalize Value.agg #[.int .u8 (k : Int), .string (str nm), .string (str fr), .bool sec, .bool false, .slice me ne ce, .slice ma na ca, .slice mb nb cb, .slice ml nl cl] = V1); (clear hW); (with_reducible refine (hA1 _ hTW).mono ?_); (rintro e w1 ⟨rfl, hb1⟩); (have hT1 := hTW.of hb1); (have hS0 := rowG_b hR0 hb1); (have hS1 := rowG_b hR1 hb1); (clear hR0 hR1 w00 w11 hA1); (obtain ⟨-, x01, -, -, -, -, -, -, -⟩ := nine hS0); (obtain ⟨-, -, x12, -, -, -, -, -, -⟩ := nine hS1)))
    | (go_at_call 156; ((with_reducible refine (hA2 _ hT1).mono ?_); (rintro e w2 ⟨rfl, hb2⟩); (have hU0 := rowG_b hS0 hb2); (have hU1 := rowG_b hS1 hb2); (clear hS0 hS1 x01 x12 hA2); (obtain ⟨-, -, y02, y03, y04, y05, y06, y07, y08⟩ := nine hU0); (obtain ⟨-, -, -, y13, y14, y15, y16, y17, y18⟩ := nine hU1)))
  go_ret
  exact ⟨rfl, (hBW.trans (hb1.mono hBW.size)).trans (hb2.mono (hBW.trans (hb1.mono hBW.size)).size)⟩
set_option maxRecDepth 100000 in
set_option maxHeartbeats 8000000 in
theorem met_22 {a0 a1 k ne na nb nl ce ca cb cl : Nat} {lo hi ar : Int} {nm fr : List UInt8} {me ma mb ml : Option Addr} {sec b9 : Bool} {w : World} (hT : Tb w) (hA1 : ∀ (w : World), Tb w → Calls Tryz.prog 156 #[.int .u8 (a0 : Int), .string (str nm)] w fun e w' => e = .returned (.bool true) ∧ Below w.heap.size w w') (hA2 : ∀ (w : World), Tb w → Calls Tryz.prog 156 #[.int .u8 (a1 : Int), .string (str fr)] w fun e w' => e = .returned (.bool true) ∧ Below w.heap.size w w') (h5 : decide (lo ≤ (ne : Int)) = true) (h6 : decide ((ne : Int) ≤ hi) = true) (h7 : decide ((na : Int) ≤ ar) = true) (h8 : ((nb : Int) == 0) = true) :
    Calls Tryz.prog 126 #[.agg #[.int .u8 (a0 : Int), .int .u8 (a1 : Int), .bool true, .bool false, .int .i64 lo, .int .i64 hi, .int .i64 ar, .bool false, .bool true], .agg #[.int .u8 (k : Int), .string (str nm), .string (str fr), .bool sec, .bool false, .slice me ne ce, .slice ma na ca, .slice mb nb cb, .slice ml nl cl]] w fun e w' => e = .returned (.bool true) ∧ Below w.heap.size w w' := by
  obtain ⟨W, hW⟩ : ∃ W, (w.alloc (.cells #[.int .u8 (a0 : Int), .int .u8 (a1 : Int), .bool true, .bool false, .int .i64 lo, .int .i64 hi, .int .i64 ar, .bool false, .bool true] 185)).alloc (.cells #[.int .u8 (k : Int), .string (str nm), .string (str fr), .bool sec, .bool false, .slice me ne ce, .slice ma na ca, .slice mb nb cb, .slice ml nl cl] 44) = W := ⟨_, rfl⟩
  have hBW : Below w.heap.size w W := by rw [← hW]; exact aB (aB (Below.refl _ _) _) _
  have hTW := hT.of hBW
  have hR0 : rowG #[.int .u8 (a0 : Int), .int .u8 (a1 : Int), .bool true, .bool false, .int .i64 lo, .int .i64 hi, .int .i64 ar, .bool false, .bool true] W w.heap.size := by rw [← hW]; exact rowG_alloc (rowG_at _ _ _ _ rfl) _
  have hR1 : rowG #[.int .u8 (k : Int), .string (str nm), .string (str fr), .bool sec, .bool false, .slice me ne ce, .slice ma na ca, .slice mb nb cb, .slice ml nl cl] W (w.heap.size + 1) := by rw [← hW]; exact rowG_at _ _ _ _ (by simp)
  obtain ⟨w00, -, -, -, -, -, -, -, -⟩ := nine hR0
  obtain ⟨-, w11, -, -, -, -, -, -, -⟩ := nine hR1
  clear hT
  have hun : undef = Value.tuple #[] := rfl
  go_enter Tryz.func126, Tryz.ntmps126
  go_wp2_with first
    | (go_at_call 156; ((generalize Value.agg #[.int .u8 (a0 : Int), .int .u8 (a1 : Int), .bool true, .bool false, .int .i64 lo, .int .i64 hi, .int .i64 ar, .bool false, .bool true] = V0); (generalize Value.agg #[.int .u8 (k : Int), .string (str nm), .string (str fr), .bool sec, .bool false, .slice me ne ce, .slice ma na ca, .slice mb nb cb, .slice ml nl cl] = V1); (clear hW); (with_reducible refine (hA1 _ hTW).mono ?_); (rintro e w1 ⟨rfl, hb1⟩); (have hT1 := hTW.of hb1); (have hS0 := rowG_b hR0 hb1); (have hS1 := rowG_b hR1 hb1); (clear hR0 hR1 w00 w11 hA1); (obtain ⟨-, x01, -, -, -, -, -, -, -⟩ := nine hS0); (obtain ⟨-, -, x12, -, -, -, -, -, -⟩ := nine hS1)))
    | (go_at_call 156; ((with_reducible refine (hA2 _ hT1).mono ?_); (rintro e w2 ⟨rfl, hb2⟩); (have hU0 := rowG_b hS0 hb2); (have hU1 := rowG_b hS1 hb2); (clear hS0 hS1 x01 x12 hA2); (obtain ⟨-, -, y02, y03, y04, y05, y06, y07, y08⟩ := nine hU0); (obtain ⟨-, -, -, y13, y14, y15, y16, y17, y18⟩ := nine hU1)))
  go_ret
  exact ⟨rfl, (hBW.trans (hb1.mono hBW.size)).trans (hb2.mono (hBW.trans (hb1.mono hBW.size)).size)⟩
set_option maxRecDepth 100000 in
set_option maxHeartbeats 8000000 in
theorem met_26 {a0 a1 k ne na nb nl ce ca cb cl : Nat} {lo hi ar : Int} {nm fr : List UInt8} {me ma mb ml : Option Addr} {b7 mu bd b8 el b9 : Bool} {w : World} (hT : Tb w) (hA1 : ∀ (w : World), Tb w → Calls Tryz.prog 156 #[.int .u8 (a0 : Int), .string (str nm)] w fun e w' => e = .returned (.bool true) ∧ Below w.heap.size w w') (hA2 : ∀ (w : World), Tb w → Calls Tryz.prog 156 #[.int .u8 (a1 : Int), .string (str fr)] w fun e w' => e = .returned (.bool true) ∧ Below w.heap.size w w') (h5 : decide (lo ≤ (ne : Int)) = true) (h6 : decide ((ne : Int) ≤ hi) = false) :
    Calls Tryz.prog 126 #[.agg #[.int .u8 (a0 : Int), .int .u8 (a1 : Int), .bool false, .bool true, .int .i64 lo, .int .i64 hi, .int .i64 ar, .bool bd, .bool el], .agg #[.int .u8 (k : Int), .string (str nm), .string (str fr), .bool false, .bool mu, .slice me ne ce, .slice ma na ca, .slice mb nb cb, .slice ml nl cl]] w fun e w' => e = .returned (.bool false) ∧ Below w.heap.size w w' := by
  obtain ⟨W, hW⟩ : ∃ W, (w.alloc (.cells #[.int .u8 (a0 : Int), .int .u8 (a1 : Int), .bool false, .bool true, .int .i64 lo, .int .i64 hi, .int .i64 ar, .bool bd, .bool el] 185)).alloc (.cells #[.int .u8 (k : Int), .string (str nm), .string (str fr), .bool false, .bool mu, .slice me ne ce, .slice ma na ca, .slice mb nb cb, .slice ml nl cl] 44) = W := ⟨_, rfl⟩
  have hBW : Below w.heap.size w W := by rw [← hW]; exact aB (aB (Below.refl _ _) _) _
  have hTW := hT.of hBW
  have hR0 : rowG #[.int .u8 (a0 : Int), .int .u8 (a1 : Int), .bool false, .bool true, .int .i64 lo, .int .i64 hi, .int .i64 ar, .bool bd, .bool el] W w.heap.size := by rw [← hW]; exact rowG_alloc (rowG_at _ _ _ _ rfl) _
  have hR1 : rowG #[.int .u8 (k : Int), .string (str nm), .string (str fr), .bool false, .bool mu, .slice me ne ce, .slice ma na ca, .slice mb nb cb, .slice ml nl cl] W (w.heap.size + 1) := by rw [← hW]; exact rowG_at _ _ _ _ (by simp)
  obtain ⟨w00, -, -, -, -, -, -, -, -⟩ := nine hR0
  obtain ⟨-, w11, -, -, -, -, -, -, -⟩ := nine hR1
  clear hT
  have hun : undef = Value.tuple #[] := rfl
  go_enter Tryz.func126, Tryz.ntmps126
  go_wp2_with first
    | (go_at_call 156; ((generalize Value.agg #[.int .u8 (a0 : Int), .int .u8 (a1 : Int), .bool false, .bool true, .int .i64 lo, .int .i64 hi, .int .i64 ar, .bool bd, .bool el] = V0); (generalize Value.agg #[.int .u8 (k : Int), .string (str nm), .string (str fr), .bool false, .bool mu, .slice me ne ce, .slice ma na ca, .slice mb nb cb, .slice ml nl cl] = V1); (clear hW); (with_reducible refine (hA1 _ hTW).mono ?_); (rintro e w1 ⟨rfl, hb1⟩); (have hT1 := hTW.of hb1); (have hS0 := rowG_b hR0 hb1); (have hS1 := rowG_b hR1 hb1); (clear hR0 hR1 w00 w11 hA1); (obtain ⟨-, x01, -, -, -, -, -, -, -⟩ := nine hS0); (obtain ⟨-, -, x12, -, -, -, -, -, -⟩ := nine hS1)))
    | (go_at_call 156; ((with_reducible refine (hA2 _ hT1).mono ?_); (rintro e w2 ⟨rfl, hb2⟩); (have hU0 := rowG_b hS0 hb2); (have hU1 := rowG_b hS1 hb2); (clear hS0 hS1 x01 x12 hA2); (obtain ⟨-, -, y02, y03, y04, y05, -, -, -⟩ := nine hU0); (obtain ⟨-, -, -, y13, y14, y15, -, -, -⟩ := nine hU1)))
  go_ret
  exact ⟨rfl, (hBW.trans (hb1.mono hBW.size)).trans (hb2.mono (hBW.trans (hb1.mono hBW.size)).size)⟩
set_option maxRecDepth 100000 in
set_option maxHeartbeats 8000000 in
theorem met_30 {a0 a1 k ne na nb nl ce ca cb cl : Nat} {lo hi ar : Int} {nm fr : List UInt8} {me ma mb ml : Option Addr} {mu b8 b9 : Bool} {w : World} (hT : Tb w) (hA1 : ∀ (w : World), Tb w → Calls Tryz.prog 156 #[.int .u8 (a0 : Int), .string (str nm)] w fun e w' => e = .returned (.bool true) ∧ Below w.heap.size w w') (hA2 : ∀ (w : World), Tb w → Calls Tryz.prog 156 #[.int .u8 (a1 : Int), .string (str fr)] w fun e w' => e = .returned (.bool true) ∧ Below w.heap.size w w') (h5 : decide (lo ≤ (ne : Int)) = true) (h6 : decide ((ne : Int) ≤ hi) = true) (h7 : decide ((na : Int) ≤ ar) = true) :
    Calls Tryz.prog 126 #[.agg #[.int .u8 (a0 : Int), .int .u8 (a1 : Int), .bool false, .bool true, .int .i64 lo, .int .i64 hi, .int .i64 ar, .bool true, .bool true], .agg #[.int .u8 (k : Int), .string (str nm), .string (str fr), .bool false, .bool mu, .slice me ne ce, .slice ma na ca, .slice mb nb cb, .slice ml nl cl]] w fun e w' => e = .returned (.bool true) ∧ Below w.heap.size w w' := by
  obtain ⟨W, hW⟩ : ∃ W, (w.alloc (.cells #[.int .u8 (a0 : Int), .int .u8 (a1 : Int), .bool false, .bool true, .int .i64 lo, .int .i64 hi, .int .i64 ar, .bool true, .bool true] 185)).alloc (.cells #[.int .u8 (k : Int), .string (str nm), .string (str fr), .bool false, .bool mu, .slice me ne ce, .slice ma na ca, .slice mb nb cb, .slice ml nl cl] 44) = W := ⟨_, rfl⟩
  have hBW : Below w.heap.size w W := by rw [← hW]; exact aB (aB (Below.refl _ _) _) _
  have hTW := hT.of hBW
  have hR0 : rowG #[.int .u8 (a0 : Int), .int .u8 (a1 : Int), .bool false, .bool true, .int .i64 lo, .int .i64 hi, .int .i64 ar, .bool true, .bool true] W w.heap.size := by rw [← hW]; exact rowG_alloc (rowG_at _ _ _ _ rfl) _
  have hR1 : rowG #[.int .u8 (k : Int), .string (str nm), .string (str fr), .bool false, .bool mu, .slice me ne ce, .slice ma na ca, .slice mb nb cb, .slice ml nl cl] W (w.heap.size + 1) := by rw [← hW]; exact rowG_at _ _ _ _ (by simp)
  obtain ⟨w00, -, -, -, -, -, -, -, -⟩ := nine hR0
  obtain ⟨-, w11, -, -, -, -, -, -, -⟩ := nine hR1
  clear hT
  have hun : undef = Value.tuple #[] := rfl
  go_enter Tryz.func126, Tryz.ntmps126
  go_wp2_with first
    | (go_at_call 156; ((generalize Value.agg #[.int .u8 (a0 : Int), .int .u8 (a1 : Int), .bool false, .bool true, .int .i64 lo, .int .i64 hi, .int .i64 ar, .bool true, .bool true] = V0); (generalize Value.agg #[.int .u8 (k : Int), .string (str nm), .string (str fr), .bool false, .bool mu, .slice me ne ce, .slice ma na ca, .slice mb nb cb, .slice ml nl cl] = V1); (clear hW); (with_reducible refine (hA1 _ hTW).mono ?_); (rintro e w1 ⟨rfl, hb1⟩); (have hT1 := hTW.of hb1); (have hS0 := rowG_b hR0 hb1); (have hS1 := rowG_b hR1 hb1); (clear hR0 hR1 w00 w11 hA1); (obtain ⟨-, x01, -, -, -, -, -, -, -⟩ := nine hS0); (obtain ⟨-, -, x12, -, -, -, -, -, -⟩ := nine hS1)))
    | (go_at_call 156; ((with_reducible refine (hA2 _ hT1).mono ?_); (rintro e w2 ⟨rfl, hb2⟩); (have hU0 := rowG_b hS0 hb2); (have hU1 := rowG_b hS1 hb2); (clear hS0 hS1 x01 x12 hA2); (obtain ⟨-, -, y02, y03, y04, y05, y06, y07, y08⟩ := nine hU0); (obtain ⟨-, -, -, y13, y14, y15, y16, y17, y18⟩ := nine hU1)))
  go_ret
  exact ⟨rfl, (hBW.trans (hb1.mono hBW.size)).trans (hb2.mono (hBW.trans (hb1.mono hBW.size)).size)⟩
set_option maxRecDepth 100000 in
set_option maxHeartbeats 8000000 in
theorem met_34 {a0 a1 k ne na nb nl ce ca cb cl : Nat} {lo hi ar : Int} {nm fr : List UInt8} {me ma mb ml : Option Addr} {mu : Bool} {w : World} (hT : Tb w) (hA1 : ∀ (w : World), Tb w → Calls Tryz.prog 156 #[.int .u8 (a0 : Int), .string (str nm)] w fun e w' => e = .returned (.bool true) ∧ Below w.heap.size w w') (hA2 : ∀ (w : World), Tb w → Calls Tryz.prog 156 #[.int .u8 (a1 : Int), .string (str fr)] w fun e w' => e = .returned (.bool true) ∧ Below w.heap.size w w') (h5 : decide (lo ≤ (ne : Int)) = true) (h6 : decide ((ne : Int) ≤ hi) = true) (h7 : decide ((na : Int) ≤ ar) = true) (h8 : ((nb : Int) == 0) = true) (h9 : ((nl : Int) == 0) = true) :
    Calls Tryz.prog 126 #[.agg #[.int .u8 (a0 : Int), .int .u8 (a1 : Int), .bool false, .bool true, .int .i64 lo, .int .i64 hi, .int .i64 ar, .bool false, .bool false], .agg #[.int .u8 (k : Int), .string (str nm), .string (str fr), .bool false, .bool mu, .slice me ne ce, .slice ma na ca, .slice mb nb cb, .slice ml nl cl]] w fun e w' => e = .returned (.bool true) ∧ Below w.heap.size w w' := by
  obtain ⟨W, hW⟩ : ∃ W, (w.alloc (.cells #[.int .u8 (a0 : Int), .int .u8 (a1 : Int), .bool false, .bool true, .int .i64 lo, .int .i64 hi, .int .i64 ar, .bool false, .bool false] 185)).alloc (.cells #[.int .u8 (k : Int), .string (str nm), .string (str fr), .bool false, .bool mu, .slice me ne ce, .slice ma na ca, .slice mb nb cb, .slice ml nl cl] 44) = W := ⟨_, rfl⟩
  have hBW : Below w.heap.size w W := by rw [← hW]; exact aB (aB (Below.refl _ _) _) _
  have hTW := hT.of hBW
  have hR0 : rowG #[.int .u8 (a0 : Int), .int .u8 (a1 : Int), .bool false, .bool true, .int .i64 lo, .int .i64 hi, .int .i64 ar, .bool false, .bool false] W w.heap.size := by rw [← hW]; exact rowG_alloc (rowG_at _ _ _ _ rfl) _
  have hR1 : rowG #[.int .u8 (k : Int), .string (str nm), .string (str fr), .bool false, .bool mu, .slice me ne ce, .slice ma na ca, .slice mb nb cb, .slice ml nl cl] W (w.heap.size + 1) := by rw [← hW]; exact rowG_at _ _ _ _ (by simp)
  obtain ⟨w00, -, -, -, -, -, -, -, -⟩ := nine hR0
  obtain ⟨-, w11, -, -, -, -, -, -, -⟩ := nine hR1
  clear hT
  have hun : undef = Value.tuple #[] := rfl
  go_enter Tryz.func126, Tryz.ntmps126
  go_wp2_with first
    | (go_at_call 156; ((generalize Value.agg #[.int .u8 (a0 : Int), .int .u8 (a1 : Int), .bool false, .bool true, .int .i64 lo, .int .i64 hi, .int .i64 ar, .bool false, .bool false] = V0); (generalize Value.agg #[.int .u8 (k : Int), .string (str nm), .string (str fr), .bool false, .bool mu, .slice me ne ce, .slice ma na ca, .slice mb nb cb, .slice ml nl cl] = V1); (clear hW); (with_reducible refine (hA1 _ hTW).mono ?_); (rintro e w1 ⟨rfl, hb1⟩); (have hT1 := hTW.of hb1); (have hS0 := rowG_b hR0 hb1); (have hS1 := rowG_b hR1 hb1); (clear hR0 hR1 w00 w11 hA1); (obtain ⟨-, x01, -, -, -, -, -, -, -⟩ := nine hS0); (obtain ⟨-, -, x12, -, -, -, -, -, -⟩ := nine hS1)))
    | (go_at_call 156; ((with_reducible refine (hA2 _ hT1).mono ?_); (rintro e w2 ⟨rfl, hb2⟩); (have hU0 := rowG_b hS0 hb2); (have hU1 := rowG_b hS1 hb2); (clear hS0 hS1 x01 x12 hA2); (obtain ⟨-, -, y02, y03, y04, y05, y06, y07, y08⟩ := nine hU0); (obtain ⟨-, -, -, y13, y14, y15, y16, y17, y18⟩ := nine hU1)))
  go_ret
  exact ⟨rfl, (hBW.trans (hb1.mono hBW.size)).trans (hb2.mono (hBW.trans (hb1.mono hBW.size)).size)⟩
set_option maxRecDepth 100000 in
set_option maxHeartbeats 8000000 in
theorem met_38 {a0 a1 k ne na nb nl ce ca cb cl : Nat} {lo hi ar : Int} {nm fr : List UInt8} {me ma mb ml : Option Addr} {el b9 : Bool} {w : World} (hT : Tb w) (hA1 : ∀ (w : World), Tb w → Calls Tryz.prog 156 #[.int .u8 (a0 : Int), .string (str nm)] w fun e w' => e = .returned (.bool true) ∧ Below w.heap.size w w') (hA2 : ∀ (w : World), Tb w → Calls Tryz.prog 156 #[.int .u8 (a1 : Int), .string (str fr)] w fun e w' => e = .returned (.bool true) ∧ Below w.heap.size w w') (h5 : decide (lo ≤ (ne : Int)) = true) (h6 : decide ((ne : Int) ≤ hi) = true) (h7 : decide ((na : Int) ≤ ar) = true) (h8 : ((nb : Int) == 0) = false) :
    Calls Tryz.prog 126 #[.agg #[.int .u8 (a0 : Int), .int .u8 (a1 : Int), .bool false, .bool false, .int .i64 lo, .int .i64 hi, .int .i64 ar, .bool false, .bool el], .agg #[.int .u8 (k : Int), .string (str nm), .string (str fr), .bool false, .bool false, .slice me ne ce, .slice ma na ca, .slice mb nb cb, .slice ml nl cl]] w fun e w' => e = .returned (.bool false) ∧ Below w.heap.size w w' := by
  obtain ⟨W, hW⟩ : ∃ W, (w.alloc (.cells #[.int .u8 (a0 : Int), .int .u8 (a1 : Int), .bool false, .bool false, .int .i64 lo, .int .i64 hi, .int .i64 ar, .bool false, .bool el] 185)).alloc (.cells #[.int .u8 (k : Int), .string (str nm), .string (str fr), .bool false, .bool false, .slice me ne ce, .slice ma na ca, .slice mb nb cb, .slice ml nl cl] 44) = W := ⟨_, rfl⟩
  have hBW : Below w.heap.size w W := by rw [← hW]; exact aB (aB (Below.refl _ _) _) _
  have hTW := hT.of hBW
  have hR0 : rowG #[.int .u8 (a0 : Int), .int .u8 (a1 : Int), .bool false, .bool false, .int .i64 lo, .int .i64 hi, .int .i64 ar, .bool false, .bool el] W w.heap.size := by rw [← hW]; exact rowG_alloc (rowG_at _ _ _ _ rfl) _
  have hR1 : rowG #[.int .u8 (k : Int), .string (str nm), .string (str fr), .bool false, .bool false, .slice me ne ce, .slice ma na ca, .slice mb nb cb, .slice ml nl cl] W (w.heap.size + 1) := by rw [← hW]; exact rowG_at _ _ _ _ (by simp)
  obtain ⟨w00, -, -, -, -, -, -, -, -⟩ := nine hR0
  obtain ⟨-, w11, -, -, -, -, -, -, -⟩ := nine hR1
  clear hT
  have hun : undef = Value.tuple #[] := rfl
  go_enter Tryz.func126, Tryz.ntmps126
  go_wp2_with first
    | (go_at_call 156; ((generalize Value.agg #[.int .u8 (a0 : Int), .int .u8 (a1 : Int), .bool false, .bool false, .int .i64 lo, .int .i64 hi, .int .i64 ar, .bool false, .bool el] = V0); (generalize Value.agg #[.int .u8 (k : Int), .string (str nm), .string (str fr), .bool false, .bool false, .slice me ne ce, .slice ma na ca, .slice mb nb cb, .slice ml nl cl] = V1); (clear hW); (with_reducible refine (hA1 _ hTW).mono ?_); (rintro e w1 ⟨rfl, hb1⟩); (have hT1 := hTW.of hb1); (have hS0 := rowG_b hR0 hb1); (have hS1 := rowG_b hR1 hb1); (clear hR0 hR1 w00 w11 hA1); (obtain ⟨-, x01, -, -, -, -, -, -, -⟩ := nine hS0); (obtain ⟨-, -, x12, -, -, -, -, -, -⟩ := nine hS1)))
    | (go_at_call 156; ((with_reducible refine (hA2 _ hT1).mono ?_); (rintro e w2 ⟨rfl, hb2⟩); (have hU0 := rowG_b hS0 hb2); (have hU1 := rowG_b hS1 hb2); (clear hS0 hS1 x01 x12 hA2); (obtain ⟨-, -, y02, y03, y04, y05, y06, y07, -⟩ := nine hU0); (obtain ⟨-, -, -, y13, y14, y15, y16, y17, -⟩ := nine hU1)))
  go_ret
  exact ⟨rfl, (hBW.trans (hb1.mono hBW.size)).trans (hb2.mono (hBW.trans (hb1.mono hBW.size)).size)⟩
set_option maxRecDepth 100000 in
set_option maxHeartbeats 8000000 in
theorem met_42 {a0 a1 k ne na nb nl ce ca cb cl : Nat} {lo hi ar : Int} {nm fr : List UInt8} {me ma mb ml : Option Addr} {w : World} (hT : Tb w) (hA1 : ∀ (w : World), Tb w → Calls Tryz.prog 156 #[.int .u8 (a0 : Int), .string (str nm)] w fun e w' => e = .returned (.bool true) ∧ Below w.heap.size w w') (hA2 : ∀ (w : World), Tb w → Calls Tryz.prog 156 #[.int .u8 (a1 : Int), .string (str fr)] w fun e w' => e = .returned (.bool true) ∧ Below w.heap.size w w') (h5 : decide (lo ≤ (ne : Int)) = true) (h6 : decide ((ne : Int) ≤ hi) = true) (h7 : decide ((na : Int) ≤ ar) = true) (h8 : ((nb : Int) == 0) = true) (h9 : ((nl : Int) == 0) = false) :
    Calls Tryz.prog 126 #[.agg #[.int .u8 (a0 : Int), .int .u8 (a1 : Int), .bool false, .bool false, .int .i64 lo, .int .i64 hi, .int .i64 ar, .bool false, .bool false], .agg #[.int .u8 (k : Int), .string (str nm), .string (str fr), .bool false, .bool false, .slice me ne ce, .slice ma na ca, .slice mb nb cb, .slice ml nl cl]] w fun e w' => e = .returned (.bool false) ∧ Below w.heap.size w w' := by
  obtain ⟨W, hW⟩ : ∃ W, (w.alloc (.cells #[.int .u8 (a0 : Int), .int .u8 (a1 : Int), .bool false, .bool false, .int .i64 lo, .int .i64 hi, .int .i64 ar, .bool false, .bool false] 185)).alloc (.cells #[.int .u8 (k : Int), .string (str nm), .string (str fr), .bool false, .bool false, .slice me ne ce, .slice ma na ca, .slice mb nb cb, .slice ml nl cl] 44) = W := ⟨_, rfl⟩
  have hBW : Below w.heap.size w W := by rw [← hW]; exact aB (aB (Below.refl _ _) _) _
  have hTW := hT.of hBW
  have hR0 : rowG #[.int .u8 (a0 : Int), .int .u8 (a1 : Int), .bool false, .bool false, .int .i64 lo, .int .i64 hi, .int .i64 ar, .bool false, .bool false] W w.heap.size := by rw [← hW]; exact rowG_alloc (rowG_at _ _ _ _ rfl) _
  have hR1 : rowG #[.int .u8 (k : Int), .string (str nm), .string (str fr), .bool false, .bool false, .slice me ne ce, .slice ma na ca, .slice mb nb cb, .slice ml nl cl] W (w.heap.size + 1) := by rw [← hW]; exact rowG_at _ _ _ _ (by simp)
  obtain ⟨w00, -, -, -, -, -, -, -, -⟩ := nine hR0
  obtain ⟨-, w11, -, -, -, -, -, -, -⟩ := nine hR1
  clear hT
  have hun : undef = Value.tuple #[] := rfl
  go_enter Tryz.func126, Tryz.ntmps126
  go_wp2_with first
    | (go_at_call 156; ((generalize Value.agg #[.int .u8 (a0 : Int), .int .u8 (a1 : Int), .bool false, .bool false, .int .i64 lo, .int .i64 hi, .int .i64 ar, .bool false, .bool false] = V0); (generalize Value.agg #[.int .u8 (k : Int), .string (str nm), .string (str fr), .bool false, .bool false, .slice me ne ce, .slice ma na ca, .slice mb nb cb, .slice ml nl cl] = V1); (clear hW); (with_reducible refine (hA1 _ hTW).mono ?_); (rintro e w1 ⟨rfl, hb1⟩); (have hT1 := hTW.of hb1); (have hS0 := rowG_b hR0 hb1); (have hS1 := rowG_b hR1 hb1); (clear hR0 hR1 w00 w11 hA1); (obtain ⟨-, x01, -, -, -, -, -, -, -⟩ := nine hS0); (obtain ⟨-, -, x12, -, -, -, -, -, -⟩ := nine hS1)))
    | (go_at_call 156; ((with_reducible refine (hA2 _ hT1).mono ?_); (rintro e w2 ⟨rfl, hb2⟩); (have hU0 := rowG_b hS0 hb2); (have hU1 := rowG_b hS1 hb2); (clear hS0 hS1 x01 x12 hA2); (obtain ⟨-, -, y02, y03, y04, y05, y06, y07, y08⟩ := nine hU0); (obtain ⟨-, -, -, y13, y14, y15, y16, y17, y18⟩ := nine hU1)))
  go_ret
  exact ⟨rfl, (hBW.trans (hb1.mono hBW.size)).trans (hb2.mono (hBW.trans (hb1.mono hBW.size)).size)⟩
end Go.Proofs.YtfpoflddnlbpjaaGreatDoor
