/- Contracts of word.Op, and of what the statements of layer 1 call of it. -/
import Derived.Test.YtodhldhaijhdgaaWordA
namespace Go.Proofs.Ytodhldhaijhdgaa
open Go.ChangeShapes Go.WideShapes Go.ChangeAt Go.RowKit
set_option linter.unusedVariables false
/-- What Op answers. -/
def ope (k : Nat) : Nat := if 1 ≤ k ∧ k ≤ 14 then 0 else 2
theorem u8_cases {k : Nat} (h : 1 ≤ k ∧ k ≤ 14) : k = 1 ∨ k = 2 ∨ k = 3 ∨ k = 4 ∨ k = 5 ∨ k = 6 ∨ k = 7 ∨ k = 8 ∨ k = 9 ∨ k = 10 ∨ k = 11 ∨ k = 12 ∨ k = 13 ∨ k = 14 := by omega
theorem fld0 (f : Nat) : ∀ w : World, (Instr.field 40 (.agg #[.func (.func f) #[] #[]]) 0).run Try.prog w = .ok (.func (.func f) #[] #[]) w := fun _ => by kernel_rfl
theorem idx1 : ∀ w : World, (Instr.index 41 (.agg #[.nilFunc, .func (.func 23) #[] #[], .func (.func 24) #[] #[], .func (.func 25) #[] #[], .func (.func 26) #[] #[], .func (.func 28) #[] #[], .func (.func 29) #[] #[], .func (.func 30) #[] #[], .func (.func 31) #[] #[], .func (.func 32) #[] #[], .func (.func 33) #[] #[], .func (.func 34) #[] #[], .func (.func 35) #[] #[], .func (.func 36) #[] #[], .func (.func 37) #[] #[]]) (.int .u8 1)).run Try.prog w = .ok (.agg #[.func (.func 23) #[] #[]]) w := fun _ => by kernel_rfl
theorem idx2 : ∀ w : World, (Instr.index 41 (.agg #[.nilFunc, .func (.func 23) #[] #[], .func (.func 24) #[] #[], .func (.func 25) #[] #[], .func (.func 26) #[] #[], .func (.func 28) #[] #[], .func (.func 29) #[] #[], .func (.func 30) #[] #[], .func (.func 31) #[] #[], .func (.func 32) #[] #[], .func (.func 33) #[] #[], .func (.func 34) #[] #[], .func (.func 35) #[] #[], .func (.func 36) #[] #[], .func (.func 37) #[] #[]]) (.int .u8 2)).run Try.prog w = .ok (.agg #[.func (.func 24) #[] #[]]) w := fun _ => by kernel_rfl
theorem idx3 : ∀ w : World, (Instr.index 41 (.agg #[.nilFunc, .func (.func 23) #[] #[], .func (.func 24) #[] #[], .func (.func 25) #[] #[], .func (.func 26) #[] #[], .func (.func 28) #[] #[], .func (.func 29) #[] #[], .func (.func 30) #[] #[], .func (.func 31) #[] #[], .func (.func 32) #[] #[], .func (.func 33) #[] #[], .func (.func 34) #[] #[], .func (.func 35) #[] #[], .func (.func 36) #[] #[], .func (.func 37) #[] #[]]) (.int .u8 3)).run Try.prog w = .ok (.agg #[.func (.func 25) #[] #[]]) w := fun _ => by kernel_rfl
theorem idx4 : ∀ w : World, (Instr.index 41 (.agg #[.nilFunc, .func (.func 23) #[] #[], .func (.func 24) #[] #[], .func (.func 25) #[] #[], .func (.func 26) #[] #[], .func (.func 28) #[] #[], .func (.func 29) #[] #[], .func (.func 30) #[] #[], .func (.func 31) #[] #[], .func (.func 32) #[] #[], .func (.func 33) #[] #[], .func (.func 34) #[] #[], .func (.func 35) #[] #[], .func (.func 36) #[] #[], .func (.func 37) #[] #[]]) (.int .u8 4)).run Try.prog w = .ok (.agg #[.func (.func 26) #[] #[]]) w := fun _ => by kernel_rfl
theorem idx5 : ∀ w : World, (Instr.index 41 (.agg #[.nilFunc, .func (.func 23) #[] #[], .func (.func 24) #[] #[], .func (.func 25) #[] #[], .func (.func 26) #[] #[], .func (.func 28) #[] #[], .func (.func 29) #[] #[], .func (.func 30) #[] #[], .func (.func 31) #[] #[], .func (.func 32) #[] #[], .func (.func 33) #[] #[], .func (.func 34) #[] #[], .func (.func 35) #[] #[], .func (.func 36) #[] #[], .func (.func 37) #[] #[]]) (.int .u8 5)).run Try.prog w = .ok (.agg #[.func (.func 28) #[] #[]]) w := fun _ => by kernel_rfl
theorem idx6 : ∀ w : World, (Instr.index 41 (.agg #[.nilFunc, .func (.func 23) #[] #[], .func (.func 24) #[] #[], .func (.func 25) #[] #[], .func (.func 26) #[] #[], .func (.func 28) #[] #[], .func (.func 29) #[] #[], .func (.func 30) #[] #[], .func (.func 31) #[] #[], .func (.func 32) #[] #[], .func (.func 33) #[] #[], .func (.func 34) #[] #[], .func (.func 35) #[] #[], .func (.func 36) #[] #[], .func (.func 37) #[] #[]]) (.int .u8 6)).run Try.prog w = .ok (.agg #[.func (.func 29) #[] #[]]) w := fun _ => by kernel_rfl
theorem idx7 : ∀ w : World, (Instr.index 41 (.agg #[.nilFunc, .func (.func 23) #[] #[], .func (.func 24) #[] #[], .func (.func 25) #[] #[], .func (.func 26) #[] #[], .func (.func 28) #[] #[], .func (.func 29) #[] #[], .func (.func 30) #[] #[], .func (.func 31) #[] #[], .func (.func 32) #[] #[], .func (.func 33) #[] #[], .func (.func 34) #[] #[], .func (.func 35) #[] #[], .func (.func 36) #[] #[], .func (.func 37) #[] #[]]) (.int .u8 7)).run Try.prog w = .ok (.agg #[.func (.func 30) #[] #[]]) w := fun _ => by kernel_rfl
theorem idx8 : ∀ w : World, (Instr.index 41 (.agg #[.nilFunc, .func (.func 23) #[] #[], .func (.func 24) #[] #[], .func (.func 25) #[] #[], .func (.func 26) #[] #[], .func (.func 28) #[] #[], .func (.func 29) #[] #[], .func (.func 30) #[] #[], .func (.func 31) #[] #[], .func (.func 32) #[] #[], .func (.func 33) #[] #[], .func (.func 34) #[] #[], .func (.func 35) #[] #[], .func (.func 36) #[] #[], .func (.func 37) #[] #[]]) (.int .u8 8)).run Try.prog w = .ok (.agg #[.func (.func 31) #[] #[]]) w := fun _ => by kernel_rfl
theorem idx9 : ∀ w : World, (Instr.index 41 (.agg #[.nilFunc, .func (.func 23) #[] #[], .func (.func 24) #[] #[], .func (.func 25) #[] #[], .func (.func 26) #[] #[], .func (.func 28) #[] #[], .func (.func 29) #[] #[], .func (.func 30) #[] #[], .func (.func 31) #[] #[], .func (.func 32) #[] #[], .func (.func 33) #[] #[], .func (.func 34) #[] #[], .func (.func 35) #[] #[], .func (.func 36) #[] #[], .func (.func 37) #[] #[]]) (.int .u8 9)).run Try.prog w = .ok (.agg #[.func (.func 32) #[] #[]]) w := fun _ => by kernel_rfl
theorem idx10 : ∀ w : World, (Instr.index 41 (.agg #[.nilFunc, .func (.func 23) #[] #[], .func (.func 24) #[] #[], .func (.func 25) #[] #[], .func (.func 26) #[] #[], .func (.func 28) #[] #[], .func (.func 29) #[] #[], .func (.func 30) #[] #[], .func (.func 31) #[] #[], .func (.func 32) #[] #[], .func (.func 33) #[] #[], .func (.func 34) #[] #[], .func (.func 35) #[] #[], .func (.func 36) #[] #[], .func (.func 37) #[] #[]]) (.int .u8 10)).run Try.prog w = .ok (.agg #[.func (.func 33) #[] #[]]) w := fun _ => by kernel_rfl
theorem idx11 : ∀ w : World, (Instr.index 41 (.agg #[.nilFunc, .func (.func 23) #[] #[], .func (.func 24) #[] #[], .func (.func 25) #[] #[], .func (.func 26) #[] #[], .func (.func 28) #[] #[], .func (.func 29) #[] #[], .func (.func 30) #[] #[], .func (.func 31) #[] #[], .func (.func 32) #[] #[], .func (.func 33) #[] #[], .func (.func 34) #[] #[], .func (.func 35) #[] #[], .func (.func 36) #[] #[], .func (.func 37) #[] #[]]) (.int .u8 11)).run Try.prog w = .ok (.agg #[.func (.func 34) #[] #[]]) w := fun _ => by kernel_rfl
theorem idx12 : ∀ w : World, (Instr.index 41 (.agg #[.nilFunc, .func (.func 23) #[] #[], .func (.func 24) #[] #[], .func (.func 25) #[] #[], .func (.func 26) #[] #[], .func (.func 28) #[] #[], .func (.func 29) #[] #[], .func (.func 30) #[] #[], .func (.func 31) #[] #[], .func (.func 32) #[] #[], .func (.func 33) #[] #[], .func (.func 34) #[] #[], .func (.func 35) #[] #[], .func (.func 36) #[] #[], .func (.func 37) #[] #[]]) (.int .u8 12)).run Try.prog w = .ok (.agg #[.func (.func 35) #[] #[]]) w := fun _ => by kernel_rfl
theorem idx13 : ∀ w : World, (Instr.index 41 (.agg #[.nilFunc, .func (.func 23) #[] #[], .func (.func 24) #[] #[], .func (.func 25) #[] #[], .func (.func 26) #[] #[], .func (.func 28) #[] #[], .func (.func 29) #[] #[], .func (.func 30) #[] #[], .func (.func 31) #[] #[], .func (.func 32) #[] #[], .func (.func 33) #[] #[], .func (.func 34) #[] #[], .func (.func 35) #[] #[], .func (.func 36) #[] #[], .func (.func 37) #[] #[]]) (.int .u8 13)).run Try.prog w = .ok (.agg #[.func (.func 36) #[] #[]]) w := fun _ => by kernel_rfl
theorem idx14 : ∀ w : World, (Instr.index 41 (.agg #[.nilFunc, .func (.func 23) #[] #[], .func (.func 24) #[] #[], .func (.func 25) #[] #[], .func (.func 26) #[] #[], .func (.func 28) #[] #[], .func (.func 29) #[] #[], .func (.func 30) #[] #[], .func (.func 31) #[] #[], .func (.func 32) #[] #[], .func (.func 33) #[] #[], .func (.func 34) #[] #[], .func (.func 35) #[] #[], .func (.func 36) #[] #[], .func (.func 37) #[] #[]]) (.int .u8 14)).run Try.prog w = .ok (.agg #[.func (.func 37) #[] #[]]) w := fun _ => by kernel_rfl
theorem wop_1 (a b : Nat) (ha : a < 18446744073709551616) (hb : b < 18446744073709551616) (w : World) :
    Calls Try.prog 7 #[.int .u8 1, .int .u64 a, .int .u64 b] w fun e w' => e = .returned (.tuple #[.int .u64 (opv 1 a b : Nat), .int .i64 0]) ∧ Grown w w' := by
  have hi := idx1
  have hf := fld0
  go_enter Try.func7, Try.ntmps7
  go_wp2_with (first | (go_at_call 19; refine (rules_any _).mono ?_; rintro e w' ⟨rfl, hg⟩) | (go_at_call 23; refine (fn1 _ _ ha hb _).mono ?_; rintro e w' ⟨rfl, rfl⟩))
  go_ret2
  exact ⟨rfl, hg⟩
theorem wop_2 (a b : Nat) (ha : a < 18446744073709551616) (hb : b < 18446744073709551616) (w : World) :
    Calls Try.prog 7 #[.int .u8 2, .int .u64 a, .int .u64 b] w fun e w' => e = .returned (.tuple #[.int .u64 (opv 2 a b : Nat), .int .i64 0]) ∧ Grown w w' := by
  have hi := idx2
  have hf := fld0
  go_enter Try.func7, Try.ntmps7
  go_wp2_with (first | (go_at_call 19; refine (rules_any _).mono ?_; rintro e w' ⟨rfl, hg⟩) | (go_at_call 24; refine (fn2 _ _ ha hb _).mono ?_; rintro e w' ⟨rfl, rfl⟩))
  go_ret2
  exact ⟨rfl, hg⟩
theorem wop_3 (a b : Nat) (ha : a < 18446744073709551616) (hb : b < 18446744073709551616) (w : World) :
    Calls Try.prog 7 #[.int .u8 3, .int .u64 a, .int .u64 b] w fun e w' => e = .returned (.tuple #[.int .u64 (opv 3 a b : Nat), .int .i64 0]) ∧ Grown w w' := by
  have hi := idx3
  have hf := fld0
  go_enter Try.func7, Try.ntmps7
  go_wp2_with (first | (go_at_call 19; refine (rules_any _).mono ?_; rintro e w' ⟨rfl, hg⟩) | (go_at_call 25; refine (fn3 _ _ ha hb _).mono ?_; rintro e w' ⟨rfl, rfl⟩))
  go_ret2
  exact ⟨rfl, hg⟩
theorem wop_4 (a b : Nat) (ha : a < 18446744073709551616) (hb : b < 18446744073709551616) (w : World) :
    Calls Try.prog 7 #[.int .u8 4, .int .u64 a, .int .u64 b] w fun e w' => e = .returned (.tuple #[.int .u64 (opv 4 a b : Nat), .int .i64 0]) ∧ Grown w w' := by
  have hi := idx4
  have hf := fld0
  go_enter Try.func7, Try.ntmps7
  go_wp2_with (first | (go_at_call 19; refine (rules_any _).mono ?_; rintro e w' ⟨rfl, hg⟩) | (go_at_call 26; refine (fn4 _ _ ha hb _).mono ?_; rintro e w' ⟨rfl, rfl⟩))
  go_ret2
  exact ⟨rfl, hg⟩
theorem wop_5 (a b : Nat) (ha : a < 18446744073709551616) (hb : b < 18446744073709551616) (w : World) :
    Calls Try.prog 7 #[.int .u8 5, .int .u64 a, .int .u64 b] w fun e w' => e = .returned (.tuple #[.int .u64 (opv 5 a b : Nat), .int .i64 0]) ∧ Grown w w' := by
  have hi := idx5
  have hf := fld0
  go_enter Try.func7, Try.ntmps7
  go_wp2_with (first | (go_at_call 19; refine (rules_any _).mono ?_; rintro e w' ⟨rfl, hg⟩) | (go_at_call 28; refine (fn5 _ _ ha hb _).mono ?_; rintro e w' ⟨rfl, rfl⟩))
  go_ret2
  exact ⟨rfl, hg⟩
theorem wop_6 (a b : Nat) (ha : a < 18446744073709551616) (hb : b < 18446744073709551616) (w : World) :
    Calls Try.prog 7 #[.int .u8 6, .int .u64 a, .int .u64 b] w fun e w' => e = .returned (.tuple #[.int .u64 (opv 6 a b : Nat), .int .i64 0]) ∧ Grown w w' := by
  have hi := idx6
  have hf := fld0
  go_enter Try.func7, Try.ntmps7
  go_wp2_with (first | (go_at_call 19; refine (rules_any _).mono ?_; rintro e w' ⟨rfl, hg⟩) | (go_at_call 29; refine (fn6 _ _ ha hb _).mono ?_; rintro e w' ⟨rfl, rfl⟩))
  go_ret2
  exact ⟨rfl, hg⟩
theorem wop_7 (a b : Nat) (ha : a < 18446744073709551616) (hb : b < 18446744073709551616) (w : World) :
    Calls Try.prog 7 #[.int .u8 7, .int .u64 a, .int .u64 b] w fun e w' => e = .returned (.tuple #[.int .u64 (opv 7 a b : Nat), .int .i64 0]) ∧ Grown w w' := by
  have hi := idx7
  have hf := fld0
  go_enter Try.func7, Try.ntmps7
  go_wp2_with (first | (go_at_call 19; refine (rules_any _).mono ?_; rintro e w' ⟨rfl, hg⟩) | (go_at_call 30; refine (fn7 _ _ ha hb _).mono ?_; rintro e w' ⟨rfl, rfl⟩))
  go_ret2
  exact ⟨rfl, hg⟩
theorem wop_8 (a b : Nat) (ha : a < 18446744073709551616) (hb : b < 18446744073709551616) (w : World) :
    Calls Try.prog 7 #[.int .u8 8, .int .u64 a, .int .u64 b] w fun e w' => e = .returned (.tuple #[.int .u64 (opv 8 a b : Nat), .int .i64 0]) ∧ Grown w w' := by
  have hi := idx8
  have hf := fld0
  go_enter Try.func7, Try.ntmps7
  go_wp2_with (first | (go_at_call 19; refine (rules_any _).mono ?_; rintro e w' ⟨rfl, hg⟩) | (go_at_call 31; refine (fn8 _ _ ha hb _).mono ?_; rintro e w' ⟨rfl, rfl⟩))
  go_ret2
  exact ⟨rfl, hg⟩
theorem wop_9 (a b : Nat) (ha : a < 18446744073709551616) (hb : b < 18446744073709551616) (w : World) :
    Calls Try.prog 7 #[.int .u8 9, .int .u64 a, .int .u64 b] w fun e w' => e = .returned (.tuple #[.int .u64 (opv 9 a b : Nat), .int .i64 0]) ∧ Grown w w' := by
  have hi := idx9
  have hf := fld0
  go_enter Try.func7, Try.ntmps7
  go_wp2_with (first | (go_at_call 19; refine (rules_any _).mono ?_; rintro e w' ⟨rfl, hg⟩) | (go_at_call 32; refine (fn9 _ _ ha hb _).mono ?_; rintro e w' ⟨rfl, rfl⟩))
  go_ret2
  exact ⟨rfl, hg⟩
theorem wop_10 (a b : Nat) (ha : a < 18446744073709551616) (hb : b < 18446744073709551616) (w : World) :
    Calls Try.prog 7 #[.int .u8 10, .int .u64 a, .int .u64 b] w fun e w' => e = .returned (.tuple #[.int .u64 (opv 10 a b : Nat), .int .i64 0]) ∧ Grown w w' := by
  have hi := idx10
  have hf := fld0
  go_enter Try.func7, Try.ntmps7
  go_wp2_with (first | (go_at_call 19; refine (rules_any _).mono ?_; rintro e w' ⟨rfl, hg⟩) | (go_at_call 33; refine (fn10 _ _ ha hb _).mono ?_; rintro e w' ⟨rfl, rfl⟩))
  go_ret2
  exact ⟨rfl, hg⟩
theorem wop_11 (a b : Nat) (ha : a < 18446744073709551616) (hb : b < 18446744073709551616) (w : World) :
    Calls Try.prog 7 #[.int .u8 11, .int .u64 a, .int .u64 b] w fun e w' => e = .returned (.tuple #[.int .u64 (opv 11 a b : Nat), .int .i64 0]) ∧ Grown w w' := by
  have hi := idx11
  have hf := fld0
  go_enter Try.func7, Try.ntmps7
  go_wp2_with (first | (go_at_call 19; refine (rules_any _).mono ?_; rintro e w' ⟨rfl, hg⟩) | (go_at_call 34; refine (fn11 _ _ ha hb _).mono ?_; rintro e w' ⟨rfl, rfl⟩))
  go_ret2
  exact ⟨rfl, hg⟩
theorem wop_12 (a b : Nat) (ha : a < 18446744073709551616) (hb : b < 18446744073709551616) (w : World) :
    Calls Try.prog 7 #[.int .u8 12, .int .u64 a, .int .u64 b] w fun e w' => e = .returned (.tuple #[.int .u64 (opv 12 a b : Nat), .int .i64 0]) ∧ Grown w w' := by
  have hi := idx12
  have hf := fld0
  go_enter Try.func7, Try.ntmps7
  go_wp2_with (first | (go_at_call 19; refine (rules_any _).mono ?_; rintro e w' ⟨rfl, hg⟩) | (go_at_call 35; refine (fn12 _ _ ha hb _).mono ?_; rintro e w' ⟨rfl, rfl⟩))
  go_ret2
  exact ⟨rfl, hg⟩
theorem wop_13 (a b : Nat) (ha : a < 18446744073709551616) (hb : b < 18446744073709551616) (w : World) :
    Calls Try.prog 7 #[.int .u8 13, .int .u64 a, .int .u64 b] w fun e w' => e = .returned (.tuple #[.int .u64 (opv 13 a b : Nat), .int .i64 0]) ∧ Grown w w' := by
  have hi := idx13
  have hf := fld0
  go_enter Try.func7, Try.ntmps7
  go_wp2_with (first | (go_at_call 19; refine (rules_any _).mono ?_; rintro e w' ⟨rfl, hg⟩) | (go_at_call 36; refine (fn13 _ _ ha hb _).mono ?_; rintro e w' ⟨rfl, rfl⟩))
  go_ret2
  exact ⟨rfl, hg⟩
theorem wop_14 (a b : Nat) (ha : a < 18446744073709551616) (hb : b < 18446744073709551616) (w : World) :
    Calls Try.prog 7 #[.int .u8 14, .int .u64 a, .int .u64 b] w fun e w' => e = .returned (.tuple #[.int .u64 (opv 14 a b : Nat), .int .i64 0]) ∧ Grown w w' := by
  have hi := idx14
  have hf := fld0
  go_enter Try.func7, Try.ntmps7
  go_wp2_with (first | (go_at_call 19; refine (rules_any _).mono ?_; rintro e w' ⟨rfl, hg⟩) | (go_at_call 37; refine (fn14 _ _ ha hb _).mono ?_; rintro e w' ⟨rfl, rfl⟩))
  go_ret2
  exact ⟨rfl, hg⟩
theorem wop_any (k a b : Nat) (hk : k < 256) (ha : a < 18446744073709551616) (hb : b < 18446744073709551616) (w : World) :
    Calls Try.prog 7 #[.int .u8 k, .int .u64 a, .int .u64 b] w fun e w' => e = .returned (.tuple #[.int .u64 (opv k a b : Nat), .int .i64 (ope k : Nat)]) ∧ Grown w w' := by
  by_cases h : 1 ≤ k ∧ k ≤ 14
  · rw [show ope k = 0 from if_pos h]
    have hc := u8_cases h
    rcases hc with rfl | rfl | rfl | rfl | rfl | rfl | rfl | rfl | rfl | rfl | rfl | rfl | rfl | rfl
    · exact wop_1 a b ha hb w
    · exact wop_2 a b ha hb w
    · exact wop_3 a b ha hb w
    · exact wop_4 a b ha hb w
    · exact wop_5 a b ha hb w
    · exact wop_6 a b ha hb w
    · exact wop_7 a b ha hb w
    · exact wop_8 a b ha hb w
    · exact wop_9 a b ha hb w
    · exact wop_10 a b ha hb w
    · exact wop_11 a b ha hb w
    · exact wop_12 a b ha hb w
    · exact wop_13 a b ha hb w
    · exact wop_14 a b ha hb w
  · rw [opv_none k a b h, show ope k = 2 from if_neg h]
    rcases Nat.lt_or_ge k 1 with h1 | h1
    · obtain rfl : k = 0 := by omega
      go_enter Try.func7, Try.ntmps7
      go_wp2
      go_ret2
      exact ⟨rfl, Grown.refl _⟩
    · have h2 : ¬ ((k : Int) < 1) := by omega
      have h3 : (14 : Int) < (k : Int) := by omega
      clear h h1
      go_enter Try.func7, Try.ntmps7
      go_wp2
      go_ret2
      exact ⟨rfl, Grown.refl _⟩
theorem op_any (k a b : Nat) (hk : 1 ≤ k ∧ k ≤ 14) (ha : a < 18446744073709551616) (hb : b < 18446744073709551616) (w : World) :
    Calls Try.prog 18 #[.int .u8 k, .int .u64 a, .int .u64 b] w fun e w' => e = .returned (.int .u64 (opv k a b : Nat)) ∧ Grown w w' := by
  go_enter Try.func18, Try.ntmps18
  go_wp2_with (go_at_call 7; refine (wop_any k a b (by omega) ha hb _).mono ?_; rintro e w' ⟨he, hg⟩; rw [show ope k = 0 from if_pos hk] at he; subst he)
  go_ret
  exact ⟨rfl, hg⟩
end Go.Proofs.Ytodhldhaijhdgaa
