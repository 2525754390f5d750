/- Contracts of the functions of package word (layer 1): what each call returns, for all words; no further conditions. -/
import Derived.Test.YtfaacmcnefbgcaaGreatDoorJa
import Derived.ProofKit
import Derived.OpenShut
import Derived.Lib.Mul64
import Derived.Laws.EntriesVeiled
namespace Go.Proofs.YtfaacmcnefbgcaaGreatDoor
open Go.ChangeShapes Go.WideShapes Go.ChangeAt Go.RowKit
set_option linter.unusedVariables false

theorem truth_any (b : Bool) (w : World) : Calls Tryz.prog 147 #[.bool b] w fun e w' => e = .returned (.int .u64 ((tru b : Nat) : Int)) ∧ w = w' := by
  cases b
  all_goals
    go_enter Tryz.func147, Tryz.ntmps147
    go_wp2
    go_ret
    exact ⟨rfl, rfl⟩

theorem fn1 (a b : Nat) (ha : a < 18446744073709551616) (hb : b < 18446744073709551616) (w : World) :
    Calls Tryz.prog 143 #[.int .u64 a, .int .u64 b] w fun e w' => e = .returned (.int .u64 (opv 1 a b : Nat)) ∧ w = w' := by
  go_enter Tryz.func143, Tryz.ntmps143
  go_wp2
  go_ret
  exact ⟨ret_u64 (by exact add_eq a b), rfl⟩
theorem fn2 (a b : Nat) (ha : a < 18446744073709551616) (hb : b < 18446744073709551616) (w : World) :
    Calls Tryz.prog 144 #[.int .u64 a, .int .u64 b] w fun e w' => e = .returned (.int .u64 (opv 2 a b : Nat)) ∧ w = w' := by
  go_enter Tryz.func144, Tryz.ntmps144
  go_wp2
  go_ret
  exact ⟨ret_u64 (by exact sub_eq a b ha hb), rfl⟩
theorem fn3 (a b : Nat) (ha : a < 18446744073709551616) (hb : b < 18446744073709551616) (w : World) :
    Calls Tryz.prog 145 #[.int .u64 a, .int .u64 b] w fun e w' => e = .returned (.int .u64 (opv 3 a b : Nat)) ∧ w = w' := by
  go_enter Tryz.func145, Tryz.ntmps145
  go_wp2
  go_ret
  exact ⟨ret_u64 (by exact sll_eq a b), rfl⟩
theorem fn4 (a b : Nat) (ha : a < 18446744073709551616) (hb : b < 18446744073709551616) (w : World) :
    Calls Tryz.prog 146 #[.int .u64 a, .int .u64 b] w fun e w' => e = .returned (.int .u64 (opv 4 a b : Nat)) ∧ w = w' := by
  go_enter Tryz.func146, Tryz.ntmps146
  go_wp2_with (go_at_call 147; refine (truth_any _ _).mono ?_; rintro e w' ⟨rfl, rfl⟩)
  go_ret
  exact ⟨ret_u64 (by exact slt_eq a b), rfl⟩
theorem fn5 (a b : Nat) (ha : a < 18446744073709551616) (hb : b < 18446744073709551616) (w : World) :
    Calls Tryz.prog 148 #[.int .u64 a, .int .u64 b] w fun e w' => e = .returned (.int .u64 (opv 5 a b : Nat)) ∧ w = w' := by
  go_enter Tryz.func148, Tryz.ntmps148
  go_wp2_with (go_at_call 147; refine (truth_any _ _).mono ?_; rintro e w' ⟨rfl, rfl⟩)
  go_ret
  exact ⟨ret_u64 (by first | exact sltu_eq a b | exact sltu_eq' a b), rfl⟩
theorem fn6 (a b : Nat) (ha : a < 18446744073709551616) (hb : b < 18446744073709551616) (w : World) :
    Calls Tryz.prog 149 #[.int .u64 a, .int .u64 b] w fun e w' => e = .returned (.int .u64 (opv 6 a b : Nat)) ∧ w = w' := by
  go_enter Tryz.func149, Tryz.ntmps149
  go_wp2
  go_ret
  exact ⟨ret_u64 (by rw [opv_6]; exact bits_xor_u64_nat a b ha hb), rfl⟩
theorem fn7 (a b : Nat) (ha : a < 18446744073709551616) (hb : b < 18446744073709551616) (w : World) :
    Calls Tryz.prog 150 #[.int .u64 a, .int .u64 b] w fun e w' => e = .returned (.int .u64 (opv 7 a b : Nat)) ∧ w = w' := by
  go_enter Tryz.func150, Tryz.ntmps150
  go_wp2
  go_ret
  exact ⟨ret_u64 (by exact srl_eq a b), rfl⟩
theorem fn8 (a b : Nat) (ha : a < 18446744073709551616) (hb : b < 18446744073709551616) (w : World) :
    Calls Tryz.prog 151 #[.int .u64 a, .int .u64 b] w fun e w' => e = .returned (.int .u64 (opv 8 a b : Nat)) ∧ w = w' := by
  go_enter Tryz.func151, Tryz.ntmps151
  go_wp2
  go_ret
  exact ⟨ret_u64 (by exact sra_eq a b ha), rfl⟩
theorem fn9 (a b : Nat) (ha : a < 18446744073709551616) (hb : b < 18446744073709551616) (w : World) :
    Calls Tryz.prog 152 #[.int .u64 a, .int .u64 b] w fun e w' => e = .returned (.int .u64 (opv 9 a b : Nat)) ∧ w = w' := by
  go_enter Tryz.func152, Tryz.ntmps152
  go_wp2
  go_ret
  exact ⟨ret_u64 (by rw [opv_9]; exact bits_or_nat a b ha hb), rfl⟩
theorem fn10 (a b : Nat) (ha : a < 18446744073709551616) (hb : b < 18446744073709551616) (w : World) :
    Calls Tryz.prog 153 #[.int .u64 a, .int .u64 b] w fun e w' => e = .returned (.int .u64 (opv 10 a b : Nat)) ∧ w = w' := by
  go_enter Tryz.func153, Tryz.ntmps153
  go_wp2
  go_ret
  exact ⟨ret_u64 (by rw [opv_10]; exact bits_and_nat a b ha hb), rfl⟩
theorem fn11 (a b : Nat) (ha : a < 18446744073709551616) (hb : b < 18446744073709551616) (w : World) :
    Calls Tryz.prog 154 #[.int .u64 a, .int .u64 b] w fun e w' => e = .returned (.int .u64 (opv 11 a b : Nat)) ∧ w = w' := by
  go_enter Tryz.func154, Tryz.ntmps154
  go_wp2
  go_ret
  exact ⟨ret_u64 (by exact mul_eq a b), rfl⟩
theorem ret_u64u64 {a b c d : Int} (h : a = b) (h' : c = d) : Ending.returned (.tuple #[.int .u64 a, .int .u64 c]) = .returned (.tuple #[.int .u64 b, .int .u64 d]) := by rw [h, h']
theorem mul64_any (a b : Nat) (ha : a < 18446744073709551616) (hb : b < 18446744073709551616) (w : World) :
    Calls Tryz.prog 160 #[.int .u64 a, .int .u64 b] w fun e w' => e = .returned (.tuple #[.int .u64 (opv 12 a b : Nat), .int .u64 (opv 11 a b : Nat)]) ∧ w = w' := by
  go_enter Tryz.func160, Tryz.ntmps160
  go_wp2
  go_ret2
  exact ⟨ret_u64u64 (by exact mulhi_eq a b ha hb) (by exact mul_eq a b), rfl⟩
theorem fn12 (a b : Nat) (ha : a < 18446744073709551616) (hb : b < 18446744073709551616) (w : World) :
    Calls Tryz.prog 155 #[.int .u64 a, .int .u64 b] w fun e w' => e = .returned (.int .u64 (opv 12 a b : Nat)) ∧ w = w' := by
  go_enter Tryz.func155, Tryz.ntmps155
  go_wp2_with (go_at_call 160; refine (mul64_any _ _ ha hb _).mono ?_; rintro e w' ⟨rfl, rfl⟩)
  go_ret
  exact ⟨rfl, rfl⟩
theorem fn13 (a b : Nat) (ha : a < 18446744073709551616) (hb : b < 18446744073709551616) (w : World) :
    Calls Tryz.prog 156 #[.int .u64 a, .int .u64 b] w fun e w' => e = .returned (.int .u64 (opv 13 a b : Nat)) ∧ w = w' := by
  by_cases h : b = 0
  · subst h
    rw [opv_13, if_pos rfl]
    go_enter Tryz.func156, Tryz.ntmps156
    go_wp2
    go_ret
    exact ⟨rfl, rfl⟩
  · have h1 : ((b : Int) == 0) = false := by simpa using h
    have h2 : 1 ≤ b := by omega
    go_enter Tryz.func156, Tryz.ntmps156
    go_wp2
    go_ret
    exact ⟨ret_u64 (by exact quo_eq a b ha h), rfl⟩
theorem fn14 (a b : Nat) (ha : a < 18446744073709551616) (hb : b < 18446744073709551616) (w : World) :
    Calls Tryz.prog 157 #[.int .u64 a, .int .u64 b] w fun e w' => e = .returned (.int .u64 (opv 14 a b : Nat)) ∧ w = w' := by
  by_cases h : b = 0
  · subst h
    rw [opv_14, if_pos rfl]
    go_enter Tryz.func157, Tryz.ntmps157
    go_wp2
    go_ret
    exact ⟨rfl, rfl⟩
  · have h1 : ((b : Int) == 0) = false := by simpa using h
    have h2 : 1 ≤ b := by omega
    go_enter Tryz.func157, Tryz.ntmps157
    go_wp2
    go_ret
    exact ⟨ret_u64 (by exact rem_eq a b h), rfl⟩
set_option maxHeartbeats 400000 in
set_option maxRecDepth 100000 in
theorem rules_any (w : World) : Calls Tryz.prog 135 #[] w fun e w' => e = .returned (.agg #[.nilFunc, .func (.func 143) #[] #[], .func (.func 144) #[] #[], .func (.func 145) #[] #[], .func (.func 146) #[] #[], .func (.func 148) #[] #[], .func (.func 149) #[] #[], .func (.func 150) #[] #[], .func (.func 151) #[] #[], .func (.func 152) #[] #[], .func (.func 153) #[] #[], .func (.func 154) #[] #[], .func (.func 155) #[] #[], .func (.func 156) #[] #[], .func (.func 157) #[] #[]]) ∧ Below w.heap.size w w' := by
  go_enter Tryz.func135, Tryz.ntmps135
  go_wp2
  exact bodyPost_ret (v := .agg #[.nilFunc, .func (.func 143) #[] #[], .func (.func 144) #[] #[], .func (.func 145) #[] #[], .func (.func 146) #[] #[], .func (.func 148) #[] #[], .func (.func 149) #[] #[], .func (.func 150) #[] #[], .func (.func 151) #[] #[], .func (.func 152) #[] #[], .func (.func 153) #[] #[], .func (.func 154) #[] #[], .func (.func 155) #[] #[], .func (.func 156) #[] #[], .func (.func 157) #[] #[]]) (by simp [results, Tryz.results135, go_sem]) rfl ⟨rfl, (Below.refl _ _).alloc (Nat.le_refl _) _⟩

end Go.Proofs.YtfaacmcnefbgcaaGreatDoor

/- Contracts of word.Op, and of what the statements of layer 1 call of it. -/
namespace Go.Proofs.YtfaacmcnefbgcaaGreatDoor
open Go.ChangeShapes Go.WideShapes Go.ChangeAt Go.RowKit
set_option linter.unusedVariables false
/-- What Op answers. -/
def ope (k : Nat) : Nat := if 1 ≤ k ∧ k ≤ 14 then 0 else 2
theorem u8_cases {k : Nat} (h : 1 ≤ k ∧ k ≤ 14) : k = 1 ∨ k = 2 ∨ k = 3 ∨ k = 4 ∨ k = 5 ∨ k = 6 ∨ k = 7 ∨ k = 8 ∨ k = 9 ∨ k = 10 ∨ k = 11 ∨ k = 12 ∨ k = 13 ∨ k = 14 := by omega
theorem fld0 (f : Nat) : ∀ w : World, (Instr.field 199 (.agg #[.func (.func f) #[] #[]]) 0).run Tryz.prog w = .ok (.func (.func f) #[] #[]) w := fun _ => by kernel_rfl
theorem idx1 : ∀ w : World, (Instr.index 200 (.agg #[.nilFunc, .func (.func 143) #[] #[], .func (.func 144) #[] #[], .func (.func 145) #[] #[], .func (.func 146) #[] #[], .func (.func 148) #[] #[], .func (.func 149) #[] #[], .func (.func 150) #[] #[], .func (.func 151) #[] #[], .func (.func 152) #[] #[], .func (.func 153) #[] #[], .func (.func 154) #[] #[], .func (.func 155) #[] #[], .func (.func 156) #[] #[], .func (.func 157) #[] #[]]) (.int .u8 1)).run Tryz.prog w = .ok (.agg #[.func (.func 143) #[] #[]]) w := fun _ => by kernel_rfl
theorem idx2 : ∀ w : World, (Instr.index 200 (.agg #[.nilFunc, .func (.func 143) #[] #[], .func (.func 144) #[] #[], .func (.func 145) #[] #[], .func (.func 146) #[] #[], .func (.func 148) #[] #[], .func (.func 149) #[] #[], .func (.func 150) #[] #[], .func (.func 151) #[] #[], .func (.func 152) #[] #[], .func (.func 153) #[] #[], .func (.func 154) #[] #[], .func (.func 155) #[] #[], .func (.func 156) #[] #[], .func (.func 157) #[] #[]]) (.int .u8 2)).run Tryz.prog w = .ok (.agg #[.func (.func 144) #[] #[]]) w := fun _ => by kernel_rfl
theorem idx3 : ∀ w : World, (Instr.index 200 (.agg #[.nilFunc, .func (.func 143) #[] #[], .func (.func 144) #[] #[], .func (.func 145) #[] #[], .func (.func 146) #[] #[], .func (.func 148) #[] #[], .func (.func 149) #[] #[], .func (.func 150) #[] #[], .func (.func 151) #[] #[], .func (.func 152) #[] #[], .func (.func 153) #[] #[], .func (.func 154) #[] #[], .func (.func 155) #[] #[], .func (.func 156) #[] #[], .func (.func 157) #[] #[]]) (.int .u8 3)).run Tryz.prog w = .ok (.agg #[.func (.func 145) #[] #[]]) w := fun _ => by kernel_rfl
theorem idx4 : ∀ w : World, (Instr.index 200 (.agg #[.nilFunc, .func (.func 143) #[] #[], .func (.func 144) #[] #[], .func (.func 145) #[] #[], .func (.func 146) #[] #[], .func (.func 148) #[] #[], .func (.func 149) #[] #[], .func (.func 150) #[] #[], .func (.func 151) #[] #[], .func (.func 152) #[] #[], .func (.func 153) #[] #[], .func (.func 154) #[] #[], .func (.func 155) #[] #[], .func (.func 156) #[] #[], .func (.func 157) #[] #[]]) (.int .u8 4)).run Tryz.prog w = .ok (.agg #[.func (.func 146) #[] #[]]) w := fun _ => by kernel_rfl
theorem idx5 : ∀ w : World, (Instr.index 200 (.agg #[.nilFunc, .func (.func 143) #[] #[], .func (.func 144) #[] #[], .func (.func 145) #[] #[], .func (.func 146) #[] #[], .func (.func 148) #[] #[], .func (.func 149) #[] #[], .func (.func 150) #[] #[], .func (.func 151) #[] #[], .func (.func 152) #[] #[], .func (.func 153) #[] #[], .func (.func 154) #[] #[], .func (.func 155) #[] #[], .func (.func 156) #[] #[], .func (.func 157) #[] #[]]) (.int .u8 5)).run Tryz.prog w = .ok (.agg #[.func (.func 148) #[] #[]]) w := fun _ => by kernel_rfl
theorem idx6 : ∀ w : World, (Instr.index 200 (.agg #[.nilFunc, .func (.func 143) #[] #[], .func (.func 144) #[] #[], .func (.func 145) #[] #[], .func (.func 146) #[] #[], .func (.func 148) #[] #[], .func (.func 149) #[] #[], .func (.func 150) #[] #[], .func (.func 151) #[] #[], .func (.func 152) #[] #[], .func (.func 153) #[] #[], .func (.func 154) #[] #[], .func (.func 155) #[] #[], .func (.func 156) #[] #[], .func (.func 157) #[] #[]]) (.int .u8 6)).run Tryz.prog w = .ok (.agg #[.func (.func 149) #[] #[]]) w := fun _ => by kernel_rfl
theorem idx7 : ∀ w : World, (Instr.index 200 (.agg #[.nilFunc, .func (.func 143) #[] #[], .func (.func 144) #[] #[], .func (.func 145) #[] #[], .func (.func 146) #[] #[], .func (.func 148) #[] #[], .func (.func 149) #[] #[], .func (.func 150) #[] #[], .func (.func 151) #[] #[], .func (.func 152) #[] #[], .func (.func 153) #[] #[], .func (.func 154) #[] #[], .func (.func 155) #[] #[], .func (.func 156) #[] #[], .func (.func 157) #[] #[]]) (.int .u8 7)).run Tryz.prog w = .ok (.agg #[.func (.func 150) #[] #[]]) w := fun _ => by kernel_rfl
theorem idx8 : ∀ w : World, (Instr.index 200 (.agg #[.nilFunc, .func (.func 143) #[] #[], .func (.func 144) #[] #[], .func (.func 145) #[] #[], .func (.func 146) #[] #[], .func (.func 148) #[] #[], .func (.func 149) #[] #[], .func (.func 150) #[] #[], .func (.func 151) #[] #[], .func (.func 152) #[] #[], .func (.func 153) #[] #[], .func (.func 154) #[] #[], .func (.func 155) #[] #[], .func (.func 156) #[] #[], .func (.func 157) #[] #[]]) (.int .u8 8)).run Tryz.prog w = .ok (.agg #[.func (.func 151) #[] #[]]) w := fun _ => by kernel_rfl
theorem idx9 : ∀ w : World, (Instr.index 200 (.agg #[.nilFunc, .func (.func 143) #[] #[], .func (.func 144) #[] #[], .func (.func 145) #[] #[], .func (.func 146) #[] #[], .func (.func 148) #[] #[], .func (.func 149) #[] #[], .func (.func 150) #[] #[], .func (.func 151) #[] #[], .func (.func 152) #[] #[], .func (.func 153) #[] #[], .func (.func 154) #[] #[], .func (.func 155) #[] #[], .func (.func 156) #[] #[], .func (.func 157) #[] #[]]) (.int .u8 9)).run Tryz.prog w = .ok (.agg #[.func (.func 152) #[] #[]]) w := fun _ => by kernel_rfl
theorem idx10 : ∀ w : World, (Instr.index 200 (.agg #[.nilFunc, .func (.func 143) #[] #[], .func (.func 144) #[] #[], .func (.func 145) #[] #[], .func (.func 146) #[] #[], .func (.func 148) #[] #[], .func (.func 149) #[] #[], .func (.func 150) #[] #[], .func (.func 151) #[] #[], .func (.func 152) #[] #[], .func (.func 153) #[] #[], .func (.func 154) #[] #[], .func (.func 155) #[] #[], .func (.func 156) #[] #[], .func (.func 157) #[] #[]]) (.int .u8 10)).run Tryz.prog w = .ok (.agg #[.func (.func 153) #[] #[]]) w := fun _ => by kernel_rfl
theorem idx11 : ∀ w : World, (Instr.index 200 (.agg #[.nilFunc, .func (.func 143) #[] #[], .func (.func 144) #[] #[], .func (.func 145) #[] #[], .func (.func 146) #[] #[], .func (.func 148) #[] #[], .func (.func 149) #[] #[], .func (.func 150) #[] #[], .func (.func 151) #[] #[], .func (.func 152) #[] #[], .func (.func 153) #[] #[], .func (.func 154) #[] #[], .func (.func 155) #[] #[], .func (.func 156) #[] #[], .func (.func 157) #[] #[]]) (.int .u8 11)).run Tryz.prog w = .ok (.agg #[.func (.func 154) #[] #[]]) w := fun _ => by kernel_rfl
theorem idx12 : ∀ w : World, (Instr.index 200 (.agg #[.nilFunc, .func (.func 143) #[] #[], .func (.func 144) #[] #[], .func (.func 145) #[] #[], .func (.func 146) #[] #[], .func (.func 148) #[] #[], .func (.func 149) #[] #[], .func (.func 150) #[] #[], .func (.func 151) #[] #[], .func (.func 152) #[] #[], .func (.func 153) #[] #[], .func (.func 154) #[] #[], .func (.func 155) #[] #[], .func (.func 156) #[] #[], .func (.func 157) #[] #[]]) (.int .u8 12)).run Tryz.prog w = .ok (.agg #[.func (.func 155) #[] #[]]) w := fun _ => by kernel_rfl
theorem idx13 : ∀ w : World, (Instr.index 200 (.agg #[.nilFunc, .func (.func 143) #[] #[], .func (.func 144) #[] #[], .func (.func 145) #[] #[], .func (.func 146) #[] #[], .func (.func 148) #[] #[], .func (.func 149) #[] #[], .func (.func 150) #[] #[], .func (.func 151) #[] #[], .func (.func 152) #[] #[], .func (.func 153) #[] #[], .func (.func 154) #[] #[], .func (.func 155) #[] #[], .func (.func 156) #[] #[], .func (.func 157) #[] #[]]) (.int .u8 13)).run Tryz.prog w = .ok (.agg #[.func (.func 156) #[] #[]]) w := fun _ => by kernel_rfl
theorem idx14 : ∀ w : World, (Instr.index 200 (.agg #[.nilFunc, .func (.func 143) #[] #[], .func (.func 144) #[] #[], .func (.func 145) #[] #[], .func (.func 146) #[] #[], .func (.func 148) #[] #[], .func (.func 149) #[] #[], .func (.func 150) #[] #[], .func (.func 151) #[] #[], .func (.func 152) #[] #[], .func (.func 153) #[] #[], .func (.func 154) #[] #[], .func (.func 155) #[] #[], .func (.func 156) #[] #[], .func (.func 157) #[] #[]]) (.int .u8 14)).run Tryz.prog w = .ok (.agg #[.func (.func 157) #[] #[]]) w := fun _ => by kernel_rfl
theorem wop_1 (a b : Nat) (ha : a < 18446744073709551616) (hb : b < 18446744073709551616) (w : World) :
    Calls Tryz.prog 119 #[.int .u8 1, .int .u64 a, .int .u64 b] w fun e w' => e = .returned (.tuple #[.int .u64 (opv 1 a b : Nat), .int .i64 0]) ∧ Below w.heap.size w w' := by
  have hi := idx1
  have hf := fld0
  go_enter Tryz.func119, Tryz.ntmps119
  go_wp2_with (first | (go_at_call 135; refine (rules_any _).mono ?_; rintro e w' ⟨rfl, hg⟩) | (go_at_call 143; refine (fn1 _ _ ha hb _).mono ?_; rintro e w' ⟨rfl, rfl⟩))
  go_ret2
  exact ⟨rfl, hg⟩
theorem wop_2 (a b : Nat) (ha : a < 18446744073709551616) (hb : b < 18446744073709551616) (w : World) :
    Calls Tryz.prog 119 #[.int .u8 2, .int .u64 a, .int .u64 b] w fun e w' => e = .returned (.tuple #[.int .u64 (opv 2 a b : Nat), .int .i64 0]) ∧ Below w.heap.size w w' := by
  have hi := idx2
  have hf := fld0
  go_enter Tryz.func119, Tryz.ntmps119
  go_wp2_with (first | (go_at_call 135; refine (rules_any _).mono ?_; rintro e w' ⟨rfl, hg⟩) | (go_at_call 144; refine (fn2 _ _ ha hb _).mono ?_; rintro e w' ⟨rfl, rfl⟩))
  go_ret2
  exact ⟨rfl, hg⟩
theorem wop_3 (a b : Nat) (ha : a < 18446744073709551616) (hb : b < 18446744073709551616) (w : World) :
    Calls Tryz.prog 119 #[.int .u8 3, .int .u64 a, .int .u64 b] w fun e w' => e = .returned (.tuple #[.int .u64 (opv 3 a b : Nat), .int .i64 0]) ∧ Below w.heap.size w w' := by
  have hi := idx3
  have hf := fld0
  go_enter Tryz.func119, Tryz.ntmps119
  go_wp2_with (first | (go_at_call 135; refine (rules_any _).mono ?_; rintro e w' ⟨rfl, hg⟩) | (go_at_call 145; refine (fn3 _ _ ha hb _).mono ?_; rintro e w' ⟨rfl, rfl⟩))
  go_ret2
  exact ⟨rfl, hg⟩
theorem wop_4 (a b : Nat) (ha : a < 18446744073709551616) (hb : b < 18446744073709551616) (w : World) :
    Calls Tryz.prog 119 #[.int .u8 4, .int .u64 a, .int .u64 b] w fun e w' => e = .returned (.tuple #[.int .u64 (opv 4 a b : Nat), .int .i64 0]) ∧ Below w.heap.size w w' := by
  have hi := idx4
  have hf := fld0
  go_enter Tryz.func119, Tryz.ntmps119
  go_wp2_with (first | (go_at_call 135; refine (rules_any _).mono ?_; rintro e w' ⟨rfl, hg⟩) | (go_at_call 146; refine (fn4 _ _ ha hb _).mono ?_; rintro e w' ⟨rfl, rfl⟩))
  go_ret2
  exact ⟨rfl, hg⟩
theorem wop_5 (a b : Nat) (ha : a < 18446744073709551616) (hb : b < 18446744073709551616) (w : World) :
    Calls Tryz.prog 119 #[.int .u8 5, .int .u64 a, .int .u64 b] w fun e w' => e = .returned (.tuple #[.int .u64 (opv 5 a b : Nat), .int .i64 0]) ∧ Below w.heap.size w w' := by
  have hi := idx5
  have hf := fld0
  go_enter Tryz.func119, Tryz.ntmps119
  go_wp2_with (first | (go_at_call 135; refine (rules_any _).mono ?_; rintro e w' ⟨rfl, hg⟩) | (go_at_call 148; refine (fn5 _ _ ha hb _).mono ?_; rintro e w' ⟨rfl, rfl⟩))
  go_ret2
  exact ⟨rfl, hg⟩
theorem wop_6 (a b : Nat) (ha : a < 18446744073709551616) (hb : b < 18446744073709551616) (w : World) :
    Calls Tryz.prog 119 #[.int .u8 6, .int .u64 a, .int .u64 b] w fun e w' => e = .returned (.tuple #[.int .u64 (opv 6 a b : Nat), .int .i64 0]) ∧ Below w.heap.size w w' := by
  have hi := idx6
  have hf := fld0
  go_enter Tryz.func119, Tryz.ntmps119
  go_wp2_with (first | (go_at_call 135; refine (rules_any _).mono ?_; rintro e w' ⟨rfl, hg⟩) | (go_at_call 149; refine (fn6 _ _ ha hb _).mono ?_; rintro e w' ⟨rfl, rfl⟩))
  go_ret2
  exact ⟨rfl, hg⟩
theorem wop_7 (a b : Nat) (ha : a < 18446744073709551616) (hb : b < 18446744073709551616) (w : World) :
    Calls Tryz.prog 119 #[.int .u8 7, .int .u64 a, .int .u64 b] w fun e w' => e = .returned (.tuple #[.int .u64 (opv 7 a b : Nat), .int .i64 0]) ∧ Below w.heap.size w w' := by
  have hi := idx7
  have hf := fld0
  go_enter Tryz.func119, Tryz.ntmps119
  go_wp2_with (first | (go_at_call 135; refine (rules_any _).mono ?_; rintro e w' ⟨rfl, hg⟩) | (go_at_call 150; refine (fn7 _ _ ha hb _).mono ?_; rintro e w' ⟨rfl, rfl⟩))
  go_ret2
  exact ⟨rfl, hg⟩
theorem wop_8 (a b : Nat) (ha : a < 18446744073709551616) (hb : b < 18446744073709551616) (w : World) :
    Calls Tryz.prog 119 #[.int .u8 8, .int .u64 a, .int .u64 b] w fun e w' => e = .returned (.tuple #[.int .u64 (opv 8 a b : Nat), .int .i64 0]) ∧ Below w.heap.size w w' := by
  have hi := idx8
  have hf := fld0
  go_enter Tryz.func119, Tryz.ntmps119
  go_wp2_with (first | (go_at_call 135; refine (rules_any _).mono ?_; rintro e w' ⟨rfl, hg⟩) | (go_at_call 151; refine (fn8 _ _ ha hb _).mono ?_; rintro e w' ⟨rfl, rfl⟩))
  go_ret2
  exact ⟨rfl, hg⟩
theorem wop_9 (a b : Nat) (ha : a < 18446744073709551616) (hb : b < 18446744073709551616) (w : World) :
    Calls Tryz.prog 119 #[.int .u8 9, .int .u64 a, .int .u64 b] w fun e w' => e = .returned (.tuple #[.int .u64 (opv 9 a b : Nat), .int .i64 0]) ∧ Below w.heap.size w w' := by
  have hi := idx9
  have hf := fld0
  go_enter Tryz.func119, Tryz.ntmps119
  go_wp2_with (first | (go_at_call 135; refine (rules_any _).mono ?_; rintro e w' ⟨rfl, hg⟩) | (go_at_call 152; refine (fn9 _ _ ha hb _).mono ?_; rintro e w' ⟨rfl, rfl⟩))
  go_ret2
  exact ⟨rfl, hg⟩
theorem wop_10 (a b : Nat) (ha : a < 18446744073709551616) (hb : b < 18446744073709551616) (w : World) :
    Calls Tryz.prog 119 #[.int .u8 10, .int .u64 a, .int .u64 b] w fun e w' => e = .returned (.tuple #[.int .u64 (opv 10 a b : Nat), .int .i64 0]) ∧ Below w.heap.size w w' := by
  have hi := idx10
  have hf := fld0
  go_enter Tryz.func119, Tryz.ntmps119
  go_wp2_with (first | (go_at_call 135; refine (rules_any _).mono ?_; rintro e w' ⟨rfl, hg⟩) | (go_at_call 153; refine (fn10 _ _ ha hb _).mono ?_; rintro e w' ⟨rfl, rfl⟩))
  go_ret2
  exact ⟨rfl, hg⟩
theorem wop_11 (a b : Nat) (ha : a < 18446744073709551616) (hb : b < 18446744073709551616) (w : World) :
    Calls Tryz.prog 119 #[.int .u8 11, .int .u64 a, .int .u64 b] w fun e w' => e = .returned (.tuple #[.int .u64 (opv 11 a b : Nat), .int .i64 0]) ∧ Below w.heap.size w w' := by
  have hi := idx11
  have hf := fld0
  go_enter Tryz.func119, Tryz.ntmps119
  go_wp2_with (first | (go_at_call 135; refine (rules_any _).mono ?_; rintro e w' ⟨rfl, hg⟩) | (go_at_call 154; refine (fn11 _ _ ha hb _).mono ?_; rintro e w' ⟨rfl, rfl⟩))
  go_ret2
  exact ⟨rfl, hg⟩
theorem wop_12 (a b : Nat) (ha : a < 18446744073709551616) (hb : b < 18446744073709551616) (w : World) :
    Calls Tryz.prog 119 #[.int .u8 12, .int .u64 a, .int .u64 b] w fun e w' => e = .returned (.tuple #[.int .u64 (opv 12 a b : Nat), .int .i64 0]) ∧ Below w.heap.size w w' := by
  have hi := idx12
  have hf := fld0
  go_enter Tryz.func119, Tryz.ntmps119
  go_wp2_with (first | (go_at_call 135; refine (rules_any _).mono ?_; rintro e w' ⟨rfl, hg⟩) | (go_at_call 155; refine (fn12 _ _ ha hb _).mono ?_; rintro e w' ⟨rfl, rfl⟩))
  go_ret2
  exact ⟨rfl, hg⟩
theorem wop_13 (a b : Nat) (ha : a < 18446744073709551616) (hb : b < 18446744073709551616) (w : World) :
    Calls Tryz.prog 119 #[.int .u8 13, .int .u64 a, .int .u64 b] w fun e w' => e = .returned (.tuple #[.int .u64 (opv 13 a b : Nat), .int .i64 0]) ∧ Below w.heap.size w w' := by
  have hi := idx13
  have hf := fld0
  go_enter Tryz.func119, Tryz.ntmps119
  go_wp2_with (first | (go_at_call 135; refine (rules_any _).mono ?_; rintro e w' ⟨rfl, hg⟩) | (go_at_call 156; refine (fn13 _ _ ha hb _).mono ?_; rintro e w' ⟨rfl, rfl⟩))
  go_ret2
  exact ⟨rfl, hg⟩
theorem wop_14 (a b : Nat) (ha : a < 18446744073709551616) (hb : b < 18446744073709551616) (w : World) :
    Calls Tryz.prog 119 #[.int .u8 14, .int .u64 a, .int .u64 b] w fun e w' => e = .returned (.tuple #[.int .u64 (opv 14 a b : Nat), .int .i64 0]) ∧ Below w.heap.size w w' := by
  have hi := idx14
  have hf := fld0
  go_enter Tryz.func119, Tryz.ntmps119
  go_wp2_with (first | (go_at_call 135; refine (rules_any _).mono ?_; rintro e w' ⟨rfl, hg⟩) | (go_at_call 157; refine (fn14 _ _ ha hb _).mono ?_; rintro e w' ⟨rfl, rfl⟩))
  go_ret2
  exact ⟨rfl, hg⟩
theorem wop_any (k a b : Nat) (hk : k < 256) (ha : a < 18446744073709551616) (hb : b < 18446744073709551616) (w : World) :
    Calls Tryz.prog 119 #[.int .u8 k, .int .u64 a, .int .u64 b] w fun e w' => e = .returned (.tuple #[.int .u64 (opv k a b : Nat), .int .i64 (ope k : Nat)]) ∧ Below w.heap.size w w' := by
  by_cases h : 1 ≤ k ∧ k ≤ 14
  · rw [show ope k = 0 from if_pos h]
    have hc := u8_cases h
    rcases hc with rfl | rfl | rfl | rfl | rfl | rfl | rfl | rfl | rfl | rfl | rfl | rfl | rfl | rfl
    · exact wop_1 a b ha hb w
    · exact wop_2 a b ha hb w
    · exact wop_3 a b ha hb w
    · exact wop_4 a b ha hb w
    · exact wop_5 a b ha hb w
    · exact wop_6 a b ha hb w
    · exact wop_7 a b ha hb w
    · exact wop_8 a b ha hb w
    · exact wop_9 a b ha hb w
    · exact wop_10 a b ha hb w
    · exact wop_11 a b ha hb w
    · exact wop_12 a b ha hb w
    · exact wop_13 a b ha hb w
    · exact wop_14 a b ha hb w
  · rw [opv_none k a b h, show ope k = 2 from if_neg h]
    rcases Nat.lt_or_ge k 1 with h1 | h1
    · obtain rfl : k = 0 := by omega
      go_enter Tryz.func119, Tryz.ntmps119
      go_wp2
      go_ret2
      exact ⟨rfl, Below.refl _ _⟩
    · have h2 : ¬ ((k : Int) < 1) := by omega
      have h3 : (14 : Int) < (k : Int) := by omega
      clear h h1
      go_enter Tryz.func119, Tryz.ntmps119
      go_wp2
      go_ret2
      exact ⟨rfl, Below.refl _ _⟩
end Go.Proofs.YtfaacmcnefbgcaaGreatDoor
