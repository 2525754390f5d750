/- The chapter's examples of layer 1 (alive), as the statements ask them: they hold. -/
import Derived.Test.YtodhldhaijhdgaaWordD
namespace Go.Proofs.Ytodhldhaijhdgaa
open Go.ChangeShapes Go.WideShapes Go.ChangeAt Go.RowKit
set_option linter.unusedVariables false
theorem grown_trans {a b c : World} (h : Grown a b) (k : Grown b c) : Grown a c := by
  refine ⟨World.keptBut_trans h.1 ?_, fun x => (k.2.1 x).trans (h.2.1 x), Nat.le_trans h.2.2 k.2.2⟩
  exact k.1
theorem al1 : opv 8 18446744073709551608 65 = 18446744073709551612 := by rw [opv_8]; decide
theorem al2 : opv 13 5 0 = 18446744073709551615 := by rw [opv_13]; decide
theorem al3 : opv 12 9223372036854775808 6 = 3 := by rw [opv_12]
theorem al4 : signv 255 8 = 18446744073709551615 := by decide
theorem al5 : strOfNums (bl 258 3) = ⟨#[2, 1, 0]⟩ := by decide
theorem al6 : wordv [2, 1] = 258 := by decide
theorem al7 : signv 2047 12 = 2047 := by decide
theorem al8 : ¬ signv 2048 12 = 2048 := by decide
theorem al9 : opv 0 1 1 = 0 := opv_none 0 1 1 (by omega)
theorem aw (n : Nat) (h : n < 9223372036854775808) : wrap64 (n : Int) = n := by rw [wrap64_nat n (by omega), if_pos h]
theorem alive_c1 (w : World) : Calls Try.prog 7 #[.int .u8 8, .int .u64 18446744073709551608, .int .u64 65] w fun e w' => e = .returned (.tuple #[.int .u64 18446744073709551612, .int .i64 0]) ∧ Grown w w' := by
  have h := wop_8 18446744073709551608 65 (by omega) (by omega) w
  rw [al1] at h; exact h
theorem alive_c2 (w : World) : Calls Try.prog 7 #[.int .u8 13, .int .u64 5, .int .u64 0] w fun e w' => e = .returned (.tuple #[.int .u64 18446744073709551615, .int .i64 0]) ∧ Grown w w' := by
  have h := wop_13 5 0 (by omega) (by omega) w
  rw [al2] at h; exact h
theorem alive_c3 (w : World) : Calls Try.prog 7 #[.int .u8 12, .int .u64 9223372036854775808, .int .u64 6] w fun e w' => e = .returned (.tuple #[.int .u64 3, .int .i64 0]) ∧ Grown w w' := by
  have h := wop_12 9223372036854775808 6 (by omega) (by omega) w
  rw [al3] at h; exact h
theorem alive_c4 (w : World) : Calls Try.prog 10 #[.int .u64 255, .int .i64 8] w fun e w' => e = .returned (.tuple #[.int .u64 18446744073709551615, .int .i64 0]) ∧ w = w' := by
  have h := sign_any 255 8 (by omega) (by omega) (by omega) w
  rw [al4] at h; exact h
theorem alive_c5 (w : World) : Calls Try.prog 12 #[.int .u64 258, .int .i64 3] w fun e w' => e = .returned (.tuple #[.string ⟨#[2, 1, 0]⟩, .int .i64 0]) ∧ Grown w w' := by
  have h := bytes_any 258 3 (by omega) (by omega) (by omega) w
  rw [al5] at h; exact h
theorem alive_c6 (w : World) : Calls Try.prog 14 #[.string ⟨#[2, 1]⟩] w fun e w' => e = .returned (.tuple #[.int .u64 258, .int .i64 0]) ∧ w = w' := by
  have h := word_any ⟨#[2, 1]⟩ (by decide) (by decide) w
  have e : wordv (ByteArray.mk #[2, 1]).data.toList = 258 := by decide
  rw [e] at h; exact h
theorem alive_c7 (w : World) : Calls Try.prog 7 #[.int .u8 0, .int .u64 1, .int .u64 1] w fun e w' => e = .returned (.tuple #[.int .u64 0, .int .i64 2]) ∧ Grown w w' := by
  have h := wop_any 0 1 1 (by omega) (by omega) (by omega) w
  rw [al9] at h; exact h
theorem alive_c8 (w : World) : Calls Try.prog 16 #[.int .i64 2047, .int .i64 12] w fun e w' => e = .returned (.bool true) ∧ w = w' := by
  have h := fits_any 2047 12 (by omega) (by omega) (by omega) w
  rw [aw 2047 (by omega), al7] at h; exact h
theorem alive_c9 (w : World) : Calls Try.prog 16 #[.int .i64 2048, .int .i64 12] w fun e w' => e = .returned (.bool false) ∧ w = w' := by
  have h := fits_any 2048 12 (by omega) (by omega) (by omega) w
  rw [aw 2048 (by omega), decide_eq_false al8] at h; exact h
theorem alive_any (w : World) : Calls Try.prog 9 #[] w fun e w' => e = .returned (.bool true) ∧ Grown w w' := by
  go_enter Try.func9, Try.ntmps9
  go_wp2_with (first | (go_at_call 7; first | (with_reducible refine (alive_c1 _).mono ?_); (rintro e w1 ⟨rfl, g1⟩) | (with_reducible refine (alive_c2 _).mono ?_); (rintro e w2 ⟨rfl, g2⟩) | (with_reducible refine (alive_c3 _).mono ?_); (rintro e w3 ⟨rfl, g3⟩) | (with_reducible refine (alive_c7 _).mono ?_); (rintro e w7 ⟨rfl, g7⟩)) | (go_at_call 10; refine (alive_c4 _).mono ?_; rintro e w4 ⟨rfl, rfl⟩) | (go_at_call 12; refine (alive_c5 _).mono ?_; rintro e w5 ⟨rfl, g5⟩) | (go_at_call 14; refine (alive_c6 _).mono ?_; rintro e w6 ⟨rfl, rfl⟩) | (go_at_call 16; first | (with_reducible refine (alive_c8 _).mono ?_); (rintro e w8 ⟨rfl, rfl⟩) | (with_reducible refine (alive_c9 _).mono ?_); (rintro e w9 ⟨rfl, rfl⟩)))
  go_ret
  exact ⟨rfl, grown_trans g1 (grown_trans g2 (grown_trans g3 (grown_trans g5 g7)))⟩
end Go.Proofs.Ytodhldhaijhdgaa
