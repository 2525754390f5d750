/- Plain numbers for the document's own answers: halves and bits. -/
import Derived.Test.YtjkagpmepokihaaDoorPl1
namespace Go.Proofs.YtjkagpmepokihaaDoor
open Go Go.RowKit
set_option linter.unusedVariables false
theorem half_pow (b j : Nat) : b / 2 ^ j = 2 * (b / 2 ^ (j + 1)) + b / 2 ^ j % 2 := by
  have : b / 2 ^ (j + 1) = b / 2 ^ j / 2 := by rw [Nat.pow_succ, Nat.div_div_eq_div_mul]
  omega
theorem top_pow (b : Nat) (hb : b < 18446744073709551616) : b / 2 ^ 64 = 0 := Nat.div_eq_of_lt hb
theorem prod_bound (a b j : Nat) (ha : a < 18446744073709551616) (hb : b < 18446744073709551616) : a * (b / 2 ^ (j + 1)) < 18446744073709551616 * 9223372036854775808 := by
  have h1 : b / 2 ^ (j + 1) ≤ b / 2 := by
    rw [Nat.pow_succ, Nat.mul_comm, ← Nat.div_div_eq_div_mul]; exact Nat.div_le_self _ _
  have h2 : b / 2 ^ (j + 1) < 9223372036854775808 := by omega
  exact Nat.mul_lt_mul'' ha h2
theorem tmod_two (b j : Nat) : ((b : Int) / 2 ^ j).tmod 2 = ((b / 2 ^ j % 2 : Nat) : Int) := by
  rw [← cast_pow_div, Int.tmod_eq_emod_of_nonneg (Int.natCast_nonneg _)]; rfl
theorem bit_int (b j : Nat) : (((b : Int) / 2 ^ j).tmod 2 == 1) = decide (b / 2 ^ j % 2 = 1) := by
  rw [tmod_two, Bool.eq_iff_iff]; simp only [beq_iff_eq, decide_eq_true_eq]; omega
end Go.Proofs.YtjkagpmepokihaaDoor
