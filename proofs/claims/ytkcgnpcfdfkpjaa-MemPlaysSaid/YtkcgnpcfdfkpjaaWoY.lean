/- Contract of word.Bytes. -/
import Derived.Test.YtkcgnpcfdfkpjaaWoP
import Derived.Lib.Hide
namespace Go.Proofs.Ytkcgnpcfdfkpjaa
open Go.ChangeShapes Go.WideShapes Go.ChangeAt Go.RowKit
set_option linter.unusedVariables false

/-- The lowest n bytes of v, the lowest one first. -/
def bl (v n : Nat) : List Int := ([(v : Int) % 256, (v : Int) / 256 % 256, (v : Int) / 65536 % 256, (v : Int) / 16777216 % 256, (v : Int) / 4294967296 % 256, (v : Int) / 1099511627776 % 256, (v : Int) / 281474976710656 % 256, (v : Int) / 72057594037927936] : List Int).take n
/-- string(b[:n]) of a block of eight bytes. -/
theorem conv8 (n : Nat) (hn : n ≤ 8) (x0 x1 x2 x3 x4 x5 x6 x7 : Int) (w : World) :
    (convert 57 9 (.slice (some ⟨w.heap.size, 0, none⟩) n 8)).run Try.prog (w.alloc (.cells #[.int .u8 x0, .int .u8 x1, .int .u8 x2, .int .u8 x3, .int .u8 x4, .int .u8 x5, .int .u8 x6, .int .u8 x7] 89)) = .ok (.string (strOfNums ([x0, x1, x2, x3, x4, x5, x6, x7].take n))) (w.alloc (.cells #[.int .u8 x0, .int .u8 x1, .int .u8 x2, .int .u8 x3, .int .u8 x4, .int .u8 x5, .int .u8 x6, .int .u8 x7] 89)) := by
  refine run_convert_bytes_arg (P := Try.prog) _ 57 5 Try.underlying57 Try.underlying5 w.heap.size 0 n 8 _ (by simp; omega) ?_ 9 Try.underlying9
  intro i hi
  have h8 : i = 0 ∨ i = 1 ∨ i = 2 ∨ i = 3 ∨ i = 4 ∨ i = 5 ∨ i = 6 ∨ i = 7 := by omega
  rw [List.getD_eq_getElem?_getD, List.getElem?_take, if_pos hi]
  rcases h8 with rfl | rfl | rfl | rfl | rfl | rfl | rfl | rfl <;> simp [go_sem]

theorem bytes_bad (v : Nat) (n : Int) (h : n < 1 ∨ 8 < n) (w : World) :
    Calls Try.prog 35 #[.int .u64 v, .int .i64 n] w fun e w' => e = .returned (.tuple #[.string ByteArray.empty, .int .i64 2]) ∧ w = w' := by
  by_cases h1 : n < 1
  · clear h
    go_enter Try.func35, Try.ntmps35
    go_wp2
    go_ret2
    exact ⟨rfl, rfl⟩
  · have h2 : 8 < n := by omega
    clear h
    go_enter Try.func35, Try.ntmps35
    go_wp2
    go_ret2
    exact ⟨rfl, rfl⟩
theorem bytes_1 (v : Nat) (hv : v < 18446744073709551616) (w : World) :
    Calls Try.prog 35 #[.int .u64 v, .int .i64 1] w fun e w' => e = .returned (.tuple #[.string (strOfNums (bl v 1)), .int .i64 0]) ∧ Below w.heap.size w w' := by
  have hc := conv8 1 (by omega)
  go_enter Try.func35, Try.ntmps35
  go_wp2
  go_rounds 2
  go_ret2
  exact ⟨rfl, (Below.refl _ _).alloc (Nat.le_refl _) _⟩
theorem bytes_2 (v : Nat) (hv : v < 18446744073709551616) (w : World) :
    Calls Try.prog 35 #[.int .u64 v, .int .i64 2] w fun e w' => e = .returned (.tuple #[.string (strOfNums (bl v 2)), .int .i64 0]) ∧ Below w.heap.size w w' := by
  have hc := conv8 2 (by omega)
  go_enter Try.func35, Try.ntmps35
  go_wp2
  go_rounds 3
  go_ret2
  exact ⟨rfl, (Below.refl _ _).alloc (Nat.le_refl _) _⟩
theorem bytes_3 (v : Nat) (hv : v < 18446744073709551616) (w : World) :
    Calls Try.prog 35 #[.int .u64 v, .int .i64 3] w fun e w' => e = .returned (.tuple #[.string (strOfNums (bl v 3)), .int .i64 0]) ∧ Below w.heap.size w w' := by
  have hc := conv8 3 (by omega)
  go_enter Try.func35, Try.ntmps35
  go_wp2
  go_rounds 4
  go_ret2
  exact ⟨rfl, (Below.refl _ _).alloc (Nat.le_refl _) _⟩
theorem bytes_4 (v : Nat) (hv : v < 18446744073709551616) (w : World) :
    Calls Try.prog 35 #[.int .u64 v, .int .i64 4] w fun e w' => e = .returned (.tuple #[.string (strOfNums (bl v 4)), .int .i64 0]) ∧ Below w.heap.size w w' := by
  have hc := conv8 4 (by omega)
  go_enter Try.func35, Try.ntmps35
  go_wp2
  go_rounds 5
  go_ret2
  exact ⟨rfl, (Below.refl _ _).alloc (Nat.le_refl _) _⟩
theorem bytes_5 (v : Nat) (hv : v < 18446744073709551616) (w : World) :
    Calls Try.prog 35 #[.int .u64 v, .int .i64 5] w fun e w' => e = .returned (.tuple #[.string (strOfNums (bl v 5)), .int .i64 0]) ∧ Below w.heap.size w w' := by
  have hc := conv8 5 (by omega)
  go_enter Try.func35, Try.ntmps35
  go_wp2
  go_rounds 6
  go_ret2
  exact ⟨rfl, (Below.refl _ _).alloc (Nat.le_refl _) _⟩
theorem bytes_6 (v : Nat) (hv : v < 18446744073709551616) (w : World) :
    Calls Try.prog 35 #[.int .u64 v, .int .i64 6] w fun e w' => e = .returned (.tuple #[.string (strOfNums (bl v 6)), .int .i64 0]) ∧ Below w.heap.size w w' := by
  have hc := conv8 6 (by omega)
  go_enter Try.func35, Try.ntmps35
  go_wp2
  go_rounds 7
  go_ret2
  exact ⟨rfl, (Below.refl _ _).alloc (Nat.le_refl _) _⟩
theorem bytes_7 (v : Nat) (hv : v < 18446744073709551616) (w : World) :
    Calls Try.prog 35 #[.int .u64 v, .int .i64 7] w fun e w' => e = .returned (.tuple #[.string (strOfNums (bl v 7)), .int .i64 0]) ∧ Below w.heap.size w w' := by
  have hc := conv8 7 (by omega)
  go_enter Try.func35, Try.ntmps35
  go_wp2
  go_rounds 8
  go_ret2
  exact ⟨rfl, (Below.refl _ _).alloc (Nat.le_refl _) _⟩
theorem bytes_8 (v : Nat) (hv : v < 18446744073709551616) (w : World) :
    Calls Try.prog 35 #[.int .u64 v, .int .i64 8] w fun e w' => e = .returned (.tuple #[.string (strOfNums (bl v 8)), .int .i64 0]) ∧ Below w.heap.size w w' := by
  have hc := conv8 8 (by omega)
  go_enter Try.func35, Try.ntmps35
  go_wp2
  go_rounds 9
  go_ret2
  exact ⟨rfl, (Below.refl _ _).alloc (Nat.le_refl _) _⟩
theorem bytes_any (v n : Nat) (hv : v < 18446744073709551616) (h1 : 1 ≤ n) (h2 : n ≤ 8) (w : World) :
    Calls Try.prog 35 #[.int .u64 v, .int .i64 n] w fun e w' => e = .returned (.tuple #[.string (strOfNums (bl v n)), .int .i64 0]) ∧ Below w.heap.size w w' := by
  have h8 : n = 1 ∨ n = 2 ∨ n = 3 ∨ n = 4 ∨ n = 5 ∨ n = 6 ∨ n = 7 ∨ n = 8 := by omega
  rcases h8 with rfl | rfl | rfl | rfl | rfl | rfl | rfl | rfl
  · exact bytes_1 v hv w
  · exact bytes_2 v hv w
  · exact bytes_3 v hv w
  · exact bytes_4 v hv w
  · exact bytes_5 v hv w
  · exact bytes_6 v hv w
  · exact bytes_7 v hv w
  · exact bytes_8 v hv w
end Go.Proofs.Ytkcgnpcfdfkpjaa
