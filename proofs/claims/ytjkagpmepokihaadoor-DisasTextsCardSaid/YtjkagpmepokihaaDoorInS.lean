/- The specification of layer 2 in plain numbers: which instructions have words, which word each has; unlike ones have unlike words. -/
import Derived.Test.YtjkagpmepokihaaDoorInP
namespace Go.Proofs.YtjkagpmepokihaaDoor
set_option linter.unusedVariables false
def codeL : List Nat := [0, 51, 51, 51, 51, 51, 51, 51, 51, 51, 51, 51, 51, 51, 51, 19, 19, 19, 19, 19, 19, 19, 19, 55, 3, 3, 35, 35, 99, 99, 99, 99, 111, 103, 115]
def f3L : List Nat := [0, 0, 0, 1, 2, 3, 4, 5, 5, 6, 7, 0, 3, 5, 7, 0, 3, 4, 6, 7, 1, 5, 5, 0, 4, 3, 0, 3, 0, 1, 6, 7, 0, 0, 0]
def f7L : List Nat := [0, 0, 32, 0, 0, 0, 0, 0, 32, 0, 0, 1, 1, 1, 1, 0, 0, 0, 0, 0, 0, 0, 32, 0, 0, 0, 0, 0, 0, 0, 0, 0, 0, 0, 0]
def formL : List Nat := [0, 1, 1, 1, 1, 1, 1, 1, 1, 1, 1, 1, 1, 1, 1, 2, 2, 2, 2, 2, 3, 3, 3, 4, 2, 2, 5, 5, 6, 6, 6, 6, 7, 2, 8]
def codeT (k : Nat) : Nat := codeL.getD k 0
def f3T (k : Nat) : Nat := f3L.getD k 0
def f7T (k : Nat) : Nat := f7L.getD k 0
def formT (k : Nat) : Nat := formL.getD k 0
theorem allT : ∀ k < 35, codeT k < 128 ∧ f3T k < 8 ∧ f7T k < 128 ∧ formT k ≤ 8 ∧ (formT k = 0 ↔ k = 0) ∧ (formT k = 1 ∨ formT k = 3 ∨ f7T k = 0) ∧ (formT k = 3 → f7T k % 2 = 0) ∧ (formT k = 4 ∨ formT k = 7 ∨ formT k = 8 → f3T k = 0) ∧ codeT k % 4 = 3 ∨ k = 0 := by decide +kernel
def fitB (v : Int) (n : Nat) : Bool := decide (-(2 ^ (n - 1)) ≤ v ∧ v < 2 ^ (n - 1))
def regB (named : Bool) (r : Nat) : Bool := if named then decide (r < 32) else decide (r = 0)
def rdT (f : Nat) : Bool := [false, true, true, true, true, false, false, true, false].getD f false
def rs1T (f : Nat) : Bool := [false, true, true, true, false, true, true, false, false].getD f false
def rs2T (f : Nat) : Bool := [false, true, false, false, false, true, true, false, false].getD f false
def bitsT (f : Nat) : Nat := [0, 0, 12, 6, 32, 12, 13, 21, 0].getD f 0
def stepT (f : Nat) : Nat := [0, 0, 1, 1, 4096, 1, 2, 2, 0].getD f 0
/-- Is the number as the form has it? -/
def immB (f : Nat) (v : Int) : Bool :=
  if f = 2 then fitB v 12 else if f = 3 then decide (0 ≤ v ∧ v < 64) else if f = 4 then fitB v 32 && decide (v % 4096 = 0)
  else if f = 5 then fitB v 12 else if f = 6 then fitB v 13 && decide (v % 2 = 0) else if f = 7 then fitB v 21 && decide (v % 2 = 0) else decide (v = 0)
def takesB (f rd rs1 rs2 : Nat) (v : Int) : Bool := decide (f ≠ 0) && regB (rdT f) rd && regB (rs1T f) rs1 && regB (rs2T f) rs2 && immB f v
/-- Has it a word? -/
def okB (op rd rs1 rs2 : Nat) (v : Int) : Bool := decide (op < 35) && takesB (formT op) rd rs1 rs2 v
/-- Its word. -/
def wordN (op rd rs1 rs2 : Nat) (v : Int) : Nat := layv (piecesv (formT op) (codeT op) (f3T op) (f7T op) rd rs1 rs2 v)
theorem pw_pieces (fm c f3 f7 rd rs1 rs2 : Nat) (v : Int) : pw (piecesv fm c f3 f7 rd rs1 rs2 v) ≤ 32 := by
  unfold piecesv
  split
  · simp [pw]
  split
  · simp [pw]
  split
  · simp [pw]
  split
  · simp [pw]
  split
  · simp [pw]
  split <;> simp [pw]
theorem wordN_lt (op rd rs1 rs2 : Nat) (v : Int) : wordN op rd rs1 rs2 v < 4294967296 :=
  Nat.lt_of_lt_of_le (layv_lt _) (pow_le32 (pw_pieces _ _ _ _ _ _ _ _))
/-- The six fields of a word. -/
def wcode (w : Nat) : Nat := w % 128
def wrd (w : Nat) : Nat := w / 128 % 32
def wf3 (w : Nat) : Nat := w / 4096 % 8
def wrs1 (w : Nat) : Nat := w / 32768 % 32
def wrs2 (w : Nat) : Nat := w / 1048576 % 32
def wf7 (w : Nat) : Nat := w / 33554432
theorem form_cases {f : Nat} (h : f ≤ 8) (h0 : f ≠ 0) : f = 1 ∨ f = 2 ∨ f = 3 ∨ f = 4 ∨ f = 5 ∨ f = 6 ∨ f = 7 ∨ f = 8 := by omega
theorem lay1 (c f3 f7 rd rs1 rs2 : Nat) (v : Int) : layv (piecesv 1 c f3 f7 rd rs1 rs2 v) = c % 128 + 128 * (rd % 32) + 4096 * (f3 % 8) + 32768 * (rs1 % 32) + 1048576 * (rs2 % 32) + 33554432 * (f7 % 128) := by
  rw [show piecesv 1 c f3 f7 rd rs1 rs2 v = [(c, 7), (rd, 5), (f3, 3), (rs1, 5), (rs2, 5), (f7, 7)] from rfl]; simp only [layv]; omega
theorem lay8 (c f3 f7 rd rs1 rs2 : Nat) (v : Int) : layv (piecesv 8 c f3 f7 rd rs1 rs2 v) = c % 128 + 128 * (rd % 32) + 4096 * (f3 % 8) + 32768 * (rs1 % 32) + 1048576 * (rs2 % 32) + 33554432 * (f7 % 128) := by
  rw [show piecesv 8 c f3 f7 rd rs1 rs2 v = [(c, 7), (rd, 5), (f3, 3), (rs1, 5), (rs2, 5), (f7, 7)] from rfl]; simp only [layv]; omega
theorem lay2 (c f3 f7 rd rs1 rs2 : Nat) (v : Int) : layv (piecesv 2 c f3 f7 rd rs1 rs2 v) = c % 128 + 128 * (rd % 32) + 4096 * (f3 % 8) + 32768 * (rs1 % 32) + 1048576 * (cutN v 0 % 4096) := by
  rw [show piecesv 2 c f3 f7 rd rs1 rs2 v = [(c, 7), (rd, 5), (f3, 3), (rs1, 5), (cutN v 0, 12)] from rfl]; simp only [layv]; omega
theorem lay3 (c f3 f7 rd rs1 rs2 : Nat) (v : Int) : layv (piecesv 3 c f3 f7 rd rs1 rs2 v) = c % 128 + 128 * (rd % 32) + 4096 * (f3 % 8) + 32768 * (rs1 % 32) + 1048576 * (cutN v 0 % 64) + 67108864 * (f7 / 2 % 64) := by
  rw [show piecesv 3 c f3 f7 rd rs1 rs2 v = [(c, 7), (rd, 5), (f3, 3), (rs1, 5), (cutN v 0, 6), (f7 / 2, 6)] from rfl]; simp only [layv]; omega
theorem lay4 (c f3 f7 rd rs1 rs2 : Nat) (v : Int) : layv (piecesv 4 c f3 f7 rd rs1 rs2 v) = c % 128 + 128 * (rd % 32) + 4096 * (cutN v 12 % 1048576) := by
  rw [show piecesv 4 c f3 f7 rd rs1 rs2 v = [(c, 7), (rd, 5), (cutN v 12, 20)] from rfl]; simp only [layv]; omega
theorem lay5 (c f3 f7 rd rs1 rs2 : Nat) (v : Int) : layv (piecesv 5 c f3 f7 rd rs1 rs2 v) = c % 128 + 128 * (cutN v 0 % 32) + 4096 * (f3 % 8) + 32768 * (rs1 % 32) + 1048576 * (rs2 % 32) + 33554432 * (cutN v 5 % 128) := by
  rw [show piecesv 5 c f3 f7 rd rs1 rs2 v = [(c, 7), (cutN v 0, 5), (f3, 3), (rs1, 5), (rs2, 5), (cutN v 5, 7)] from rfl]; simp only [layv]; omega
theorem lay6 (c f3 f7 rd rs1 rs2 : Nat) (v : Int) : layv (piecesv 6 c f3 f7 rd rs1 rs2 v) = c % 128 + 128 * (cutN v 11 % 2) + 256 * (cutN v 1 % 16) + 4096 * (f3 % 8) + 32768 * (rs1 % 32) + 1048576 * (rs2 % 32) + 33554432 * (cutN v 5 % 64) + 2147483648 * (cutN v 12 % 2) := by
  rw [show piecesv 6 c f3 f7 rd rs1 rs2 v = [(c, 7), (cutN v 11, 1), (cutN v 1, 4), (f3, 3), (rs1, 5), (rs2, 5), (cutN v 5, 6), (cutN v 12, 1)] from rfl]; simp only [layv]; omega
theorem lay7 (c f3 f7 rd rs1 rs2 : Nat) (v : Int) : layv (piecesv 7 c f3 f7 rd rs1 rs2 v) = c % 128 + 128 * (rd % 32) + 4096 * (cutN v 12 % 256) + 1048576 * (cutN v 11 % 2) + 2097152 * (cutN v 1 % 1024) + 2147483648 * (cutN v 20 % 2) := by
  rw [show piecesv 7 c f3 f7 rd rs1 rs2 v = [(c, 7), (rd, 5), (cutN v 12, 8), (cutN v 11, 1), (cutN v 1, 10), (cutN v 20, 1)] from rfl]; simp only [layv]; omega
theorem cut0 (v : Int) : ((cutN v 0 : Nat) : Int) = v % 4294967296 := by rw [cutN_eq]; simp
theorem cut1 (v : Int) : ((cutN v 1 : Nat) : Int) = v / 2 % 4294967296 := by rw [cutN_eq]; simp
theorem cut5 (v : Int) : ((cutN v 5 : Nat) : Int) = v / 32 % 4294967296 := by rw [cutN_eq]; simp
theorem cut11 (v : Int) : ((cutN v 11 : Nat) : Int) = v / 2048 % 4294967296 := by rw [cutN_eq]; simp
theorem cut12 (v : Int) : ((cutN v 12 : Nat) : Int) = v / 4096 % 4294967296 := by rw [cutN_eq]; simp
theorem cut20 (v : Int) : ((cutN v 20 : Nat) : Int) = v / 1048576 % 4294967296 := by rw [cutN_eq]; simp
theorem fit12 (v : Int) : fitB v 12 = true ↔ -2048 ≤ v ∧ v < 2048 := by unfold fitB; simp
theorem fit13 (v : Int) : fitB v 13 = true ↔ -4096 ≤ v ∧ v < 4096 := by unfold fitB; simp
theorem fit21 (v : Int) : fitB v 21 = true ↔ -1048576 ≤ v ∧ v < 1048576 := by unfold fitB; simp
theorem fit32 (v : Int) : fitB v 32 = true ↔ -2147483648 ≤ v ∧ v < 2147483648 := by unfold fitB; simp
theorem imm1 (v : Int) : immB 1 v = true ↔ v = 0 := by simp [immB]
theorem imm2 (v : Int) : immB 2 v = true ↔ -2048 ≤ v ∧ v < 2048 := by rw [← fit12]; simp [immB]
theorem imm3 (v : Int) : immB 3 v = true ↔ 0 ≤ v ∧ v < 64 := by simp [immB]
theorem imm4 (v : Int) : immB 4 v = true ↔ (-2147483648 ≤ v ∧ v < 2147483648) ∧ v % 4096 = 0 := by rw [← fit32]; simp [immB]
theorem imm5 (v : Int) : immB 5 v = true ↔ -2048 ≤ v ∧ v < 2048 := by rw [← fit12]; simp [immB]
theorem imm6 (v : Int) : immB 6 v = true ↔ (-4096 ≤ v ∧ v < 4096) ∧ v % 2 = 0 := by rw [← fit13]; simp [immB]
theorem imm7 (v : Int) : immB 7 v = true ↔ (-1048576 ≤ v ∧ v < 1048576) ∧ v % 2 = 0 := by rw [← fit21]; simp [immB]
theorem imm8 (v : Int) : immB 8 v = true ↔ v = 0 := by simp [immB]
theorem reg_t (r : Nat) : regB true r = true ↔ r < 32 := by simp [regB]
theorem reg_f (r : Nat) : regB false r = true ↔ r = 0 := by simp [regB]
theorem ok_parts {op rd rs1 rs2 : Nat} {v : Int} (h : okB op rd rs1 rs2 v = true) : op < 35 ∧ formT op ≠ 0 ∧ regB (rdT (formT op)) rd = true ∧ regB (rs1T (formT op)) rs1 = true ∧ regB (rs2T (formT op)) rs2 = true ∧ immB (formT op) v = true := by
  simp only [okB, takesB, Bool.and_eq_true, decide_eq_true_eq] at h
  obtain ⟨h1, ⟨⟨⟨h2, h3⟩, h4⟩, h5⟩, h6⟩ := h
  exact ⟨h1, h2, h3, h4, h5, h6⟩
end Go.Proofs.YtjkagpmepokihaaDoor
