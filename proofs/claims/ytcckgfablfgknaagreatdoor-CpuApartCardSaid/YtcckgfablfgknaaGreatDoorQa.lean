/- Plain numbers for layer 2: fields laid one behind the other. -/
import Derived.Test.YtcckgfablfgknaaGreatDoorPl1
import Derived.Laws.BitsAllLaws
namespace Go.Proofs.YtcckgfablfgknaaGreatDoor
set_option linter.unusedVariables false

/-- How many bits pieces (bits, width) have in all. -/
def pw : List (Nat × Nat) → Nat
  | [] => 0
  | p :: r => p.2 + pw r
/-- Pieces laid one behind the other, from the lowest bit on. -/
def layv : List (Nat × Nat) → Nat
  | [] => 0
  | p :: r => p.1 % 2 ^ p.2 + 2 ^ p.2 * layv r
theorem pw_append (l m : List (Nat × Nat)) : pw (l ++ m) = pw l + pw m := by
  induction l with
  | nil => simp [pw]
  | cons p l ih => simp only [List.cons_append, pw, ih]; omega
theorem pw_snoc (l : List (Nat × Nat)) (p : Nat × Nat) : pw (l ++ [p]) = pw l + p.2 := by rw [pw_append]; simp [pw]
theorem layv_snoc (l : List (Nat × Nat)) (p : Nat × Nat) : layv (l ++ [p]) = layv l + 2 ^ pw l * (p.1 % 2 ^ p.2) := by
  induction l with
  | nil => simp [pw, layv]
  | cons q l ih =>
    simp only [List.cons_append, layv, pw, ih]
    rw [Nat.mul_add, ← Nat.mul_assoc, ← Nat.pow_add, Nat.add_assoc]
theorem layv_lt (l : List (Nat × Nat)) : layv l < 2 ^ pw l := by
  induction l with
  | nil => simp [pw, layv]
  | cons p l ih =>
    simp only [layv, pw]
    have h1 : p.1 % 2 ^ p.2 < 2 ^ p.2 := Nat.mod_lt _ (Nat.pow_pos (by omega))
    have h2 : 2 ^ p.2 * (layv l + 1) ≤ 2 ^ p.2 * 2 ^ pw l := Nat.mul_le_mul_left _ (by omega)
    rw [Nat.mul_add, Nat.mul_one, ← Nat.pow_add] at h2
    omega
theorem pw_take_le (l : List (Nat × Nat)) (k : Nat) : pw (l.take k) ≤ pw l := by
  have h := pw_append (l.take k) (l.drop k)
  rw [List.take_append_drop] at h; omega
theorem take_snoc_get (l : List (Nat × Nat)) (k : Nat) (h : k < l.length) : l.take (k + 1) = l.take k ++ [l[k]] := List.take_succ_eq_append_getElem h
theorem pow_le32 {n : Nat} (h : n ≤ 32) : 2 ^ n ≤ 4294967296 := Nat.pow_le_pow_right (n := 2) (by omega) h
open Go in
theorem lay_round (l : List (Nat × Nat)) (p : Nat × Nat) (h1 : p.1 < 4294967296) (h2 : pw l + p.2 ≤ 32) :
    bits .or .u32 ((layv l : Nat) : Int) (bits .and .u32 (p.1 : Int) ((2 ^ min p.2 32 - 1) % 4294967296) * 2 ^ min (pw l) 32 % 4294967296) = ((layv (l ++ [p]) : Nat) : Int) := by
  have hl := layv_lt l
  have hq := pow_le32 (n := pw l) (by omega)
  have hr := pow_le32 (n := p.2) (by omega)
  have hs := pow_le32 h2
  have hp : 0 < 2 ^ p.2 := Nat.pow_pos (by omega)
  have e1 : (((2 : Int) ^ min p.2 32 - 1) % 4294967296) = ((2 ^ p.2 - 1 : Nat) : Int) := by
    rw [Nat.min_eq_left (by omega)]
    have : ((2 ^ p.2 : Nat) : Int) = (2 : Int) ^ p.2 := by simp
    rw [← this]; omega
  rw [e1, u32_and_nat _ _ h1 (by omega), Nat.and_two_pow_sub_one_eq_mod, Nat.min_eq_left (show pw l ≤ 32 by omega)]
  have h3 : p.1 % 2 ^ p.2 < 2 ^ p.2 := Nat.mod_lt _ hp
  have h4 : p.1 % 2 ^ p.2 * 2 ^ pw l < 2 ^ (pw l + p.2) := by
    rw [Nat.pow_add, Nat.mul_comm (2 ^ pw l)]
    exact Nat.mul_lt_mul_of_pos_right h3 (Nat.pow_pos (by omega))
  have e2 : ((p.1 % 2 ^ p.2 : Nat) : Int) * 2 ^ pw l % 4294967296 = ((p.1 % 2 ^ p.2 * 2 ^ pw l : Nat) : Int) := by
    have e3 : ((p.1 % 2 ^ p.2 : Nat) : Int) * 2 ^ pw l = ((p.1 % 2 ^ p.2 * 2 ^ pw l : Nat) : Int) := by rw [Int.natCast_mul]; simp
    rw [e3]; omega
  rw [e2, u32_or_nat _ _ (by omega) (by omega), layv_snoc]
  have h5 := Nat.shiftLeft_add_eq_or_of_lt hl (p.1 % 2 ^ p.2)
  rw [Nat.shiftLeft_eq] at h5
  rw [Nat.or_comm, ← h5, Nat.mul_comm (2 ^ pw l), Nat.add_comm]
open Go in
theorem lay_round' (l : List (Nat × Nat)) (p : Nat × Nat) (h1 : p.1 < 4294967296) (h2 : pw l + p.2 ≤ 32) :
    bits .or .u32 ((layv l : Nat) : Int) (bits .and .u32 (p.1 : Int) ((2 ^ p.2 - 1) % 4294967296) * 2 ^ pw l % 4294967296) = ((layv (l ++ [p]) : Nat) : Int) := by
  have h := lay_round l p h1 h2
  rw [Nat.min_eq_left (show p.2 ≤ 32 by omega), Nat.min_eq_left (show pw l ≤ 32 by omega)] at h
  exact h
/-- Bits of a number from a place on, as a word of 32 bits has them. -/
def cutN (v : Int) (a : Nat) : Nat := ((v / 2 ^ a) % 4294967296).toNat
theorem cutN_eq (v : Int) (a : Nat) : ((cutN v a : Nat) : Int) = v / 2 ^ a % 4294967296 := by unfold cutN; omega
theorem cutN_lt (v : Int) (a : Nat) : cutN v a < 4294967296 := by unfold cutN; omega
/-- The pieces of an instruction's word, by its form. -/
def piecesv (fm c f3 f7 rd rs1 rs2 : Nat) (imm : Int) : List (Nat × Nat) :=
  if fm = 2 then [(c, 7), (rd, 5), (f3, 3), (rs1, 5), (cutN imm 0, 12)]
  else if fm = 3 then [(c, 7), (rd, 5), (f3, 3), (rs1, 5), (cutN imm 0, 6), (f7 / 2, 6)]
  else if fm = 4 then [(c, 7), (rd, 5), (cutN imm 12, 20)]
  else if fm = 5 then [(c, 7), (cutN imm 0, 5), (f3, 3), (rs1, 5), (rs2, 5), (cutN imm 5, 7)]
  else if fm = 6 then [(c, 7), (cutN imm 11, 1), (cutN imm 1, 4), (f3, 3), (rs1, 5), (rs2, 5), (cutN imm 5, 6), (cutN imm 12, 1)]
  else if fm = 7 then [(c, 7), (rd, 5), (cutN imm 12, 8), (cutN imm 11, 1), (cutN imm 1, 10), (cutN imm 20, 1)]
  else [(c, 7), (rd, 5), (f3, 3), (rs1, 5), (rs2, 5), (f7, 7)]
end Go.Proofs.YtcckgfablfgknaaGreatDoor

/- The specification of layer 2 in plain numbers: which instructions have words, which word each has; unlike ones have unlike words. -/
namespace Go.Proofs.YtcckgfablfgknaaGreatDoor
set_option linter.unusedVariables false
def codeL : List Nat := [0, 51, 51, 51, 51, 51, 51, 51, 51, 51, 51, 51, 51, 51, 51, 19, 19, 19, 19, 19, 19, 19, 19, 55, 3, 3, 35, 35, 99, 99, 99, 99, 111, 103, 115]
def f3L : List Nat := [0, 0, 0, 1, 2, 3, 4, 5, 5, 6, 7, 0, 3, 5, 7, 0, 3, 4, 6, 7, 1, 5, 5, 0, 4, 3, 0, 3, 0, 1, 6, 7, 0, 0, 0]
def f7L : List Nat := [0, 0, 32, 0, 0, 0, 0, 0, 32, 0, 0, 1, 1, 1, 1, 0, 0, 0, 0, 0, 0, 0, 32, 0, 0, 0, 0, 0, 0, 0, 0, 0, 0, 0, 0]
def formL : List Nat := [0, 1, 1, 1, 1, 1, 1, 1, 1, 1, 1, 1, 1, 1, 1, 2, 2, 2, 2, 2, 3, 3, 3, 4, 2, 2, 5, 5, 6, 6, 6, 6, 7, 2, 8]
def codeT (k : Nat) : Nat := codeL.getD k 0
def f3T (k : Nat) : Nat := f3L.getD k 0
def f7T (k : Nat) : Nat := f7L.getD k 0
def formT (k : Nat) : Nat := formL.getD k 0
theorem allT : ∀ k < 35, codeT k < 128 ∧ f3T k < 8 ∧ f7T k < 128 ∧ formT k ≤ 8 ∧ (formT k = 0 ↔ k = 0) ∧ (formT k = 1 ∨ formT k = 3 ∨ f7T k = 0) ∧ (formT k = 3 → f7T k % 2 = 0) ∧ (formT k = 4 ∨ formT k = 7 ∨ formT k = 8 → f3T k = 0) ∧ codeT k % 4 = 3 ∨ k = 0 := by decide +kernel
def fitB (v : Int) (n : Nat) : Bool := decide (-(2 ^ (n - 1)) ≤ v ∧ v < 2 ^ (n - 1))
def regB (named : Bool) (r : Nat) : Bool := if named then decide (r < 32) else decide (r = 0)
def rdT (f : Nat) : Bool := [false, true, true, true, true, false, false, true, false].getD f false
def rs1T (f : Nat) : Bool := [false, true, true, true, false, true, true, false, false].getD f false
def rs2T (f : Nat) : Bool := [false, true, false, false, false, true, true, false, false].getD f false
def bitsT (f : Nat) : Nat := [0, 0, 12, 6, 32, 12, 13, 21, 0].getD f 0
def stepT (f : Nat) : Nat := [0, 0, 1, 1, 4096, 1, 2, 2, 0].getD f 0
/-- Is the number as the form has it? -/
def immB (f : Nat) (v : Int) : Bool :=
  if f = 2 then fitB v 12 else if f = 3 then decide (0 ≤ v ∧ v < 64) else if f = 4 then fitB v 32 && decide (v % 4096 = 0)
  else if f = 5 then fitB v 12 else if f = 6 then fitB v 13 && decide (v % 2 = 0) else if f = 7 then fitB v 21 && decide (v % 2 = 0) else decide (v = 0)
def takesB (f rd rs1 rs2 : Nat) (v : Int) : Bool := decide (f ≠ 0) && regB (rdT f) rd && regB (rs1T f) rs1 && regB (rs2T f) rs2 && immB f v
/-- Has it a word? -/
def okB (op rd rs1 rs2 : Nat) (v : Int) : Bool := decide (op < 35) && takesB (formT op) rd rs1 rs2 v
/-- Its word. -/
def wordN (op rd rs1 rs2 : Nat) (v : Int) : Nat := layv (piecesv (formT op) (codeT op) (f3T op) (f7T op) rd rs1 rs2 v)
theorem pw_pieces (fm c f3 f7 rd rs1 rs2 : Nat) (v : Int) : pw (piecesv fm c f3 f7 rd rs1 rs2 v) ≤ 32 := by
  unfold piecesv
  split
  · simp [pw]
  split
  · simp [pw]
  split
  · simp [pw]
  split
  · simp [pw]
  split
  · simp [pw]
  split <;> simp [pw]
theorem wordN_lt (op rd rs1 rs2 : Nat) (v : Int) : wordN op rd rs1 rs2 v < 4294967296 :=
  Nat.lt_of_lt_of_le (layv_lt _) (pow_le32 (pw_pieces _ _ _ _ _ _ _ _))
/-- The six fields of a word. -/
def wcode (w : Nat) : Nat := w % 128
def wrd (w : Nat) : Nat := w / 128 % 32
def wf3 (w : Nat) : Nat := w / 4096 % 8
def wrs1 (w : Nat) : Nat := w / 32768 % 32
def wrs2 (w : Nat) : Nat := w / 1048576 % 32
def wf7 (w : Nat) : Nat := w / 33554432
theorem form_cases {f : Nat} (h : f ≤ 8) (h0 : f ≠ 0) : f = 1 ∨ f = 2 ∨ f = 3 ∨ f = 4 ∨ f = 5 ∨ f = 6 ∨ f = 7 ∨ f = 8 := by omega
theorem lay1 (c f3 f7 rd rs1 rs2 : Nat) (v : Int) : layv (piecesv 1 c f3 f7 rd rs1 rs2 v) = c % 128 + 128 * (rd % 32) + 4096 * (f3 % 8) + 32768 * (rs1 % 32) + 1048576 * (rs2 % 32) + 33554432 * (f7 % 128) := by
  rw [show piecesv 1 c f3 f7 rd rs1 rs2 v = [(c, 7), (rd, 5), (f3, 3), (rs1, 5), (rs2, 5), (f7, 7)] from rfl]; simp only [layv]; omega
theorem lay8 (c f3 f7 rd rs1 rs2 : Nat) (v : Int) : layv (piecesv 8 c f3 f7 rd rs1 rs2 v) = c % 128 + 128 * (rd % 32) + 4096 * (f3 % 8) + 32768 * (rs1 % 32) + 1048576 * (rs2 % 32) + 33554432 * (f7 % 128) := by
  rw [show piecesv 8 c f3 f7 rd rs1 rs2 v = [(c, 7), (rd, 5), (f3, 3), (rs1, 5), (rs2, 5), (f7, 7)] from rfl]; simp only [layv]; omega
theorem lay2 (c f3 f7 rd rs1 rs2 : Nat) (v : Int) : layv (piecesv 2 c f3 f7 rd rs1 rs2 v) = c % 128 + 128 * (rd % 32) + 4096 * (f3 % 8) + 32768 * (rs1 % 32) + 1048576 * (cutN v 0 % 4096) := by
  rw [show piecesv 2 c f3 f7 rd rs1 rs2 v = [(c, 7), (rd, 5), (f3, 3), (rs1, 5), (cutN v 0, 12)] from rfl]; simp only [layv]; omega
theorem lay3 (c f3 f7 rd rs1 rs2 : Nat) (v : Int) : layv (piecesv 3 c f3 f7 rd rs1 rs2 v) = c % 128 + 128 * (rd % 32) + 4096 * (f3 % 8) + 32768 * (rs1 % 32) + 1048576 * (cutN v 0 % 64) + 67108864 * (f7 / 2 % 64) := by
  rw [show piecesv 3 c f3 f7 rd rs1 rs2 v = [(c, 7), (rd, 5), (f3, 3), (rs1, 5), (cutN v 0, 6), (f7 / 2, 6)] from rfl]; simp only [layv]; omega
theorem lay4 (c f3 f7 rd rs1 rs2 : Nat) (v : Int) : layv (piecesv 4 c f3 f7 rd rs1 rs2 v) = c % 128 + 128 * (rd % 32) + 4096 * (cutN v 12 % 1048576) := by
  rw [show piecesv 4 c f3 f7 rd rs1 rs2 v = [(c, 7), (rd, 5), (cutN v 12, 20)] from rfl]; simp only [layv]; omega
theorem lay5 (c f3 f7 rd rs1 rs2 : Nat) (v : Int) : layv (piecesv 5 c f3 f7 rd rs1 rs2 v) = c % 128 + 128 * (cutN v 0 % 32) + 4096 * (f3 % 8) + 32768 * (rs1 % 32) + 1048576 * (rs2 % 32) + 33554432 * (cutN v 5 % 128) := by
  rw [show piecesv 5 c f3 f7 rd rs1 rs2 v = [(c, 7), (cutN v 0, 5), (f3, 3), (rs1, 5), (rs2, 5), (cutN v 5, 7)] from rfl]; simp only [layv]; omega
theorem lay6 (c f3 f7 rd rs1 rs2 : Nat) (v : Int) : layv (piecesv 6 c f3 f7 rd rs1 rs2 v) = c % 128 + 128 * (cutN v 11 % 2) + 256 * (cutN v 1 % 16) + 4096 * (f3 % 8) + 32768 * (rs1 % 32) + 1048576 * (rs2 % 32) + 33554432 * (cutN v 5 % 64) + 2147483648 * (cutN v 12 % 2) := by
  rw [show piecesv 6 c f3 f7 rd rs1 rs2 v = [(c, 7), (cutN v 11, 1), (cutN v 1, 4), (f3, 3), (rs1, 5), (rs2, 5), (cutN v 5, 6), (cutN v 12, 1)] from rfl]; simp only [layv]; omega
theorem lay7 (c f3 f7 rd rs1 rs2 : Nat) (v : Int) : layv (piecesv 7 c f3 f7 rd rs1 rs2 v) = c % 128 + 128 * (rd % 32) + 4096 * (cutN v 12 % 256) + 1048576 * (cutN v 11 % 2) + 2097152 * (cutN v 1 % 1024) + 2147483648 * (cutN v 20 % 2) := by
  rw [show piecesv 7 c f3 f7 rd rs1 rs2 v = [(c, 7), (rd, 5), (cutN v 12, 8), (cutN v 11, 1), (cutN v 1, 10), (cutN v 20, 1)] from rfl]; simp only [layv]; omega
theorem cut0 (v : Int) : ((cutN v 0 : Nat) : Int) = v % 4294967296 := by rw [cutN_eq]; simp
theorem cut1 (v : Int) : ((cutN v 1 : Nat) : Int) = v / 2 % 4294967296 := by rw [cutN_eq]; simp
theorem cut5 (v : Int) : ((cutN v 5 : Nat) : Int) = v / 32 % 4294967296 := by rw [cutN_eq]; simp
theorem cut11 (v : Int) : ((cutN v 11 : Nat) : Int) = v / 2048 % 4294967296 := by rw [cutN_eq]; simp
theorem cut12 (v : Int) : ((cutN v 12 : Nat) : Int) = v / 4096 % 4294967296 := by rw [cutN_eq]; simp
theorem cut20 (v : Int) : ((cutN v 20 : Nat) : Int) = v / 1048576 % 4294967296 := by rw [cutN_eq]; simp
theorem fit12 (v : Int) : fitB v 12 = true ↔ -2048 ≤ v ∧ v < 2048 := by unfold fitB; simp
theorem fit13 (v : Int) : fitB v 13 = true ↔ -4096 ≤ v ∧ v < 4096 := by unfold fitB; simp
theorem fit21 (v : Int) : fitB v 21 = true ↔ -1048576 ≤ v ∧ v < 1048576 := by unfold fitB; simp
theorem fit32 (v : Int) : fitB v 32 = true ↔ -2147483648 ≤ v ∧ v < 2147483648 := by unfold fitB; simp
theorem imm1 (v : Int) : immB 1 v = true ↔ v = 0 := by simp [immB]
theorem imm2 (v : Int) : immB 2 v = true ↔ -2048 ≤ v ∧ v < 2048 := by rw [← fit12]; simp [immB]
theorem imm3 (v : Int) : immB 3 v = true ↔ 0 ≤ v ∧ v < 64 := by simp [immB]
theorem imm4 (v : Int) : immB 4 v = true ↔ (-2147483648 ≤ v ∧ v < 2147483648) ∧ v % 4096 = 0 := by rw [← fit32]; simp [immB]
theorem imm5 (v : Int) : immB 5 v = true ↔ -2048 ≤ v ∧ v < 2048 := by rw [← fit12]; simp [immB]
theorem imm6 (v : Int) : immB 6 v = true ↔ (-4096 ≤ v ∧ v < 4096) ∧ v % 2 = 0 := by rw [← fit13]; simp [immB]
theorem imm7 (v : Int) : immB 7 v = true ↔ (-1048576 ≤ v ∧ v < 1048576) ∧ v % 2 = 0 := by rw [← fit21]; simp [immB]
theorem imm8 (v : Int) : immB 8 v = true ↔ v = 0 := by simp [immB]
theorem reg_t (r : Nat) : regB true r = true ↔ r < 32 := by simp [regB]
theorem reg_f (r : Nat) : regB false r = true ↔ r = 0 := by simp [regB]
theorem ok_parts {op rd rs1 rs2 : Nat} {v : Int} (h : okB op rd rs1 rs2 v = true) : op < 35 ∧ formT op ≠ 0 ∧ regB (rdT (formT op)) rd = true ∧ regB (rs1T (formT op)) rs1 = true ∧ regB (rs2T (formT op)) rs2 = true ∧ immB (formT op) v = true := by
  simp only [okB, takesB, Bool.and_eq_true, decide_eq_true_eq] at h
  obtain ⟨h1, ⟨⟨⟨h2, h3⟩, h4⟩, h5⟩, h6⟩ := h
  exact ⟨h1, h2, h3, h4, h5, h6⟩
end Go.Proofs.YtcckgfablfgknaaGreatDoor

/- Unlike instructions have unlike words (plain numbers). -/
namespace Go.Proofs.YtcckgfablfgknaaGreatDoor
set_option linter.unusedVariables false
def agB (k j : Nat) : Bool := k != 0 && j != 0 && codeT k == codeT j && (formT k == 4 || formT k == 7 || formT j == 4 || formT j == 7 || f3T k == f3T j) && (formT k != 1 || formT j != 1 || f7T k == f7T j) && (formT k != 3 || formT j != 3 || f7T k / 2 == f7T j / 2)
theorem agT : ∀ k < 35, ∀ j < 35, agB k j = true → k = j := by decide +kernel
theorem agreeT (k : Nat) (hk : k < 35) (j : Nat) (hj : j < 35) (h : k ≠ 0 ∧ j ≠ 0 ∧ codeT k = codeT j ∧ (formT k = 4 ∨ formT k = 7 ∨ formT j = 4 ∨ formT j = 7 ∨ f3T k = f3T j) ∧ (formT k ≠ 1 ∨ formT j ≠ 1 ∨ f7T k = f7T j) ∧ (formT k ≠ 3 ∨ formT j ≠ 3 ∨ f7T k / 2 = f7T j / 2)) : k = j := by
  refine agT k hk j hj ?_
  simp only [agB, Bool.and_eq_true, Bool.or_eq_true, bne_iff_ne, beq_iff_eq]
  omega
theorem layv_inj : ∀ (l m : List (Nat × Nat)), l.map (·.2) = m.map (·.2) → layv l = layv m → l.map (fun p => p.1 % 2 ^ p.2) = m.map (fun p => p.1 % 2 ^ p.2)
  | [], [], _, _ => rfl
  | [], _ :: _, h, _ => by simp at h
  | _ :: _, [], h, _ => by simp at h
  | p :: l, q :: m, h, e => by
    simp only [List.map_cons, List.cons.injEq] at h ⊢
    obtain ⟨hw, ht⟩ := h
    simp only [layv] at e
    rw [← hw] at e ⊢
    have hp : 0 < 2 ^ p.2 := Nat.pow_pos (by omega)
    have h1 : (p.1 % 2 ^ p.2 + 2 ^ p.2 * layv l) % 2 ^ p.2 = (q.1 % 2 ^ p.2 + 2 ^ p.2 * layv m) % 2 ^ p.2 := by rw [e]
    rw [Nat.add_mul_mod_self_left, Nat.add_mul_mod_self_left, Nat.mod_mod, Nat.mod_mod] at h1
    rw [h1] at e
    exact ⟨h1, layv_inj l m ht (Nat.eq_of_mul_eq_mul_left hp (by omega))⟩
theorem inj6 (v v' : Int) (h1 : v / 2 % 16 = v' / 2 % 16) (h2 : v / 32 % 64 = v' / 32 % 64) (h3 : v / 2048 % 2 = v' / 2048 % 2) (h4 : v / 4096 % 2 = v' / 4096 % 2) (r : (-4096 ≤ v ∧ v < 4096) ∧ v % 2 = 0) (s : (-4096 ≤ v' ∧ v' < 4096) ∧ v' % 2 = 0) : v = v' := by omega
theorem inj7 (v v' : Int) (h1 : v / 2 % 1024 = v' / 2 % 1024) (h2 : v / 4096 % 256 = v' / 4096 % 256) (h3 : v / 2048 % 2 = v' / 2048 % 2) (h4 : v / 1048576 % 2 = v' / 1048576 % 2) (r : (-1048576 ≤ v ∧ v < 1048576) ∧ v % 2 = 0) (s : (-1048576 ≤ v' ∧ v' < 1048576) ∧ v' % 2 = 0) : v = v' := by omega
theorem sub16 {a b : Nat} {x y : Int} (p : (a : Int) = x % 4294967296) (q : (b : Int) = y % 4294967296) (h : a % 16 = b % 16) : x % 16 = y % 16 := by omega
theorem sub64 {a b : Nat} {x y : Int} (p : (a : Int) = x % 4294967296) (q : (b : Int) = y % 4294967296) (h : a % 64 = b % 64) : x % 64 = y % 64 := by omega
theorem sub2 {a b : Nat} {x y : Int} (p : (a : Int) = x % 4294967296) (q : (b : Int) = y % 4294967296) (h : a % 2 = b % 2) : x % 2 = y % 2 := by omega
theorem sub256 {a b : Nat} {x y : Int} (p : (a : Int) = x % 4294967296) (q : (b : Int) = y % 4294967296) (h : a % 256 = b % 256) : x % 256 = y % 256 := by omega
theorem sub1024 {a b : Nat} {x y : Int} (p : (a : Int) = x % 4294967296) (q : (b : Int) = y % 4294967296) (h : a % 1024 = b % 1024) : x % 1024 = y % 1024 := by omega
theorem tabs (k : Nat) (h : k < 35) (h0 : formT k ≠ 0) : k ≠ 0 ∧ codeT k < 128 ∧ f3T k < 8 ∧ f7T k < 128 ∧ formT k ≤ 8 ∧ codeT k % 4 = 3 := by
  have := (by decide +kernel : ∀ k < 35, formT k ≠ 0 → k ≠ 0 ∧ codeT k < 128 ∧ f3T k < 8 ∧ f7T k < 128 ∧ formT k ≤ 8 ∧ codeT k % 4 = 3) k h h0
  exact this
/-- What the word of an instruction says of its row. -/
theorem row_of_word {op rd rs1 rs2 : Nat} {v : Int} (h : okB op rd rs1 rs2 v = true) :
    wcode (wordN op rd rs1 rs2 v) = codeT op ∧ (formT op = 4 ∨ formT op = 7 ∨ wf3 (wordN op rd rs1 rs2 v) = f3T op) ∧ (formT op ≠ 1 ∨ wf7 (wordN op rd rs1 rs2 v) = f7T op) ∧ (formT op ≠ 3 ∨ wf7 (wordN op rd rs1 rs2 v) / 2 = f7T op / 2) := by
  obtain ⟨h1, h2, h3, h4, h5, h6⟩ := ok_parts h
  obtain ⟨t1, t2, t3, t4, t5, t6⟩ := tabs op h1 h2
  unfold wordN wcode wf3 wf7
  generalize codeT op = c at *
  generalize f3T op = f3 at *
  generalize f7T op = f7 at *
  generalize formT op = fm at *
  rcases form_cases t5 h2 with rfl | rfl | rfl | rfl | rfl | rfl | rfl | rfl
  · rw [lay1]; simp; omega
  · rw [lay2]; simp; omega
  · rw [lay3]; simp; omega
  · rw [lay4]; simp; omega
  · rw [lay5]; simp; omega
  · rw [lay6]; simp; omega
  · rw [lay7]; simp; omega
  · rw [lay8]; simp; omega
theorem word_low {op rd rs1 rs2 : Nat} {v : Int} (h : okB op rd rs1 rs2 v = true) : wordN op rd rs1 rs2 v % 4 = 3 := by
  obtain ⟨h1, _⟩ := row_of_word h
  obtain ⟨k1, k2, _⟩ := ok_parts h
  have := (tabs op k1 k2).2.2.2.2.2
  unfold wcode at h1
  omega
theorem word_op {op rd rs1 rs2 op' rd' rs1' rs2' : Nat} {v v' : Int} (h : okB op rd rs1 rs2 v = true) (h' : okB op' rd' rs1' rs2' v' = true) (hw : wordN op rd rs1 rs2 v = wordN op' rd' rs1' rs2' v') : op = op' := by
  obtain ⟨a1, a2, a3, a4⟩ := row_of_word h
  obtain ⟨b1, b2, b3, b4⟩ := row_of_word h'
  obtain ⟨k1, k2, _⟩ := ok_parts h
  obtain ⟨l1, l2, _⟩ := ok_parts h'
  rw [hw] at a1 a2 a3 a4
  exact agreeT op k1 op' l1 ⟨(tabs op k1 k2).1, (tabs op' l1 l2).1, by omega, by omega, by omega, by omega⟩
theorem word_inj {op rd rs1 rs2 op' rd' rs1' rs2' : Nat} {v v' : Int} (h : okB op rd rs1 rs2 v = true) (h' : okB op' rd' rs1' rs2' v' = true) (hw : wordN op rd rs1 rs2 v = wordN op' rd' rs1' rs2' v') :
    op = op' ∧ rd = rd' ∧ rs1 = rs1' ∧ rs2 = rs2' ∧ v = v' := by
  obtain rfl := word_op h h' hw
  refine ⟨rfl, ?_⟩
  obtain ⟨h1, h2, h3, h4, h5, h6⟩ := ok_parts h
  obtain ⟨_, _, g3, g4, g5, g6⟩ := ok_parts h'
  obtain ⟨t1, t2, t3, t4, t5, t6⟩ := tabs op h1 h2
  unfold wordN at hw
  generalize codeT op = c at *
  generalize f3T op = f3 at *
  generalize f7T op = f7 at *
  generalize formT op = fm at *
  have p0 := cut0 v; have p1 := cut1 v; have p5 := cut5 v; have p11 := cut11 v; have p12 := cut12 v; have p20 := cut20 v
  have q0 := cut0 v'; have q1 := cut1 v'; have q5 := cut5 v'; have q11 := cut11 v'; have q12 := cut12 v'; have q20 := cut20 v'
  rcases form_cases t5 h2 with rfl | rfl | rfl | rfl | rfl | rfl | rfl | rfl
  · have hh := layv_inj _ _ (by rfl) hw
    rw [show piecesv 1 c f3 f7 rd rs1 rs2 v = [(c, 7), (rd, 5), (f3, 3), (rs1, 5), (rs2, 5), (f7, 7)] from rfl, show piecesv 1 c f3 f7 rd' rs1' rs2' v' = [(c, 7), (rd', 5), (f3, 3), (rs1', 5), (rs2', 5), (f7, 7)] from rfl] at hh
    simp only [List.map_cons, List.map_nil, List.cons.injEq, Nat.reducePow, and_true, true_and] at hh
    have r3 := (reg_t rd).1 h3; have r4 := (reg_t rs1).1 h4; have r5 := (reg_t rs2).1 h5; have r6 := (imm1 v).1 h6
    have s3 := (reg_t rd').1 g3; have s4 := (reg_t rs1').1 g4; have s5 := (reg_t rs2').1 g5; have s6 := (imm1 v').1 g6
    clear hw h3 h4 h5 h6 g3 g4 g5 g6
    clear p1 p11 p20 q1 q11 q20
    refine ⟨by omega, by omega, by omega, by omega⟩
  · have hh := layv_inj _ _ (by rfl) hw
    rw [show piecesv 2 c f3 f7 rd rs1 rs2 v = [(c, 7), (rd, 5), (f3, 3), (rs1, 5), (cutN v 0, 12)] from rfl, show piecesv 2 c f3 f7 rd' rs1' rs2' v' = [(c, 7), (rd', 5), (f3, 3), (rs1', 5), (cutN v' 0, 12)] from rfl] at hh
    simp only [List.map_cons, List.map_nil, List.cons.injEq, Nat.reducePow, and_true, true_and] at hh
    have r3 := (reg_t rd).1 h3; have r4 := (reg_t rs1).1 h4; have r5 := (reg_f rs2).1 h5; have r6 := (imm2 v).1 h6
    have s3 := (reg_t rd').1 g3; have s4 := (reg_t rs1').1 g4; have s5 := (reg_f rs2').1 g5; have s6 := (imm2 v').1 g6
    clear hw h3 h4 h5 h6 g3 g4 g5 g6
    clear p1 p11 p20 q1 q11 q20
    refine ⟨by omega, by omega, by omega, by omega⟩
  · have hh := layv_inj _ _ (by rfl) hw
    rw [show piecesv 3 c f3 f7 rd rs1 rs2 v = [(c, 7), (rd, 5), (f3, 3), (rs1, 5), (cutN v 0, 6), (f7 / 2, 6)] from rfl, show piecesv 3 c f3 f7 rd' rs1' rs2' v' = [(c, 7), (rd', 5), (f3, 3), (rs1', 5), (cutN v' 0, 6), (f7 / 2, 6)] from rfl] at hh
    simp only [List.map_cons, List.map_nil, List.cons.injEq, Nat.reducePow, and_true, true_and] at hh
    have r3 := (reg_t rd).1 h3; have r4 := (reg_t rs1).1 h4; have r5 := (reg_f rs2).1 h5; have r6 := (imm3 v).1 h6
    have s3 := (reg_t rd').1 g3; have s4 := (reg_t rs1').1 g4; have s5 := (reg_f rs2').1 g5; have s6 := (imm3 v').1 g6
    clear hw h3 h4 h5 h6 g3 g4 g5 g6
    clear p1 p11 p20 q1 q11 q20
    refine ⟨by omega, by omega, by omega, by omega⟩
  · have hh := layv_inj _ _ (by rfl) hw
    rw [show piecesv 4 c f3 f7 rd rs1 rs2 v = [(c, 7), (rd, 5), (cutN v 12, 20)] from rfl, show piecesv 4 c f3 f7 rd' rs1' rs2' v' = [(c, 7), (rd', 5), (cutN v' 12, 20)] from rfl] at hh
    simp only [List.map_cons, List.map_nil, List.cons.injEq, Nat.reducePow, and_true, true_and] at hh
    have r3 := (reg_t rd).1 h3; have r4 := (reg_f rs1).1 h4; have r5 := (reg_f rs2).1 h5; have r6 := (imm4 v).1 h6
    have s3 := (reg_t rd').1 g3; have s4 := (reg_f rs1').1 g4; have s5 := (reg_f rs2').1 g5; have s6 := (imm4 v').1 g6
    clear hw h3 h4 h5 h6 g3 g4 g5 g6
    clear p1 p11 p20 q1 q11 q20
    refine ⟨by omega, by omega, by omega, by omega⟩
  · have hh := layv_inj _ _ (by rfl) hw
    rw [show piecesv 5 c f3 f7 rd rs1 rs2 v = [(c, 7), (cutN v 0, 5), (f3, 3), (rs1, 5), (rs2, 5), (cutN v 5, 7)] from rfl, show piecesv 5 c f3 f7 rd' rs1' rs2' v' = [(c, 7), (cutN v' 0, 5), (f3, 3), (rs1', 5), (rs2', 5), (cutN v' 5, 7)] from rfl] at hh
    simp only [List.map_cons, List.map_nil, List.cons.injEq, Nat.reducePow, and_true, true_and] at hh
    have r3 := (reg_f rd).1 h3; have r4 := (reg_t rs1).1 h4; have r5 := (reg_t rs2).1 h5; have r6 := (imm5 v).1 h6
    have s3 := (reg_f rd').1 g3; have s4 := (reg_t rs1').1 g4; have s5 := (reg_t rs2').1 g5; have s6 := (imm5 v').1 g6
    clear hw h3 h4 h5 h6 g3 g4 g5 g6
    clear p1 p11 p20 q1 q11 q20
    refine ⟨by omega, by omega, by omega, by omega⟩
  · have hh := layv_inj _ _ (by rfl) hw
    rw [show piecesv 6 c f3 f7 rd rs1 rs2 v = [(c, 7), (cutN v 11, 1), (cutN v 1, 4), (f3, 3), (rs1, 5), (rs2, 5), (cutN v 5, 6), (cutN v 12, 1)] from rfl, show piecesv 6 c f3 f7 rd' rs1' rs2' v' = [(c, 7), (cutN v' 11, 1), (cutN v' 1, 4), (f3, 3), (rs1', 5), (rs2', 5), (cutN v' 5, 6), (cutN v' 12, 1)] from rfl] at hh
    simp only [List.map_cons, List.map_nil, List.cons.injEq, Nat.reducePow, and_true, true_and] at hh
    have r3 := (reg_f rd).1 h3; have r4 := (reg_t rs1).1 h4; have r5 := (reg_t rs2).1 h5; have r6 := (imm6 v).1 h6
    have s3 := (reg_f rd').1 g3; have s4 := (reg_t rs1').1 g4; have s5 := (reg_t rs2').1 g5; have s6 := (imm6 v').1 g6
    clear hw h3 h4 h5 h6 g3 g4 g5 g6
    obtain ⟨w1, w2, w5, w6, w7, w8⟩ := hh
    exact ⟨by omega, by omega, by omega, inj6 v v' (sub16 p1 q1 w2) (sub64 p5 q5 w7) (sub2 p11 q11 w1) (sub2 p12 q12 w8) r6 s6⟩
  · have hh := layv_inj _ _ (by rfl) hw
    rw [show piecesv 7 c f3 f7 rd rs1 rs2 v = [(c, 7), (rd, 5), (cutN v 12, 8), (cutN v 11, 1), (cutN v 1, 10), (cutN v 20, 1)] from rfl, show piecesv 7 c f3 f7 rd' rs1' rs2' v' = [(c, 7), (rd', 5), (cutN v' 12, 8), (cutN v' 11, 1), (cutN v' 1, 10), (cutN v' 20, 1)] from rfl] at hh
    simp only [List.map_cons, List.map_nil, List.cons.injEq, Nat.reducePow, and_true, true_and] at hh
    have r3 := (reg_t rd).1 h3; have r4 := (reg_f rs1).1 h4; have r5 := (reg_f rs2).1 h5; have r6 := (imm7 v).1 h6
    have s3 := (reg_t rd').1 g3; have s4 := (reg_f rs1').1 g4; have s5 := (reg_f rs2').1 g5; have s6 := (imm7 v').1 g6
    clear hw h3 h4 h5 h6 g3 g4 g5 g6
    obtain ⟨w1, w2, w3, w4, w5⟩ := hh
    exact ⟨by omega, by omega, by omega, inj7 v v' (sub1024 p1 q1 w4) (sub256 p12 q12 w2) (sub2 p11 q11 w3) (sub2 p20 q20 w5) r6 s6⟩
  · have hh := layv_inj _ _ (by rfl) hw
    rw [show piecesv 8 c f3 f7 rd rs1 rs2 v = [(c, 7), (rd, 5), (f3, 3), (rs1, 5), (rs2, 5), (f7, 7)] from rfl, show piecesv 8 c f3 f7 rd' rs1' rs2' v' = [(c, 7), (rd', 5), (f3, 3), (rs1', 5), (rs2', 5), (f7, 7)] from rfl] at hh
    simp only [List.map_cons, List.map_nil, List.cons.injEq, Nat.reducePow, and_true, true_and] at hh
    have r3 := (reg_f rd).1 h3; have r4 := (reg_f rs1).1 h4; have r5 := (reg_f rs2).1 h5; have r6 := (imm8 v).1 h6
    have s3 := (reg_f rd').1 g3; have s4 := (reg_f rs1').1 g4; have s5 := (reg_f rs2').1 g5; have s6 := (imm8 v').1 g6
    clear hw h3 h4 h5 h6 g3 g4 g5 g6
    clear p1 p11 p20 q1 q11 q20
    refine ⟨by omega, by omega, by omega, by omega⟩
end Go.Proofs.YtcckgfablfgknaaGreatDoor
