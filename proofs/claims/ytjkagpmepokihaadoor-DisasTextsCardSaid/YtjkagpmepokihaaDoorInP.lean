/- Plain numbers for layer 2: fields laid one behind the other. -/
import Derived.Test.YtjkagpmepokihaaDoorPl1
import Derived.Laws.BitsAllLaws
namespace Go.Proofs.YtjkagpmepokihaaDoor
set_option linter.unusedVariables false

/-- How many bits pieces (bits, width) have in all. -/
def pw : List (Nat × Nat) → Nat
  | [] => 0
  | p :: r => p.2 + pw r
/-- Pieces laid one behind the other, from the lowest bit on. -/
def layv : List (Nat × Nat) → Nat
  | [] => 0
  | p :: r => p.1 % 2 ^ p.2 + 2 ^ p.2 * layv r
theorem pw_append (l m : List (Nat × Nat)) : pw (l ++ m) = pw l + pw m := by
  induction l with
  | nil => simp [pw]
  | cons p l ih => simp only [List.cons_append, pw, ih]; omega
theorem pw_snoc (l : List (Nat × Nat)) (p : Nat × Nat) : pw (l ++ [p]) = pw l + p.2 := by rw [pw_append]; simp [pw]
theorem layv_snoc (l : List (Nat × Nat)) (p : Nat × Nat) : layv (l ++ [p]) = layv l + 2 ^ pw l * (p.1 % 2 ^ p.2) := by
  induction l with
  | nil => simp [pw, layv]
  | cons q l ih =>
    simp only [List.cons_append, layv, pw, ih]
    rw [Nat.mul_add, ← Nat.mul_assoc, ← Nat.pow_add, Nat.add_assoc]
theorem layv_lt (l : List (Nat × Nat)) : layv l < 2 ^ pw l := by
  induction l with
  | nil => simp [pw, layv]
  | cons p l ih =>
    simp only [layv, pw]
    have h1 : p.1 % 2 ^ p.2 < 2 ^ p.2 := Nat.mod_lt _ (Nat.pow_pos (by omega))
    have h2 : 2 ^ p.2 * (layv l + 1) ≤ 2 ^ p.2 * 2 ^ pw l := Nat.mul_le_mul_left _ (by omega)
    rw [Nat.mul_add, Nat.mul_one, ← Nat.pow_add] at h2
    omega
theorem pw_take_le (l : List (Nat × Nat)) (k : Nat) : pw (l.take k) ≤ pw l := by
  have h := pw_append (l.take k) (l.drop k)
  rw [List.take_append_drop] at h; omega
theorem take_snoc_get (l : List (Nat × Nat)) (k : Nat) (h : k < l.length) : l.take (k + 1) = l.take k ++ [l[k]] := List.take_succ_eq_append_getElem h
theorem pow_le32 {n : Nat} (h : n ≤ 32) : 2 ^ n ≤ 4294967296 := Nat.pow_le_pow_right (n := 2) (by omega) h
open Go in
theorem lay_round (l : List (Nat × Nat)) (p : Nat × Nat) (h1 : p.1 < 4294967296) (h2 : pw l + p.2 ≤ 32) :
    bits .or .u32 ((layv l : Nat) : Int) (bits .and .u32 (p.1 : Int) ((2 ^ min p.2 32 - 1) % 4294967296) * 2 ^ min (pw l) 32 % 4294967296) = ((layv (l ++ [p]) : Nat) : Int) := by
  have hl := layv_lt l
  have hq := pow_le32 (n := pw l) (by omega)
  have hr := pow_le32 (n := p.2) (by omega)
  have hs := pow_le32 h2
  have hp : 0 < 2 ^ p.2 := Nat.pow_pos (by omega)
  have e1 : (((2 : Int) ^ min p.2 32 - 1) % 4294967296) = ((2 ^ p.2 - 1 : Nat) : Int) := by
    rw [Nat.min_eq_left (by omega)]
    have : ((2 ^ p.2 : Nat) : Int) = (2 : Int) ^ p.2 := by simp
    rw [← this]; omega
  rw [e1, u32_and_nat _ _ h1 (by omega), Nat.and_two_pow_sub_one_eq_mod, Nat.min_eq_left (show pw l ≤ 32 by omega)]
  have h3 : p.1 % 2 ^ p.2 < 2 ^ p.2 := Nat.mod_lt _ hp
  have h4 : p.1 % 2 ^ p.2 * 2 ^ pw l < 2 ^ (pw l + p.2) := by
    rw [Nat.pow_add, Nat.mul_comm (2 ^ pw l)]
    exact Nat.mul_lt_mul_of_pos_right h3 (Nat.pow_pos (by omega))
  have e2 : ((p.1 % 2 ^ p.2 : Nat) : Int) * 2 ^ pw l % 4294967296 = ((p.1 % 2 ^ p.2 * 2 ^ pw l : Nat) : Int) := by
    have e3 : ((p.1 % 2 ^ p.2 : Nat) : Int) * 2 ^ pw l = ((p.1 % 2 ^ p.2 * 2 ^ pw l : Nat) : Int) := by rw [Int.natCast_mul]; simp
    rw [e3]; omega
  rw [e2, u32_or_nat _ _ (by omega) (by omega), layv_snoc]
  have h5 := Nat.shiftLeft_add_eq_or_of_lt hl (p.1 % 2 ^ p.2)
  rw [Nat.shiftLeft_eq] at h5
  rw [Nat.or_comm, ← h5, Nat.mul_comm (2 ^ pw l), Nat.add_comm]
open Go in
theorem lay_round' (l : List (Nat × Nat)) (p : Nat × Nat) (h1 : p.1 < 4294967296) (h2 : pw l + p.2 ≤ 32) :
    bits .or .u32 ((layv l : Nat) : Int) (bits .and .u32 (p.1 : Int) ((2 ^ p.2 - 1) % 4294967296) * 2 ^ pw l % 4294967296) = ((layv (l ++ [p]) : Nat) : Int) := by
  have h := lay_round l p h1 h2
  rw [Nat.min_eq_left (show p.2 ≤ 32 by omega), Nat.min_eq_left (show pw l ≤ 32 by omega)] at h
  exact h
/-- Bits of a number from a place on, as a word of 32 bits has them. -/
def cutN (v : Int) (a : Nat) : Nat := ((v / 2 ^ a) % 4294967296).toNat
theorem cutN_eq (v : Int) (a : Nat) : ((cutN v a : Nat) : Int) = v / 2 ^ a % 4294967296 := by unfold cutN; omega
theorem cutN_lt (v : Int) (a : Nat) : cutN v a < 4294967296 := by unfold cutN; omega
/-- The pieces of an instruction's word, by its form. -/
def piecesv (fm c f3 f7 rd rs1 rs2 : Nat) (imm : Int) : List (Nat × Nat) :=
  if fm = 2 then [(c, 7), (rd, 5), (f3, 3), (rs1, 5), (cutN imm 0, 12)]
  else if fm = 3 then [(c, 7), (rd, 5), (f3, 3), (rs1, 5), (cutN imm 0, 6), (f7 / 2, 6)]
  else if fm = 4 then [(c, 7), (rd, 5), (cutN imm 12, 20)]
  else if fm = 5 then [(c, 7), (cutN imm 0, 5), (f3, 3), (rs1, 5), (rs2, 5), (cutN imm 5, 7)]
  else if fm = 6 then [(c, 7), (cutN imm 11, 1), (cutN imm 1, 4), (f3, 3), (rs1, 5), (rs2, 5), (cutN imm 5, 6), (cutN imm 12, 1)]
  else if fm = 7 then [(c, 7), (rd, 5), (cutN imm 12, 8), (cutN imm 11, 1), (cutN imm 1, 10), (cutN imm 20, 1)]
  else [(c, 7), (rd, 5), (f3, 3), (rs1, 5), (rs2, 5), (f7, 7)]
end Go.Proofs.YtjkagpmepokihaaDoor
