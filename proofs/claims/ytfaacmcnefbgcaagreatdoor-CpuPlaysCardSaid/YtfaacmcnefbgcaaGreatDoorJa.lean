/- Plain mathematics on words of 64 bits (layer 1): what each instruction of two registers makes, as numbers. No conditions. -/
import Derived.Test.YtfaacmcnefbgcaaGreatDoorRows
import Derived.WalkKit
import Derived.Lib.Mul64
import Derived.Laws.BitsAllLaws
import Derived.ProofKit
import Derived.OpenShut
import Derived.Handy
import Derived.Outline
import Derived.Deep.QuietTactic
import Derived.BigQuiet
import Derived.Deep.RegionHeld3
namespace Go.Proofs.YtfaacmcnefbgcaaGreatDoor
open Go.RowKit
set_option linter.unusedVariables false

def tru (b : Bool) : Nat := if b then 1 else 0
theorem tru_le (b : Bool) : tru b ≤ 1 := by cases b <;> decide
def sltv (a b : Nat) : Nat := tru (decide (wrap64 (a : Int) < wrap64 (b : Int)))
def sltuv (a b : Nat) : Nat := tru (decide (a < b))
def srax (a k : Nat) : Nat := if a < 9223372036854775808 then a / 2 ^ k else 18446744073709551615 - (18446744073709551615 - a) / 2 ^ k
def srav (a b : Nat) : Nat := srax a (b % 64)
theorem sltv_le (a b : Nat) : sltv a b ≤ 1 := tru_le _
theorem sltuv_le (a b : Nat) : sltuv a b ≤ 1 := tru_le _
def sel (fn : Nat) (x1 x2 x3 x4 x5 x6 x7 x8 x9 x10 x11 x12 x13 x14 : Nat) : Nat :=
  match fn with
  | 1 => x1
  | 2 => x2
  | 3 => x3
  | 4 => x4
  | 5 => x5
  | 6 => x6
  | 7 => x7
  | 8 => x8
  | 9 => x9
  | 10 => x10
  | 11 => x11
  | 12 => x12
  | 13 => x13
  | 14 => x14
  | _ => 0
theorem sel_1 (x1 x2 x3 x4 x5 x6 x7 x8 x9 x10 x11 x12 x13 x14 : Nat) : sel 1 x1 x2 x3 x4 x5 x6 x7 x8 x9 x10 x11 x12 x13 x14 = x1 := rfl
theorem sel_2 (x1 x2 x3 x4 x5 x6 x7 x8 x9 x10 x11 x12 x13 x14 : Nat) : sel 2 x1 x2 x3 x4 x5 x6 x7 x8 x9 x10 x11 x12 x13 x14 = x2 := rfl
theorem sel_3 (x1 x2 x3 x4 x5 x6 x7 x8 x9 x10 x11 x12 x13 x14 : Nat) : sel 3 x1 x2 x3 x4 x5 x6 x7 x8 x9 x10 x11 x12 x13 x14 = x3 := rfl
theorem sel_4 (x1 x2 x3 x4 x5 x6 x7 x8 x9 x10 x11 x12 x13 x14 : Nat) : sel 4 x1 x2 x3 x4 x5 x6 x7 x8 x9 x10 x11 x12 x13 x14 = x4 := rfl
theorem sel_5 (x1 x2 x3 x4 x5 x6 x7 x8 x9 x10 x11 x12 x13 x14 : Nat) : sel 5 x1 x2 x3 x4 x5 x6 x7 x8 x9 x10 x11 x12 x13 x14 = x5 := rfl
theorem sel_6 (x1 x2 x3 x4 x5 x6 x7 x8 x9 x10 x11 x12 x13 x14 : Nat) : sel 6 x1 x2 x3 x4 x5 x6 x7 x8 x9 x10 x11 x12 x13 x14 = x6 := rfl
theorem sel_7 (x1 x2 x3 x4 x5 x6 x7 x8 x9 x10 x11 x12 x13 x14 : Nat) : sel 7 x1 x2 x3 x4 x5 x6 x7 x8 x9 x10 x11 x12 x13 x14 = x7 := rfl
theorem sel_8 (x1 x2 x3 x4 x5 x6 x7 x8 x9 x10 x11 x12 x13 x14 : Nat) : sel 8 x1 x2 x3 x4 x5 x6 x7 x8 x9 x10 x11 x12 x13 x14 = x8 := rfl
theorem sel_9 (x1 x2 x3 x4 x5 x6 x7 x8 x9 x10 x11 x12 x13 x14 : Nat) : sel 9 x1 x2 x3 x4 x5 x6 x7 x8 x9 x10 x11 x12 x13 x14 = x9 := rfl
theorem sel_10 (x1 x2 x3 x4 x5 x6 x7 x8 x9 x10 x11 x12 x13 x14 : Nat) : sel 10 x1 x2 x3 x4 x5 x6 x7 x8 x9 x10 x11 x12 x13 x14 = x10 := rfl
theorem sel_11 (x1 x2 x3 x4 x5 x6 x7 x8 x9 x10 x11 x12 x13 x14 : Nat) : sel 11 x1 x2 x3 x4 x5 x6 x7 x8 x9 x10 x11 x12 x13 x14 = x11 := rfl
theorem sel_12 (x1 x2 x3 x4 x5 x6 x7 x8 x9 x10 x11 x12 x13 x14 : Nat) : sel 12 x1 x2 x3 x4 x5 x6 x7 x8 x9 x10 x11 x12 x13 x14 = x12 := rfl
theorem sel_13 (x1 x2 x3 x4 x5 x6 x7 x8 x9 x10 x11 x12 x13 x14 : Nat) : sel 13 x1 x2 x3 x4 x5 x6 x7 x8 x9 x10 x11 x12 x13 x14 = x13 := rfl
theorem sel_14 (x1 x2 x3 x4 x5 x6 x7 x8 x9 x10 x11 x12 x13 x14 : Nat) : sel 14 x1 x2 x3 x4 x5 x6 x7 x8 x9 x10 x11 x12 x13 x14 = x14 := rfl
theorem sel_none (fn : Nat) (x1 x2 x3 x4 x5 x6 x7 x8 x9 x10 x11 x12 x13 x14 : Nat) (h : ¬ (1 ≤ fn ∧ fn ≤ 14)) : sel fn x1 x2 x3 x4 x5 x6 x7 x8 x9 x10 x11 x12 x13 x14 = 0 := by
  unfold sel; split <;> first | rfl | omega
theorem sel_lt (fn : Nat) (x1 x2 x3 x4 x5 x6 x7 x8 x9 x10 x11 x12 x13 x14 : Nat) (m : Nat) (hm : 0 < m) (h1 : x1 < m) (h2 : x2 < m) (h3 : x3 < m) (h4 : x4 < m) (h5 : x5 < m) (h6 : x6 < m) (h7 : x7 < m) (h8 : x8 < m) (h9 : x9 < m) (h10 : x10 < m) (h11 : x11 < m) (h12 : x12 < m) (h13 : x13 < m) (h14 : x14 < m) : sel fn x1 x2 x3 x4 x5 x6 x7 x8 x9 x10 x11 x12 x13 x14 < m := by
  unfold sel; split <;> assumption
/-- What instruction fn makes of a and b. -/
def opv (fn a b : Nat) : Nat := sel fn ((a + b) % 18446744073709551616) ((a + (18446744073709551616 - b)) % 18446744073709551616) (a * 2 ^ (b % 64) % 18446744073709551616) (sltv a b) (sltuv a b) (a ^^^ b) (a / 2 ^ (b % 64)) (srav a b) (a ||| b) (a &&& b) (a * b % 18446744073709551616) (a * b / 18446744073709551616) (if b = 0 then 18446744073709551615 else a / b) (if b = 0 then a else a % b)
theorem opv_1 (a b : Nat) : opv 1 a b = (a + b) % 18446744073709551616 := sel_1 _ _ _ _ _ _ _ _ _ _ _ _ _ _
theorem opv_2 (a b : Nat) : opv 2 a b = (a + (18446744073709551616 - b)) % 18446744073709551616 := sel_2 _ _ _ _ _ _ _ _ _ _ _ _ _ _
theorem opv_3 (a b : Nat) : opv 3 a b = a * 2 ^ (b % 64) % 18446744073709551616 := sel_3 _ _ _ _ _ _ _ _ _ _ _ _ _ _
theorem opv_4 (a b : Nat) : opv 4 a b = sltv a b := sel_4 _ _ _ _ _ _ _ _ _ _ _ _ _ _
theorem opv_5 (a b : Nat) : opv 5 a b = sltuv a b := sel_5 _ _ _ _ _ _ _ _ _ _ _ _ _ _
theorem opv_6 (a b : Nat) : opv 6 a b = a ^^^ b := sel_6 _ _ _ _ _ _ _ _ _ _ _ _ _ _
theorem opv_7 (a b : Nat) : opv 7 a b = a / 2 ^ (b % 64) := sel_7 _ _ _ _ _ _ _ _ _ _ _ _ _ _
theorem opv_8 (a b : Nat) : opv 8 a b = srav a b := sel_8 _ _ _ _ _ _ _ _ _ _ _ _ _ _
theorem opv_9 (a b : Nat) : opv 9 a b = a ||| b := sel_9 _ _ _ _ _ _ _ _ _ _ _ _ _ _
theorem opv_10 (a b : Nat) : opv 10 a b = a &&& b := sel_10 _ _ _ _ _ _ _ _ _ _ _ _ _ _
theorem opv_11 (a b : Nat) : opv 11 a b = a * b % 18446744073709551616 := sel_11 _ _ _ _ _ _ _ _ _ _ _ _ _ _
theorem opv_12 (a b : Nat) : opv 12 a b = a * b / 18446744073709551616 := sel_12 _ _ _ _ _ _ _ _ _ _ _ _ _ _
theorem opv_13 (a b : Nat) : opv 13 a b = if b = 0 then 18446744073709551615 else a / b := sel_13 _ _ _ _ _ _ _ _ _ _ _ _ _ _
theorem opv_14 (a b : Nat) : opv 14 a b = if b = 0 then a else a % b := sel_14 _ _ _ _ _ _ _ _ _ _ _ _ _ _
theorem opv_none (k a b : Nat) (h : ¬ (1 ≤ k ∧ k ≤ 14)) : opv k a b = 0 := sel_none k _ _ _ _ _ _ _ _ _ _ _ _ _ _ h
theorem opv_lt (fn a b : Nat) (ha : a < 18446744073709551616) (hb : b < 18446744073709551616) : opv fn a b < 18446744073709551616 := by
  unfold opv
  refine sel_lt fn _ _ _ _ _ _ _ _ _ _ _ _ _ _ _ (by omega) ?_ ?_ ?_ ?_ ?_ ?_ ?_ ?_ ?_ ?_ ?_ ?_ ?_ ?_
  · exact Nat.mod_lt _ (by omega)
  · exact Nat.mod_lt _ (by omega)
  · exact Nat.mod_lt _ (by omega)
  · exact Nat.lt_of_le_of_lt (sltv_le _ _) (by omega)
  · exact Nat.lt_of_le_of_lt (sltuv_le _ _) (by omega)
  · exact Nat.xor_lt_two_pow (n := 64) ha hb
  · exact Nat.lt_of_le_of_lt (Nat.div_le_self _ _) ha
  · unfold srav srax
    split
    · exact Nat.lt_of_le_of_lt (Nat.div_le_self _ _) ha
    · exact Nat.lt_of_le_of_lt (Nat.sub_le _ _) (by omega)
  · exact Nat.or_lt_two_pow (n := 64) ha hb
  · exact Nat.lt_of_le_of_lt Nat.and_le_left ha
  · exact Nat.mod_lt _ (by omega)
  · refine Nat.div_lt_of_lt_mul ?_
    exact Nat.mul_lt_mul'' ha hb
  · split
    · omega
    · exact Nat.lt_of_le_of_lt (Nat.div_le_self _ _) ha
  · split
    · omega
    · exact Nat.lt_of_le_of_lt (Nat.mod_le _ _) ha

theorem ret_u64 {a b : Int} (h : a = b) : Ending.returned (.int .u64 a) = .returned (.int .u64 b) := by rw [h]
theorem ret_bool {a b : Bool} (h : a = b) : Ending.returned (.bool a) = .returned (.bool b) := by rw [h]

theorem cast_pow_div (a n : Nat) : ((a / 2 ^ n : Nat) : Int) = (a : Int) / 2 ^ n := by
  rw [Int.natCast_ediv, Int.natCast_pow]; rfl

theorem wrap64_nat (a : Nat) (ha : a < 18446744073709551616) : wrap64 (a : Int) = if a < 9223372036854775808 then (a : Int) else (a : Int) - 18446744073709551616 := by
  unfold wrap64; split <;> omega

theorem bits_and_nat (a b : Nat) (ha : a < 18446744073709551616) (hb : b < 18446744073709551616) : bits .and .u64 (a : Int) (b : Int) = ((a &&& b : Nat) : Int) := by
  have := u64_and (a : Int) (b : Int) (by omega) (by omega) (by omega) (by omega)
  simpa using this
theorem bits_or_nat (a b : Nat) (ha : a < 18446744073709551616) (hb : b < 18446744073709551616) : bits .or .u64 (a : Int) (b : Int) = ((a ||| b : Nat) : Int) := by
  have := u64_or (a : Int) (b : Int) (by omega) (by omega) (by omega) (by omega)
  simpa using this

theorem sra_high (a n : Nat) (h : 9223372036854775808 ≤ a) (ha : a < 18446744073709551616) :
    ((a : Int) - 18446744073709551616) / 2 ^ n = ((18446744073709551615 - (18446744073709551615 - a) / 2 ^ n : Nat) : Int) - 18446744073709551616 := by
  have e : (a : Int) - 18446744073709551616 = Int.negSucc (18446744073709551615 - a) := by rw [Int.negSucc_eq]; omega
  have hp : (0 : Int) < 2 ^ n := Int.pow_pos (by omega)
  have hd : (18446744073709551615 - a) / 2 ^ n ≤ 18446744073709551615 - a := Nat.div_le_self _ _
  rw [e, Int.negSucc_ediv _ hp]
  have c : Int.ediv ((18446744073709551615 - a : Nat) : Int) (2 ^ n) = (((18446744073709551615 - a) / 2 ^ n : Nat) : Int) := by rw [cast_pow_div]; rfl
  rw [c]
  omega
theorem cast_mul_pow (a n : Nat) : ((a * 2 ^ n % 18446744073709551616 : Nat) : Int) = (a : Int) * 2 ^ n % 18446744073709551616 := by
  rw [Int.natCast_emod, Int.natCast_mul, Int.natCast_pow]; rfl
theorem sll_eq (a b : Nat) : IntKind.u64.wrap ((a : Int) * 2 ^ (b % 64)) = ((opv 3 a b : Nat) : Int) := by
  rw [IntKind.wrap_u64, opv_3, cast_mul_pow]
theorem cast_mul (a b : Nat) : ((a * b % 18446744073709551616 : Nat) : Int) = (a : Int) * (b : Int) % 18446744073709551616 := by
  rw [Int.natCast_emod, Int.natCast_mul]; rfl
theorem cast_div32 (n : Nat) : (n : Int) / 4294967296 = ((n / 4294967296 : Nat) : Int) := by omega
theorem wrap_nat (n : Nat) (h : n < 18446744073709551616) : IntKind.u64.wrap (n : Int) = n := IntWalk.u64_in _ (by omega)
theorem and32 (a : Nat) (ha : a < 18446744073709551616) : bits .and .u64 (a : Int) 4294967295 = ((a % 4294967296 : Nat) : Int) := by
  have := bits_and_nat a 4294967295 ha (by omega)
  rw [show a &&& 4294967295 = a % 4294967296 from Nat.and_two_pow_sub_one_eq_mod a 32] at this
  exact this

/-- The school method on halves of 32 bits: no step wraps but where it must, and the higher half is the product's quotient. -/
theorem mulhi_eq (a b : Nat) (ha : a < 18446744073709551616) (hb : b < 18446744073709551616) :
    IntKind.u64.wrap (IntKind.u64.wrap (IntKind.u64.wrap ((a : Int) / 4294967296 * ((b : Int) / 4294967296)) +
      IntKind.u64.wrap (IntKind.u64.wrap ((a : Int) / 4294967296 * bits BinOp.and IntKind.u64 (b : Int) 4294967295) +
        IntKind.u64.wrap (bits BinOp.and IntKind.u64 (a : Int) 4294967295 * bits BinOp.and IntKind.u64 (b : Int) 4294967295) / 4294967296) / 4294967296) +
      IntKind.u64.wrap (bits BinOp.and IntKind.u64 (IntKind.u64.wrap (IntKind.u64.wrap ((a : Int) / 4294967296 * bits BinOp.and IntKind.u64 (b : Int) 4294967295) +
        IntKind.u64.wrap (bits BinOp.and IntKind.u64 (a : Int) 4294967295 * bits BinOp.and IntKind.u64 (b : Int) 4294967295) / 4294967296)) 4294967295 +
        IntKind.u64.wrap (bits BinOp.and IntKind.u64 (a : Int) 4294967295 * ((b : Int) / 4294967296))) / 4294967296) = ((opv 12 a b : Nat) : Int) := by
  obtain ⟨h1, h2, h3, h4⟩ := Lib.mul64_hi a b ha hb
  have hlt : opv 12 a b < 18446744073709551616 := opv_lt 12 a b ha hb
  rw [opv_12] at hlt ⊢
  rw [and32 a ha, and32 b hb, cast_div32 a, cast_div32 b]
  rw [← h4] at hlt ⊢
  simp only [← Int.natCast_mul]
  generalize a % 4294967296 * (b % 4294967296) = d at *
  generalize a / 4294967296 * (b % 4294967296) = c at *
  generalize a % 4294967296 * (b / 4294967296) = f at *
  generalize a / 4294967296 * (b / 4294967296) = g at *
  rw [wrap_nat d (by omega), wrap_nat c (by omega), wrap_nat f (by omega), wrap_nat g (by omega), cast_div32 d, ← Int.natCast_add c, wrap_nat _ h2, and32 _ h2,
    ← Int.natCast_add, wrap_nat _ h3, cast_div32, cast_div32, ← Int.natCast_add, wrap_nat _ (by omega), ← Int.natCast_add, wrap_nat _ (by omega)]
theorem add_eq (a b : Nat) : IntKind.u64.wrap ((a : Int) + (b : Int)) = ((opv 1 a b : Nat) : Int) := by
  rw [IntKind.wrap_u64, opv_1]; omega
theorem sub_eq (a b : Nat) (ha : a < 18446744073709551616) (hb : b < 18446744073709551616) : IntKind.u64.wrap ((a : Int) - (b : Int)) = ((opv 2 a b : Nat) : Int) := by
  rw [IntKind.wrap_u64, opv_2]; omega
theorem mul_eq (a b : Nat) : IntKind.u64.wrap ((a : Int) * (b : Int)) = ((opv 11 a b : Nat) : Int) := by
  rw [IntKind.wrap_u64, opv_11, cast_mul]
theorem srl_eq (a b : Nat) : (a : Int) / 2 ^ (b % 64) = ((opv 7 a b : Nat) : Int) := by
  rw [opv_7, cast_pow_div]
theorem srax_lt (a k : Nat) (ha : a < 18446744073709551616) : srax a k < 18446744073709551616 := by
  unfold srax
  split
  · exact Nat.lt_of_le_of_lt (Nat.div_le_self _ _) ha
  · exact Nat.lt_of_le_of_lt (Nat.sub_le _ _) (by omega)
theorem srax_eq (a k : Nat) (ha : a < 18446744073709551616) : IntKind.u64.wrap (wrap64 (a : Int) / 2 ^ k) = ((srax a k : Nat) : Int) := by
  rw [wrap64_nat a ha, IntKind.wrap_u64]
  unfold srax
  by_cases h : a < 9223372036854775808
  · rw [if_pos h, if_pos h, ← cast_pow_div]
    have := Nat.div_le_self a (2 ^ k)
    generalize a / 2 ^ k = q at *
    omega
  · rw [if_neg h, if_neg h, sra_high a _ (by omega) ha]
    have := Nat.div_le_self (18446744073709551615 - a) (2 ^ k)
    generalize (18446744073709551615 - a) / 2 ^ k = q at *
    omega
theorem sra_eq (a b : Nat) (ha : a < 18446744073709551616) : IntKind.u64.wrap (wrap64 (a : Int) / 2 ^ (b % 64)) = ((opv 8 a b : Nat) : Int) := by
  rw [opv_8]; exact srax_eq a _ ha
theorem quo_eq (a b : Nat) (ha : a < 18446744073709551616) (h : ¬ b = 0) : IntKind.u64.wrap ((a : Int) / (b : Int)) = ((opv 13 a b : Nat) : Int) := by
  rw [opv_13, if_neg h, ← Int.natCast_ediv]
  have := Nat.div_le_self a b
  exact wrap_nat _ (by omega)
theorem rem_eq (a b : Nat) (h : ¬ b = 0) : (a : Int) % (b : Int) = ((opv 14 a b : Nat) : Int) := by
  rw [opv_14, if_neg h, ← Int.natCast_emod]
theorem slt_eq (a b : Nat) : ((tru (decide (wrap64 (a : Int) < wrap64 (b : Int))) : Nat) : Int) = ((opv 4 a b : Nat) : Int) := by rw [opv_4]; unfold sltv; with_reducible rfl
theorem sltu_eq (a b : Nat) : ((tru (decide (a < b)) : Nat) : Int) = ((opv 5 a b : Nat) : Int) := by rw [opv_5]; unfold sltuv; with_reducible rfl
theorem sltu_eq' (a b : Nat) : ((tru (decide ((a : Int) < (b : Int))) : Nat) : Int) = ((opv 5 a b : Nat) : Int) := by
  rw [opv_5]; unfold sltuv; simp only [Int.ofNat_lt]
/-- Read as signed is as with the highest bit turned. -/
theorem wrap64_lt (a b : Nat) (ha : a < 18446744073709551616) (hb : b < 18446744073709551616) :
    (wrap64 (a : Int) < wrap64 (b : Int)) ↔ ((a + 9223372036854775808) % 18446744073709551616 < (b + 9223372036854775808) % 18446744073709551616) := by
  rw [wrap64_nat a ha, wrap64_nat b hb]
  split <;> split <;> omega
end Go.Proofs.YtfaacmcnefbgcaaGreatDoor

/- Plain numbers for layer 2: fields laid one behind the other. -/
namespace Go.Proofs.YtfaacmcnefbgcaaGreatDoor
set_option linter.unusedVariables false

/-- How many bits pieces (bits, width) have in all. -/
def pw : List (Nat × Nat) → Nat
  | [] => 0
  | p :: r => p.2 + pw r
/-- Pieces laid one behind the other, from the lowest bit on. -/
def layv : List (Nat × Nat) → Nat
  | [] => 0
  | p :: r => p.1 % 2 ^ p.2 + 2 ^ p.2 * layv r
theorem pw_append (l m : List (Nat × Nat)) : pw (l ++ m) = pw l + pw m := by
  induction l with
  | nil => simp [pw]
  | cons p l ih => simp only [List.cons_append, pw, ih]; omega
theorem pw_snoc (l : List (Nat × Nat)) (p : Nat × Nat) : pw (l ++ [p]) = pw l + p.2 := by rw [pw_append]; simp [pw]
theorem layv_snoc (l : List (Nat × Nat)) (p : Nat × Nat) : layv (l ++ [p]) = layv l + 2 ^ pw l * (p.1 % 2 ^ p.2) := by
  induction l with
  | nil => simp [pw, layv]
  | cons q l ih =>
    simp only [List.cons_append, layv, pw, ih]
    rw [Nat.mul_add, ← Nat.mul_assoc, ← Nat.pow_add, Nat.add_assoc]
theorem layv_lt (l : List (Nat × Nat)) : layv l < 2 ^ pw l := by
  induction l with
  | nil => simp [pw, layv]
  | cons p l ih =>
    simp only [layv, pw]
    have h1 : p.1 % 2 ^ p.2 < 2 ^ p.2 := Nat.mod_lt _ (Nat.pow_pos (by omega))
    have h2 : 2 ^ p.2 * (layv l + 1) ≤ 2 ^ p.2 * 2 ^ pw l := Nat.mul_le_mul_left _ (by omega)
    rw [Nat.mul_add, Nat.mul_one, ← Nat.pow_add] at h2
    omega
theorem pw_take_le (l : List (Nat × Nat)) (k : Nat) : pw (l.take k) ≤ pw l := by
  have h := pw_append (l.take k) (l.drop k)
  rw [List.take_append_drop] at h; omega
theorem take_snoc_get (l : List (Nat × Nat)) (k : Nat) (h : k < l.length) : l.take (k + 1) = l.take k ++ [l[k]] := List.take_succ_eq_append_getElem h
theorem pow_le32 {n : Nat} (h : n ≤ 32) : 2 ^ n ≤ 4294967296 := Nat.pow_le_pow_right (n := 2) (by omega) h
open Go in
theorem lay_round (l : List (Nat × Nat)) (p : Nat × Nat) (h1 : p.1 < 4294967296) (h2 : pw l + p.2 ≤ 32) :
    bits .or .u32 ((layv l : Nat) : Int) (bits .and .u32 (p.1 : Int) ((2 ^ min p.2 32 - 1) % 4294967296) * 2 ^ min (pw l) 32 % 4294967296) = ((layv (l ++ [p]) : Nat) : Int) := by
  have hl := layv_lt l
  have hq := pow_le32 (n := pw l) (by omega)
  have hr := pow_le32 (n := p.2) (by omega)
  have hs := pow_le32 h2
  have hp : 0 < 2 ^ p.2 := Nat.pow_pos (by omega)
  have e1 : (((2 : Int) ^ min p.2 32 - 1) % 4294967296) = ((2 ^ p.2 - 1 : Nat) : Int) := by
    rw [Nat.min_eq_left (by omega)]
    have : ((2 ^ p.2 : Nat) : Int) = (2 : Int) ^ p.2 := by simp
    rw [← this]; omega
  rw [e1, u32_and_nat _ _ h1 (by omega), Nat.and_two_pow_sub_one_eq_mod, Nat.min_eq_left (show pw l ≤ 32 by omega)]
  have h3 : p.1 % 2 ^ p.2 < 2 ^ p.2 := Nat.mod_lt _ hp
  have h4 : p.1 % 2 ^ p.2 * 2 ^ pw l < 2 ^ (pw l + p.2) := by
    rw [Nat.pow_add, Nat.mul_comm (2 ^ pw l)]
    exact Nat.mul_lt_mul_of_pos_right h3 (Nat.pow_pos (by omega))
  have e2 : ((p.1 % 2 ^ p.2 : Nat) : Int) * 2 ^ pw l % 4294967296 = ((p.1 % 2 ^ p.2 * 2 ^ pw l : Nat) : Int) := by
    have e3 : ((p.1 % 2 ^ p.2 : Nat) : Int) * 2 ^ pw l = ((p.1 % 2 ^ p.2 * 2 ^ pw l : Nat) : Int) := by rw [Int.natCast_mul]; simp
    rw [e3]; omega
  rw [e2, u32_or_nat _ _ (by omega) (by omega), layv_snoc]
  have h5 := Nat.shiftLeft_add_eq_or_of_lt hl (p.1 % 2 ^ p.2)
  rw [Nat.shiftLeft_eq] at h5
  rw [Nat.or_comm, ← h5, Nat.mul_comm (2 ^ pw l), Nat.add_comm]
open Go in
theorem lay_round' (l : List (Nat × Nat)) (p : Nat × Nat) (h1 : p.1 < 4294967296) (h2 : pw l + p.2 ≤ 32) :
    bits .or .u32 ((layv l : Nat) : Int) (bits .and .u32 (p.1 : Int) ((2 ^ p.2 - 1) % 4294967296) * 2 ^ pw l % 4294967296) = ((layv (l ++ [p]) : Nat) : Int) := by
  have h := lay_round l p h1 h2
  rw [Nat.min_eq_left (show p.2 ≤ 32 by omega), Nat.min_eq_left (show pw l ≤ 32 by omega)] at h
  exact h
/-- Bits of a number from a place on, as a word of 32 bits has them. -/
def cutN (v : Int) (a : Nat) : Nat := ((v / 2 ^ a) % 4294967296).toNat
theorem cutN_eq (v : Int) (a : Nat) : ((cutN v a : Nat) : Int) = v / 2 ^ a % 4294967296 := by unfold cutN; omega
theorem cutN_lt (v : Int) (a : Nat) : cutN v a < 4294967296 := by unfold cutN; omega
/-- The pieces of an instruction's word, by its form. -/
def piecesv (fm c f3 f7 rd rs1 rs2 : Nat) (imm : Int) : List (Nat × Nat) :=
  if fm = 2 then [(c, 7), (rd, 5), (f3, 3), (rs1, 5), (cutN imm 0, 12)]
  else if fm = 3 then [(c, 7), (rd, 5), (f3, 3), (rs1, 5), (cutN imm 0, 6), (f7 / 2, 6)]
  else if fm = 4 then [(c, 7), (rd, 5), (cutN imm 12, 20)]
  else if fm = 5 then [(c, 7), (cutN imm 0, 5), (f3, 3), (rs1, 5), (rs2, 5), (cutN imm 5, 7)]
  else if fm = 6 then [(c, 7), (cutN imm 11, 1), (cutN imm 1, 4), (f3, 3), (rs1, 5), (rs2, 5), (cutN imm 5, 6), (cutN imm 12, 1)]
  else if fm = 7 then [(c, 7), (rd, 5), (cutN imm 12, 8), (cutN imm 11, 1), (cutN imm 1, 10), (cutN imm 20, 1)]
  else [(c, 7), (rd, 5), (f3, 3), (rs1, 5), (rs2, 5), (f7, 7)]
end Go.Proofs.YtfaacmcnefbgcaaGreatDoor

/- The specification of layer 2 in plain numbers: which instructions have words, which word each has; unlike ones have unlike words. -/
namespace Go.Proofs.YtfaacmcnefbgcaaGreatDoor
set_option linter.unusedVariables false
def codeL : List Nat := [0, 51, 51, 51, 51, 51, 51, 51, 51, 51, 51, 51, 51, 51, 51, 19, 19, 19, 19, 19, 19, 19, 19, 55, 3, 3, 35, 35, 99, 99, 99, 99, 111, 103, 115]
def f3L : List Nat := [0, 0, 0, 1, 2, 3, 4, 5, 5, 6, 7, 0, 3, 5, 7, 0, 3, 4, 6, 7, 1, 5, 5, 0, 4, 3, 0, 3, 0, 1, 6, 7, 0, 0, 0]
def f7L : List Nat := [0, 0, 32, 0, 0, 0, 0, 0, 32, 0, 0, 1, 1, 1, 1, 0, 0, 0, 0, 0, 0, 0, 32, 0, 0, 0, 0, 0, 0, 0, 0, 0, 0, 0, 0]
def formL : List Nat := [0, 1, 1, 1, 1, 1, 1, 1, 1, 1, 1, 1, 1, 1, 1, 2, 2, 2, 2, 2, 3, 3, 3, 4, 2, 2, 5, 5, 6, 6, 6, 6, 7, 2, 8]
def codeT (k : Nat) : Nat := codeL.getD k 0
def f3T (k : Nat) : Nat := f3L.getD k 0
def f7T (k : Nat) : Nat := f7L.getD k 0
def formT (k : Nat) : Nat := formL.getD k 0
theorem allT : ∀ k < 35, codeT k < 128 ∧ f3T k < 8 ∧ f7T k < 128 ∧ formT k ≤ 8 ∧ (formT k = 0 ↔ k = 0) ∧ (formT k = 1 ∨ formT k = 3 ∨ f7T k = 0) ∧ (formT k = 3 → f7T k % 2 = 0) ∧ (formT k = 4 ∨ formT k = 7 ∨ formT k = 8 → f3T k = 0) ∧ codeT k % 4 = 3 ∨ k = 0 := by decide +kernel
def fitB (v : Int) (n : Nat) : Bool := decide (-(2 ^ (n - 1)) ≤ v ∧ v < 2 ^ (n - 1))
def regB (named : Bool) (r : Nat) : Bool := if named then decide (r < 32) else decide (r = 0)
def rdT (f : Nat) : Bool := [false, true, true, true, true, false, false, true, false].getD f false
def rs1T (f : Nat) : Bool := [false, true, true, true, false, true, true, false, false].getD f false
def rs2T (f : Nat) : Bool := [false, true, false, false, false, true, true, false, false].getD f false
def bitsT (f : Nat) : Nat := [0, 0, 12, 6, 32, 12, 13, 21, 0].getD f 0
def stepT (f : Nat) : Nat := [0, 0, 1, 1, 4096, 1, 2, 2, 0].getD f 0
/-- Is the number as the form has it? -/
def immB (f : Nat) (v : Int) : Bool :=
  if f = 2 then fitB v 12 else if f = 3 then decide (0 ≤ v ∧ v < 64) else if f = 4 then fitB v 32 && decide (v % 4096 = 0)
  else if f = 5 then fitB v 12 else if f = 6 then fitB v 13 && decide (v % 2 = 0) else if f = 7 then fitB v 21 && decide (v % 2 = 0) else decide (v = 0)
def takesB (f rd rs1 rs2 : Nat) (v : Int) : Bool := decide (f ≠ 0) && regB (rdT f) rd && regB (rs1T f) rs1 && regB (rs2T f) rs2 && immB f v
/-- Has it a word? -/
def okB (op rd rs1 rs2 : Nat) (v : Int) : Bool := decide (op < 35) && takesB (formT op) rd rs1 rs2 v
/-- Its word. -/
def wordN (op rd rs1 rs2 : Nat) (v : Int) : Nat := layv (piecesv (formT op) (codeT op) (f3T op) (f7T op) rd rs1 rs2 v)
theorem pw_pieces (fm c f3 f7 rd rs1 rs2 : Nat) (v : Int) : pw (piecesv fm c f3 f7 rd rs1 rs2 v) ≤ 32 := by
  unfold piecesv
  split
  · simp [pw]
  split
  · simp [pw]
  split
  · simp [pw]
  split
  · simp [pw]
  split
  · simp [pw]
  split <;> simp [pw]
theorem wordN_lt (op rd rs1 rs2 : Nat) (v : Int) : wordN op rd rs1 rs2 v < 4294967296 :=
  Nat.lt_of_lt_of_le (layv_lt _) (pow_le32 (pw_pieces _ _ _ _ _ _ _ _))
/-- The six fields of a word. -/
def wcode (w : Nat) : Nat := w % 128
def wrd (w : Nat) : Nat := w / 128 % 32
def wf3 (w : Nat) : Nat := w / 4096 % 8
def wrs1 (w : Nat) : Nat := w / 32768 % 32
def wrs2 (w : Nat) : Nat := w / 1048576 % 32
def wf7 (w : Nat) : Nat := w / 33554432
theorem form_cases {f : Nat} (h : f ≤ 8) (h0 : f ≠ 0) : f = 1 ∨ f = 2 ∨ f = 3 ∨ f = 4 ∨ f = 5 ∨ f = 6 ∨ f = 7 ∨ f = 8 := by omega
theorem lay1 (c f3 f7 rd rs1 rs2 : Nat) (v : Int) : layv (piecesv 1 c f3 f7 rd rs1 rs2 v) = c % 128 + 128 * (rd % 32) + 4096 * (f3 % 8) + 32768 * (rs1 % 32) + 1048576 * (rs2 % 32) + 33554432 * (f7 % 128) := by
  rw [show piecesv 1 c f3 f7 rd rs1 rs2 v = [(c, 7), (rd, 5), (f3, 3), (rs1, 5), (rs2, 5), (f7, 7)] from rfl]; simp only [layv]; omega
theorem lay8 (c f3 f7 rd rs1 rs2 : Nat) (v : Int) : layv (piecesv 8 c f3 f7 rd rs1 rs2 v) = c % 128 + 128 * (rd % 32) + 4096 * (f3 % 8) + 32768 * (rs1 % 32) + 1048576 * (rs2 % 32) + 33554432 * (f7 % 128) := by
  rw [show piecesv 8 c f3 f7 rd rs1 rs2 v = [(c, 7), (rd, 5), (f3, 3), (rs1, 5), (rs2, 5), (f7, 7)] from rfl]; simp only [layv]; omega
theorem lay2 (c f3 f7 rd rs1 rs2 : Nat) (v : Int) : layv (piecesv 2 c f3 f7 rd rs1 rs2 v) = c % 128 + 128 * (rd % 32) + 4096 * (f3 % 8) + 32768 * (rs1 % 32) + 1048576 * (cutN v 0 % 4096) := by
  rw [show piecesv 2 c f3 f7 rd rs1 rs2 v = [(c, 7), (rd, 5), (f3, 3), (rs1, 5), (cutN v 0, 12)] from rfl]; simp only [layv]; omega
theorem lay3 (c f3 f7 rd rs1 rs2 : Nat) (v : Int) : layv (piecesv 3 c f3 f7 rd rs1 rs2 v) = c % 128 + 128 * (rd % 32) + 4096 * (f3 % 8) + 32768 * (rs1 % 32) + 1048576 * (cutN v 0 % 64) + 67108864 * (f7 / 2 % 64) := by
  rw [show piecesv 3 c f3 f7 rd rs1 rs2 v = [(c, 7), (rd, 5), (f3, 3), (rs1, 5), (cutN v 0, 6), (f7 / 2, 6)] from rfl]; simp only [layv]; omega
theorem lay4 (c f3 f7 rd rs1 rs2 : Nat) (v : Int) : layv (piecesv 4 c f3 f7 rd rs1 rs2 v) = c % 128 + 128 * (rd % 32) + 4096 * (cutN v 12 % 1048576) := by
  rw [show piecesv 4 c f3 f7 rd rs1 rs2 v = [(c, 7), (rd, 5), (cutN v 12, 20)] from rfl]; simp only [layv]; omega
theorem lay5 (c f3 f7 rd rs1 rs2 : Nat) (v : Int) : layv (piecesv 5 c f3 f7 rd rs1 rs2 v) = c % 128 + 128 * (cutN v 0 % 32) + 4096 * (f3 % 8) + 32768 * (rs1 % 32) + 1048576 * (rs2 % 32) + 33554432 * (cutN v 5 % 128) := by
  rw [show piecesv 5 c f3 f7 rd rs1 rs2 v = [(c, 7), (cutN v 0, 5), (f3, 3), (rs1, 5), (rs2, 5), (cutN v 5, 7)] from rfl]; simp only [layv]; omega
theorem lay6 (c f3 f7 rd rs1 rs2 : Nat) (v : Int) : layv (piecesv 6 c f3 f7 rd rs1 rs2 v) = c % 128 + 128 * (cutN v 11 % 2) + 256 * (cutN v 1 % 16) + 4096 * (f3 % 8) + 32768 * (rs1 % 32) + 1048576 * (rs2 % 32) + 33554432 * (cutN v 5 % 64) + 2147483648 * (cutN v 12 % 2) := by
  rw [show piecesv 6 c f3 f7 rd rs1 rs2 v = [(c, 7), (cutN v 11, 1), (cutN v 1, 4), (f3, 3), (rs1, 5), (rs2, 5), (cutN v 5, 6), (cutN v 12, 1)] from rfl]; simp only [layv]; omega
theorem lay7 (c f3 f7 rd rs1 rs2 : Nat) (v : Int) : layv (piecesv 7 c f3 f7 rd rs1 rs2 v) = c % 128 + 128 * (rd % 32) + 4096 * (cutN v 12 % 256) + 1048576 * (cutN v 11 % 2) + 2097152 * (cutN v 1 % 1024) + 2147483648 * (cutN v 20 % 2) := by
  rw [show piecesv 7 c f3 f7 rd rs1 rs2 v = [(c, 7), (rd, 5), (cutN v 12, 8), (cutN v 11, 1), (cutN v 1, 10), (cutN v 20, 1)] from rfl]; simp only [layv]; omega
theorem cut0 (v : Int) : ((cutN v 0 : Nat) : Int) = v % 4294967296 := by rw [cutN_eq]; simp
theorem cut1 (v : Int) : ((cutN v 1 : Nat) : Int) = v / 2 % 4294967296 := by rw [cutN_eq]; simp
theorem cut5 (v : Int) : ((cutN v 5 : Nat) : Int) = v / 32 % 4294967296 := by rw [cutN_eq]; simp
theorem cut11 (v : Int) : ((cutN v 11 : Nat) : Int) = v / 2048 % 4294967296 := by rw [cutN_eq]; simp
theorem cut12 (v : Int) : ((cutN v 12 : Nat) : Int) = v / 4096 % 4294967296 := by rw [cutN_eq]; simp
theorem cut20 (v : Int) : ((cutN v 20 : Nat) : Int) = v / 1048576 % 4294967296 := by rw [cutN_eq]; simp
theorem fit12 (v : Int) : fitB v 12 = true ↔ -2048 ≤ v ∧ v < 2048 := by unfold fitB; simp
theorem fit13 (v : Int) : fitB v 13 = true ↔ -4096 ≤ v ∧ v < 4096 := by unfold fitB; simp
theorem fit21 (v : Int) : fitB v 21 = true ↔ -1048576 ≤ v ∧ v < 1048576 := by unfold fitB; simp
theorem fit32 (v : Int) : fitB v 32 = true ↔ -2147483648 ≤ v ∧ v < 2147483648 := by unfold fitB; simp
theorem imm1 (v : Int) : immB 1 v = true ↔ v = 0 := by simp [immB]
theorem imm2 (v : Int) : immB 2 v = true ↔ -2048 ≤ v ∧ v < 2048 := by rw [← fit12]; simp [immB]
theorem imm3 (v : Int) : immB 3 v = true ↔ 0 ≤ v ∧ v < 64 := by simp [immB]
theorem imm4 (v : Int) : immB 4 v = true ↔ (-2147483648 ≤ v ∧ v < 2147483648) ∧ v % 4096 = 0 := by rw [← fit32]; simp [immB]
theorem imm5 (v : Int) : immB 5 v = true ↔ -2048 ≤ v ∧ v < 2048 := by rw [← fit12]; simp [immB]
theorem imm6 (v : Int) : immB 6 v = true ↔ (-4096 ≤ v ∧ v < 4096) ∧ v % 2 = 0 := by rw [← fit13]; simp [immB]
theorem imm7 (v : Int) : immB 7 v = true ↔ (-1048576 ≤ v ∧ v < 1048576) ∧ v % 2 = 0 := by rw [← fit21]; simp [immB]
theorem imm8 (v : Int) : immB 8 v = true ↔ v = 0 := by simp [immB]
theorem reg_t (r : Nat) : regB true r = true ↔ r < 32 := by simp [regB]
theorem reg_f (r : Nat) : regB false r = true ↔ r = 0 := by simp [regB]
theorem ok_parts {op rd rs1 rs2 : Nat} {v : Int} (h : okB op rd rs1 rs2 v = true) : op < 35 ∧ formT op ≠ 0 ∧ regB (rdT (formT op)) rd = true ∧ regB (rs1T (formT op)) rs1 = true ∧ regB (rs2T (formT op)) rs2 = true ∧ immB (formT op) v = true := by
  simp only [okB, takesB, Bool.and_eq_true, decide_eq_true_eq] at h
  obtain ⟨h1, ⟨⟨⟨h2, h3⟩, h4⟩, h5⟩, h6⟩ := h
  exact ⟨h1, h2, h3, h4, h5, h6⟩
end Go.Proofs.YtfaacmcnefbgcaaGreatDoor

/- Unlike instructions have unlike words (plain numbers). -/
namespace Go.Proofs.YtfaacmcnefbgcaaGreatDoor
set_option linter.unusedVariables false
def agB (k j : Nat) : Bool := k != 0 && j != 0 && codeT k == codeT j && (formT k == 4 || formT k == 7 || formT j == 4 || formT j == 7 || f3T k == f3T j) && (formT k != 1 || formT j != 1 || f7T k == f7T j) && (formT k != 3 || formT j != 3 || f7T k / 2 == f7T j / 2)
theorem agT : ∀ k < 35, ∀ j < 35, agB k j = true → k = j := by decide +kernel
theorem agreeT (k : Nat) (hk : k < 35) (j : Nat) (hj : j < 35) (h : k ≠ 0 ∧ j ≠ 0 ∧ codeT k = codeT j ∧ (formT k = 4 ∨ formT k = 7 ∨ formT j = 4 ∨ formT j = 7 ∨ f3T k = f3T j) ∧ (formT k ≠ 1 ∨ formT j ≠ 1 ∨ f7T k = f7T j) ∧ (formT k ≠ 3 ∨ formT j ≠ 3 ∨ f7T k / 2 = f7T j / 2)) : k = j := by
  refine agT k hk j hj ?_
  simp only [agB, Bool.and_eq_true, Bool.or_eq_true, bne_iff_ne, beq_iff_eq]
  omega
theorem layv_inj : ∀ (l m : List (Nat × Nat)), l.map (·.2) = m.map (·.2) → layv l = layv m → l.map (fun p => p.1 % 2 ^ p.2) = m.map (fun p => p.1 % 2 ^ p.2)
  | [], [], _, _ => rfl
  | [], _ :: _, h, _ => by simp at h
  | _ :: _, [], h, _ => by simp at h
  | p :: l, q :: m, h, e => by
    simp only [List.map_cons, List.cons.injEq] at h ⊢
    obtain ⟨hw, ht⟩ := h
    simp only [layv] at e
    rw [← hw] at e ⊢
    have hp : 0 < 2 ^ p.2 := Nat.pow_pos (by omega)
    have h1 : (p.1 % 2 ^ p.2 + 2 ^ p.2 * layv l) % 2 ^ p.2 = (q.1 % 2 ^ p.2 + 2 ^ p.2 * layv m) % 2 ^ p.2 := by rw [e]
    rw [Nat.add_mul_mod_self_left, Nat.add_mul_mod_self_left, Nat.mod_mod, Nat.mod_mod] at h1
    rw [h1] at e
    exact ⟨h1, layv_inj l m ht (Nat.eq_of_mul_eq_mul_left hp (by omega))⟩
theorem inj6 (v v' : Int) (h1 : v / 2 % 16 = v' / 2 % 16) (h2 : v / 32 % 64 = v' / 32 % 64) (h3 : v / 2048 % 2 = v' / 2048 % 2) (h4 : v / 4096 % 2 = v' / 4096 % 2) (r : (-4096 ≤ v ∧ v < 4096) ∧ v % 2 = 0) (s : (-4096 ≤ v' ∧ v' < 4096) ∧ v' % 2 = 0) : v = v' := by omega
theorem inj7 (v v' : Int) (h1 : v / 2 % 1024 = v' / 2 % 1024) (h2 : v / 4096 % 256 = v' / 4096 % 256) (h3 : v / 2048 % 2 = v' / 2048 % 2) (h4 : v / 1048576 % 2 = v' / 1048576 % 2) (r : (-1048576 ≤ v ∧ v < 1048576) ∧ v % 2 = 0) (s : (-1048576 ≤ v' ∧ v' < 1048576) ∧ v' % 2 = 0) : v = v' := by omega
theorem sub16 {a b : Nat} {x y : Int} (p : (a : Int) = x % 4294967296) (q : (b : Int) = y % 4294967296) (h : a % 16 = b % 16) : x % 16 = y % 16 := by omega
theorem sub64 {a b : Nat} {x y : Int} (p : (a : Int) = x % 4294967296) (q : (b : Int) = y % 4294967296) (h : a % 64 = b % 64) : x % 64 = y % 64 := by omega
theorem sub2 {a b : Nat} {x y : Int} (p : (a : Int) = x % 4294967296) (q : (b : Int) = y % 4294967296) (h : a % 2 = b % 2) : x % 2 = y % 2 := by omega
theorem sub256 {a b : Nat} {x y : Int} (p : (a : Int) = x % 4294967296) (q : (b : Int) = y % 4294967296) (h : a % 256 = b % 256) : x % 256 = y % 256 := by omega
theorem sub1024 {a b : Nat} {x y : Int} (p : (a : Int) = x % 4294967296) (q : (b : Int) = y % 4294967296) (h : a % 1024 = b % 1024) : x % 1024 = y % 1024 := by omega
theorem tabs (k : Nat) (h : k < 35) (h0 : formT k ≠ 0) : k ≠ 0 ∧ codeT k < 128 ∧ f3T k < 8 ∧ f7T k < 128 ∧ formT k ≤ 8 ∧ codeT k % 4 = 3 := by
  have := (by decide +kernel : ∀ k < 35, formT k ≠ 0 → k ≠ 0 ∧ codeT k < 128 ∧ f3T k < 8 ∧ f7T k < 128 ∧ formT k ≤ 8 ∧ codeT k % 4 = 3) k h h0
  exact this
/-- What the word of an instruction says of its row. -/
theorem row_of_word {op rd rs1 rs2 : Nat} {v : Int} (h : okB op rd rs1 rs2 v = true) :
    wcode (wordN op rd rs1 rs2 v) = codeT op ∧ (formT op = 4 ∨ formT op = 7 ∨ wf3 (wordN op rd rs1 rs2 v) = f3T op) ∧ (formT op ≠ 1 ∨ wf7 (wordN op rd rs1 rs2 v) = f7T op) ∧ (formT op ≠ 3 ∨ wf7 (wordN op rd rs1 rs2 v) / 2 = f7T op / 2) := by
  obtain ⟨h1, h2, h3, h4, h5, h6⟩ := ok_parts h
  obtain ⟨t1, t2, t3, t4, t5, t6⟩ := tabs op h1 h2
  unfold wordN wcode wf3 wf7
  generalize codeT op = c at *
  generalize f3T op = f3 at *
  generalize f7T op = f7 at *
  generalize formT op = fm at *
  rcases form_cases t5 h2 with rfl | rfl | rfl | rfl | rfl | rfl | rfl | rfl
  · rw [lay1]; simp; omega
  · rw [lay2]; simp; omega
  · rw [lay3]; simp; omega
  · rw [lay4]; simp; omega
  · rw [lay5]; simp; omega
  · rw [lay6]; simp; omega
  · rw [lay7]; simp; omega
  · rw [lay8]; simp; omega
theorem word_low {op rd rs1 rs2 : Nat} {v : Int} (h : okB op rd rs1 rs2 v = true) : wordN op rd rs1 rs2 v % 4 = 3 := by
  obtain ⟨h1, _⟩ := row_of_word h
  obtain ⟨k1, k2, _⟩ := ok_parts h
  have := (tabs op k1 k2).2.2.2.2.2
  unfold wcode at h1
  omega
theorem word_op {op rd rs1 rs2 op' rd' rs1' rs2' : Nat} {v v' : Int} (h : okB op rd rs1 rs2 v = true) (h' : okB op' rd' rs1' rs2' v' = true) (hw : wordN op rd rs1 rs2 v = wordN op' rd' rs1' rs2' v') : op = op' := by
  obtain ⟨a1, a2, a3, a4⟩ := row_of_word h
  obtain ⟨b1, b2, b3, b4⟩ := row_of_word h'
  obtain ⟨k1, k2, _⟩ := ok_parts h
  obtain ⟨l1, l2, _⟩ := ok_parts h'
  rw [hw] at a1 a2 a3 a4
  exact agreeT op k1 op' l1 ⟨(tabs op k1 k2).1, (tabs op' l1 l2).1, by omega, by omega, by omega, by omega⟩
theorem word_inj {op rd rs1 rs2 op' rd' rs1' rs2' : Nat} {v v' : Int} (h : okB op rd rs1 rs2 v = true) (h' : okB op' rd' rs1' rs2' v' = true) (hw : wordN op rd rs1 rs2 v = wordN op' rd' rs1' rs2' v') :
    op = op' ∧ rd = rd' ∧ rs1 = rs1' ∧ rs2 = rs2' ∧ v = v' := by
  obtain rfl := word_op h h' hw
  refine ⟨rfl, ?_⟩
  obtain ⟨h1, h2, h3, h4, h5, h6⟩ := ok_parts h
  obtain ⟨_, _, g3, g4, g5, g6⟩ := ok_parts h'
  obtain ⟨t1, t2, t3, t4, t5, t6⟩ := tabs op h1 h2
  unfold wordN at hw
  generalize codeT op = c at *
  generalize f3T op = f3 at *
  generalize f7T op = f7 at *
  generalize formT op = fm at *
  have p0 := cut0 v; have p1 := cut1 v; have p5 := cut5 v; have p11 := cut11 v; have p12 := cut12 v; have p20 := cut20 v
  have q0 := cut0 v'; have q1 := cut1 v'; have q5 := cut5 v'; have q11 := cut11 v'; have q12 := cut12 v'; have q20 := cut20 v'
  rcases form_cases t5 h2 with rfl | rfl | rfl | rfl | rfl | rfl | rfl | rfl
  · have hh := layv_inj _ _ (by rfl) hw
    rw [show piecesv 1 c f3 f7 rd rs1 rs2 v = [(c, 7), (rd, 5), (f3, 3), (rs1, 5), (rs2, 5), (f7, 7)] from rfl, show piecesv 1 c f3 f7 rd' rs1' rs2' v' = [(c, 7), (rd', 5), (f3, 3), (rs1', 5), (rs2', 5), (f7, 7)] from rfl] at hh
    simp only [List.map_cons, List.map_nil, List.cons.injEq, Nat.reducePow, and_true, true_and] at hh
    have r3 := (reg_t rd).1 h3; have r4 := (reg_t rs1).1 h4; have r5 := (reg_t rs2).1 h5; have r6 := (imm1 v).1 h6
    have s3 := (reg_t rd').1 g3; have s4 := (reg_t rs1').1 g4; have s5 := (reg_t rs2').1 g5; have s6 := (imm1 v').1 g6
    clear hw h3 h4 h5 h6 g3 g4 g5 g6
    clear p1 p11 p20 q1 q11 q20
    refine ⟨by omega, by omega, by omega, by omega⟩
  · have hh := layv_inj _ _ (by rfl) hw
    rw [show piecesv 2 c f3 f7 rd rs1 rs2 v = [(c, 7), (rd, 5), (f3, 3), (rs1, 5), (cutN v 0, 12)] from rfl, show piecesv 2 c f3 f7 rd' rs1' rs2' v' = [(c, 7), (rd', 5), (f3, 3), (rs1', 5), (cutN v' 0, 12)] from rfl] at hh
    simp only [List.map_cons, List.map_nil, List.cons.injEq, Nat.reducePow, and_true, true_and] at hh
    have r3 := (reg_t rd).1 h3; have r4 := (reg_t rs1).1 h4; have r5 := (reg_f rs2).1 h5; have r6 := (imm2 v).1 h6
    have s3 := (reg_t rd').1 g3; have s4 := (reg_t rs1').1 g4; have s5 := (reg_f rs2').1 g5; have s6 := (imm2 v').1 g6
    clear hw h3 h4 h5 h6 g3 g4 g5 g6
    clear p1 p11 p20 q1 q11 q20
    refine ⟨by omega, by omega, by omega, by omega⟩
  · have hh := layv_inj _ _ (by rfl) hw
    rw [show piecesv 3 c f3 f7 rd rs1 rs2 v = [(c, 7), (rd, 5), (f3, 3), (rs1, 5), (cutN v 0, 6), (f7 / 2, 6)] from rfl, show piecesv 3 c f3 f7 rd' rs1' rs2' v' = [(c, 7), (rd', 5), (f3, 3), (rs1', 5), (cutN v' 0, 6), (f7 / 2, 6)] from rfl] at hh
    simp only [List.map_cons, List.map_nil, List.cons.injEq, Nat.reducePow, and_true, true_and] at hh
    have r3 := (reg_t rd).1 h3; have r4 := (reg_t rs1).1 h4; have r5 := (reg_f rs2).1 h5; have r6 := (imm3 v).1 h6
    have s3 := (reg_t rd').1 g3; have s4 := (reg_t rs1').1 g4; have s5 := (reg_f rs2').1 g5; have s6 := (imm3 v').1 g6
    clear hw h3 h4 h5 h6 g3 g4 g5 g6
    clear p1 p11 p20 q1 q11 q20
    refine ⟨by omega, by omega, by omega, by omega⟩
  · have hh := layv_inj _ _ (by rfl) hw
    rw [show piecesv 4 c f3 f7 rd rs1 rs2 v = [(c, 7), (rd, 5), (cutN v 12, 20)] from rfl, show piecesv 4 c f3 f7 rd' rs1' rs2' v' = [(c, 7), (rd', 5), (cutN v' 12, 20)] from rfl] at hh
    simp only [List.map_cons, List.map_nil, List.cons.injEq, Nat.reducePow, and_true, true_and] at hh
    have r3 := (reg_t rd).1 h3; have r4 := (reg_f rs1).1 h4; have r5 := (reg_f rs2).1 h5; have r6 := (imm4 v).1 h6
    have s3 := (reg_t rd').1 g3; have s4 := (reg_f rs1').1 g4; have s5 := (reg_f rs2').1 g5; have s6 := (imm4 v').1 g6
    clear hw h3 h4 h5 h6 g3 g4 g5 g6
    clear p1 p11 p20 q1 q11 q20
    refine ⟨by omega, by omega, by omega, by omega⟩
  · have hh := layv_inj _ _ (by rfl) hw
    rw [show piecesv 5 c f3 f7 rd rs1 rs2 v = [(c, 7), (cutN v 0, 5), (f3, 3), (rs1, 5), (rs2, 5), (cutN v 5, 7)] from rfl, show piecesv 5 c f3 f7 rd' rs1' rs2' v' = [(c, 7), (cutN v' 0, 5), (f3, 3), (rs1', 5), (rs2', 5), (cutN v' 5, 7)] from rfl] at hh
    simp only [List.map_cons, List.map_nil, List.cons.injEq, Nat.reducePow, and_true, true_and] at hh
    have r3 := (reg_f rd).1 h3; have r4 := (reg_t rs1).1 h4; have r5 := (reg_t rs2).1 h5; have r6 := (imm5 v).1 h6
    have s3 := (reg_f rd').1 g3; have s4 := (reg_t rs1').1 g4; have s5 := (reg_t rs2').1 g5; have s6 := (imm5 v').1 g6
    clear hw h3 h4 h5 h6 g3 g4 g5 g6
    clear p1 p11 p20 q1 q11 q20
    refine ⟨by omega, by omega, by omega, by omega⟩
  · have hh := layv_inj _ _ (by rfl) hw
    rw [show piecesv 6 c f3 f7 rd rs1 rs2 v = [(c, 7), (cutN v 11, 1), (cutN v 1, 4), (f3, 3), (rs1, 5), (rs2, 5), (cutN v 5, 6), (cutN v 12, 1)] from rfl, show piecesv 6 c f3 f7 rd' rs1' rs2' v' = [(c, 7), (cutN v' 11, 1), (cutN v' 1, 4), (f3, 3), (rs1', 5), (rs2', 5), (cutN v' 5, 6), (cutN v' 12, 1)] from rfl] at hh
    simp only [List.map_cons, List.map_nil, List.cons.injEq, Nat.reducePow, and_true, true_and] at hh
    have r3 := (reg_f rd).1 h3; have r4 := (reg_t rs1).1 h4; have r5 := (reg_t rs2).1 h5; have r6 := (imm6 v).1 h6
    have s3 := (reg_f rd').1 g3; have s4 := (reg_t rs1').1 g4; have s5 := (reg_t rs2').1 g5; have s6 := (imm6 v').1 g6
    clear hw h3 h4 h5 h6 g3 g4 g5 g6
    obtain ⟨w1, w2, w5, w6, w7, w8⟩ := hh
    exact ⟨by omega, by omega, by omega, inj6 v v' (sub16 p1 q1 w2) (sub64 p5 q5 w7) (sub2 p11 q11 w1) (sub2 p12 q12 w8) r6 s6⟩
  · have hh := layv_inj _ _ (by rfl) hw
    rw [show piecesv 7 c f3 f7 rd rs1 rs2 v = [(c, 7), (rd, 5), (cutN v 12, 8), (cutN v 11, 1), (cutN v 1, 10), (cutN v 20, 1)] from rfl, show piecesv 7 c f3 f7 rd' rs1' rs2' v' = [(c, 7), (rd', 5), (cutN v' 12, 8), (cutN v' 11, 1), (cutN v' 1, 10), (cutN v' 20, 1)] from rfl] at hh
    simp only [List.map_cons, List.map_nil, List.cons.injEq, Nat.reducePow, and_true, true_and] at hh
    have r3 := (reg_t rd).1 h3; have r4 := (reg_f rs1).1 h4; have r5 := (reg_f rs2).1 h5; have r6 := (imm7 v).1 h6
    have s3 := (reg_t rd').1 g3; have s4 := (reg_f rs1').1 g4; have s5 := (reg_f rs2').1 g5; have s6 := (imm7 v').1 g6
    clear hw h3 h4 h5 h6 g3 g4 g5 g6
    obtain ⟨w1, w2, w3, w4, w5⟩ := hh
    exact ⟨by omega, by omega, by omega, inj7 v v' (sub1024 p1 q1 w4) (sub256 p12 q12 w2) (sub2 p11 q11 w3) (sub2 p20 q20 w5) r6 s6⟩
  · have hh := layv_inj _ _ (by rfl) hw
    rw [show piecesv 8 c f3 f7 rd rs1 rs2 v = [(c, 7), (rd, 5), (f3, 3), (rs1, 5), (rs2, 5), (f7, 7)] from rfl, show piecesv 8 c f3 f7 rd' rs1' rs2' v' = [(c, 7), (rd', 5), (f3, 3), (rs1', 5), (rs2', 5), (f7, 7)] from rfl] at hh
    simp only [List.map_cons, List.map_nil, List.cons.injEq, Nat.reducePow, and_true, true_and] at hh
    have r3 := (reg_f rd).1 h3; have r4 := (reg_f rs1).1 h4; have r5 := (reg_f rs2).1 h5; have r6 := (imm8 v).1 h6
    have s3 := (reg_f rd').1 g3; have s4 := (reg_f rs1').1 g4; have s5 := (reg_f rs2').1 g5; have s6 := (imm8 v').1 g6
    clear hw h3 h4 h5 h6 g3 g4 g5 g6
    clear p1 p11 p20 q1 q11 q20
    refine ⟨by omega, by omega, by omega, by omega⟩
end Go.Proofs.YtfaacmcnefbgcaaGreatDoor

/- Contracts of word.Sign and word.Fits. -/
namespace Go.Proofs.YtfaacmcnefbgcaaGreatDoor
open Go.ChangeShapes Go.WideShapes Go.ChangeAt Go.RowKit
set_option linter.unusedVariables false

/-- What Sign answers, for n from 1 to 64. -/
def signv (v n : Nat) : Nat := srax (v * 2 ^ (64 - n) % 18446744073709551616) (64 - n)
theorem signv_lt (v n : Nat) : signv v n < 18446744073709551616 := srax_lt _ _ (Nat.mod_lt _ (by omega))
theorem signv_eq (v n : Nat) : IntKind.u64.wrap (wrap64 (IntKind.u64.wrap ((v : Int) * 2 ^ (64 - n))) / 2 ^ (64 - n)) = ((signv v n : Nat) : Int) := by
  rw [IntKind.wrap_u64 ((v : Int) * 2 ^ (64 - n)), ← cast_mul_pow]
  exact srax_eq _ _ (Nat.mod_lt _ (by omega))
theorem ret_u64i64 {a b c : Int} (h : a = b) : Ending.returned (.tuple #[.int .u64 a, .int .i64 c]) = .returned (.tuple #[.int .u64 b, .int .i64 c]) := by rw [h]

theorem sign_bad (v : Nat) (n : Int) (h : n < 1 ∨ 64 < n) (w : World) :
    Calls Tryz.prog 159 #[.int .u64 v, .int .i64 n] w fun e w' => e = .returned (.tuple #[.int .u64 0, .int .i64 2]) ∧ w = w' := by
  by_cases h1 : n < 1
  · clear h
    go_enter Tryz.func159, Tryz.ntmps159
    go_wp2
    go_ret2
    exact ⟨rfl, rfl⟩
  · have h2 : 64 < n := by omega
    clear h
    go_enter Tryz.func159, Tryz.ntmps159
    go_wp2
    go_ret2
    exact ⟨rfl, rfl⟩
theorem sign_any (v n : Nat) (hv : v < 18446744073709551616) (h1 : 1 ≤ n) (h2 : n ≤ 64) (w : World) :
    Calls Tryz.prog 159 #[.int .u64 v, .int .i64 n] w fun e w' => e = .returned (.tuple #[.int .u64 (signv v n : Nat), .int .i64 0]) ∧ w = w' := by
  have h3 : ¬ ((n : Int) < 1) := by omega
  have h4 : ¬ (64 < (n : Int)) := by omega
  go_enter Tryz.func159, Tryz.ntmps159
  go_wp2
  go_ret2
  exact ⟨ret_u64i64 (by exact signv_eq v n), rfl⟩
theorem wrap64_back (u : Nat) (hu : u < 18446744073709551616) : IntKind.u64.wrap (wrap64 (u : Int)) = (u : Int) := by
  rw [IntKind.wrap_u64]; unfold wrap64; omega
theorem wrap64_inj (x u : Nat) (hx : x < 18446744073709551616) (hu : u < 18446744073709551616) : (wrap64 (x : Int) == wrap64 (u : Int)) = decide (x = u) := by
  rw [wrap64_nat x hx, wrap64_nat u hu, Bool.eq_iff_iff]
  simp only [beq_iff_eq, decide_eq_true_eq]
  split <;> split <;> omega
theorem fits_bad (u : Nat) (hu : u < 18446744073709551616) (n : Int) (h : n < 1 ∨ 64 < n) (w : World) :
    Calls Tryz.prog 142 #[.int .i64 (wrap64 (u : Int)), .int .i64 n] w fun e w' => e = .returned (.bool false) ∧ w = w' := by
  have hb := wrap64_back u hu
  go_enter Tryz.func142, Tryz.ntmps142
  go_wp2_with (go_at_call 159; refine (sign_bad u n h _).mono ?_; rintro e w' ⟨rfl, rfl⟩)
  go_ret
  exact ⟨rfl, rfl⟩
theorem fits_any (u n : Nat) (hu : u < 18446744073709551616) (h1 : 1 ≤ n) (h2 : n ≤ 64) (w : World) :
    Calls Tryz.prog 142 #[.int .i64 (wrap64 (u : Int)), .int .i64 n] w fun e w' => e = .returned (.bool (decide (signv u n = u))) ∧ w = w' := by
  have hb := wrap64_back u hu
  have hi := wrap64_inj (signv u n) u (signv_lt u n) hu
  go_enter Tryz.func142, Tryz.ntmps142
  go_wp2_with (go_at_call 159; refine (sign_any u n hu h1 h2 _).mono ?_; rintro e w' ⟨rfl, rfl⟩)
  go_ret
  exact ⟨rfl, rfl⟩
end Go.Proofs.YtfaacmcnefbgcaaGreatDoor

/- Plain lemmas on words with their sign. -/
namespace Go.Proofs.YtfaacmcnefbgcaaGreatDoor
open Go.RowKit
set_option linter.unusedVariables false
theorem pow_split' (n : Nat) (h : n ≤ 64) : 2 ^ n * 2 ^ (64 - n) = 18446744073709551616 := by
  rw [← Nat.pow_add, show n + (64 - n) = 64 by omega]
/-- The word with its sign, in plain numbers. -/
theorem signv_val (v n : Nat) (h1 : 1 ≤ n) (h2 : n ≤ 64) : signv v n = if v % 2 ^ n < 2 ^ (n - 1) then v % 2 ^ n else 18446744073709551616 - (2 ^ n - v % 2 ^ n) := by
  have hp := pow_split' n h2
  have hh : 2 ^ (n - 1) * 2 ^ (64 - n) = 9223372036854775808 := by
    rw [← Nat.pow_add, show n - 1 + (64 - n) = 63 by omega]
  unfold signv srax
  have hq : 0 < 2 ^ (64 - n) := Nat.pow_pos (by omega)
  have hlow : v * 2 ^ (64 - n) % 18446744073709551616 = v % 2 ^ n * 2 ^ (64 - n) := by
    rw [← hp, Nat.mul_mod_mul_right]
  have hlt : v % 2 ^ n < 2 ^ n := Nat.mod_lt _ (Nat.pow_pos (by omega))
  rw [hlow]
  generalize v % 2 ^ n = l at *
  generalize 2 ^ (64 - n) = q at *
  generalize 2 ^ (n - 1) = h at *
  generalize 2 ^ n = p at *
  by_cases c : l < h
  · rw [if_pos c, if_pos (by rw [← hh]; exact Nat.mul_lt_mul_of_pos_right c hq), Nat.mul_div_cancel _ hq]
  · rw [if_neg c, if_neg (by rw [← hh]; exact Nat.not_lt.mpr (Nat.mul_le_mul_right _ (Nat.not_lt.mp c)))]
    have hd : (18446744073709551615 - l * q) / q = p - l - 1 := by
      have e : 18446744073709551615 - l * q = (q - 1) + q * (p - l - 1) := by
        have a1 : q * (p - l - 1) = q * p - q * l - q := by rw [Nat.mul_sub, Nat.mul_sub, Nat.mul_one]
        have a2 : q * p = 18446744073709551616 := by rw [Nat.mul_comm]; exact hp
        have a3 : l * q + q ≤ p * q := by rw [← Nat.succ_mul]; exact Nat.mul_le_mul_right _ hlt
        rw [a1, a2, Nat.mul_comm q l]
        omega
      rw [e, Nat.add_mul_div_left _ _ hq, Nat.div_eq_of_lt (by omega), Nat.zero_add]
    rw [hd]
    omega
/-- Bit j of the word with its sign is the bit of v at the lesser of j and n - 1. -/
theorem signv_bit (v n j : Nat) (h1 : 1 ≤ n) (h2 : n ≤ 64) (hj : j < 64) : signv v n / 2 ^ j % 2 = v / 2 ^ (min j (n - 1)) % 2 := by
  rw [signv_val v n h1 h2]
  have hp2 : 2 ^ n = 2 * 2 ^ (n - 1) := by rw [Nat.mul_comm, ← Nat.pow_succ]; congr 1; omega
  have hl := Nat.mod_lt v (Nat.pow_pos (n := n) (show 0 < 2 by omega))
  by_cases hjn : j ≤ n - 1
  · rw [Nat.min_eq_left hjn]
    have ev : v / 2 ^ j % 2 = v % 2 ^ n / 2 ^ j % 2 := by
      have t := Nat.testBit_mod_two_pow v n j
      rw [Nat.testBit_eq_decide_div_mod_eq, Nat.testBit_eq_decide_div_mod_eq, decide_eq_true (show j < n by omega), Bool.true_and, decide_eq_decide] at t
      omega
    rw [ev]
    split
    · rfl
    · have e : 18446744073709551616 - (2 ^ n - v % 2 ^ n) = v % 2 ^ n + 2 ^ j * (2 * (2 ^ (n - 1 - j) * (2 ^ (64 - n) - 1))) := by
        have hp := pow_split' n h2
        have e2 : 2 ^ j * (2 * (2 ^ (n - 1 - j) * (2 ^ (64 - n) - 1))) = 2 ^ n * 2 ^ (64 - n) - 2 ^ n := by
          have e3 : 2 ^ n = 2 ^ j * (2 * 2 ^ (n - 1 - j)) := by
            rw [Nat.mul_left_comm, ← Nat.pow_add, show j + (n - 1 - j) = n - 1 by omega]; exact hp2
          rw [show 2 ^ n * 2 ^ (64 - n) - 2 ^ n = 2 ^ n * (2 ^ (64 - n) - 1) by rw [Nat.mul_sub, Nat.mul_one], e3, Nat.mul_assoc, Nat.mul_assoc]
        rw [e2, hp]
        have : 2 ^ n ≤ 18446744073709551616 := by rw [← hp]; exact Nat.le_mul_of_pos_right _ (Nat.pow_pos (by omega))
        omega
      rw [e, Nat.add_mul_div_left _ _ (Nat.pow_pos (by omega)), Nat.add_mul_mod_self_left]
  · rw [Nat.min_eq_right (by omega)]
    have hle : 2 ^ (n - 1) ≤ 2 ^ j := Nat.pow_le_pow_right (by omega) (by omega)
    have hpos : 0 < 2 ^ (n - 1) := Nat.pow_pos (by omega)
    have ev : v / 2 ^ (n - 1) % 2 = v % 2 ^ n / 2 ^ (n - 1) := by
      rw [hp2, Nat.mul_comm 2, Nat.mod_mul_right_div_self]
    rw [ev]
    split
    · rename_i c
      rw [Nat.div_eq_of_lt c, Nat.div_eq_of_lt (by omega)]
    · rename_i c
      have e1 : v % 2 ^ n / 2 ^ (n - 1) = 1 := by
        have e4 : v % 2 ^ n = (v % 2 ^ n - 2 ^ (n - 1)) + 2 ^ (n - 1) * 1 := by omega
        rw [e4, Nat.add_mul_div_left _ _ hpos, Nat.div_eq_of_lt (by omega)]
      rw [e1]
      have hpj : 2 ^ j * 2 ^ (64 - j) = 18446744073709551616 := pow_split' j (by omega)
      have hx1 : 0 < 2 ^ n - v % 2 ^ n := by omega
      have hx2 : 2 ^ n - v % 2 ^ n ≤ 2 ^ j := by omega
      generalize 2 ^ n - v % 2 ^ n = x at *
      have e5 : 18446744073709551616 - x = (2 ^ j - x) + 2 ^ j * (2 ^ (64 - j) - 1) := by
        rw [Nat.mul_sub, Nat.mul_one, hpj]
        have : 2 ^ j ≤ 18446744073709551616 := by rw [← hpj]; exact Nat.le_mul_of_pos_right _ (Nat.pow_pos (by omega))
        omega
      rw [e5, Nat.add_mul_div_left _ _ (Nat.pow_pos (by omega)), Nat.div_eq_of_lt (by omega), Nat.zero_add]
      have e6 : 2 ^ (64 - j) = 2 * 2 ^ (63 - j) := by rw [Nat.mul_comm, ← Nat.pow_succ]; congr 1; omega
      rw [e6]
      have : 0 < 2 ^ (63 - j) := Nat.pow_pos (by omega)
      omega
end Go.Proofs.YtfaacmcnefbgcaaGreatDoor

/- Contracts of the small functions of package insn. -/
namespace Go.Proofs.YtfaacmcnefbgcaaGreatDoor
open Go.ChangeShapes Go.WideShapes Go.ChangeAt Go.RowKit
set_option linter.unusedVariables false
theorem whole_any (v n : Int) (hv0 : 0 ≤ v) (hv : v < 256) (h0 : 0 ≤ n) (hn : n ≤ 64) (w : World) :
    Calls Tryz.prog 131 #[.int .u8 v, .int .i64 n] w fun e w' => e = .returned (.agg #[.int .u32 v, .int .i64 n]) ∧ w' = w.alloc (.cells #[.int .u32 v, .int .i64 n] 192) := by
  go_enter Tryz.func131, Tryz.ntmps131
  go_wp2
  exact bodyPost_ret (v := .agg #[.int .u32 v, .int .i64 n]) (by simp [results, Tryz.results131, go_sem]) rfl ⟨rfl, rfl⟩
theorem cut_any (v a n : Int) (h0 : -9223372036854775808 ≤ v) (h1 : v < 9223372036854775808) (ha0 : 0 ≤ a) (ha : a ≤ 63) (hn0 : 0 ≤ n) (hn : n ≤ 64) (w : World) :
    Calls Tryz.prog 133 #[.int .i64 v, .int .i64 a, .int .i64 n] w fun e w' => e = .returned (.agg #[.int .u32 (cutN v a.toNat : Nat), .int .i64 n]) ∧ w' = w.alloc (.cells #[.int .u32 (cutN v a.toNat : Nat), .int .i64 n] 192) := by
  go_enter Tryz.func133, Tryz.ntmps133
  go_wp2
  exact bodyPost_ret (v := .agg #[.int .u32 (cutN v a.toNat : Nat), .int .i64 n]) (by simp [results, Tryz.results133, go_sem, cutN_eq]) rfl ⟨rfl, by rw [cutN_eq]⟩
theorem imm_any (g : Nat) (v a n : Int) (h0 : -9223372036854775808 ≤ v) (h1 : v < 9223372036854775808) (ha0 : 0 ≤ a) (ha : a ≤ 63) (hn0 : 0 ≤ n) (hn : n ≤ 64) (w : World) (hc : w.cell? ⟨g, 4, none⟩ = some (.int .i64 v)) :
    Calls Tryz.prog 132 #[.int .i64 a, .int .i64 n, .pointer (some ⟨g, 0, none⟩)] w fun e w' => e = .returned (.agg #[.int .u32 (cutN v a.toNat : Nat), .int .i64 n]) ∧ w' = (w.alloc (.cells #[.int .u32 (cutN v a.toNat : Nat), .int .i64 n] 192)).alloc (.cells #[.int .u32 (cutN v a.toNat : Nat), .int .i64 n] 192) := by
  have hg : g < w.heap.size := World.block_lt_of_cell? w ⟨g, 4, none⟩ hc
  go_enter Tryz.func132, Tryz.ntmps132
  go_wp2_with (go_at_call 133; (with_reducible refine (cut_any v a n h0 h1 ha0 ha hn0 hn _).mono ?_); rintro e w' ⟨rfl, rfl⟩)
  exact bodyPost_ret (v := .agg #[.int .u32 (cutN v a.toNat : Nat), .int .i64 n]) (by simp [results, Tryz.results132, go_sem]) rfl ⟨rfl, rfl⟩
end Go.Proofs.YtfaacmcnefbgcaaGreatDoor
