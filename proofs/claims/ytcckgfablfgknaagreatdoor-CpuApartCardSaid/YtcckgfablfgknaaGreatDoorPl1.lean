/- Plain mathematics on words of 64 bits (layer 1): what each instruction of two registers makes, as numbers. No conditions. -/
import Derived.Test.YtcckgfablfgknaaGreatDoorRows
import Derived.WalkKit
import Derived.Lib.Mul64
namespace Go.Proofs.YtcckgfablfgknaaGreatDoor
open Go.RowKit
set_option linter.unusedVariables false

def tru (b : Bool) : Nat := if b then 1 else 0
theorem tru_le (b : Bool) : tru b ≤ 1 := by cases b <;> decide
def sltv (a b : Nat) : Nat := tru (decide (wrap64 (a : Int) < wrap64 (b : Int)))
def sltuv (a b : Nat) : Nat := tru (decide (a < b))
def srax (a k : Nat) : Nat := if a < 9223372036854775808 then a / 2 ^ k else 18446744073709551615 - (18446744073709551615 - a) / 2 ^ k
def srav (a b : Nat) : Nat := srax a (b % 64)
theorem sltv_le (a b : Nat) : sltv a b ≤ 1 := tru_le _
theorem sltuv_le (a b : Nat) : sltuv a b ≤ 1 := tru_le _
def sel (fn : Nat) (x1 x2 x3 x4 x5 x6 x7 x8 x9 x10 x11 x12 x13 x14 : Nat) : Nat :=
  match fn with
  | 1 => x1
  | 2 => x2
  | 3 => x3
  | 4 => x4
  | 5 => x5
  | 6 => x6
  | 7 => x7
  | 8 => x8
  | 9 => x9
  | 10 => x10
  | 11 => x11
  | 12 => x12
  | 13 => x13
  | 14 => x14
  | _ => 0
theorem sel_1 (x1 x2 x3 x4 x5 x6 x7 x8 x9 x10 x11 x12 x13 x14 : Nat) : sel 1 x1 x2 x3 x4 x5 x6 x7 x8 x9 x10 x11 x12 x13 x14 = x1 := rfl
theorem sel_2 (x1 x2 x3 x4 x5 x6 x7 x8 x9 x10 x11 x12 x13 x14 : Nat) : sel 2 x1 x2 x3 x4 x5 x6 x7 x8 x9 x10 x11 x12 x13 x14 = x2 := rfl
theorem sel_3 (x1 x2 x3 x4 x5 x6 x7 x8 x9 x10 x11 x12 x13 x14 : Nat) : sel 3 x1 x2 x3 x4 x5 x6 x7 x8 x9 x10 x11 x12 x13 x14 = x3 := rfl
theorem sel_4 (x1 x2 x3 x4 x5 x6 x7 x8 x9 x10 x11 x12 x13 x14 : Nat) : sel 4 x1 x2 x3 x4 x5 x6 x7 x8 x9 x10 x11 x12 x13 x14 = x4 := rfl
theorem sel_5 (x1 x2 x3 x4 x5 x6 x7 x8 x9 x10 x11 x12 x13 x14 : Nat) : sel 5 x1 x2 x3 x4 x5 x6 x7 x8 x9 x10 x11 x12 x13 x14 = x5 := rfl
theorem sel_6 (x1 x2 x3 x4 x5 x6 x7 x8 x9 x10 x11 x12 x13 x14 : Nat) : sel 6 x1 x2 x3 x4 x5 x6 x7 x8 x9 x10 x11 x12 x13 x14 = x6 := rfl
theorem sel_7 (x1 x2 x3 x4 x5 x6 x7 x8 x9 x10 x11 x12 x13 x14 : Nat) : sel 7 x1 x2 x3 x4 x5 x6 x7 x8 x9 x10 x11 x12 x13 x14 = x7 := rfl
theorem sel_8 (x1 x2 x3 x4 x5 x6 x7 x8 x9 x10 x11 x12 x13 x14 : Nat) : sel 8 x1 x2 x3 x4 x5 x6 x7 x8 x9 x10 x11 x12 x13 x14 = x8 := rfl
theorem sel_9 (x1 x2 x3 x4 x5 x6 x7 x8 x9 x10 x11 x12 x13 x14 : Nat) : sel 9 x1 x2 x3 x4 x5 x6 x7 x8 x9 x10 x11 x12 x13 x14 = x9 := rfl
theorem sel_10 (x1 x2 x3 x4 x5 x6 x7 x8 x9 x10 x11 x12 x13 x14 : Nat) : sel 10 x1 x2 x3 x4 x5 x6 x7 x8 x9 x10 x11 x12 x13 x14 = x10 := rfl
theorem sel_11 (x1 x2 x3 x4 x5 x6 x7 x8 x9 x10 x11 x12 x13 x14 : Nat) : sel 11 x1 x2 x3 x4 x5 x6 x7 x8 x9 x10 x11 x12 x13 x14 = x11 := rfl
theorem sel_12 (x1 x2 x3 x4 x5 x6 x7 x8 x9 x10 x11 x12 x13 x14 : Nat) : sel 12 x1 x2 x3 x4 x5 x6 x7 x8 x9 x10 x11 x12 x13 x14 = x12 := rfl
theorem sel_13 (x1 x2 x3 x4 x5 x6 x7 x8 x9 x10 x11 x12 x13 x14 : Nat) : sel 13 x1 x2 x3 x4 x5 x6 x7 x8 x9 x10 x11 x12 x13 x14 = x13 := rfl
theorem sel_14 (x1 x2 x3 x4 x5 x6 x7 x8 x9 x10 x11 x12 x13 x14 : Nat) : sel 14 x1 x2 x3 x4 x5 x6 x7 x8 x9 x10 x11 x12 x13 x14 = x14 := rfl
theorem sel_none (fn : Nat) (x1 x2 x3 x4 x5 x6 x7 x8 x9 x10 x11 x12 x13 x14 : Nat) (h : ¬ (1 ≤ fn ∧ fn ≤ 14)) : sel fn x1 x2 x3 x4 x5 x6 x7 x8 x9 x10 x11 x12 x13 x14 = 0 := by
  unfold sel; split <;> first | rfl | omega
theorem sel_lt (fn : Nat) (x1 x2 x3 x4 x5 x6 x7 x8 x9 x10 x11 x12 x13 x14 : Nat) (m : Nat) (hm : 0 < m) (h1 : x1 < m) (h2 : x2 < m) (h3 : x3 < m) (h4 : x4 < m) (h5 : x5 < m) (h6 : x6 < m) (h7 : x7 < m) (h8 : x8 < m) (h9 : x9 < m) (h10 : x10 < m) (h11 : x11 < m) (h12 : x12 < m) (h13 : x13 < m) (h14 : x14 < m) : sel fn x1 x2 x3 x4 x5 x6 x7 x8 x9 x10 x11 x12 x13 x14 < m := by
  unfold sel; split <;> assumption
/-- What instruction fn makes of a and b. -/
def opv (fn a b : Nat) : Nat := sel fn ((a + b) % 18446744073709551616) ((a + (18446744073709551616 - b)) % 18446744073709551616) (a * 2 ^ (b % 64) % 18446744073709551616) (sltv a b) (sltuv a b) (a ^^^ b) (a / 2 ^ (b % 64)) (srav a b) (a ||| b) (a &&& b) (a * b % 18446744073709551616) (a * b / 18446744073709551616) (if b = 0 then 18446744073709551615 else a / b) (if b = 0 then a else a % b)
theorem opv_1 (a b : Nat) : opv 1 a b = (a + b) % 18446744073709551616 := sel_1 _ _ _ _ _ _ _ _ _ _ _ _ _ _
theorem opv_2 (a b : Nat) : opv 2 a b = (a + (18446744073709551616 - b)) % 18446744073709551616 := sel_2 _ _ _ _ _ _ _ _ _ _ _ _ _ _
theorem opv_3 (a b : Nat) : opv 3 a b = a * 2 ^ (b % 64) % 18446744073709551616 := sel_3 _ _ _ _ _ _ _ _ _ _ _ _ _ _
theorem opv_4 (a b : Nat) : opv 4 a b = sltv a b := sel_4 _ _ _ _ _ _ _ _ _ _ _ _ _ _
theorem opv_5 (a b : Nat) : opv 5 a b = sltuv a b := sel_5 _ _ _ _ _ _ _ _ _ _ _ _ _ _
theorem opv_6 (a b : Nat) : opv 6 a b = a ^^^ b := sel_6 _ _ _ _ _ _ _ _ _ _ _ _ _ _
theorem opv_7 (a b : Nat) : opv 7 a b = a / 2 ^ (b % 64) := sel_7 _ _ _ _ _ _ _ _ _ _ _ _ _ _
theorem opv_8 (a b : Nat) : opv 8 a b = srav a b := sel_8 _ _ _ _ _ _ _ _ _ _ _ _ _ _
theorem opv_9 (a b : Nat) : opv 9 a b = a ||| b := sel_9 _ _ _ _ _ _ _ _ _ _ _ _ _ _
theorem opv_10 (a b : Nat) : opv 10 a b = a &&& b := sel_10 _ _ _ _ _ _ _ _ _ _ _ _ _ _
theorem opv_11 (a b : Nat) : opv 11 a b = a * b % 18446744073709551616 := sel_11 _ _ _ _ _ _ _ _ _ _ _ _ _ _
theorem opv_12 (a b : Nat) : opv 12 a b = a * b / 18446744073709551616 := sel_12 _ _ _ _ _ _ _ _ _ _ _ _ _ _
theorem opv_13 (a b : Nat) : opv 13 a b = if b = 0 then 18446744073709551615 else a / b := sel_13 _ _ _ _ _ _ _ _ _ _ _ _ _ _
theorem opv_14 (a b : Nat) : opv 14 a b = if b = 0 then a else a % b := sel_14 _ _ _ _ _ _ _ _ _ _ _ _ _ _
theorem opv_none (k a b : Nat) (h : ¬ (1 ≤ k ∧ k ≤ 14)) : opv k a b = 0 := sel_none k _ _ _ _ _ _ _ _ _ _ _ _ _ _ h
theorem opv_lt (fn a b : Nat) (ha : a < 18446744073709551616) (hb : b < 18446744073709551616) : opv fn a b < 18446744073709551616 := by
  unfold opv
  refine sel_lt fn _ _ _ _ _ _ _ _ _ _ _ _ _ _ _ (by omega) ?_ ?_ ?_ ?_ ?_ ?_ ?_ ?_ ?_ ?_ ?_ ?_ ?_ ?_
  · exact Nat.mod_lt _ (by omega)
  · exact Nat.mod_lt _ (by omega)
  · exact Nat.mod_lt _ (by omega)
  · exact Nat.lt_of_le_of_lt (sltv_le _ _) (by omega)
  · exact Nat.lt_of_le_of_lt (sltuv_le _ _) (by omega)
  · exact Nat.xor_lt_two_pow (n := 64) ha hb
  · exact Nat.lt_of_le_of_lt (Nat.div_le_self _ _) ha
  · unfold srav srax
    split
    · exact Nat.lt_of_le_of_lt (Nat.div_le_self _ _) ha
    · exact Nat.lt_of_le_of_lt (Nat.sub_le _ _) (by omega)
  · exact Nat.or_lt_two_pow (n := 64) ha hb
  · exact Nat.lt_of_le_of_lt Nat.and_le_left ha
  · exact Nat.mod_lt _ (by omega)
  · refine Nat.div_lt_of_lt_mul ?_
    exact Nat.mul_lt_mul'' ha hb
  · split
    · omega
    · exact Nat.lt_of_le_of_lt (Nat.div_le_self _ _) ha
  · split
    · omega
    · exact Nat.lt_of_le_of_lt (Nat.mod_le _ _) ha

theorem ret_u64 {a b : Int} (h : a = b) : Ending.returned (.int .u64 a) = .returned (.int .u64 b) := by rw [h]
theorem ret_bool {a b : Bool} (h : a = b) : Ending.returned (.bool a) = .returned (.bool b) := by rw [h]

theorem cast_pow_div (a n : Nat) : ((a / 2 ^ n : Nat) : Int) = (a : Int) / 2 ^ n := by
  rw [Int.natCast_ediv, Int.natCast_pow]; rfl

theorem wrap64_nat (a : Nat) (ha : a < 18446744073709551616) : wrap64 (a : Int) = if a < 9223372036854775808 then (a : Int) else (a : Int) - 18446744073709551616 := by
  unfold wrap64; split <;> omega

theorem bits_and_nat (a b : Nat) (ha : a < 18446744073709551616) (hb : b < 18446744073709551616) : bits .and .u64 (a : Int) (b : Int) = ((a &&& b : Nat) : Int) := by
  have := u64_and (a : Int) (b : Int) (by omega) (by omega) (by omega) (by omega)
  simpa using this
theorem bits_or_nat (a b : Nat) (ha : a < 18446744073709551616) (hb : b < 18446744073709551616) : bits .or .u64 (a : Int) (b : Int) = ((a ||| b : Nat) : Int) := by
  have := u64_or (a : Int) (b : Int) (by omega) (by omega) (by omega) (by omega)
  simpa using this

theorem sra_high (a n : Nat) (h : 9223372036854775808 ≤ a) (ha : a < 18446744073709551616) :
    ((a : Int) - 18446744073709551616) / 2 ^ n = ((18446744073709551615 - (18446744073709551615 - a) / 2 ^ n : Nat) : Int) - 18446744073709551616 := by
  have e : (a : Int) - 18446744073709551616 = Int.negSucc (18446744073709551615 - a) := by rw [Int.negSucc_eq]; omega
  have hp : (0 : Int) < 2 ^ n := Int.pow_pos (by omega)
  have hd : (18446744073709551615 - a) / 2 ^ n ≤ 18446744073709551615 - a := Nat.div_le_self _ _
  rw [e, Int.negSucc_ediv _ hp]
  have c : Int.ediv ((18446744073709551615 - a : Nat) : Int) (2 ^ n) = (((18446744073709551615 - a) / 2 ^ n : Nat) : Int) := by rw [cast_pow_div]; rfl
  rw [c]
  omega
theorem cast_mul_pow (a n : Nat) : ((a * 2 ^ n % 18446744073709551616 : Nat) : Int) = (a : Int) * 2 ^ n % 18446744073709551616 := by
  rw [Int.natCast_emod, Int.natCast_mul, Int.natCast_pow]; rfl
theorem sll_eq (a b : Nat) : IntKind.u64.wrap ((a : Int) * 2 ^ (b % 64)) = ((opv 3 a b : Nat) : Int) := by
  rw [IntKind.wrap_u64, opv_3, cast_mul_pow]
theorem cast_mul (a b : Nat) : ((a * b % 18446744073709551616 : Nat) : Int) = (a : Int) * (b : Int) % 18446744073709551616 := by
  rw [Int.natCast_emod, Int.natCast_mul]; rfl
theorem cast_div32 (n : Nat) : (n : Int) / 4294967296 = ((n / 4294967296 : Nat) : Int) := by omega
theorem wrap_nat (n : Nat) (h : n < 18446744073709551616) : IntKind.u64.wrap (n : Int) = n := IntWalk.u64_in _ (by omega)
theorem and32 (a : Nat) (ha : a < 18446744073709551616) : bits .and .u64 (a : Int) 4294967295 = ((a % 4294967296 : Nat) : Int) := by
  have := bits_and_nat a 4294967295 ha (by omega)
  rw [show a &&& 4294967295 = a % 4294967296 from Nat.and_two_pow_sub_one_eq_mod a 32] at this
  exact this

/-- The school method on halves of 32 bits: no step wraps but where it must, and the higher half is the product's quotient. -/
theorem mulhi_eq (a b : Nat) (ha : a < 18446744073709551616) (hb : b < 18446744073709551616) :
    IntKind.u64.wrap (IntKind.u64.wrap (IntKind.u64.wrap ((a : Int) / 4294967296 * ((b : Int) / 4294967296)) +
      IntKind.u64.wrap (IntKind.u64.wrap ((a : Int) / 4294967296 * bits BinOp.and IntKind.u64 (b : Int) 4294967295) +
        IntKind.u64.wrap (bits BinOp.and IntKind.u64 (a : Int) 4294967295 * bits BinOp.and IntKind.u64 (b : Int) 4294967295) / 4294967296) / 4294967296) +
      IntKind.u64.wrap (bits BinOp.and IntKind.u64 (IntKind.u64.wrap (IntKind.u64.wrap ((a : Int) / 4294967296 * bits BinOp.and IntKind.u64 (b : Int) 4294967295) +
        IntKind.u64.wrap (bits BinOp.and IntKind.u64 (a : Int) 4294967295 * bits BinOp.and IntKind.u64 (b : Int) 4294967295) / 4294967296)) 4294967295 +
        IntKind.u64.wrap (bits BinOp.and IntKind.u64 (a : Int) 4294967295 * ((b : Int) / 4294967296))) / 4294967296) = ((opv 12 a b : Nat) : Int) := by
  obtain ⟨h1, h2, h3, h4⟩ := Lib.mul64_hi a b ha hb
  have hlt : opv 12 a b < 18446744073709551616 := opv_lt 12 a b ha hb
  rw [opv_12] at hlt ⊢
  rw [and32 a ha, and32 b hb, cast_div32 a, cast_div32 b]
  rw [← h4] at hlt ⊢
  simp only [← Int.natCast_mul]
  generalize a % 4294967296 * (b % 4294967296) = d at *
  generalize a / 4294967296 * (b % 4294967296) = c at *
  generalize a % 4294967296 * (b / 4294967296) = f at *
  generalize a / 4294967296 * (b / 4294967296) = g at *
  rw [wrap_nat d (by omega), wrap_nat c (by omega), wrap_nat f (by omega), wrap_nat g (by omega), cast_div32 d, ← Int.natCast_add c, wrap_nat _ h2, and32 _ h2,
    ← Int.natCast_add, wrap_nat _ h3, cast_div32, cast_div32, ← Int.natCast_add, wrap_nat _ (by omega), ← Int.natCast_add, wrap_nat _ (by omega)]
theorem add_eq (a b : Nat) : IntKind.u64.wrap ((a : Int) + (b : Int)) = ((opv 1 a b : Nat) : Int) := by
  rw [IntKind.wrap_u64, opv_1]; omega
theorem sub_eq (a b : Nat) (ha : a < 18446744073709551616) (hb : b < 18446744073709551616) : IntKind.u64.wrap ((a : Int) - (b : Int)) = ((opv 2 a b : Nat) : Int) := by
  rw [IntKind.wrap_u64, opv_2]; omega
theorem mul_eq (a b : Nat) : IntKind.u64.wrap ((a : Int) * (b : Int)) = ((opv 11 a b : Nat) : Int) := by
  rw [IntKind.wrap_u64, opv_11, cast_mul]
theorem srl_eq (a b : Nat) : (a : Int) / 2 ^ (b % 64) = ((opv 7 a b : Nat) : Int) := by
  rw [opv_7, cast_pow_div]
theorem srax_lt (a k : Nat) (ha : a < 18446744073709551616) : srax a k < 18446744073709551616 := by
  unfold srax
  split
  · exact Nat.lt_of_le_of_lt (Nat.div_le_self _ _) ha
  · exact Nat.lt_of_le_of_lt (Nat.sub_le _ _) (by omega)
theorem srax_eq (a k : Nat) (ha : a < 18446744073709551616) : IntKind.u64.wrap (wrap64 (a : Int) / 2 ^ k) = ((srax a k : Nat) : Int) := by
  rw [wrap64_nat a ha, IntKind.wrap_u64]
  unfold srax
  by_cases h : a < 9223372036854775808
  · rw [if_pos h, if_pos h, ← cast_pow_div]
    have := Nat.div_le_self a (2 ^ k)
    generalize a / 2 ^ k = q at *
    omega
  · rw [if_neg h, if_neg h, sra_high a _ (by omega) ha]
    have := Nat.div_le_self (18446744073709551615 - a) (2 ^ k)
    generalize (18446744073709551615 - a) / 2 ^ k = q at *
    omega
theorem sra_eq (a b : Nat) (ha : a < 18446744073709551616) : IntKind.u64.wrap (wrap64 (a : Int) / 2 ^ (b % 64)) = ((opv 8 a b : Nat) : Int) := by
  rw [opv_8]; exact srax_eq a _ ha
theorem quo_eq (a b : Nat) (ha : a < 18446744073709551616) (h : ¬ b = 0) : IntKind.u64.wrap ((a : Int) / (b : Int)) = ((opv 13 a b : Nat) : Int) := by
  rw [opv_13, if_neg h, ← Int.natCast_ediv]
  have := Nat.div_le_self a b
  exact wrap_nat _ (by omega)
theorem rem_eq (a b : Nat) (h : ¬ b = 0) : (a : Int) % (b : Int) = ((opv 14 a b : Nat) : Int) := by
  rw [opv_14, if_neg h, ← Int.natCast_emod]
theorem slt_eq (a b : Nat) : ((tru (decide (wrap64 (a : Int) < wrap64 (b : Int))) : Nat) : Int) = ((opv 4 a b : Nat) : Int) := by rw [opv_4]; unfold sltv; with_reducible rfl
theorem sltu_eq (a b : Nat) : ((tru (decide (a < b)) : Nat) : Int) = ((opv 5 a b : Nat) : Int) := by rw [opv_5]; unfold sltuv; with_reducible rfl
theorem sltu_eq' (a b : Nat) : ((tru (decide ((a : Int) < (b : Int))) : Nat) : Int) = ((opv 5 a b : Nat) : Int) := by
  rw [opv_5]; unfold sltuv; simp only [Int.ofNat_lt]
/-- Read as signed is as with the highest bit turned. -/
theorem wrap64_lt (a b : Nat) (ha : a < 18446744073709551616) (hb : b < 18446744073709551616) :
    (wrap64 (a : Int) < wrap64 (b : Int)) ↔ ((a + 9223372036854775808) % 18446744073709551616 < (b + 9223372036854775808) % 18446744073709551616) := by
  rw [wrap64_nat a ha, wrap64_nat b hb]
  split <;> split <;> omega
end Go.Proofs.YtcckgfablfgknaaGreatDoor
