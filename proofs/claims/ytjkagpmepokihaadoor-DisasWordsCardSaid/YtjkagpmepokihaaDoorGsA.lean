/- Contracts of the document's own answers of layer 3: field, signed. -/
import Derived.Test.YtjkagpmepokihaaDoorDeP
import Derived.Test.YtjkagpmepokihaaDoorRefS
import Derived.Test.YtjkagpmepokihaaDoorInC
import Derived.Lib.Hide
namespace Go.Proofs.YtjkagpmepokihaaDoor
open Go.ChangeShapes Go.WideShapes Go.ChangeAt Go.RowKit
set_option linter.unusedVariables false
theorem rfld_any (v a n : Nat) (hv : v < 4294967296) (ha : a < 32) (hn : n < 32) (w : World) :
    Calls Tryd.prog 34 #[.int .u32 v, .int .i64 a, .int .i64 n] w fun e w' => e = .returned (.int .u32 (v / 2 ^ a % 2 ^ n : Nat)) ∧ w = w' := by
  have hd : v / 2 ^ a < 4294967296 := Nat.lt_of_le_of_lt (Nat.div_le_self _ _) hv
  have hp : 0 < 2 ^ n := Nat.pow_pos (by omega)
  have hs : 2 ^ n < 4294967296 := by
    have : 2 ^ n ≤ 2 ^ 31 := Nat.pow_le_pow_right (by omega) (by omega)
    omega
  have hs' : ((2 : Int) ^ n) % 4294967296 = (2 : Int) ^ n := by
    have : ((2 ^ n : Nat) : Int) = (2 : Int) ^ n := by simp
    rw [← this]; omega
  have hne : (((2 : Int) ^ n) == 0) = false := by
    have : ((2 ^ n : Nat) : Int) = (2 : Int) ^ n := by simp
    rw [← this]; simp only [beq_eq_false_iff_ne]; omega
  have hc : ((v / 2 ^ a % 2 ^ n : Nat) : Int) = (v : Int) / 2 ^ a % 2 ^ n := by simp
  have hm : ((v : Int) / 2 ^ a).tmod (2 ^ n) = (v : Int) / 2 ^ a % 2 ^ n := by
    rw [← cast_pow_div]
    exact Int.tmod_eq_emod_of_nonneg (Int.natCast_nonneg _)
  go_enter Tryd.func34, Tryd.ntmps34
  go_wp2
  go_ret
  exact ⟨by rw [hc]; rfl, rfl⟩
/-- A number of so many bits, with its sign. -/
def sgI (m : Int) (n : Nat) : Int := wrap64 ((signv m.toNat n : Nat) : Int)
theorem sgI_val (m : Int) (n : Nat) (h1 : 1 ≤ n) (h2 : n ≤ 32) (h0 : 0 ≤ m) (hm : m < ((2 ^ n : Nat) : Int)) : sgI m n = if m < ((2 ^ (n - 1) : Nat) : Int) then m else m - ((2 ^ n : Nat) : Int) := by
  obtain ⟨k, rfl⟩ := Int.eq_ofNat_of_zero_le h0
  have hk : k < 2 ^ n := Int.ofNat_lt.1 hm
  have hp : 2 ^ n = 2 * 2 ^ (n - 1) := by rw [Nat.mul_comm, ← Nat.pow_succ]; congr 1; omega
  have h32 : 2 ^ n ≤ 4294967296 := pow_le32 h2
  unfold sgI
  rw [Int.toNat_natCast, signv_val k n h1 (by omega), Nat.mod_eq_of_lt hk]
  generalize 2 ^ (n - 1) = q at *
  generalize 2 ^ n = p at *
  unfold wrap64
  split <;> split <;> omega
theorem rsg_any (m : Int) (n : Nat) (h0 : 0 ≤ m) (hm : m < 4294967296) (h1 : 1 ≤ n) (h2 : n ≤ 64) (w : World) :
    Calls Tryd.prog 35 #[.int .u32 m, .int .i64 n] w fun e w' => e = .returned (.int .i64 (sgI m n)) ∧ w = w' := by
  obtain ⟨k, rfl⟩ := Int.eq_ofNat_of_zero_le h0
  have hs := rsign_any k n (by omega) h1 h2
  have e : sgI (k : Int) n = wrap64 ((signv k n : Nat) : Int) := by unfold sgI; rw [Int.toNat_natCast]
  rw [e]
  have hb := signv_lt k n
  generalize signv k n = q at *
  go_enter Tryd.func35, Tryd.ntmps35
  go_wp2_with (go_at_call 48; (with_reducible refine (hs _).mono ?_); rintro e w1 ⟨rfl, rfl⟩)
  go_ret
  exact ⟨rfl, rfl⟩
theorem rsg12 (m : Int) (h0 : 0 ≤ m) (hm : m < 4294967296) (w : World) :
    Calls Tryd.prog 35 #[.int .u32 m, .int .i64 12] w fun e w' => e = .returned (.int .i64 (sgI m 12)) ∧ w = w' := rsg_any m 12 h0 hm (by omega) (by omega) w
theorem sg12 (m : Int) (h0 : 0 ≤ m) (hm : m < 4096) : sgI m 12 = if m < 2048 then m else m - 4096 := sgI_val m 12 (by omega) (by omega) h0 hm
theorem rsg13 (m : Int) (h0 : 0 ≤ m) (hm : m < 4294967296) (w : World) :
    Calls Tryd.prog 35 #[.int .u32 m, .int .i64 13] w fun e w' => e = .returned (.int .i64 (sgI m 13)) ∧ w = w' := rsg_any m 13 h0 hm (by omega) (by omega) w
theorem sg13 (m : Int) (h0 : 0 ≤ m) (hm : m < 8192) : sgI m 13 = if m < 4096 then m else m - 8192 := sgI_val m 13 (by omega) (by omega) h0 hm
theorem rsg21 (m : Int) (h0 : 0 ≤ m) (hm : m < 4294967296) (w : World) :
    Calls Tryd.prog 35 #[.int .u32 m, .int .i64 21] w fun e w' => e = .returned (.int .i64 (sgI m 21)) ∧ w = w' := rsg_any m 21 h0 hm (by omega) (by omega) w
theorem sg21 (m : Int) (h0 : 0 ≤ m) (hm : m < 2097152) : sgI m 21 = if m < 1048576 then m else m - 2097152 := sgI_val m 21 (by omega) (by omega) h0 hm
theorem rsg32 (m : Int) (h0 : 0 ≤ m) (hm : m < 4294967296) (w : World) :
    Calls Tryd.prog 35 #[.int .u32 m, .int .i64 32] w fun e w' => e = .returned (.int .i64 (sgI m 32)) ∧ w = w' := rsg_any m 32 h0 hm (by omega) (by omega) w
theorem sg32 (m : Int) (h0 : 0 ≤ m) (hm : m < 4294967296) : sgI m 32 = if m < 2147483648 then m else m - 4294967296 := sgI_val m 32 (by omega) (by omega) h0 hm
end Go.Proofs.YtjkagpmepokihaaDoor
