/- Contracts of the small functions of package disas: bits, formOf. -/
import Derived.Test.YtfaacmcnefbgcaaGreatDoorJd
import Derived.Test.YtfaacmcnefbgcaaGreatDoorJc
import Derived.Deep.QuietTactic
import Derived.BigQuiet
import Derived.Lib.Hide
import Derived.Test.YtfaacmcnefbgcaaGreatDoorQp
import Derived.ProofKit
import Derived.OpenShut
import Derived.LaidMore
import Derived.LaidLaws
import Derived.Stop.Joined
namespace Go.Proofs.YtfaacmcnefbgcaaGreatDoor
open Go.ChangeShapes Go.WideShapes Go.ChangeAt Go.RowKit
set_option linter.unusedVariables false
theorem mask_and (v n : Nat) (hv : v < 4294967296) (hn : n < 32) : bits .and .u32 (v : Int) ((2 ^ n - 1) % 4294967296) = ((v % 2 ^ n : Nat) : Int) := by
  have hs := pow_le32 (n := n) (by omega)
  have hp : 0 < 2 ^ n := Nat.pow_pos (by omega)
  have e1 : (((2 : Int) ^ n - 1) % 4294967296) = ((2 ^ n - 1 : Nat) : Int) := by
    have : ((2 ^ n : Nat) : Int) = (2 : Int) ^ n := by simp
    rw [← this]; omega
  rw [e1, u32_and_nat _ _ hv (by omega), Nat.and_two_pow_sub_one_eq_mod]
set_option maxHeartbeats 1000000 in
theorem dbits_any (v a n : Nat) (hv : v < 4294967296) (ha : a < 32) (hn : n < 32) (w : World) :
    Calls Tryz.prog 128 #[.int .u32 v, .int .i64 a, .int .i64 n] w fun e w' => e = .returned (.int .u32 (v / 2 ^ a % 2 ^ n : Nat)) ∧ ∃ k, w' = w.drewN k := by
  have hd : v / 2 ^ a < 4294967296 := Nat.lt_of_le_of_lt (Nat.div_le_self _ _) hv
  have hm := mask_and (v / 2 ^ a) n hd hn
  have hc : ((v / 2 ^ a : Nat) : Int) = (v : Int) / 2 ^ a := by simp
  rw [hc] at hm
  have HM := Lib.hid hm
  clear hm hc
  go_enter Tryz.func128, Tryz.ntmps128
  go_wp2
  go_quiet (fail)
  go_wp2
  go_ret
  exact ⟨by rw [← HM.out]; rfl, _, rfl⟩
theorem below_drewN' (w : World) (k : Nat) : Below w.heap.size w (w.drewN k) := bdN (Below.refl _ _) k
theorem dbits_b (v a n : Nat) (hv : v < 4294967296) (ha : a < 32) (hn : n < 32) (w : World) :
    Calls Tryz.prog 128 #[.int .u32 v, .int .i64 a, .int .i64 n] w fun e w' => e = .returned (.int .u32 (v / 2 ^ a % 2 ^ n : Nat)) ∧ Below w.heap.size w w' :=
  (dbits_any v a n hv ha hn w).mono fun _ _ ⟨h, k, hk⟩ => ⟨h, by rw [hk]; exact below_drewN' w k⟩
theorem formOf_any (v : Nat) (hv : v < 4294967296) (w : World) :
    Calls Tryz.prog 116 #[.int .u32 v] w fun e w' => e = .returned (.int .u8 (formW v : Nat)) ∧ Below w.heap.size w w' := by
  have b1 : ∀ w, Calls Tryz.prog 128 #[.int .u32 v, .int .i64 0, .int .i64 7] w fun e w' => e = .returned (.int .u32 (v % 128 : Nat)) ∧ Below w.heap.size w w' := fun w => by
    have h := dbits_b v 0 7 hv (by omega) (by omega) w
    rw [show v / 2 ^ 0 % 2 ^ 7 = v % 128 by simp] at h; exact h
  have b2 : ∀ w, Calls Tryz.prog 128 #[.int .u32 v, .int .i64 12, .int .i64 2] w fun e w' => e = .returned (.int .u32 (v / 4096 % 4 : Nat)) ∧ Below w.heap.size w w' := fun w => by
    have h := dbits_b v 12 2 hv (by omega) (by omega) w
    rw [show v / 2 ^ 12 % 2 ^ 2 = v / 4096 % 4 by simp] at h; exact h
  have hc : v % 128 < 128 := by omega
  have hq : v / 4096 % 4 < 4 := by omega
  unfold formW
  generalize v % 128 = c at *
  generalize v / 4096 % 4 = q at *
  have b12 : ∀ {w' : World}, Below w.heap.size w w' → ∀ {w'' : World}, Below w'.heap.size w' w'' → Below w.heap.size w w'' := fun h _ k => below_trans' h (Nat.le_refl _) k
  by_cases h51 : c = 51
  · subst h51
    go_enter Tryz.func116, Tryz.ntmps116
    go_wp2_with (go_at_call 128; first | ((with_reducible refine (b1 _).mono ?_); rintro e w1 ⟨rfl, hb1⟩) | ((with_reducible refine (b2 _).mono ?_); rintro e w2 ⟨rfl, hb2⟩))
    go_ret
    exact ⟨rfl, hb1⟩
  by_cases h19 : c = 19
  · subst h19
    by_cases hq1 : q = 1
    · subst hq1
      go_enter Tryz.func116, Tryz.ntmps116
      go_wp2_with (go_at_call 128; first | ((with_reducible refine (b1 _).mono ?_); rintro e w1 ⟨rfl, hb1⟩) | ((with_reducible refine (b2 _).mono ?_); rintro e w2 ⟨rfl, hb2⟩))
      go_ret
      exact ⟨rfl, b12 hb1 hb2⟩
    · have hq2 : ((q : Int) == 1) = false := by simp only [beq_eq_false_iff_ne]; omega
      have hf : formCF 19 q = 2 := by unfold formCF; simp [hq1]
      rw [hf]
      go_enter Tryz.func116, Tryz.ntmps116
      go_wp2_with (go_at_call 128; first | ((with_reducible refine (b1 _).mono ?_); rintro e w1 ⟨rfl, hb1⟩) | ((with_reducible refine (b2 _).mono ?_); rintro e w2 ⟨rfl, hb2⟩))
      go_ret
      exact ⟨rfl, b12 hb1 hb2⟩
  by_cases h3 : c = 3
  · subst h3
    go_enter Tryz.func116, Tryz.ntmps116
    go_wp2_with (go_at_call 128; first | ((with_reducible refine (b1 _).mono ?_); rintro e w1 ⟨rfl, hb1⟩) | ((with_reducible refine (b2 _).mono ?_); rintro e w2 ⟨rfl, hb2⟩))
    go_ret
    exact ⟨rfl, hb1⟩
  by_cases h103 : c = 103
  · subst h103
    go_enter Tryz.func116, Tryz.ntmps116
    go_wp2_with (go_at_call 128; first | ((with_reducible refine (b1 _).mono ?_); rintro e w1 ⟨rfl, hb1⟩) | ((with_reducible refine (b2 _).mono ?_); rintro e w2 ⟨rfl, hb2⟩))
    go_ret
    exact ⟨rfl, hb1⟩
  by_cases h55 : c = 55
  · subst h55
    go_enter Tryz.func116, Tryz.ntmps116
    go_wp2_with (go_at_call 128; first | ((with_reducible refine (b1 _).mono ?_); rintro e w1 ⟨rfl, hb1⟩) | ((with_reducible refine (b2 _).mono ?_); rintro e w2 ⟨rfl, hb2⟩))
    go_ret
    exact ⟨rfl, hb1⟩
  by_cases h35 : c = 35
  · subst h35
    go_enter Tryz.func116, Tryz.ntmps116
    go_wp2_with (go_at_call 128; first | ((with_reducible refine (b1 _).mono ?_); rintro e w1 ⟨rfl, hb1⟩) | ((with_reducible refine (b2 _).mono ?_); rintro e w2 ⟨rfl, hb2⟩))
    go_ret
    exact ⟨rfl, hb1⟩
  by_cases h99 : c = 99
  · subst h99
    go_enter Tryz.func116, Tryz.ntmps116
    go_wp2_with (go_at_call 128; first | ((with_reducible refine (b1 _).mono ?_); rintro e w1 ⟨rfl, hb1⟩) | ((with_reducible refine (b2 _).mono ?_); rintro e w2 ⟨rfl, hb2⟩))
    go_ret
    exact ⟨rfl, hb1⟩
  by_cases h111 : c = 111
  · subst h111
    go_enter Tryz.func116, Tryz.ntmps116
    go_wp2_with (go_at_call 128; first | ((with_reducible refine (b1 _).mono ?_); rintro e w1 ⟨rfl, hb1⟩) | ((with_reducible refine (b2 _).mono ?_); rintro e w2 ⟨rfl, hb2⟩))
    go_ret
    exact ⟨rfl, hb1⟩
  by_cases h115 : c = 115
  · subst h115
    go_enter Tryz.func116, Tryz.ntmps116
    go_wp2_with (go_at_call 128; first | ((with_reducible refine (b1 _).mono ?_); rintro e w1 ⟨rfl, hb1⟩) | ((with_reducible refine (b2 _).mono ?_); rintro e w2 ⟨rfl, hb2⟩))
    go_ret
    exact ⟨rfl, hb1⟩
  have hf : formCF c q = 0 := by unfold formCF; simp [*]
  rw [hf]
  have n51 : ((c : Int) == 51) = false := by simp only [beq_eq_false_iff_ne]; omega
  have n19 : ((c : Int) == 19) = false := by simp only [beq_eq_false_iff_ne]; omega
  have n3 : ((c : Int) == 3) = false := by simp only [beq_eq_false_iff_ne]; omega
  have n103 : ((c : Int) == 103) = false := by simp only [beq_eq_false_iff_ne]; omega
  have n55 : ((c : Int) == 55) = false := by simp only [beq_eq_false_iff_ne]; omega
  have n35 : ((c : Int) == 35) = false := by simp only [beq_eq_false_iff_ne]; omega
  have n99 : ((c : Int) == 99) = false := by simp only [beq_eq_false_iff_ne]; omega
  have n111 : ((c : Int) == 111) = false := by simp only [beq_eq_false_iff_ne]; omega
  have n115 : ((c : Int) == 115) = false := by simp only [beq_eq_false_iff_ne]; omega
  go_enter Tryz.func116, Tryz.ntmps116
  go_wp2_with (go_at_call 128; first | ((with_reducible refine (b1 _).mono ?_); rintro e w1 ⟨rfl, hb1⟩) | ((with_reducible refine (b2 _).mono ?_); rintro e w2 ⟨rfl, hb2⟩))
  go_ret
  exact ⟨rfl, hb1⟩
end Go.Proofs.YtfaacmcnefbgcaaGreatDoor

/- Contract of disas.number: the number that a word has in a form. -/
namespace Go.Proofs.YtfaacmcnefbgcaaGreatDoor
open Go.ChangeShapes Go.WideShapes Go.ChangeAt Go.RowKit
set_option linter.unusedVariables false
theorem part_any (v a n t g : Nat) (hv : v < 4294967296) (ha : a < 32) (hn : n < 32) (hnt : n + t ≤ 62) (w : World) (hc : w.cell? ⟨g, 0, none⟩ = some (.int .u32 v)) :
    Calls Tryz.prog 141 #[.int .i64 a, .int .i64 n, .int .i64 t, .pointer (some ⟨g, 0, none⟩)] w fun e w' => e = .returned (.int .i64 (v / 2 ^ a % 2 ^ n * 2 ^ t : Nat)) ∧ Below w.heap.size w w' := by
  have hg : g < w.heap.size := World.block_lt_of_cell? w ⟨g, 0, none⟩ hc
  have hb := dbits_b v a n hv ha hn
  have h1 : v / 2 ^ a % 2 ^ n < 2 ^ n := Nat.mod_lt _ (Nat.pow_pos (by omega))
  have h2 : v / 2 ^ a % 2 ^ n * 2 ^ t < 2 ^ (n + t) := by rw [Nat.pow_add]; exact Nat.mul_lt_mul_of_pos_right h1 (Nat.pow_pos (by omega))
  have h3 : 2 ^ (n + t) ≤ 2 ^ 62 := Nat.pow_le_pow_right (by omega) hnt
  have h4 : v / 2 ^ a % 2 ^ n < 4294967296 := Nat.lt_of_lt_of_le h1 (pow_le32 (by omega))
  have h5 : v / 2 ^ a % 2 ^ n * 2 ^ t < 4611686018427387904 := by omega
  have h6 : ((v / 2 ^ a % 2 ^ n * 2 ^ t : Nat) : Int) = ((v / 2 ^ a % 2 ^ n : Nat) : Int) * 2 ^ t := by simp
  clear h1 h2 h3
  generalize v / 2 ^ a % 2 ^ n = m at *
  have ht : t < 64 := by omega
  go_enter Tryz.func141, Tryz.ntmps141
  go_wp2_with (go_at_call 128; (with_reducible refine (hb _).mono ?_); rintro e w1 ⟨rfl, hb1⟩)
  go_ret
  exact ⟨rfl, hb1⟩
theorem or64 (k : Nat) (a b : Int) (ha : a % ((2 ^ k : Nat) : Int) = 0) (hb0 : 0 ≤ b) (hb : b < ((2 ^ k : Nat) : Int)) (hk : k ≤ 62) (h0 : -9223372036854775808 ≤ a) (h1 : a + b < 9223372036854775808) : bits .or .i64 a b = a + b := by
  obtain ⟨B, rfl⟩ := Int.eq_ofNat_of_zero_le hb0
  have hB : B < 2 ^ k := Int.ofNat_lt.1 hb
  have hk2 : 2 ^ k ≤ 2 ^ 62 := Nat.pow_le_pow_right (by omega) hk
  obtain ⟨A, hA⟩ : ∃ A : Nat, (A : Int) = a % 18446744073709551616 := ⟨(a % 18446744073709551616).toNat, by omega⟩
  have hd : ((2 ^ k : Nat) : Int) ∣ 18446744073709551616 := ⟨((2 ^ (64 - k) : Nat) : Int), by rw [← Int.natCast_mul, ← Nat.pow_add, show k + (64 - k) = 64 by omega]; rfl⟩
  have hm : A % 2 ^ k = 0 := by
    have e : ((A % 2 ^ k : Nat) : Int) = 0 := by rw [Int.natCast_emod, hA, Int.emod_emod_of_dvd a hd, ha]
    omega
  show IntKind.i64.wrap ((BitVec.ofInt 64 a ||| BitVec.ofInt 64 (B : Int)).toNat : Int) = _
  rw [BitVec.toNat_or, BitVec.toNat_ofInt, BitVec.toNat_ofInt]
  have e1 : (a % ((2 ^ 64 : Nat) : Int)).toNat = A := by
    show (a % 18446744073709551616).toNat = A
    omega
  have e2 : ((B : Int) % ((2 ^ 64 : Nat) : Int)).toNat = B := by
    show ((B : Int) % 18446744073709551616).toNat = B
    omega
  rw [e1, e2, nat_join k A B hm hB, IntKind.wrap_i64]
  omega
theorem or64k (k K : Nat) (a b : Int) (hK : K = 2 ^ k) (ha : a % (K : Int) = 0) (hb0 : 0 ≤ b) (hb : b < (K : Int)) (hk : k ≤ 62) (h0 : -9223372036854775808 ≤ a) (h1 : a + b < 9223372036854775808) : bits .or .i64 a b = a + b := by
  subst hK; exact or64 k a b ha hb0 hb hk h0 h1
theorem andb5 (a : Int) : bits .and .i64 a 32 = a / 32 % 2 * 32 := by
  obtain ⟨A, hA⟩ : ∃ A : Nat, (A : Int) = a % 18446744073709551616 := ⟨(a % 18446744073709551616).toNat, by omega⟩
  show IntKind.i64.wrap ((BitVec.ofInt 64 a &&& BitVec.ofInt 64 32).toNat : Int) = _
  have h32 : (BitVec.ofInt 64 32).toNat = 2 ^ 5 := by decide
  rw [BitVec.toNat_and, h32, BitVec.toNat_ofInt]
  have e1 : (a % ((2 ^ 64 : Nat) : Int)).toNat = A := by
    show (a % 18446744073709551616).toNat = A
    omega
  rw [e1, nat_bit, IntKind.wrap_i64]
  omega
theorem sgn_w (v : Nat) (hv : v < 4294967296) : wrap64 (wrap32 (v : Int)) = sgn v := by unfold sgn wrap64 wrap32; split <;> omega
theorem sgn_b (v : Nat) (hv : v < 4294967296) : -2147483648 ≤ sgn v ∧ sgn v < 2147483648 := by unfold sgn; split <;> omega
theorem w_high (x : Int) (h : -2147483648 ≤ x ∧ x < 2147483648) : wrap64 (x / 33554432 * 32) = x / 33554432 * 32 := by unfold wrap64; omega
theorem w_4 (x : Int) (h : -2147483648 ≤ x ∧ x < 2147483648) : wrap64 (x / 4096 * 4096) = x / 4096 * 4096 := by unfold wrap64; omega
theorem w_6 (x : Int) (h : -2147483648 ≤ x ∧ x < 2147483648) : wrap64 (x / 2147483648 * 4096) = x / 2147483648 * 4096 := by unfold wrap64; omega
theorem w_7 (x : Int) (h : -2147483648 ≤ x ∧ x < 2147483648) : wrap64 (x / 2147483648 * 1048576) = x / 2147483648 * 1048576 := by unfold wrap64; omega
theorem fin_2 (v : Nat) (hv : v < 4294967296) : bits .or .i64 (wrap64 (wrap64 (wrap32 ↑v) / 33554432 * 32)) ((v : Int) / 1048576 % 32) = numW 2 v := by
  have hs := sgn_b v hv
  rw [sgn_w v hv, num2, w_high _ hs, or64k 5 32 _ _ (by rfl) (by omega) (by omega) (by omega) (by omega) (by omega) (by omega)]
  omega
theorem fin_3 (v : Nat) (hv : v < 4294967296) : bits .or .i64 (bits .and .i64 (wrap64 (wrap64 (wrap32 ↑v) / 33554432 * 32)) 32) ((v : Int) / 1048576 % 32) = numW 3 v := by
  have hs := sgn_b v hv
  rw [sgn_w v hv, num3, w_high _ hs, andb5, or64k 5 32 _ _ (by rfl) (by omega) (by omega) (by omega) (by omega) (by omega) (by omega)]
  omega
theorem fin_5 (v : Nat) (hv : v < 4294967296) : bits .or .i64 (wrap64 (wrap64 (wrap32 ↑v) / 33554432 * 32)) ((v : Int) / 128 % 32) = numW 5 v := by
  have hs := sgn_b v hv
  rw [sgn_w v hv, num5, w_high _ hs, or64k 5 32 _ _ (by rfl) (by omega) (by omega) (by omega) (by omega) (by omega) (by omega)]
  omega
theorem fin_6 (v : Nat) (hv : v < 4294967296) : bits .or .i64 (bits .or .i64 (bits .or .i64 (wrap64 (wrap64 (wrap32 ↑v) / 2147483648 * 4096)) ((v : Int) / 128 % 2 * 2048)) ((v : Int) / 33554432 % 64 * 32)) ((v : Int) / 256 % 16 * 2) = numW 6 v := by
  have hs := sgn_b v hv
  rw [sgn_w v hv, num6, w_6 _ hs]
  generalize sgn v = x at *
  have b1 : 0 ≤ (v : Int) / 128 % 2 ∧ (v : Int) / 128 % 2 < 2 := by omega
  have b2 : 0 ≤ (v : Int) / 33554432 % 64 ∧ (v : Int) / 33554432 % 64 < 64 := by omega
  have b3 : 0 ≤ (v : Int) / 256 % 16 ∧ (v : Int) / 256 % 16 < 16 := by omega
  have c1 : ((v / 128 % 2 * 2048 : Nat) : Int) = (v : Int) / 128 % 2 * 2048 := by omega
  have c2 : ((v / 33554432 % 64 * 32 : Nat) : Int) = (v : Int) / 33554432 % 64 * 32 := by omega
  have c3 : ((v / 256 % 16 * 2 : Nat) : Int) = (v : Int) / 256 % 16 * 2 := by omega
  rw [c1, c2, c3]
  clear c1 c2 c3
  generalize (v : Int) / 128 % 2 = y1 at *
  generalize (v : Int) / 33554432 % 64 = y2 at *
  generalize (v : Int) / 256 % 16 = y3 at *
  rw [or64k 12 4096 (x / 2147483648 * 4096) (y1 * 2048) (by rfl) (by omega) (by omega) (by omega) (by omega) (by omega) (by omega),
    or64k 11 2048 _ (y2 * 32) (by rfl) (by omega) (by omega) (by omega) (by omega) (by omega) (by omega),
    or64k 5 32 _ (y3 * 2) (by rfl) (by omega) (by omega) (by omega) (by omega) (by omega) (by omega)]
set_option maxRecDepth 100000 in
theorem fin_7 (v : Nat) (hv : v < 4294967296) : bits .or .i64 (bits .or .i64 (bits .or .i64 (wrap64 (wrap64 (wrap32 ↑v) / 2147483648 * 1048576)) ((v : Int) / 4096 % 256 * 4096)) ((v : Int) / 1048576 % 2 * 2048)) ((v : Int) / 2097152 % 1024 * 2) = numW 7 v := by
  have hs := sgn_b v hv
  rw [sgn_w v hv, num7, w_7 _ hs]
  generalize sgn v = x at *
  have b1 : 0 ≤ (v : Int) / 4096 % 256 ∧ (v : Int) / 4096 % 256 < 256 := by omega
  have b2 : 0 ≤ (v : Int) / 1048576 % 2 ∧ (v : Int) / 1048576 % 2 < 2 := by omega
  have b3 : 0 ≤ (v : Int) / 2097152 % 1024 ∧ (v : Int) / 2097152 % 1024 < 1024 := by omega
  have c1 : ((v / 4096 % 256 * 4096 : Nat) : Int) = (v : Int) / 4096 % 256 * 4096 := by omega
  have c2 : ((v / 1048576 % 2 * 2048 : Nat) : Int) = (v : Int) / 1048576 % 2 * 2048 := by omega
  have c3 : ((v / 2097152 % 1024 * 2 : Nat) : Int) = (v : Int) / 2097152 % 1024 * 2 := by omega
  rw [c1, c2, c3]
  clear c1 c2 c3
  generalize (v : Int) / 4096 % 256 = y1 at *
  generalize (v : Int) / 1048576 % 2 = y2 at *
  generalize (v : Int) / 2097152 % 1024 = y3 at *
  rw [or64k 20 1048576 (x / 2147483648 * 1048576) (y1 * 4096) (by rfl) (by omega) (by omega) (by omega) (by omega) (by omega) (by omega),
    or64k 12 4096 _ (y2 * 2048) (by rfl) (by omega) (by omega) (by omega) (by omega) (by omega) (by omega),
    or64k 11 2048 _ (y3 * 2) (by rfl) (by omega) (by omega) (by omega) (by omega) (by omega) (by omega)]
theorem fin_4 (v : Nat) (hv : v < 4294967296) : wrap64 (wrap64 (wrap32 ↑v) / 4096 * 4096) = numW 4 v := by
  have hs := sgn_b v hv
  rw [sgn_w v hv, num4, w_4 _ hs]
theorem ret_i64 {a b : Int} (h : a = b) : Ending.returned (.int .i64 a) = .returned (.int .i64 b) := by rw [h]
theorem part_l (v a n t g r : Nat) (hr : v / 2 ^ a % 2 ^ n * 2 ^ t = r) (hv : v < 4294967296) (ha : a < 32) (hn : n < 32) (hnt : n + t ≤ 62) (w : World) (hc : w.cell? ⟨g, 0, none⟩ = some (.int .u32 v)) :
    Calls Tryz.prog 141 #[.int .i64 a, .int .i64 n, .int .i64 t, .pointer (some ⟨g, 0, none⟩)] w fun e w' => e = .returned (.int .i64 (r : Nat)) ∧ Below w.heap.size w w' := by
  subst hr; exact part_any v a n t g hv ha hn hnt w hc
set_option maxHeartbeats 1000000 in
theorem dnum_2 (v : Nat) (hv : v < 4294967296) (w : World) :
    Calls Tryz.prog 127 #[.int .u8 2, .int .u32 v] w fun e w' => e = .returned (.int .i64 (numW 2 v)) ∧ Below w.heap.size w w' := by
  obtain ⟨g, hg⟩ : ∃ g, w.heap.size = g := ⟨_, rfl⟩
  have p0 : ∀ w', w'.cell? ⟨g, 0, none⟩ = some (.int .u32 v) → Calls Tryz.prog 141 #[.int .i64 20, .int .i64 5, .int .i64 0, .pointer (some ⟨g, 0, none⟩)] w' fun e w'' => e = .returned (.int .i64 (v / 1048576 % 32 : Nat)) ∧ Below w'.heap.size w' w'' := fun w' hc => part_l v 20 5 0 g _ (by simp) hv (by omega) (by omega) (by omega) w' hc
  go_enter Tryz.func127, Tryz.ntmps127
  go_wp2_with (go_at_call 141; first | ((with_reducible refine (p0 _ ?hc0).mono ?_); (case hc0 => (rw [← hg]; simp)); (rintro e w0 ⟨rfl, hb0⟩); have q0 : w0.cell? ⟨g, 0, none⟩ = some (.int .u32 v) := (bk hb0 (by rw [← hg]; simp))))
  go_ret
  exact ⟨ret_i64 (by exact fin_2 v hv), (below_trans' ((Below.refl _ _).alloc (Nat.le_refl _) _) (Nat.le_refl _) hb0)⟩
set_option maxHeartbeats 1000000 in
theorem dnum_3 (v : Nat) (hv : v < 4294967296) (w : World) :
    Calls Tryz.prog 127 #[.int .u8 3, .int .u32 v] w fun e w' => e = .returned (.int .i64 (numW 3 v)) ∧ Below w.heap.size w w' := by
  obtain ⟨g, hg⟩ : ∃ g, w.heap.size = g := ⟨_, rfl⟩
  have p0 : ∀ w', w'.cell? ⟨g, 0, none⟩ = some (.int .u32 v) → Calls Tryz.prog 141 #[.int .i64 20, .int .i64 5, .int .i64 0, .pointer (some ⟨g, 0, none⟩)] w' fun e w'' => e = .returned (.int .i64 (v / 1048576 % 32 : Nat)) ∧ Below w'.heap.size w' w'' := fun w' hc => part_l v 20 5 0 g _ (by simp) hv (by omega) (by omega) (by omega) w' hc
  go_enter Tryz.func127, Tryz.ntmps127
  go_wp2_with (go_at_call 141; first | ((with_reducible refine (p0 _ ?hc0).mono ?_); (case hc0 => (rw [← hg]; simp)); (rintro e w0 ⟨rfl, hb0⟩); have q0 : w0.cell? ⟨g, 0, none⟩ = some (.int .u32 v) := (bk hb0 (by rw [← hg]; simp))))
  go_ret
  exact ⟨ret_i64 (by exact fin_3 v hv), (below_trans' ((Below.refl _ _).alloc (Nat.le_refl _) _) (Nat.le_refl _) hb0)⟩
set_option maxHeartbeats 1000000 in
theorem dnum_5 (v : Nat) (hv : v < 4294967296) (w : World) :
    Calls Tryz.prog 127 #[.int .u8 5, .int .u32 v] w fun e w' => e = .returned (.int .i64 (numW 5 v)) ∧ Below w.heap.size w w' := by
  obtain ⟨g, hg⟩ : ∃ g, w.heap.size = g := ⟨_, rfl⟩
  have p0 : ∀ w', w'.cell? ⟨g, 0, none⟩ = some (.int .u32 v) → Calls Tryz.prog 141 #[.int .i64 7, .int .i64 5, .int .i64 0, .pointer (some ⟨g, 0, none⟩)] w' fun e w'' => e = .returned (.int .i64 (v / 128 % 32 : Nat)) ∧ Below w'.heap.size w' w'' := fun w' hc => part_l v 7 5 0 g _ (by simp) hv (by omega) (by omega) (by omega) w' hc
  go_enter Tryz.func127, Tryz.ntmps127
  go_wp2_with (go_at_call 141; first | ((with_reducible refine (p0 _ ?hc0).mono ?_); (case hc0 => (rw [← hg]; simp)); (rintro e w0 ⟨rfl, hb0⟩); have q0 : w0.cell? ⟨g, 0, none⟩ = some (.int .u32 v) := (bk hb0 (by rw [← hg]; simp))))
  go_ret
  exact ⟨ret_i64 (by exact fin_5 v hv), (below_trans' ((Below.refl _ _).alloc (Nat.le_refl _) _) (Nat.le_refl _) hb0)⟩
set_option maxHeartbeats 1000000 in
theorem dnum_6 (v : Nat) (hv : v < 4294967296) (w : World) :
    Calls Tryz.prog 127 #[.int .u8 6, .int .u32 v] w fun e w' => e = .returned (.int .i64 (numW 6 v)) ∧ Below w.heap.size w w' := by
  obtain ⟨g, hg⟩ : ∃ g, w.heap.size = g := ⟨_, rfl⟩
  have p0 : ∀ w', w'.cell? ⟨g, 0, none⟩ = some (.int .u32 v) → Calls Tryz.prog 141 #[.int .i64 7, .int .i64 1, .int .i64 11, .pointer (some ⟨g, 0, none⟩)] w' fun e w'' => e = .returned (.int .i64 (v / 128 % 2 * 2048 : Nat)) ∧ Below w'.heap.size w' w'' := fun w' hc => part_l v 7 1 11 g _ (by simp) hv (by omega) (by omega) (by omega) w' hc
  have p1 : ∀ w', w'.cell? ⟨g, 0, none⟩ = some (.int .u32 v) → Calls Tryz.prog 141 #[.int .i64 25, .int .i64 6, .int .i64 5, .pointer (some ⟨g, 0, none⟩)] w' fun e w'' => e = .returned (.int .i64 (v / 33554432 % 64 * 32 : Nat)) ∧ Below w'.heap.size w' w'' := fun w' hc => part_l v 25 6 5 g _ (by simp) hv (by omega) (by omega) (by omega) w' hc
  have p2 : ∀ w', w'.cell? ⟨g, 0, none⟩ = some (.int .u32 v) → Calls Tryz.prog 141 #[.int .i64 8, .int .i64 4, .int .i64 1, .pointer (some ⟨g, 0, none⟩)] w' fun e w'' => e = .returned (.int .i64 (v / 256 % 16 * 2 : Nat)) ∧ Below w'.heap.size w' w'' := fun w' hc => part_l v 8 4 1 g _ (by simp) hv (by omega) (by omega) (by omega) w' hc
  go_enter Tryz.func127, Tryz.ntmps127
  go_wp2_with (go_at_call 141; first | ((with_reducible refine (p0 _ ?hc0).mono ?_); (case hc0 => (rw [← hg]; simp)); (rintro e w0 ⟨rfl, hb0⟩); have q0 : w0.cell? ⟨g, 0, none⟩ = some (.int .u32 v) := (bk hb0 (by rw [← hg]; simp))) | ((with_reducible refine (p1 _ ?hc1).mono ?_); (case hc1 => exact q0); (rintro e w1 ⟨rfl, hb1⟩); have q1 : w1.cell? ⟨g, 0, none⟩ = some (.int .u32 v) := bk hb1 q0) | ((with_reducible refine (p2 _ ?hc2).mono ?_); (case hc2 => exact q1); (rintro e w2 ⟨rfl, hb2⟩); have q2 : w2.cell? ⟨g, 0, none⟩ = some (.int .u32 v) := bk hb2 q1))
  go_ret
  exact ⟨ret_i64 (by exact fin_6 v hv), (below_trans' (below_trans' (below_trans' ((Below.refl _ _).alloc (Nat.le_refl _) _) (Nat.le_refl _) hb0) (Nat.le_refl _) hb1) (Nat.le_refl _) hb2)⟩
set_option maxHeartbeats 1000000 in
theorem dnum_7 (v : Nat) (hv : v < 4294967296) (w : World) :
    Calls Tryz.prog 127 #[.int .u8 7, .int .u32 v] w fun e w' => e = .returned (.int .i64 (numW 7 v)) ∧ Below w.heap.size w w' := by
  obtain ⟨g, hg⟩ : ∃ g, w.heap.size = g := ⟨_, rfl⟩
  have p0 : ∀ w', w'.cell? ⟨g, 0, none⟩ = some (.int .u32 v) → Calls Tryz.prog 141 #[.int .i64 12, .int .i64 8, .int .i64 12, .pointer (some ⟨g, 0, none⟩)] w' fun e w'' => e = .returned (.int .i64 (v / 4096 % 256 * 4096 : Nat)) ∧ Below w'.heap.size w' w'' := fun w' hc => part_l v 12 8 12 g _ (by simp) hv (by omega) (by omega) (by omega) w' hc
  have p1 : ∀ w', w'.cell? ⟨g, 0, none⟩ = some (.int .u32 v) → Calls Tryz.prog 141 #[.int .i64 20, .int .i64 1, .int .i64 11, .pointer (some ⟨g, 0, none⟩)] w' fun e w'' => e = .returned (.int .i64 (v / 1048576 % 2 * 2048 : Nat)) ∧ Below w'.heap.size w' w'' := fun w' hc => part_l v 20 1 11 g _ (by simp) hv (by omega) (by omega) (by omega) w' hc
  have p2 : ∀ w', w'.cell? ⟨g, 0, none⟩ = some (.int .u32 v) → Calls Tryz.prog 141 #[.int .i64 21, .int .i64 10, .int .i64 1, .pointer (some ⟨g, 0, none⟩)] w' fun e w'' => e = .returned (.int .i64 (v / 2097152 % 1024 * 2 : Nat)) ∧ Below w'.heap.size w' w'' := fun w' hc => part_l v 21 10 1 g _ (by simp) hv (by omega) (by omega) (by omega) w' hc
  go_enter Tryz.func127, Tryz.ntmps127
  go_wp2_with (go_at_call 141; first | ((with_reducible refine (p0 _ ?hc0).mono ?_); (case hc0 => (rw [← hg]; simp)); (rintro e w0 ⟨rfl, hb0⟩); have q0 : w0.cell? ⟨g, 0, none⟩ = some (.int .u32 v) := (bk hb0 (by rw [← hg]; simp))) | ((with_reducible refine (p1 _ ?hc1).mono ?_); (case hc1 => exact q0); (rintro e w1 ⟨rfl, hb1⟩); have q1 : w1.cell? ⟨g, 0, none⟩ = some (.int .u32 v) := bk hb1 q0) | ((with_reducible refine (p2 _ ?hc2).mono ?_); (case hc2 => exact q1); (rintro e w2 ⟨rfl, hb2⟩); have q2 : w2.cell? ⟨g, 0, none⟩ = some (.int .u32 v) := bk hb2 q1))
  go_ret
  exact ⟨ret_i64 (by exact fin_7 v hv), (below_trans' (below_trans' (below_trans' ((Below.refl _ _).alloc (Nat.le_refl _) _) (Nat.le_refl _) hb0) (Nat.le_refl _) hb1) (Nat.le_refl _) hb2)⟩
set_option maxHeartbeats 1000000 in
theorem dnum_0 (v : Nat) (hv : v < 4294967296) (w : World) :
    Calls Tryz.prog 127 #[.int .u8 0, .int .u32 v] w fun e w' => e = .returned (.int .i64 (numW 0 v)) ∧ Below w.heap.size w w' := by
  obtain ⟨g, hg⟩ : ∃ g, w.heap.size = g := ⟨_, rfl⟩
  go_enter Tryz.func127, Tryz.ntmps127
  go_wp2
  go_ret
  exact ⟨rfl, ((Below.refl _ _).alloc (Nat.le_refl _) _)⟩
set_option maxHeartbeats 1000000 in
theorem dnum_1 (v : Nat) (hv : v < 4294967296) (w : World) :
    Calls Tryz.prog 127 #[.int .u8 1, .int .u32 v] w fun e w' => e = .returned (.int .i64 (numW 1 v)) ∧ Below w.heap.size w w' := by
  obtain ⟨g, hg⟩ : ∃ g, w.heap.size = g := ⟨_, rfl⟩
  go_enter Tryz.func127, Tryz.ntmps127
  go_wp2
  go_ret
  exact ⟨rfl, ((Below.refl _ _).alloc (Nat.le_refl _) _)⟩
set_option maxHeartbeats 1000000 in
theorem dnum_4 (v : Nat) (hv : v < 4294967296) (w : World) :
    Calls Tryz.prog 127 #[.int .u8 4, .int .u32 v] w fun e w' => e = .returned (.int .i64 (numW 4 v)) ∧ Below w.heap.size w w' := by
  obtain ⟨g, hg⟩ : ∃ g, w.heap.size = g := ⟨_, rfl⟩
  go_enter Tryz.func127, Tryz.ntmps127
  go_wp2
  go_ret
  exact ⟨ret_i64 (by exact fin_4 v hv), ((Below.refl _ _).alloc (Nat.le_refl _) _)⟩
set_option maxHeartbeats 1000000 in
theorem dnum_8 (v : Nat) (hv : v < 4294967296) (w : World) :
    Calls Tryz.prog 127 #[.int .u8 8, .int .u32 v] w fun e w' => e = .returned (.int .i64 (numW 8 v)) ∧ Below w.heap.size w w' := by
  obtain ⟨g, hg⟩ : ∃ g, w.heap.size = g := ⟨_, rfl⟩
  go_enter Tryz.func127, Tryz.ntmps127
  go_wp2
  go_ret
  exact ⟨rfl, ((Below.refl _ _).alloc (Nat.le_refl _) _)⟩
theorem dnum_any (f v : Nat) (hf : f ≤ 8) (hv : v < 4294967296) (w : World) :
    Calls Tryz.prog 127 #[.int .u8 f, .int .u32 v] w fun e w' => e = .returned (.int .i64 (numW f v)) ∧ Below w.heap.size w w' := by
  have hc : f = 0 ∨ f = 1 ∨ f = 2 ∨ f = 3 ∨ f = 4 ∨ f = 5 ∨ f = 6 ∨ f = 7 ∨ f = 8 := by omega
  rcases hc with rfl | rfl | rfl | rfl | rfl | rfl | rfl | rfl | rfl
  · exact dnum_0 v hv w
  · exact dnum_1 v hv w
  · exact dnum_2 v hv w
  · exact dnum_3 v hv w
  · exact dnum_4 v hv w
  · exact dnum_5 v hv w
  · exact dnum_6 v hv w
  · exact dnum_7 v hv w
  · exact dnum_8 v hv w
end Go.Proofs.YtfaacmcnefbgcaaGreatDoor

/- The laid tables of package disas, and all tables together; an instruction's name. -/
namespace Go.Proofs.YtfaacmcnefbgcaaGreatDoor
open Go.ChangeShapes Go.WideShapes Go.ChangeAt Go.RowKit
set_option linter.unusedVariables false
def immT (f : Nat) : Bool := [false, false, true, true, true, true, true, true, false].getD f false
def DshOk (w : World) : Prop := ∀ f < 9, w.cell? ⟨1, f * 4, none⟩ = some (.bool (rdT f)) ∧ w.cell? ⟨1, f * 4 + 1, none⟩ = some (.bool (rs1T f)) ∧ w.cell? ⟨1, f * 4 + 2, none⟩ = some (.bool (rs2T f)) ∧ w.cell? ⟨1, f * 4 + 3, none⟩ = some (.bool (immT f))
theorem gDsh : Tryz.prog.globalNamed "sacristy/disas.shapes" = some 1 := by kernel_rfl
theorem tDsh : (Tryz.prog.globals[1]?).map (·.type) = some 184 := by kernel_rfl
def dshL : List (Nat × Value) := (List.range 9).flatMap fun f => [(f * 4, .bool (rdT f)), (f * 4 + 1, .bool (rs1T f)), (f * 4 + 2, .bool (rs2T f)), (f * 4 + 3, .bool (immT f))]
theorem lDsh : leaves Tryz.prog 5 184 0 Rows.laid_sacristy_disas_shapes = some dshL := by kernel_rfl
theorem dsh_of_laid {W : World} (h : laidMetH Tryz.prog laidAll W) : DshOk W := fun k hk => by
  have hl := laid_leaves h laidPlain "sacristy/disas.shapes" Rows.laid_sacristy_disas_shapes 1 184 5 dshL (List.Mem.tail _ (List.Mem.tail _ (List.Mem.head _))) gDsh tDsh lDsh
  have hm : ∀ x ∈ ([(k * 4, .bool (rdT k)), (k * 4 + 1, .bool (rs1T k)), (k * 4 + 2, .bool (rs2T k)), (k * 4 + 3, .bool (immT k))] : List (Nat × Value)), x ∈ dshL := fun x hx => List.mem_flatMap.2 ⟨k, List.mem_range.2 hk, hx⟩
  exact ⟨hl _ (hm _ (List.Mem.head _)), hl _ (hm _ (List.Mem.tail _ (List.Mem.head _))), hl _ (hm _ (List.Mem.tail _ (List.Mem.tail _ (List.Mem.head _)))), hl _ (hm _ (List.Mem.tail _ (List.Mem.tail _ (List.Mem.tail _ (List.Mem.head _)))))⟩
/-- All laid tables read as they were laid. -/
def Tb (w : World) : Prop := (RowsOk w ∧ ShapesOk w) ∧ DshOk w
theorem stay {w w' : World} (hb : Below w.heap.size w w') {p : Addr} {v : Value} (h : w.cell? p = some v) : w'.cell? p = some v := (hb.cell (World.block_lt_of_cell? w _ h)).trans h
theorem DshOk.of {w w' : World} (h : DshOk w) (hb : Below w.heap.size w w') : DshOk w' := fun f hf => by
  obtain ⟨a, b, c, d⟩ := h f hf
  exact ⟨stay hb a, stay hb b, stay hb c, stay hb d⟩
theorem Tb.of {w w' : World} (h : Tb w) (hb : Below w.heap.size w w') : Tb w' := ⟨⟨h.1.1.of hb, h.1.2.of hb⟩, h.2.of hb⟩
theorem tb_of_laid {W : World} (h : laidMetH Tryz.prog laidAll W) : Tb W := ⟨⟨rows_of_laid h, shapes_of_laid h⟩, dsh_of_laid h⟩
theorem Tb.alloc {w : World} (h : Tb w) (o : Obj) : Tb (w.alloc o) := h.of ((Below.refl _ _).alloc (Nat.le_refl _) _)
theorem Tb.drewN {w : World} (h : Tb w) (n : Nat) : Tb (w.drewN n) := h.of (bdN (Below.refl _ _) n)
theorem ency (x : In) (h : x.wf) (ho : x.ok = true) (w : World) (hT : Tb w) :
    Calls Tryz.prog 91 #[.agg #[.int .u8 x.op, .int .u8 x.rd, .int .u8 x.rs1, .int .u8 x.rs2, .int .i64 x.imm]] w fun e w' => e = .returned (.tuple #[.int .u32 (x.word : Nat), .int .i64 0]) ∧ Below w.heap.size w w' := enc_yes x h ho w hT.1.1 hT.1.2
theorem encn (x : In) (h : x.wf) (ho : x.ok = false) (w : World) (hT : Tb w) :
    Calls Tryz.prog 91 #[.agg #[.int .u8 x.op, .int .u8 x.rd, .int .u8 x.rs1, .int .u8 x.rs2, .int .i64 x.imm]] w fun e w' => e = .returned (.tuple #[.int .u32 0, .int .i64 2]) ∧ Below w.heap.size w w' := enc_no x h ho w hT.1.1 hT.1.2
end Go.Proofs.YtfaacmcnefbgcaaGreatDoor

/- An instruction that came in by value: opened to its five numbers, and read back; the laid tables at a call's beginning. -/
namespace Go.Proofs.YtfaacmcnefbgcaaGreatDoor
open Go.ChangeShapes Go.WideShapes Go.ChangeAt Go.RowKit
set_option linter.unusedVariables false
theorem to_in {n0 n1 n2 n3 n4 : Int} (w0 : (Lit.int .u8 n0).wf = true) (w1 : (Lit.int .u8 n1).wf = true) (w2 : (Lit.int .u8 n2).wf = true) (w3 : (Lit.int .u8 n3).wf = true) (w4 : (Lit.int .i64 n4).wf = true) :
    ∃ x : In, x.wf ∧ n0 = x.op ∧ n1 = x.rd ∧ n2 = x.rs1 ∧ n3 = x.rs2 ∧ n4 = x.imm := by
  have d0 := bounds_u8 w0
  have d1 := bounds_u8 w1
  have d2 := bounds_u8 w2
  have d3 := bounds_u8 w3
  have d4 := bounds_i64 w4
  exact ⟨⟨n0.toNat, n1.toNat, n2.toNat, n3.toNat, n4⟩, by unfold In.wf; simp only; omega, by simp only; omega, by simp only; omega, by simp only; omega, by simp only; omega, rfl⟩
section
variable {H : Type} {enc : TypeId × Value → H} {W : World} {base : Nat} {sp : Nat → Bool} {held : Bool} {r : Reach} {b0 : Nat}
set_option maxRecDepth 100000 in
theorem open_insn {v : Value} {d : DataW H} {p : List MemPlace} (hv : Value.okWide Tryz.prog W r b0 48 v) (h : DataW.Trod enc Tryz.prog W base sp held 48 v d p) :
    ∃ n0 n1 n2 n3 n4 : Int, v = .agg #[.int .u8 n0, .int .u8 n1, .int .u8 n2, .int .u8 n3, .int .i64 n4] ∧ d = .agg [.lit (.int .u8 n0), .lit (.int .u8 n1), .lit (.int .u8 n2), .lit (.int .u8 n3), .lit (.int .i64 n4)] ∧ p = [] ∧
      (Lit.int .u8 n0).wf = true ∧ (Lit.int .u8 n1).wf = true ∧ (Lit.int .u8 n2).wf = true ∧ (Lit.int .u8 n3).wf = true ∧ (Lit.int .i64 n4).wf = true := by
  obtain ⟨cs, rfl, hsz⟩ := okWide_struct Tryz.underlying48 hv
  have hC : Tryz.prog.cellsOf 48 = 5 := by kernel_rfl
  have c8 : Tryz.prog.cellsOf 5 = 1 := by kernel_rfl
  have c64 : Tryz.prog.cellsOf 2 = 1 := by kernel_rfl
  obtain ⟨fuel, hf⟩ := h
  obtain ⟨xs, n, _, hx, _, hlen, hg⟩ := DataW.trod_struct Tryz.underlying48 hf
  obtain ⟨l⟩ := cs
  have hl : l.length = 5 := hsz.trans hC
  match l, hl with
  | [x0, x1, x2, x3, x4], _ =>
    match xs, hlen with
    | [y0, y1, y2, y3, y4], _ =>
      have e0 : DataW.trod enc Tryz.prog W base sp held n 5 [x0] = some y0 := by simpa [c8, Value.cells] using hg 0 _ rfl
      have e1 : DataW.trod enc Tryz.prog W base sp held n 5 [x1] = some y1 := by simpa [c8, Value.cells] using hg 1 _ rfl
      have e2 : DataW.trod enc Tryz.prog W base sp held n 5 [x2] = some y2 := by simpa [c8, Value.cells] using hg 2 _ rfl
      have e3 : DataW.trod enc Tryz.prog W base sp held n 5 [x3] = some y3 := by simpa [c8, Value.cells] using hg 3 _ rfl
      have e4 : DataW.trod enc Tryz.prog W base sp held n 2 [x4] = some y4 := by simpa [c64, Value.cells] using hg 4 _ rfl
      obtain ⟨n0, h0, z0, w0⟩ := DataW.trod_int Tryz.underlying5 e0
      obtain ⟨n1, h1, z1, w1⟩ := DataW.trod_int Tryz.underlying5 e1
      obtain ⟨n2, h2, z2, w2⟩ := DataW.trod_int Tryz.underlying5 e2
      obtain ⟨n3, h3, z3, w3⟩ := DataW.trod_int Tryz.underlying5 e3
      obtain ⟨n4, h4, z4, w4⟩ := DataW.trod_int Tryz.underlying2 e4
      simp only [List.cons.injEq, and_true] at h0 h1 h2 h3 h4
      subst h0 h1 h2 h3 h4 z0 z1 z2 z3 z4
      simp only [Prod.mk.injEq, List.map_cons, List.map_nil, List.flatMap_cons, List.flatMap_nil, List.append_nil] at hx
      exact ⟨n0, n1, n2, n3, n4, rfl, hx.1, hx.2, w0, w1, w2, w3, w4⟩
set_option maxRecDepth 100000 in
theorem shut_insn {n0 n1 n2 n3 n4 : Int} (w0 : (Lit.int .u8 n0).wf = true) (w1 : (Lit.int .u8 n1).wf = true) (w2 : (Lit.int .u8 n2).wf = true) (w3 : (Lit.int .u8 n3).wf = true) (w4 : (Lit.int .i64 n4).wf = true) :
    DataW.Trod enc Tryz.prog W base sp held 48 (.agg #[.int .u8 n0, .int .u8 n1, .int .u8 n2, .int .u8 n3, .int .i64 n4]) (.agg [.lit (.int .u8 n0), .lit (.int .u8 n1), .lit (.int .u8 n2), .lit (.int .u8 n3), .lit (.int .i64 n4)]) [] := by
  have hC : Tryz.prog.cellsOf 48 = 5 := by kernel_rfl
  have c8 : Tryz.prog.cellsOf 5 = 1 := by kernel_rfl
  have c64 : Tryz.prog.cellsOf 2 = 1 := by kernel_rfl
  refine ⟨2, ?_⟩
  simp [DataW.trod, Tryz.underlying48, Tryz.underlying5, Tryz.underlying2, hC, c8, c64, Value.cells, w0, w1, w2, w3, w4]
end
/-- The door's own heap meets the condition: three closed facts. -/
theorem door_met (os : Os) (args : Array Value) : laidMetH Tryz.prog laidAll ((World.doorLaid Tryz.prog 400 os).forCall (fun _ _ => 0) ⟨#[], args, []⟩).memory :=
  laidMetH_of_parts3 (fuel := 8) (laidMet_of_run' 8 (by kernel_rfl) (by kernel_rfl)) (by kernel_rfl) (by kernel_rfl)
end Go.Proofs.YtfaacmcnefbgcaaGreatDoor
