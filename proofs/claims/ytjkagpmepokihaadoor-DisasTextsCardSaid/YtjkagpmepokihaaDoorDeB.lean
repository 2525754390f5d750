/- Contract of disas.number: the number that a word has in a form. -/
import Derived.Test.YtjkagpmepokihaaDoorDeA
namespace Go.Proofs.YtjkagpmepokihaaDoor
open Go.ChangeShapes Go.WideShapes Go.ChangeAt Go.RowKit
set_option linter.unusedVariables false
theorem part_any (v a n t g : Nat) (hv : v < 4294967296) (ha : a < 32) (hn : n < 32) (hnt : n + t ≤ 62) (w : World) (hc : w.cell? ⟨g, 0, none⟩ = some (.int .u32 v)) :
    Calls Tryd.prog 57 #[.int .i64 a, .int .i64 n, .int .i64 t, .pointer (some ⟨g, 0, none⟩)] w fun e w' => e = .returned (.int .i64 (v / 2 ^ a % 2 ^ n * 2 ^ t : Nat)) ∧ Below w.heap.size w w' := by
  have hg : g < w.heap.size := World.block_lt_of_cell? w ⟨g, 0, none⟩ hc
  have hb := dbits_b v a n hv ha hn
  have h1 : v / 2 ^ a % 2 ^ n < 2 ^ n := Nat.mod_lt _ (Nat.pow_pos (by omega))
  have h2 : v / 2 ^ a % 2 ^ n * 2 ^ t < 2 ^ (n + t) := by rw [Nat.pow_add]; exact Nat.mul_lt_mul_of_pos_right h1 (Nat.pow_pos (by omega))
  have h3 : 2 ^ (n + t) ≤ 2 ^ 62 := Nat.pow_le_pow_right (by omega) hnt
  have h4 : v / 2 ^ a % 2 ^ n < 4294967296 := Nat.lt_of_lt_of_le h1 (pow_le32 (by omega))
  have h5 : v / 2 ^ a % 2 ^ n * 2 ^ t < 4611686018427387904 := by omega
  have h6 : ((v / 2 ^ a % 2 ^ n * 2 ^ t : Nat) : Int) = ((v / 2 ^ a % 2 ^ n : Nat) : Int) * 2 ^ t := by simp
  clear h1 h2 h3
  generalize v / 2 ^ a % 2 ^ n = m at *
  have ht : t < 64 := by omega
  go_enter Tryd.func57, Tryd.ntmps57
  go_wp2_with (go_at_call 38; (with_reducible refine (hb _).mono ?_); rintro e w1 ⟨rfl, hb1⟩)
  go_ret
  exact ⟨rfl, hb1⟩
theorem or64 (k : Nat) (a b : Int) (ha : a % ((2 ^ k : Nat) : Int) = 0) (hb0 : 0 ≤ b) (hb : b < ((2 ^ k : Nat) : Int)) (hk : k ≤ 62) (h0 : -9223372036854775808 ≤ a) (h1 : a + b < 9223372036854775808) : bits .or .i64 a b = a + b := by
  obtain ⟨B, rfl⟩ := Int.eq_ofNat_of_zero_le hb0
  have hB : B < 2 ^ k := Int.ofNat_lt.1 hb
  have hk2 : 2 ^ k ≤ 2 ^ 62 := Nat.pow_le_pow_right (by omega) hk
  obtain ⟨A, hA⟩ : ∃ A : Nat, (A : Int) = a % 18446744073709551616 := ⟨(a % 18446744073709551616).toNat, by omega⟩
  have hd : ((2 ^ k : Nat) : Int) ∣ 18446744073709551616 := ⟨((2 ^ (64 - k) : Nat) : Int), by rw [← Int.natCast_mul, ← Nat.pow_add, show k + (64 - k) = 64 by omega]; rfl⟩
  have hm : A % 2 ^ k = 0 := by
    have e : ((A % 2 ^ k : Nat) : Int) = 0 := by rw [Int.natCast_emod, hA, Int.emod_emod_of_dvd a hd, ha]
    omega
  show IntKind.i64.wrap ((BitVec.ofInt 64 a ||| BitVec.ofInt 64 (B : Int)).toNat : Int) = _
  rw [BitVec.toNat_or, BitVec.toNat_ofInt, BitVec.toNat_ofInt]
  have e1 : (a % ((2 ^ 64 : Nat) : Int)).toNat = A := by
    show (a % 18446744073709551616).toNat = A
    omega
  have e2 : ((B : Int) % ((2 ^ 64 : Nat) : Int)).toNat = B := by
    show ((B : Int) % 18446744073709551616).toNat = B
    omega
  rw [e1, e2, nat_join k A B hm hB, IntKind.wrap_i64]
  omega
theorem or64k (k K : Nat) (a b : Int) (hK : K = 2 ^ k) (ha : a % (K : Int) = 0) (hb0 : 0 ≤ b) (hb : b < (K : Int)) (hk : k ≤ 62) (h0 : -9223372036854775808 ≤ a) (h1 : a + b < 9223372036854775808) : bits .or .i64 a b = a + b := by
  subst hK; exact or64 k a b ha hb0 hb hk h0 h1
theorem andb5 (a : Int) : bits .and .i64 a 32 = a / 32 % 2 * 32 := by
  obtain ⟨A, hA⟩ : ∃ A : Nat, (A : Int) = a % 18446744073709551616 := ⟨(a % 18446744073709551616).toNat, by omega⟩
  show IntKind.i64.wrap ((BitVec.ofInt 64 a &&& BitVec.ofInt 64 32).toNat : Int) = _
  have h32 : (BitVec.ofInt 64 32).toNat = 2 ^ 5 := by decide
  rw [BitVec.toNat_and, h32, BitVec.toNat_ofInt]
  have e1 : (a % ((2 ^ 64 : Nat) : Int)).toNat = A := by
    show (a % 18446744073709551616).toNat = A
    omega
  rw [e1, nat_bit, IntKind.wrap_i64]
  omega
theorem sgn_w (v : Nat) (hv : v < 4294967296) : wrap64 (wrap32 (v : Int)) = sgn v := by unfold sgn wrap64 wrap32; split <;> omega
theorem sgn_b (v : Nat) (hv : v < 4294967296) : -2147483648 ≤ sgn v ∧ sgn v < 2147483648 := by unfold sgn; split <;> omega
theorem w_high (x : Int) (h : -2147483648 ≤ x ∧ x < 2147483648) : wrap64 (x / 33554432 * 32) = x / 33554432 * 32 := by unfold wrap64; omega
theorem w_4 (x : Int) (h : -2147483648 ≤ x ∧ x < 2147483648) : wrap64 (x / 4096 * 4096) = x / 4096 * 4096 := by unfold wrap64; omega
theorem w_6 (x : Int) (h : -2147483648 ≤ x ∧ x < 2147483648) : wrap64 (x / 2147483648 * 4096) = x / 2147483648 * 4096 := by unfold wrap64; omega
theorem w_7 (x : Int) (h : -2147483648 ≤ x ∧ x < 2147483648) : wrap64 (x / 2147483648 * 1048576) = x / 2147483648 * 1048576 := by unfold wrap64; omega
theorem fin_2 (v : Nat) (hv : v < 4294967296) : bits .or .i64 (wrap64 (wrap64 (wrap32 ↑v) / 33554432 * 32)) ((v : Int) / 1048576 % 32) = numW 2 v := by
  have hs := sgn_b v hv
  rw [sgn_w v hv, num2, w_high _ hs, or64k 5 32 _ _ (by rfl) (by omega) (by omega) (by omega) (by omega) (by omega) (by omega)]
  omega
theorem fin_3 (v : Nat) (hv : v < 4294967296) : bits .or .i64 (bits .and .i64 (wrap64 (wrap64 (wrap32 ↑v) / 33554432 * 32)) 32) ((v : Int) / 1048576 % 32) = numW 3 v := by
  have hs := sgn_b v hv
  rw [sgn_w v hv, num3, w_high _ hs, andb5, or64k 5 32 _ _ (by rfl) (by omega) (by omega) (by omega) (by omega) (by omega) (by omega)]
  omega
theorem fin_5 (v : Nat) (hv : v < 4294967296) : bits .or .i64 (wrap64 (wrap64 (wrap32 ↑v) / 33554432 * 32)) ((v : Int) / 128 % 32) = numW 5 v := by
  have hs := sgn_b v hv
  rw [sgn_w v hv, num5, w_high _ hs, or64k 5 32 _ _ (by rfl) (by omega) (by omega) (by omega) (by omega) (by omega) (by omega)]
  omega
theorem fin_6 (v : Nat) (hv : v < 4294967296) : bits .or .i64 (bits .or .i64 (bits .or .i64 (wrap64 (wrap64 (wrap32 ↑v) / 2147483648 * 4096)) ((v : Int) / 128 % 2 * 2048)) ((v : Int) / 33554432 % 64 * 32)) ((v : Int) / 256 % 16 * 2) = numW 6 v := by
  have hs := sgn_b v hv
  rw [sgn_w v hv, num6, w_6 _ hs]
  generalize sgn v = x at *
  have b1 : 0 ≤ (v : Int) / 128 % 2 ∧ (v : Int) / 128 % 2 < 2 := by omega
  have b2 : 0 ≤ (v : Int) / 33554432 % 64 ∧ (v : Int) / 33554432 % 64 < 64 := by omega
  have b3 : 0 ≤ (v : Int) / 256 % 16 ∧ (v : Int) / 256 % 16 < 16 := by omega
  have c1 : ((v / 128 % 2 * 2048 : Nat) : Int) = (v : Int) / 128 % 2 * 2048 := by omega
  have c2 : ((v / 33554432 % 64 * 32 : Nat) : Int) = (v : Int) / 33554432 % 64 * 32 := by omega
  have c3 : ((v / 256 % 16 * 2 : Nat) : Int) = (v : Int) / 256 % 16 * 2 := by omega
  rw [c1, c2, c3]
  clear c1 c2 c3
  generalize (v : Int) / 128 % 2 = y1 at *
  generalize (v : Int) / 33554432 % 64 = y2 at *
  generalize (v : Int) / 256 % 16 = y3 at *
  rw [or64k 12 4096 (x / 2147483648 * 4096) (y1 * 2048) (by rfl) (by omega) (by omega) (by omega) (by omega) (by omega) (by omega),
    or64k 11 2048 _ (y2 * 32) (by rfl) (by omega) (by omega) (by omega) (by omega) (by omega) (by omega),
    or64k 5 32 _ (y3 * 2) (by rfl) (by omega) (by omega) (by omega) (by omega) (by omega) (by omega)]
set_option maxRecDepth 100000 in
theorem fin_7 (v : Nat) (hv : v < 4294967296) : bits .or .i64 (bits .or .i64 (bits .or .i64 (wrap64 (wrap64 (wrap32 ↑v) / 2147483648 * 1048576)) ((v : Int) / 4096 % 256 * 4096)) ((v : Int) / 1048576 % 2 * 2048)) ((v : Int) / 2097152 % 1024 * 2) = numW 7 v := by
  have hs := sgn_b v hv
  rw [sgn_w v hv, num7, w_7 _ hs]
  generalize sgn v = x at *
  have b1 : 0 ≤ (v : Int) / 4096 % 256 ∧ (v : Int) / 4096 % 256 < 256 := by omega
  have b2 : 0 ≤ (v : Int) / 1048576 % 2 ∧ (v : Int) / 1048576 % 2 < 2 := by omega
  have b3 : 0 ≤ (v : Int) / 2097152 % 1024 ∧ (v : Int) / 2097152 % 1024 < 1024 := by omega
  have c1 : ((v / 4096 % 256 * 4096 : Nat) : Int) = (v : Int) / 4096 % 256 * 4096 := by omega
  have c2 : ((v / 1048576 % 2 * 2048 : Nat) : Int) = (v : Int) / 1048576 % 2 * 2048 := by omega
  have c3 : ((v / 2097152 % 1024 * 2 : Nat) : Int) = (v : Int) / 2097152 % 1024 * 2 := by omega
  rw [c1, c2, c3]
  clear c1 c2 c3
  generalize (v : Int) / 4096 % 256 = y1 at *
  generalize (v : Int) / 1048576 % 2 = y2 at *
  generalize (v : Int) / 2097152 % 1024 = y3 at *
  rw [or64k 20 1048576 (x / 2147483648 * 1048576) (y1 * 4096) (by rfl) (by omega) (by omega) (by omega) (by omega) (by omega) (by omega),
    or64k 12 4096 _ (y2 * 2048) (by rfl) (by omega) (by omega) (by omega) (by omega) (by omega) (by omega),
    or64k 11 2048 _ (y3 * 2) (by rfl) (by omega) (by omega) (by omega) (by omega) (by omega) (by omega)]
theorem fin_4 (v : Nat) (hv : v < 4294967296) : wrap64 (wrap64 (wrap32 ↑v) / 4096 * 4096) = numW 4 v := by
  have hs := sgn_b v hv
  rw [sgn_w v hv, num4, w_4 _ hs]
theorem ret_i64 {a b : Int} (h : a = b) : Ending.returned (.int .i64 a) = .returned (.int .i64 b) := by rw [h]
theorem part_l (v a n t g r : Nat) (hr : v / 2 ^ a % 2 ^ n * 2 ^ t = r) (hv : v < 4294967296) (ha : a < 32) (hn : n < 32) (hnt : n + t ≤ 62) (w : World) (hc : w.cell? ⟨g, 0, none⟩ = some (.int .u32 v)) :
    Calls Tryd.prog 57 #[.int .i64 a, .int .i64 n, .int .i64 t, .pointer (some ⟨g, 0, none⟩)] w fun e w' => e = .returned (.int .i64 (r : Nat)) ∧ Below w.heap.size w w' := by
  subst hr; exact part_any v a n t g hv ha hn hnt w hc
set_option maxHeartbeats 1000000 in
theorem dnum_2 (v : Nat) (hv : v < 4294967296) (w : World) :
    Calls Tryd.prog 47 #[.int .u8 2, .int .u32 v] w fun e w' => e = .returned (.int .i64 (numW 2 v)) ∧ Below w.heap.size w w' := by
  obtain ⟨g, hg⟩ : ∃ g, w.heap.size = g := ⟨_, rfl⟩
  have p0 : ∀ w', w'.cell? ⟨g, 0, none⟩ = some (.int .u32 v) → Calls Tryd.prog 57 #[.int .i64 20, .int .i64 5, .int .i64 0, .pointer (some ⟨g, 0, none⟩)] w' fun e w'' => e = .returned (.int .i64 (v / 1048576 % 32 : Nat)) ∧ Below w'.heap.size w' w'' := fun w' hc => part_l v 20 5 0 g _ (by simp) hv (by omega) (by omega) (by omega) w' hc
  go_enter Tryd.func47, Tryd.ntmps47
  go_wp2_with (go_at_call 57; first | ((with_reducible refine (p0 _ ?hc0).mono ?_); (case hc0 => (rw [← hg]; simp)); (rintro e w0 ⟨rfl, hb0⟩); have q0 : w0.cell? ⟨g, 0, none⟩ = some (.int .u32 v) := (bk hb0 (by rw [← hg]; simp))))
  go_ret
  exact ⟨ret_i64 (by exact fin_2 v hv), (below_trans' ((Below.refl _ _).alloc (Nat.le_refl _) _) (Nat.le_refl _) hb0)⟩
set_option maxHeartbeats 1000000 in
theorem dnum_3 (v : Nat) (hv : v < 4294967296) (w : World) :
    Calls Tryd.prog 47 #[.int .u8 3, .int .u32 v] w fun e w' => e = .returned (.int .i64 (numW 3 v)) ∧ Below w.heap.size w w' := by
  obtain ⟨g, hg⟩ : ∃ g, w.heap.size = g := ⟨_, rfl⟩
  have p0 : ∀ w', w'.cell? ⟨g, 0, none⟩ = some (.int .u32 v) → Calls Tryd.prog 57 #[.int .i64 20, .int .i64 5, .int .i64 0, .pointer (some ⟨g, 0, none⟩)] w' fun e w'' => e = .returned (.int .i64 (v / 1048576 % 32 : Nat)) ∧ Below w'.heap.size w' w'' := fun w' hc => part_l v 20 5 0 g _ (by simp) hv (by omega) (by omega) (by omega) w' hc
  go_enter Tryd.func47, Tryd.ntmps47
  go_wp2_with (go_at_call 57; first | ((with_reducible refine (p0 _ ?hc0).mono ?_); (case hc0 => (rw [← hg]; simp)); (rintro e w0 ⟨rfl, hb0⟩); have q0 : w0.cell? ⟨g, 0, none⟩ = some (.int .u32 v) := (bk hb0 (by rw [← hg]; simp))))
  go_ret
  exact ⟨ret_i64 (by exact fin_3 v hv), (below_trans' ((Below.refl _ _).alloc (Nat.le_refl _) _) (Nat.le_refl _) hb0)⟩
set_option maxHeartbeats 1000000 in
theorem dnum_5 (v : Nat) (hv : v < 4294967296) (w : World) :
    Calls Tryd.prog 47 #[.int .u8 5, .int .u32 v] w fun e w' => e = .returned (.int .i64 (numW 5 v)) ∧ Below w.heap.size w w' := by
  obtain ⟨g, hg⟩ : ∃ g, w.heap.size = g := ⟨_, rfl⟩
  have p0 : ∀ w', w'.cell? ⟨g, 0, none⟩ = some (.int .u32 v) → Calls Tryd.prog 57 #[.int .i64 7, .int .i64 5, .int .i64 0, .pointer (some ⟨g, 0, none⟩)] w' fun e w'' => e = .returned (.int .i64 (v / 128 % 32 : Nat)) ∧ Below w'.heap.size w' w'' := fun w' hc => part_l v 7 5 0 g _ (by simp) hv (by omega) (by omega) (by omega) w' hc
  go_enter Tryd.func47, Tryd.ntmps47
  go_wp2_with (go_at_call 57; first | ((with_reducible refine (p0 _ ?hc0).mono ?_); (case hc0 => (rw [← hg]; simp)); (rintro e w0 ⟨rfl, hb0⟩); have q0 : w0.cell? ⟨g, 0, none⟩ = some (.int .u32 v) := (bk hb0 (by rw [← hg]; simp))))
  go_ret
  exact ⟨ret_i64 (by exact fin_5 v hv), (below_trans' ((Below.refl _ _).alloc (Nat.le_refl _) _) (Nat.le_refl _) hb0)⟩
set_option maxHeartbeats 1000000 in
theorem dnum_6 (v : Nat) (hv : v < 4294967296) (w : World) :
    Calls Tryd.prog 47 #[.int .u8 6, .int .u32 v] w fun e w' => e = .returned (.int .i64 (numW 6 v)) ∧ Below w.heap.size w w' := by
  obtain ⟨g, hg⟩ : ∃ g, w.heap.size = g := ⟨_, rfl⟩
  have p0 : ∀ w', w'.cell? ⟨g, 0, none⟩ = some (.int .u32 v) → Calls Tryd.prog 57 #[.int .i64 7, .int .i64 1, .int .i64 11, .pointer (some ⟨g, 0, none⟩)] w' fun e w'' => e = .returned (.int .i64 (v / 128 % 2 * 2048 : Nat)) ∧ Below w'.heap.size w' w'' := fun w' hc => part_l v 7 1 11 g _ (by simp) hv (by omega) (by omega) (by omega) w' hc
  have p1 : ∀ w', w'.cell? ⟨g, 0, none⟩ = some (.int .u32 v) → Calls Tryd.prog 57 #[.int .i64 25, .int .i64 6, .int .i64 5, .pointer (some ⟨g, 0, none⟩)] w' fun e w'' => e = .returned (.int .i64 (v / 33554432 % 64 * 32 : Nat)) ∧ Below w'.heap.size w' w'' := fun w' hc => part_l v 25 6 5 g _ (by simp) hv (by omega) (by omega) (by omega) w' hc
  have p2 : ∀ w', w'.cell? ⟨g, 0, none⟩ = some (.int .u32 v) → Calls Tryd.prog 57 #[.int .i64 8, .int .i64 4, .int .i64 1, .pointer (some ⟨g, 0, none⟩)] w' fun e w'' => e = .returned (.int .i64 (v / 256 % 16 * 2 : Nat)) ∧ Below w'.heap.size w' w'' := fun w' hc => part_l v 8 4 1 g _ (by simp) hv (by omega) (by omega) (by omega) w' hc
  go_enter Tryd.func47, Tryd.ntmps47
  go_wp2_with (go_at_call 57; first | ((with_reducible refine (p0 _ ?hc0).mono ?_); (case hc0 => (rw [← hg]; simp)); (rintro e w0 ⟨rfl, hb0⟩); have q0 : w0.cell? ⟨g, 0, none⟩ = some (.int .u32 v) := (bk hb0 (by rw [← hg]; simp))) | ((with_reducible refine (p1 _ ?hc1).mono ?_); (case hc1 => exact q0); (rintro e w1 ⟨rfl, hb1⟩); have q1 : w1.cell? ⟨g, 0, none⟩ = some (.int .u32 v) := bk hb1 q0) | ((with_reducible refine (p2 _ ?hc2).mono ?_); (case hc2 => exact q1); (rintro e w2 ⟨rfl, hb2⟩); have q2 : w2.cell? ⟨g, 0, none⟩ = some (.int .u32 v) := bk hb2 q1))
  go_ret
  exact ⟨ret_i64 (by exact fin_6 v hv), (below_trans' (below_trans' (below_trans' ((Below.refl _ _).alloc (Nat.le_refl _) _) (Nat.le_refl _) hb0) (Nat.le_refl _) hb1) (Nat.le_refl _) hb2)⟩
set_option maxHeartbeats 1000000 in
theorem dnum_7 (v : Nat) (hv : v < 4294967296) (w : World) :
    Calls Tryd.prog 47 #[.int .u8 7, .int .u32 v] w fun e w' => e = .returned (.int .i64 (numW 7 v)) ∧ Below w.heap.size w w' := by
  obtain ⟨g, hg⟩ : ∃ g, w.heap.size = g := ⟨_, rfl⟩
  have p0 : ∀ w', w'.cell? ⟨g, 0, none⟩ = some (.int .u32 v) → Calls Tryd.prog 57 #[.int .i64 12, .int .i64 8, .int .i64 12, .pointer (some ⟨g, 0, none⟩)] w' fun e w'' => e = .returned (.int .i64 (v / 4096 % 256 * 4096 : Nat)) ∧ Below w'.heap.size w' w'' := fun w' hc => part_l v 12 8 12 g _ (by simp) hv (by omega) (by omega) (by omega) w' hc
  have p1 : ∀ w', w'.cell? ⟨g, 0, none⟩ = some (.int .u32 v) → Calls Tryd.prog 57 #[.int .i64 20, .int .i64 1, .int .i64 11, .pointer (some ⟨g, 0, none⟩)] w' fun e w'' => e = .returned (.int .i64 (v / 1048576 % 2 * 2048 : Nat)) ∧ Below w'.heap.size w' w'' := fun w' hc => part_l v 20 1 11 g _ (by simp) hv (by omega) (by omega) (by omega) w' hc
  have p2 : ∀ w', w'.cell? ⟨g, 0, none⟩ = some (.int .u32 v) → Calls Tryd.prog 57 #[.int .i64 21, .int .i64 10, .int .i64 1, .pointer (some ⟨g, 0, none⟩)] w' fun e w'' => e = .returned (.int .i64 (v / 2097152 % 1024 * 2 : Nat)) ∧ Below w'.heap.size w' w'' := fun w' hc => part_l v 21 10 1 g _ (by simp) hv (by omega) (by omega) (by omega) w' hc
  go_enter Tryd.func47, Tryd.ntmps47
  go_wp2_with (go_at_call 57; first | ((with_reducible refine (p0 _ ?hc0).mono ?_); (case hc0 => (rw [← hg]; simp)); (rintro e w0 ⟨rfl, hb0⟩); have q0 : w0.cell? ⟨g, 0, none⟩ = some (.int .u32 v) := (bk hb0 (by rw [← hg]; simp))) | ((with_reducible refine (p1 _ ?hc1).mono ?_); (case hc1 => exact q0); (rintro e w1 ⟨rfl, hb1⟩); have q1 : w1.cell? ⟨g, 0, none⟩ = some (.int .u32 v) := bk hb1 q0) | ((with_reducible refine (p2 _ ?hc2).mono ?_); (case hc2 => exact q1); (rintro e w2 ⟨rfl, hb2⟩); have q2 : w2.cell? ⟨g, 0, none⟩ = some (.int .u32 v) := bk hb2 q1))
  go_ret
  exact ⟨ret_i64 (by exact fin_7 v hv), (below_trans' (below_trans' (below_trans' ((Below.refl _ _).alloc (Nat.le_refl _) _) (Nat.le_refl _) hb0) (Nat.le_refl _) hb1) (Nat.le_refl _) hb2)⟩
set_option maxHeartbeats 1000000 in
theorem dnum_0 (v : Nat) (hv : v < 4294967296) (w : World) :
    Calls Tryd.prog 47 #[.int .u8 0, .int .u32 v] w fun e w' => e = .returned (.int .i64 (numW 0 v)) ∧ Below w.heap.size w w' := by
  obtain ⟨g, hg⟩ : ∃ g, w.heap.size = g := ⟨_, rfl⟩
  go_enter Tryd.func47, Tryd.ntmps47
  go_wp2
  go_ret
  exact ⟨rfl, ((Below.refl _ _).alloc (Nat.le_refl _) _)⟩
set_option maxHeartbeats 1000000 in
theorem dnum_1 (v : Nat) (hv : v < 4294967296) (w : World) :
    Calls Tryd.prog 47 #[.int .u8 1, .int .u32 v] w fun e w' => e = .returned (.int .i64 (numW 1 v)) ∧ Below w.heap.size w w' := by
  obtain ⟨g, hg⟩ : ∃ g, w.heap.size = g := ⟨_, rfl⟩
  go_enter Tryd.func47, Tryd.ntmps47
  go_wp2
  go_ret
  exact ⟨rfl, ((Below.refl _ _).alloc (Nat.le_refl _) _)⟩
set_option maxHeartbeats 1000000 in
theorem dnum_4 (v : Nat) (hv : v < 4294967296) (w : World) :
    Calls Tryd.prog 47 #[.int .u8 4, .int .u32 v] w fun e w' => e = .returned (.int .i64 (numW 4 v)) ∧ Below w.heap.size w w' := by
  obtain ⟨g, hg⟩ : ∃ g, w.heap.size = g := ⟨_, rfl⟩
  go_enter Tryd.func47, Tryd.ntmps47
  go_wp2
  go_ret
  exact ⟨ret_i64 (by exact fin_4 v hv), ((Below.refl _ _).alloc (Nat.le_refl _) _)⟩
set_option maxHeartbeats 1000000 in
theorem dnum_8 (v : Nat) (hv : v < 4294967296) (w : World) :
    Calls Tryd.prog 47 #[.int .u8 8, .int .u32 v] w fun e w' => e = .returned (.int .i64 (numW 8 v)) ∧ Below w.heap.size w w' := by
  obtain ⟨g, hg⟩ : ∃ g, w.heap.size = g := ⟨_, rfl⟩
  go_enter Tryd.func47, Tryd.ntmps47
  go_wp2
  go_ret
  exact ⟨rfl, ((Below.refl _ _).alloc (Nat.le_refl _) _)⟩
theorem dnum_any (f v : Nat) (hf : f ≤ 8) (hv : v < 4294967296) (w : World) :
    Calls Tryd.prog 47 #[.int .u8 f, .int .u32 v] w fun e w' => e = .returned (.int .i64 (numW f v)) ∧ Below w.heap.size w w' := by
  have hc : f = 0 ∨ f = 1 ∨ f = 2 ∨ f = 3 ∨ f = 4 ∨ f = 5 ∨ f = 6 ∨ f = 7 ∨ f = 8 := by omega
  rcases hc with rfl | rfl | rfl | rfl | rfl | rfl | rfl | rfl | rfl
  · exact dnum_0 v hv w
  · exact dnum_1 v hv w
  · exact dnum_2 v hv w
  · exact dnum_3 v hv w
  · exact dnum_4 v hv w
  · exact dnum_5 v hv w
  · exact dnum_6 v hv w
  · exact dnum_7 v hv w
  · exact dnum_8 v hv w
end Go.Proofs.YtjkagpmepokihaaDoor
