/- Contracts of the document's own answers of layer 3: field, signed. -/
import Derived.Test.YtfaacmcnefbgcaaGreatDoorJd
import Derived.Test.YtfaacmcnefbgcaaGreatDoorQy
import Derived.Test.YtfaacmcnefbgcaaGreatDoorJc
import Derived.Lib.Hide
import Derived.Test.YtfaacmcnefbgcaaGreatDoorDec
import Derived.Test.YtfaacmcnefbgcaaGreatDoorJh
namespace Go.Proofs.YtfaacmcnefbgcaaGreatDoor
open Go.ChangeShapes Go.WideShapes Go.ChangeAt Go.RowKit
set_option linter.unusedVariables false
theorem rfld_any (v a n : Nat) (hv : v < 4294967296) (ha : a < 32) (hn : n < 32) (w : World) :
    Calls Tryz.prog 104 #[.int .u32 v, .int .i64 a, .int .i64 n] w fun e w' => e = .returned (.int .u32 (v / 2 ^ a % 2 ^ n : Nat)) ∧ w = w' := by
  have hd : v / 2 ^ a < 4294967296 := Nat.lt_of_le_of_lt (Nat.div_le_self _ _) hv
  have hp : 0 < 2 ^ n := Nat.pow_pos (by omega)
  have hs : 2 ^ n < 4294967296 := by
    have : 2 ^ n ≤ 2 ^ 31 := Nat.pow_le_pow_right (by omega) (by omega)
    omega
  have hs' : ((2 : Int) ^ n) % 4294967296 = (2 : Int) ^ n := by
    have : ((2 ^ n : Nat) : Int) = (2 : Int) ^ n := by simp
    rw [← this]; omega
  have hne : (((2 : Int) ^ n) == 0) = false := by
    have : ((2 ^ n : Nat) : Int) = (2 : Int) ^ n := by simp
    rw [← this]; simp only [beq_eq_false_iff_ne]; omega
  have hc : ((v / 2 ^ a % 2 ^ n : Nat) : Int) = (v : Int) / 2 ^ a % 2 ^ n := by simp
  have hm : ((v : Int) / 2 ^ a).tmod (2 ^ n) = (v : Int) / 2 ^ a % 2 ^ n := by
    rw [← cast_pow_div]
    exact Int.tmod_eq_emod_of_nonneg (Int.natCast_nonneg _)
  go_enter Tryz.func104, Tryz.ntmps104
  go_wp2
  go_ret
  exact ⟨by rw [hc]; rfl, rfl⟩
/-- A number of so many bits, with its sign. -/
def sgI (m : Int) (n : Nat) : Int := wrap64 ((signv m.toNat n : Nat) : Int)
theorem sgI_val (m : Int) (n : Nat) (h1 : 1 ≤ n) (h2 : n ≤ 32) (h0 : 0 ≤ m) (hm : m < ((2 ^ n : Nat) : Int)) : sgI m n = if m < ((2 ^ (n - 1) : Nat) : Int) then m else m - ((2 ^ n : Nat) : Int) := by
  obtain ⟨k, rfl⟩ := Int.eq_ofNat_of_zero_le h0
  have hk : k < 2 ^ n := Int.ofNat_lt.1 hm
  have hp : 2 ^ n = 2 * 2 ^ (n - 1) := by rw [Nat.mul_comm, ← Nat.pow_succ]; congr 1; omega
  have h32 : 2 ^ n ≤ 4294967296 := pow_le32 h2
  unfold sgI
  rw [Int.toNat_natCast, signv_val k n h1 (by omega), Nat.mod_eq_of_lt hk]
  generalize 2 ^ (n - 1) = q at *
  generalize 2 ^ n = p at *
  unfold wrap64
  split <;> split <;> omega
theorem rsg_any (m : Int) (n : Nat) (h0 : 0 ≤ m) (hm : m < 4294967296) (h1 : 1 ≤ n) (h2 : n ≤ 64) (w : World) :
    Calls Tryz.prog 105 #[.int .u32 m, .int .i64 n] w fun e w' => e = .returned (.int .i64 (sgI m n)) ∧ w = w' := by
  obtain ⟨k, rfl⟩ := Int.eq_ofNat_of_zero_le h0
  have hs := rsign_any k n (by omega) h1 h2
  have e : sgI (k : Int) n = wrap64 ((signv k n : Nat) : Int) := by unfold sgI; rw [Int.toNat_natCast]
  rw [e]
  have hb := signv_lt k n
  generalize signv k n = q at *
  go_enter Tryz.func105, Tryz.ntmps105
  go_wp2_with (go_at_call 123; (with_reducible refine (hs _).mono ?_); rintro e w1 ⟨rfl, rfl⟩)
  go_ret
  exact ⟨rfl, rfl⟩
theorem rsg12 (m : Int) (h0 : 0 ≤ m) (hm : m < 4294967296) (w : World) :
    Calls Tryz.prog 105 #[.int .u32 m, .int .i64 12] w fun e w' => e = .returned (.int .i64 (sgI m 12)) ∧ w = w' := rsg_any m 12 h0 hm (by omega) (by omega) w
theorem sg12 (m : Int) (h0 : 0 ≤ m) (hm : m < 4096) : sgI m 12 = if m < 2048 then m else m - 4096 := sgI_val m 12 (by omega) (by omega) h0 hm
theorem rsg13 (m : Int) (h0 : 0 ≤ m) (hm : m < 4294967296) (w : World) :
    Calls Tryz.prog 105 #[.int .u32 m, .int .i64 13] w fun e w' => e = .returned (.int .i64 (sgI m 13)) ∧ w = w' := rsg_any m 13 h0 hm (by omega) (by omega) w
theorem sg13 (m : Int) (h0 : 0 ≤ m) (hm : m < 8192) : sgI m 13 = if m < 4096 then m else m - 8192 := sgI_val m 13 (by omega) (by omega) h0 hm
theorem rsg21 (m : Int) (h0 : 0 ≤ m) (hm : m < 4294967296) (w : World) :
    Calls Tryz.prog 105 #[.int .u32 m, .int .i64 21] w fun e w' => e = .returned (.int .i64 (sgI m 21)) ∧ w = w' := rsg_any m 21 h0 hm (by omega) (by omega) w
theorem sg21 (m : Int) (h0 : 0 ≤ m) (hm : m < 2097152) : sgI m 21 = if m < 1048576 then m else m - 2097152 := sgI_val m 21 (by omega) (by omega) h0 hm
theorem rsg32 (m : Int) (h0 : 0 ≤ m) (hm : m < 4294967296) (w : World) :
    Calls Tryz.prog 105 #[.int .u32 m, .int .i64 32] w fun e w' => e = .returned (.int .i64 (sgI m 32)) ∧ w = w' := rsg_any m 32 h0 hm (by omega) (by omega) w
theorem sg32 (m : Int) (h0 : 0 ≤ m) (hm : m < 4294967296) : sgI m 32 = if m < 2147483648 then m else m - 4294967296 := sgI_val m 32 (by omega) (by omega) h0 hm
end Go.Proofs.YtfaacmcnefbgcaaGreatDoor

/- Contract of the document's own answer guess of layer 3: what a word would be in a form. -/
namespace Go.Proofs.YtfaacmcnefbgcaaGreatDoor
open Go.ChangeShapes Go.WideShapes Go.ChangeAt Go.RowKit
set_option linter.unusedVariables false
set_option maxRecDepth 100000 in
set_option maxHeartbeats 2000000 in
theorem gs_1 (op v : Nat) (ho : op < 256) (hv : v < 4294967296) (w : World) :
    Calls Tryz.prog 77 #[.int .u8 op, .int .i64 1, .int .u32 v] w fun e w' => e = .returned (.agg (inC (fldF 1 v op))) ∧ Below w.heap.size w w' := by
  obtain ⟨x, hx⟩ : ∃ x, fldF 1 v op = x := ⟨_, rfl⟩
  have o0 : x.op = op := by rw [← hx]; rfl
  have o1 : x.rd = v / 128 % 32 := by rw [← hx]; rfl
  have o2 : x.rs1 = v / 32768 % 32 := by rw [← hx]; rfl
  have o3 : x.rs2 = v / 1048576 % 32 := by rw [← hx]; rfl
  have o4 : x.imm = numW 1 v := by rw [← hx]; rfl
  rw [hx]
  clear hx
  unfold inC
  rw [o0, o1, o2, o3, o4]
  clear o0 o1 o2 o3 o4
  have p0 : ∀ w, Calls Tryz.prog 104 #[.int .u32 v, .int .i64 7, .int .i64 5] w fun e w' => e = .returned (.int .u32 (v / 128 % 32 : Nat)) ∧ w = w' := fun w => by
    have h := rfld_any v 7 5 hv (by omega) (by omega) w
    rw [show v / 2 ^ 7 % 2 ^ 5 = v / 128 % 32 by simp] at h; exact h
  have p1 : ∀ w, Calls Tryz.prog 104 #[.int .u32 v, .int .i64 15, .int .i64 5] w fun e w' => e = .returned (.int .u32 (v / 32768 % 32 : Nat)) ∧ w = w' := fun w => by
    have h := rfld_any v 15 5 hv (by omega) (by omega) w
    rw [show v / 2 ^ 15 % 2 ^ 5 = v / 32768 % 32 by simp] at h; exact h
  have p2 : ∀ w, Calls Tryz.prog 104 #[.int .u32 v, .int .i64 20, .int .i64 5] w fun e w' => e = .returned (.int .u32 (v / 1048576 % 32 : Nat)) ∧ w = w' := fun w => by
    have h := rfld_any v 20 5 hv (by omega) (by omega) w
    rw [show v / 2 ^ 20 % 2 ^ 5 = v / 1048576 % 32 by simp] at h; exact h
  have b0 : v / 128 % 32 < 32 := by omega
  have b1 : v / 32768 % 32 < 32 := by omega
  have b2 : v / 1048576 % 32 < 32 := by omega
  rw [show numW 1 v = 0 from rfl]
  generalize v / 128 % 32 = c0 at *
  generalize v / 32768 % 32 = c1 at *
  generalize v / 1048576 % 32 = c2 at *
  go_enter Tryz.func77, Tryz.ntmps77
  go_wp2_with ((go_at_call 104; first | ((with_reducible refine (p0 _).mono ?_); rintro e w0 ⟨rfl, rfl⟩) | ((with_reducible refine (p1 _).mono ?_); rintro e w1 ⟨rfl, rfl⟩) | ((with_reducible refine (p2 _).mono ?_); rintro e w2 ⟨rfl, rfl⟩)))
  refine bodyPost_ret (res_in rfl _ _ w.heap.size (.int .u8 op) (.int .u8 c0) (.int .u8 c1) (.int .u8 c2) (.int .i64 0) rfl ?_ ?_ ?_ ?_ ?_) rfl ⟨rfl, ?_⟩
  · go_simp
  · go_simp
  · go_simp
  · go_simp
  · go_simp
  · exact ((Below.refl _ _).alloc (Nat.le_refl _) _).alloc (by simp) _
set_option maxRecDepth 100000 in
set_option maxHeartbeats 2000000 in
theorem gs_2 (op v : Nat) (ho : op < 256) (hv : v < 4294967296) (w : World) :
    Calls Tryz.prog 77 #[.int .u8 op, .int .i64 2, .int .u32 v] w fun e w' => e = .returned (.agg (inC (fldF 2 v op))) ∧ Below w.heap.size w w' := by
  obtain ⟨x, hx⟩ : ∃ x, fldF 2 v op = x := ⟨_, rfl⟩
  have o0 : x.op = op := by rw [← hx]; rfl
  have o1 : x.rd = v / 128 % 32 := by rw [← hx]; rfl
  have o2 : x.rs1 = v / 32768 % 32 := by rw [← hx]; rfl
  have o3 : x.rs2 = 0 := by rw [← hx]; rfl
  have o4 : x.imm = numW 2 v := by rw [← hx]; rfl
  rw [hx]
  clear hx
  unfold inC
  rw [o0, o1, o2, o3, o4]
  clear o0 o1 o2 o3 o4
  have p0 : ∀ w, Calls Tryz.prog 104 #[.int .u32 v, .int .i64 7, .int .i64 5] w fun e w' => e = .returned (.int .u32 (v / 128 % 32 : Nat)) ∧ w = w' := fun w => by
    have h := rfld_any v 7 5 hv (by omega) (by omega) w
    rw [show v / 2 ^ 7 % 2 ^ 5 = v / 128 % 32 by simp] at h; exact h
  have p1 : ∀ w, Calls Tryz.prog 104 #[.int .u32 v, .int .i64 15, .int .i64 5] w fun e w' => e = .returned (.int .u32 (v / 32768 % 32 : Nat)) ∧ w = w' := fun w => by
    have h := rfld_any v 15 5 hv (by omega) (by omega) w
    rw [show v / 2 ^ 15 % 2 ^ 5 = v / 32768 % 32 by simp] at h; exact h
  have p2 : ∀ w, Calls Tryz.prog 104 #[.int .u32 v, .int .i64 20, .int .i64 5] w fun e w' => e = .returned (.int .u32 (v / 1048576 % 32 : Nat)) ∧ w = w' := fun w => by
    have h := rfld_any v 20 5 hv (by omega) (by omega) w
    rw [show v / 2 ^ 20 % 2 ^ 5 = v / 1048576 % 32 by simp] at h; exact h
  have p3 : ∀ w, Calls Tryz.prog 104 #[.int .u32 v, .int .i64 20, .int .i64 12] w fun e w' => e = .returned (.int .u32 (v / 1048576 % 4096 : Nat)) ∧ w = w' := fun w => by
    have h := rfld_any v 20 12 hv (by omega) (by omega) w
    rw [show v / 2 ^ 20 % 2 ^ 12 = v / 1048576 % 4096 by simp] at h; exact h
  have b0 : v / 128 % 32 < 32 := by omega
  have b1 : v / 32768 % 32 < 32 := by omega
  have b2 : v / 1048576 % 32 < 32 := by omega
  have b3 : v / 1048576 % 4096 < 4096 := by omega
  obtain ⟨nm, hnm⟩ : ∃ z, numW 2 v = z := ⟨_, rfl⟩
  rw [hnm]
  have hfin : sgI (((v / 1048576 % 4096 : Nat) : Int)) 12 = nm := by
    rw [← hnm, num2, sg12 _ (by omega) (by omega)]
    unfold sgn
    split <;> split <;> omega
  generalize v / 128 % 32 = c0 at *
  generalize v / 32768 % 32 = c1 at *
  generalize v / 1048576 % 32 = c2 at *
  generalize v / 1048576 % 4096 = c3 at *
  go_enter Tryz.func77, Tryz.ntmps77
  go_wp2_with (first | (go_at_call 104; first | ((with_reducible refine (p0 _).mono ?_); rintro e w0 ⟨rfl, rfl⟩) | ((with_reducible refine (p1 _).mono ?_); rintro e w1 ⟨rfl, rfl⟩) | ((with_reducible refine (p2 _).mono ?_); rintro e w2 ⟨rfl, rfl⟩) | ((with_reducible refine (p3 _).mono ?_); rintro e w3 ⟨rfl, rfl⟩)) | (go_at_call 105; (with_reducible refine (rsg12 _ ?qa ?qb _).mono ?_); (case qa => omega); (case qb => omega); rintro e w9 ⟨rfl, rfl⟩))
  refine bodyPost_ret (res_in rfl _ _ w.heap.size (.int .u8 op) (.int .u8 c0) (.int .u8 c1) (.int .u8 0) (.int .i64 nm) rfl ?_ ?_ ?_ ?_ ?_) rfl ⟨rfl, ?_⟩
  · go_simp
  · go_simp
  · go_simp
  · go_simp
  · go_simp
  · exact ((Below.refl _ _).alloc (Nat.le_refl _) _).alloc (by simp) _
set_option maxRecDepth 100000 in
set_option maxHeartbeats 2000000 in
theorem gs_3 (op v : Nat) (ho : op < 256) (hv : v < 4294967296) (w : World) :
    Calls Tryz.prog 77 #[.int .u8 op, .int .i64 3, .int .u32 v] w fun e w' => e = .returned (.agg (inC (fldF 3 v op))) ∧ Below w.heap.size w w' := by
  obtain ⟨x, hx⟩ : ∃ x, fldF 3 v op = x := ⟨_, rfl⟩
  have o0 : x.op = op := by rw [← hx]; rfl
  have o1 : x.rd = v / 128 % 32 := by rw [← hx]; rfl
  have o2 : x.rs1 = v / 32768 % 32 := by rw [← hx]; rfl
  have o3 : x.rs2 = 0 := by rw [← hx]; rfl
  have o4 : x.imm = numW 3 v := by rw [← hx]; rfl
  rw [hx]
  clear hx
  unfold inC
  rw [o0, o1, o2, o3, o4]
  clear o0 o1 o2 o3 o4
  have p0 : ∀ w, Calls Tryz.prog 104 #[.int .u32 v, .int .i64 7, .int .i64 5] w fun e w' => e = .returned (.int .u32 (v / 128 % 32 : Nat)) ∧ w = w' := fun w => by
    have h := rfld_any v 7 5 hv (by omega) (by omega) w
    rw [show v / 2 ^ 7 % 2 ^ 5 = v / 128 % 32 by simp] at h; exact h
  have p1 : ∀ w, Calls Tryz.prog 104 #[.int .u32 v, .int .i64 15, .int .i64 5] w fun e w' => e = .returned (.int .u32 (v / 32768 % 32 : Nat)) ∧ w = w' := fun w => by
    have h := rfld_any v 15 5 hv (by omega) (by omega) w
    rw [show v / 2 ^ 15 % 2 ^ 5 = v / 32768 % 32 by simp] at h; exact h
  have p2 : ∀ w, Calls Tryz.prog 104 #[.int .u32 v, .int .i64 20, .int .i64 5] w fun e w' => e = .returned (.int .u32 (v / 1048576 % 32 : Nat)) ∧ w = w' := fun w => by
    have h := rfld_any v 20 5 hv (by omega) (by omega) w
    rw [show v / 2 ^ 20 % 2 ^ 5 = v / 1048576 % 32 by simp] at h; exact h
  have p3 : ∀ w, Calls Tryz.prog 104 #[.int .u32 v, .int .i64 20, .int .i64 6] w fun e w' => e = .returned (.int .u32 (v / 1048576 % 64 : Nat)) ∧ w = w' := fun w => by
    have h := rfld_any v 20 6 hv (by omega) (by omega) w
    rw [show v / 2 ^ 20 % 2 ^ 6 = v / 1048576 % 64 by simp] at h; exact h
  have b0 : v / 128 % 32 < 32 := by omega
  have b1 : v / 32768 % 32 < 32 := by omega
  have b2 : v / 1048576 % 32 < 32 := by omega
  have b3 : v / 1048576 % 64 < 64 := by omega
  obtain ⟨nm, hnm⟩ : ∃ z, numW 3 v = z := ⟨_, rfl⟩
  rw [hnm]
  have hfin : ((v / 1048576 % 64 : Nat) : Int) = nm := by
    rw [← hnm, num3]
    have e1 : sgn v / 33554432 % 2 = ((v / 33554432 % 2 : Nat) : Int) := by unfold sgn; split <;> omega
    rw [e1]
    omega
  generalize v / 128 % 32 = c0 at *
  generalize v / 32768 % 32 = c1 at *
  generalize v / 1048576 % 32 = c2 at *
  generalize v / 1048576 % 64 = c3 at *
  go_enter Tryz.func77, Tryz.ntmps77
  go_wp2_with ((go_at_call 104; first | ((with_reducible refine (p0 _).mono ?_); rintro e w0 ⟨rfl, rfl⟩) | ((with_reducible refine (p1 _).mono ?_); rintro e w1 ⟨rfl, rfl⟩) | ((with_reducible refine (p2 _).mono ?_); rintro e w2 ⟨rfl, rfl⟩) | ((with_reducible refine (p3 _).mono ?_); rintro e w3 ⟨rfl, rfl⟩)))
  refine bodyPost_ret (res_in rfl _ _ w.heap.size (.int .u8 op) (.int .u8 c0) (.int .u8 c1) (.int .u8 0) (.int .i64 nm) rfl ?_ ?_ ?_ ?_ ?_) rfl ⟨rfl, ?_⟩
  · go_simp
  · go_simp
  · go_simp
  · go_simp
  · go_simp
  · exact ((Below.refl _ _).alloc (Nat.le_refl _) _).alloc (by simp) _
set_option maxRecDepth 100000 in
set_option maxHeartbeats 2000000 in
theorem gs_4 (op v : Nat) (ho : op < 256) (hv : v < 4294967296) (w : World) :
    Calls Tryz.prog 77 #[.int .u8 op, .int .i64 4, .int .u32 v] w fun e w' => e = .returned (.agg (inC (fldF 4 v op))) ∧ Below w.heap.size w w' := by
  obtain ⟨x, hx⟩ : ∃ x, fldF 4 v op = x := ⟨_, rfl⟩
  have o0 : x.op = op := by rw [← hx]; rfl
  have o1 : x.rd = v / 128 % 32 := by rw [← hx]; rfl
  have o2 : x.rs1 = 0 := by rw [← hx]; rfl
  have o3 : x.rs2 = 0 := by rw [← hx]; rfl
  have o4 : x.imm = numW 4 v := by rw [← hx]; rfl
  rw [hx]
  clear hx
  unfold inC
  rw [o0, o1, o2, o3, o4]
  clear o0 o1 o2 o3 o4
  have p0 : ∀ w, Calls Tryz.prog 104 #[.int .u32 v, .int .i64 7, .int .i64 5] w fun e w' => e = .returned (.int .u32 (v / 128 % 32 : Nat)) ∧ w = w' := fun w => by
    have h := rfld_any v 7 5 hv (by omega) (by omega) w
    rw [show v / 2 ^ 7 % 2 ^ 5 = v / 128 % 32 by simp] at h; exact h
  have p1 : ∀ w, Calls Tryz.prog 104 #[.int .u32 v, .int .i64 15, .int .i64 5] w fun e w' => e = .returned (.int .u32 (v / 32768 % 32 : Nat)) ∧ w = w' := fun w => by
    have h := rfld_any v 15 5 hv (by omega) (by omega) w
    rw [show v / 2 ^ 15 % 2 ^ 5 = v / 32768 % 32 by simp] at h; exact h
  have p2 : ∀ w, Calls Tryz.prog 104 #[.int .u32 v, .int .i64 20, .int .i64 5] w fun e w' => e = .returned (.int .u32 (v / 1048576 % 32 : Nat)) ∧ w = w' := fun w => by
    have h := rfld_any v 20 5 hv (by omega) (by omega) w
    rw [show v / 2 ^ 20 % 2 ^ 5 = v / 1048576 % 32 by simp] at h; exact h
  have p3 : ∀ w, Calls Tryz.prog 104 #[.int .u32 v, .int .i64 12, .int .i64 20] w fun e w' => e = .returned (.int .u32 (v / 4096 % 1048576 : Nat)) ∧ w = w' := fun w => by
    have h := rfld_any v 12 20 hv (by omega) (by omega) w
    rw [show v / 2 ^ 12 % 2 ^ 20 = v / 4096 % 1048576 by simp] at h; exact h
  have b0 : v / 128 % 32 < 32 := by omega
  have b1 : v / 32768 % 32 < 32 := by omega
  have b2 : v / 1048576 % 32 < 32 := by omega
  have b3 : v / 4096 % 1048576 < 1048576 := by omega
  obtain ⟨nm, hnm⟩ : ∃ z, numW 4 v = z := ⟨_, rfl⟩
  rw [hnm]
  have hfin : sgI (((v / 4096 % 1048576 : Nat) : Int) * 4096) 32 = nm := by
    rw [← hnm, num4, sg32 _ (by omega) (by omega)]
    unfold sgn
    split <;> split <;> omega
  generalize v / 128 % 32 = c0 at *
  generalize v / 32768 % 32 = c1 at *
  generalize v / 1048576 % 32 = c2 at *
  generalize v / 4096 % 1048576 = c3 at *
  go_enter Tryz.func77, Tryz.ntmps77
  go_wp2_with (first | (go_at_call 104; first | ((with_reducible refine (p0 _).mono ?_); rintro e w0 ⟨rfl, rfl⟩) | ((with_reducible refine (p1 _).mono ?_); rintro e w1 ⟨rfl, rfl⟩) | ((with_reducible refine (p2 _).mono ?_); rintro e w2 ⟨rfl, rfl⟩) | ((with_reducible refine (p3 _).mono ?_); rintro e w3 ⟨rfl, rfl⟩)) | (go_at_call 105; (with_reducible refine (rsg32 _ ?qa ?qb _).mono ?_); (case qa => omega); (case qb => omega); rintro e w9 ⟨rfl, rfl⟩))
  refine bodyPost_ret (res_in rfl _ _ w.heap.size (.int .u8 op) (.int .u8 c0) (.int .u8 0) (.int .u8 0) (.int .i64 nm) rfl ?_ ?_ ?_ ?_ ?_) rfl ⟨rfl, ?_⟩
  · go_simp
  · go_simp
  · go_simp
  · go_simp
  · go_simp
  · exact ((Below.refl _ _).alloc (Nat.le_refl _) _).alloc (by simp) _
set_option maxRecDepth 100000 in
set_option maxHeartbeats 2000000 in
theorem gs_5 (op v : Nat) (ho : op < 256) (hv : v < 4294967296) (w : World) :
    Calls Tryz.prog 77 #[.int .u8 op, .int .i64 5, .int .u32 v] w fun e w' => e = .returned (.agg (inC (fldF 5 v op))) ∧ Below w.heap.size w w' := by
  obtain ⟨x, hx⟩ : ∃ x, fldF 5 v op = x := ⟨_, rfl⟩
  have o0 : x.op = op := by rw [← hx]; rfl
  have o1 : x.rd = 0 := by rw [← hx]; rfl
  have o2 : x.rs1 = v / 32768 % 32 := by rw [← hx]; rfl
  have o3 : x.rs2 = v / 1048576 % 32 := by rw [← hx]; rfl
  have o4 : x.imm = numW 5 v := by rw [← hx]; rfl
  rw [hx]
  clear hx
  unfold inC
  rw [o0, o1, o2, o3, o4]
  clear o0 o1 o2 o3 o4
  have p0 : ∀ w, Calls Tryz.prog 104 #[.int .u32 v, .int .i64 7, .int .i64 5] w fun e w' => e = .returned (.int .u32 (v / 128 % 32 : Nat)) ∧ w = w' := fun w => by
    have h := rfld_any v 7 5 hv (by omega) (by omega) w
    rw [show v / 2 ^ 7 % 2 ^ 5 = v / 128 % 32 by simp] at h; exact h
  have p1 : ∀ w, Calls Tryz.prog 104 #[.int .u32 v, .int .i64 15, .int .i64 5] w fun e w' => e = .returned (.int .u32 (v / 32768 % 32 : Nat)) ∧ w = w' := fun w => by
    have h := rfld_any v 15 5 hv (by omega) (by omega) w
    rw [show v / 2 ^ 15 % 2 ^ 5 = v / 32768 % 32 by simp] at h; exact h
  have p2 : ∀ w, Calls Tryz.prog 104 #[.int .u32 v, .int .i64 20, .int .i64 5] w fun e w' => e = .returned (.int .u32 (v / 1048576 % 32 : Nat)) ∧ w = w' := fun w => by
    have h := rfld_any v 20 5 hv (by omega) (by omega) w
    rw [show v / 2 ^ 20 % 2 ^ 5 = v / 1048576 % 32 by simp] at h; exact h
  have p3 : ∀ w, Calls Tryz.prog 104 #[.int .u32 v, .int .i64 25, .int .i64 7] w fun e w' => e = .returned (.int .u32 (v / 33554432 % 128 : Nat)) ∧ w = w' := fun w => by
    have h := rfld_any v 25 7 hv (by omega) (by omega) w
    rw [show v / 2 ^ 25 % 2 ^ 7 = v / 33554432 % 128 by simp] at h; exact h
  have b0 : v / 128 % 32 < 32 := by omega
  have b1 : v / 32768 % 32 < 32 := by omega
  have b2 : v / 1048576 % 32 < 32 := by omega
  have b3 : v / 33554432 % 128 < 128 := by omega
  obtain ⟨nm, hnm⟩ : ∃ z, numW 5 v = z := ⟨_, rfl⟩
  rw [hnm]
  have hfin : sgI (((v / 128 % 32 : Nat) : Int) + ((v / 33554432 % 128 : Nat) : Int) * 32) 12 = nm := by
    rw [← hnm, num5, sg12 _ (by omega) (by omega)]
    unfold sgn
    split <;> split <;> omega
  generalize v / 128 % 32 = c0 at *
  generalize v / 32768 % 32 = c1 at *
  generalize v / 1048576 % 32 = c2 at *
  generalize v / 33554432 % 128 = c3 at *
  go_enter Tryz.func77, Tryz.ntmps77
  go_wp2_with (first | (go_at_call 104; first | ((with_reducible refine (p0 _).mono ?_); rintro e w0 ⟨rfl, rfl⟩) | ((with_reducible refine (p1 _).mono ?_); rintro e w1 ⟨rfl, rfl⟩) | ((with_reducible refine (p2 _).mono ?_); rintro e w2 ⟨rfl, rfl⟩) | ((with_reducible refine (p3 _).mono ?_); rintro e w3 ⟨rfl, rfl⟩)) | (go_at_call 105; (with_reducible refine (rsg12 _ ?qa ?qb _).mono ?_); (case qa => omega); (case qb => omega); rintro e w9 ⟨rfl, rfl⟩))
  refine bodyPost_ret (res_in rfl _ _ w.heap.size (.int .u8 op) (.int .u8 0) (.int .u8 c1) (.int .u8 c2) (.int .i64 nm) rfl ?_ ?_ ?_ ?_ ?_) rfl ⟨rfl, ?_⟩
  · go_simp
  · go_simp
  · go_simp
  · go_simp
  · go_simp
  · exact ((Below.refl _ _).alloc (Nat.le_refl _) _).alloc (by simp) _
set_option maxRecDepth 100000 in
set_option maxHeartbeats 2000000 in
theorem gs_6 (op v : Nat) (ho : op < 256) (hv : v < 4294967296) (w : World) :
    Calls Tryz.prog 77 #[.int .u8 op, .int .i64 6, .int .u32 v] w fun e w' => e = .returned (.agg (inC (fldF 6 v op))) ∧ Below w.heap.size w w' := by
  obtain ⟨x, hx⟩ : ∃ x, fldF 6 v op = x := ⟨_, rfl⟩
  have o0 : x.op = op := by rw [← hx]; rfl
  have o1 : x.rd = 0 := by rw [← hx]; rfl
  have o2 : x.rs1 = v / 32768 % 32 := by rw [← hx]; rfl
  have o3 : x.rs2 = v / 1048576 % 32 := by rw [← hx]; rfl
  have o4 : x.imm = numW 6 v := by rw [← hx]; rfl
  rw [hx]
  clear hx
  unfold inC
  rw [o0, o1, o2, o3, o4]
  clear o0 o1 o2 o3 o4
  have p0 : ∀ w, Calls Tryz.prog 104 #[.int .u32 v, .int .i64 7, .int .i64 5] w fun e w' => e = .returned (.int .u32 (v / 128 % 32 : Nat)) ∧ w = w' := fun w => by
    have h := rfld_any v 7 5 hv (by omega) (by omega) w
    rw [show v / 2 ^ 7 % 2 ^ 5 = v / 128 % 32 by simp] at h; exact h
  have p1 : ∀ w, Calls Tryz.prog 104 #[.int .u32 v, .int .i64 15, .int .i64 5] w fun e w' => e = .returned (.int .u32 (v / 32768 % 32 : Nat)) ∧ w = w' := fun w => by
    have h := rfld_any v 15 5 hv (by omega) (by omega) w
    rw [show v / 2 ^ 15 % 2 ^ 5 = v / 32768 % 32 by simp] at h; exact h
  have p2 : ∀ w, Calls Tryz.prog 104 #[.int .u32 v, .int .i64 20, .int .i64 5] w fun e w' => e = .returned (.int .u32 (v / 1048576 % 32 : Nat)) ∧ w = w' := fun w => by
    have h := rfld_any v 20 5 hv (by omega) (by omega) w
    rw [show v / 2 ^ 20 % 2 ^ 5 = v / 1048576 % 32 by simp] at h; exact h
  have p3 : ∀ w, Calls Tryz.prog 104 #[.int .u32 v, .int .i64 8, .int .i64 4] w fun e w' => e = .returned (.int .u32 (v / 256 % 16 : Nat)) ∧ w = w' := fun w => by
    have h := rfld_any v 8 4 hv (by omega) (by omega) w
    rw [show v / 2 ^ 8 % 2 ^ 4 = v / 256 % 16 by simp] at h; exact h
  have p4 : ∀ w, Calls Tryz.prog 104 #[.int .u32 v, .int .i64 25, .int .i64 6] w fun e w' => e = .returned (.int .u32 (v / 33554432 % 64 : Nat)) ∧ w = w' := fun w => by
    have h := rfld_any v 25 6 hv (by omega) (by omega) w
    rw [show v / 2 ^ 25 % 2 ^ 6 = v / 33554432 % 64 by simp] at h; exact h
  have p5 : ∀ w, Calls Tryz.prog 104 #[.int .u32 v, .int .i64 7, .int .i64 1] w fun e w' => e = .returned (.int .u32 (v / 128 % 2 : Nat)) ∧ w = w' := fun w => by
    have h := rfld_any v 7 1 hv (by omega) (by omega) w
    rw [show v / 2 ^ 7 % 2 ^ 1 = v / 128 % 2 by simp] at h; exact h
  have p6 : ∀ w, Calls Tryz.prog 104 #[.int .u32 v, .int .i64 31, .int .i64 1] w fun e w' => e = .returned (.int .u32 (v / 2147483648 % 2 : Nat)) ∧ w = w' := fun w => by
    have h := rfld_any v 31 1 hv (by omega) (by omega) w
    rw [show v / 2 ^ 31 % 2 ^ 1 = v / 2147483648 % 2 by simp] at h; exact h
  have b0 : v / 128 % 32 < 32 := by omega
  have b1 : v / 32768 % 32 < 32 := by omega
  have b2 : v / 1048576 % 32 < 32 := by omega
  have b3 : v / 256 % 16 < 16 := by omega
  have b4 : v / 33554432 % 64 < 64 := by omega
  have b5 : v / 128 % 2 < 2 := by omega
  have b6 : v / 2147483648 % 2 < 2 := by omega
  obtain ⟨nm, hnm⟩ : ∃ z, numW 6 v = z := ⟨_, rfl⟩
  rw [hnm]
  have hfin : sgI (((v / 256 % 16 : Nat) : Int) * 2 + ((v / 33554432 % 64 : Nat) : Int) * 32 + ((v / 128 % 2 : Nat) : Int) * 2048 + ((v / 2147483648 % 2 : Nat) : Int) * 4096) 13 = nm := by
    rw [← hnm, num6, sg13 _ (by omega) (by omega)]
    unfold sgn
    split <;> split <;> omega
  generalize v / 128 % 32 = c0 at *
  generalize v / 32768 % 32 = c1 at *
  generalize v / 1048576 % 32 = c2 at *
  generalize v / 256 % 16 = c3 at *
  generalize v / 33554432 % 64 = c4 at *
  generalize v / 128 % 2 = c5 at *
  generalize v / 2147483648 % 2 = c6 at *
  go_enter Tryz.func77, Tryz.ntmps77
  go_wp2_with (first | (go_at_call 104; first | ((with_reducible refine (p0 _).mono ?_); rintro e w0 ⟨rfl, rfl⟩) | ((with_reducible refine (p1 _).mono ?_); rintro e w1 ⟨rfl, rfl⟩) | ((with_reducible refine (p2 _).mono ?_); rintro e w2 ⟨rfl, rfl⟩) | ((with_reducible refine (p3 _).mono ?_); rintro e w3 ⟨rfl, rfl⟩) | ((with_reducible refine (p4 _).mono ?_); rintro e w4 ⟨rfl, rfl⟩) | ((with_reducible refine (p5 _).mono ?_); rintro e w5 ⟨rfl, rfl⟩) | ((with_reducible refine (p6 _).mono ?_); rintro e w6 ⟨rfl, rfl⟩)) | (go_at_call 105; (with_reducible refine (rsg13 _ ?qa ?qb _).mono ?_); (case qa => omega); (case qb => omega); rintro e w9 ⟨rfl, rfl⟩))
  refine bodyPost_ret (res_in rfl _ _ w.heap.size (.int .u8 op) (.int .u8 0) (.int .u8 c1) (.int .u8 c2) (.int .i64 nm) rfl ?_ ?_ ?_ ?_ ?_) rfl ⟨rfl, ?_⟩
  · go_simp
  · go_simp
  · go_simp
  · go_simp
  · go_simp
  · exact ((Below.refl _ _).alloc (Nat.le_refl _) _).alloc (by simp) _
set_option maxRecDepth 100000 in
set_option maxHeartbeats 2000000 in
theorem gs_7 (op v : Nat) (ho : op < 256) (hv : v < 4294967296) (w : World) :
    Calls Tryz.prog 77 #[.int .u8 op, .int .i64 7, .int .u32 v] w fun e w' => e = .returned (.agg (inC (fldF 7 v op))) ∧ Below w.heap.size w w' := by
  obtain ⟨x, hx⟩ : ∃ x, fldF 7 v op = x := ⟨_, rfl⟩
  have o0 : x.op = op := by rw [← hx]; rfl
  have o1 : x.rd = v / 128 % 32 := by rw [← hx]; rfl
  have o2 : x.rs1 = 0 := by rw [← hx]; rfl
  have o3 : x.rs2 = 0 := by rw [← hx]; rfl
  have o4 : x.imm = numW 7 v := by rw [← hx]; rfl
  rw [hx]
  clear hx
  unfold inC
  rw [o0, o1, o2, o3, o4]
  clear o0 o1 o2 o3 o4
  have p0 : ∀ w, Calls Tryz.prog 104 #[.int .u32 v, .int .i64 7, .int .i64 5] w fun e w' => e = .returned (.int .u32 (v / 128 % 32 : Nat)) ∧ w = w' := fun w => by
    have h := rfld_any v 7 5 hv (by omega) (by omega) w
    rw [show v / 2 ^ 7 % 2 ^ 5 = v / 128 % 32 by simp] at h; exact h
  have p1 : ∀ w, Calls Tryz.prog 104 #[.int .u32 v, .int .i64 15, .int .i64 5] w fun e w' => e = .returned (.int .u32 (v / 32768 % 32 : Nat)) ∧ w = w' := fun w => by
    have h := rfld_any v 15 5 hv (by omega) (by omega) w
    rw [show v / 2 ^ 15 % 2 ^ 5 = v / 32768 % 32 by simp] at h; exact h
  have p2 : ∀ w, Calls Tryz.prog 104 #[.int .u32 v, .int .i64 20, .int .i64 5] w fun e w' => e = .returned (.int .u32 (v / 1048576 % 32 : Nat)) ∧ w = w' := fun w => by
    have h := rfld_any v 20 5 hv (by omega) (by omega) w
    rw [show v / 2 ^ 20 % 2 ^ 5 = v / 1048576 % 32 by simp] at h; exact h
  have p3 : ∀ w, Calls Tryz.prog 104 #[.int .u32 v, .int .i64 21, .int .i64 10] w fun e w' => e = .returned (.int .u32 (v / 2097152 % 1024 : Nat)) ∧ w = w' := fun w => by
    have h := rfld_any v 21 10 hv (by omega) (by omega) w
    rw [show v / 2 ^ 21 % 2 ^ 10 = v / 2097152 % 1024 by simp] at h; exact h
  have p4 : ∀ w, Calls Tryz.prog 104 #[.int .u32 v, .int .i64 20, .int .i64 1] w fun e w' => e = .returned (.int .u32 (v / 1048576 % 2 : Nat)) ∧ w = w' := fun w => by
    have h := rfld_any v 20 1 hv (by omega) (by omega) w
    rw [show v / 2 ^ 20 % 2 ^ 1 = v / 1048576 % 2 by simp] at h; exact h
  have p5 : ∀ w, Calls Tryz.prog 104 #[.int .u32 v, .int .i64 12, .int .i64 8] w fun e w' => e = .returned (.int .u32 (v / 4096 % 256 : Nat)) ∧ w = w' := fun w => by
    have h := rfld_any v 12 8 hv (by omega) (by omega) w
    rw [show v / 2 ^ 12 % 2 ^ 8 = v / 4096 % 256 by simp] at h; exact h
  have p6 : ∀ w, Calls Tryz.prog 104 #[.int .u32 v, .int .i64 31, .int .i64 1] w fun e w' => e = .returned (.int .u32 (v / 2147483648 % 2 : Nat)) ∧ w = w' := fun w => by
    have h := rfld_any v 31 1 hv (by omega) (by omega) w
    rw [show v / 2 ^ 31 % 2 ^ 1 = v / 2147483648 % 2 by simp] at h; exact h
  have b0 : v / 128 % 32 < 32 := by omega
  have b1 : v / 32768 % 32 < 32 := by omega
  have b2 : v / 1048576 % 32 < 32 := by omega
  have b3 : v / 2097152 % 1024 < 1024 := by omega
  have b4 : v / 1048576 % 2 < 2 := by omega
  have b5 : v / 4096 % 256 < 256 := by omega
  have b6 : v / 2147483648 % 2 < 2 := by omega
  obtain ⟨nm, hnm⟩ : ∃ z, numW 7 v = z := ⟨_, rfl⟩
  rw [hnm]
  have hfin : sgI (((v / 2097152 % 1024 : Nat) : Int) * 2 + ((v / 1048576 % 2 : Nat) : Int) * 2048 + ((v / 4096 % 256 : Nat) : Int) * 4096 + ((v / 2147483648 % 2 : Nat) : Int) * 1048576) 21 = nm := by
    rw [← hnm, num7, sg21 _ (by omega) (by omega)]
    unfold sgn
    split <;> split <;> omega
  generalize v / 128 % 32 = c0 at *
  generalize v / 32768 % 32 = c1 at *
  generalize v / 1048576 % 32 = c2 at *
  generalize v / 2097152 % 1024 = c3 at *
  generalize v / 1048576 % 2 = c4 at *
  generalize v / 4096 % 256 = c5 at *
  generalize v / 2147483648 % 2 = c6 at *
  go_enter Tryz.func77, Tryz.ntmps77
  go_wp2_with (first | (go_at_call 104; first | ((with_reducible refine (p0 _).mono ?_); rintro e w0 ⟨rfl, rfl⟩) | ((with_reducible refine (p1 _).mono ?_); rintro e w1 ⟨rfl, rfl⟩) | ((with_reducible refine (p2 _).mono ?_); rintro e w2 ⟨rfl, rfl⟩) | ((with_reducible refine (p3 _).mono ?_); rintro e w3 ⟨rfl, rfl⟩) | ((with_reducible refine (p4 _).mono ?_); rintro e w4 ⟨rfl, rfl⟩) | ((with_reducible refine (p5 _).mono ?_); rintro e w5 ⟨rfl, rfl⟩) | ((with_reducible refine (p6 _).mono ?_); rintro e w6 ⟨rfl, rfl⟩)) | (go_at_call 105; (with_reducible refine (rsg21 _ ?qa ?qb _).mono ?_); (case qa => omega); (case qb => omega); rintro e w9 ⟨rfl, rfl⟩))
  refine bodyPost_ret (res_in rfl _ _ w.heap.size (.int .u8 op) (.int .u8 c0) (.int .u8 0) (.int .u8 0) (.int .i64 nm) rfl ?_ ?_ ?_ ?_ ?_) rfl ⟨rfl, ?_⟩
  · go_simp
  · go_simp
  · go_simp
  · go_simp
  · go_simp
  · exact ((Below.refl _ _).alloc (Nat.le_refl _) _).alloc (by simp) _
set_option maxRecDepth 100000 in
set_option maxHeartbeats 2000000 in
theorem gs_8 (op v : Nat) (ho : op < 256) (hv : v < 4294967296) (w : World) :
    Calls Tryz.prog 77 #[.int .u8 op, .int .i64 8, .int .u32 v] w fun e w' => e = .returned (.agg (inC (fldF 8 v op))) ∧ Below w.heap.size w w' := by
  obtain ⟨x, hx⟩ : ∃ x, fldF 8 v op = x := ⟨_, rfl⟩
  have o0 : x.op = op := by rw [← hx]; rfl
  have o1 : x.rd = 0 := by rw [← hx]; rfl
  have o2 : x.rs1 = 0 := by rw [← hx]; rfl
  have o3 : x.rs2 = 0 := by rw [← hx]; rfl
  have o4 : x.imm = numW 8 v := by rw [← hx]; rfl
  rw [hx]
  clear hx
  unfold inC
  rw [o0, o1, o2, o3, o4]
  clear o0 o1 o2 o3 o4
  have p0 : ∀ w, Calls Tryz.prog 104 #[.int .u32 v, .int .i64 7, .int .i64 5] w fun e w' => e = .returned (.int .u32 (v / 128 % 32 : Nat)) ∧ w = w' := fun w => by
    have h := rfld_any v 7 5 hv (by omega) (by omega) w
    rw [show v / 2 ^ 7 % 2 ^ 5 = v / 128 % 32 by simp] at h; exact h
  have p1 : ∀ w, Calls Tryz.prog 104 #[.int .u32 v, .int .i64 15, .int .i64 5] w fun e w' => e = .returned (.int .u32 (v / 32768 % 32 : Nat)) ∧ w = w' := fun w => by
    have h := rfld_any v 15 5 hv (by omega) (by omega) w
    rw [show v / 2 ^ 15 % 2 ^ 5 = v / 32768 % 32 by simp] at h; exact h
  have p2 : ∀ w, Calls Tryz.prog 104 #[.int .u32 v, .int .i64 20, .int .i64 5] w fun e w' => e = .returned (.int .u32 (v / 1048576 % 32 : Nat)) ∧ w = w' := fun w => by
    have h := rfld_any v 20 5 hv (by omega) (by omega) w
    rw [show v / 2 ^ 20 % 2 ^ 5 = v / 1048576 % 32 by simp] at h; exact h
  have b0 : v / 128 % 32 < 32 := by omega
  have b1 : v / 32768 % 32 < 32 := by omega
  have b2 : v / 1048576 % 32 < 32 := by omega
  rw [show numW 8 v = 0 from rfl]
  generalize v / 128 % 32 = c0 at *
  generalize v / 32768 % 32 = c1 at *
  generalize v / 1048576 % 32 = c2 at *
  go_enter Tryz.func77, Tryz.ntmps77
  go_wp2_with ((go_at_call 104; first | ((with_reducible refine (p0 _).mono ?_); rintro e w0 ⟨rfl, rfl⟩) | ((with_reducible refine (p1 _).mono ?_); rintro e w1 ⟨rfl, rfl⟩) | ((with_reducible refine (p2 _).mono ?_); rintro e w2 ⟨rfl, rfl⟩)))
  refine bodyPost_ret (res_in rfl _ _ w.heap.size (.int .u8 op) (.int .u8 0) (.int .u8 0) (.int .u8 0) (.int .i64 0) rfl ?_ ?_ ?_ ?_ ?_) rfl ⟨rfl, ?_⟩
  · go_simp
  · go_simp
  · go_simp
  · go_simp
  · go_simp
  · exact ((Below.refl _ _).alloc (Nat.le_refl _) _).alloc (by simp) _
theorem gs_any (f op v : Nat) (hf : 1 ≤ f) (hf8 : f ≤ 8) (ho : op < 256) (hv : v < 4294967296) (w : World) :
    Calls Tryz.prog 77 #[.int .u8 op, .int .i64 f, .int .u32 v] w fun e w' => e = .returned (.agg (inC (fldF f v op))) ∧ Below w.heap.size w w' := by
  rcases form_cases hf8 (by omega) with rfl | rfl | rfl | rfl | rfl | rfl | rfl | rfl
  · exact gs_1 op v ho hv w
  · exact gs_2 op v ho hv w
  · exact gs_3 op v ho hv w
  · exact gs_4 op v ho hv w
  · exact gs_5 op v ho hv w
  · exact gs_6 op v ho hv w
  · exact gs_7 op v ho hv w
  · exact gs_8 op v ho hv w
end Go.Proofs.YtfaacmcnefbgcaaGreatDoor

/- Contract of the document's own answer Decode of layer 3: for any word. -/
namespace Go.Proofs.YtfaacmcnefbgcaaGreatDoor
open Go.ChangeShapes Go.WideShapes Go.ChangeAt Go.RowKit
set_option linter.unusedVariables false
theorem rency (x : In) (h : x.wf) (ho : x.ok = true) (w : World) :
    Calls Tryz.prog 46 #[.agg #[.int .u8 x.op, .int .u8 x.rd, .int .u8 x.rs1, .int .u8 x.rs2, .int .i64 x.imm]] w fun e w' => e = .returned (.tuple #[.int .u32 (x.word : Nat), .int .i64 0]) ∧ Below w.heap.size w w' := by
  obtain ⟨h1, h2, h3, h4, h5, h6⟩ := h
  have hc := renc_any x.op x.rd x.rs1 x.rs2 x.imm h1 h2 h3 h4 h5 h6 w
  have eW : encW x.op x.rd x.rs1 x.rs2 x.imm = x.word := by unfold In.ok at ho; rw [encW, if_pos ho]; rfl
  have eE : encE x.op x.rd x.rs1 x.rs2 x.imm = 0 := by unfold In.ok at ho; rw [encE, if_pos ho]
  rw [eW, eE] at hc
  exact hc
theorem rencn (x : In) (h : x.wf) (ho : x.ok = false) (w : World) :
    Calls Tryz.prog 46 #[.agg #[.int .u8 x.op, .int .u8 x.rd, .int .u8 x.rs1, .int .u8 x.rs2, .int .i64 x.imm]] w fun e w' => e = .returned (.tuple #[.int .u32 0, .int .i64 2]) ∧ Below w.heap.size w w' := by
  obtain ⟨h1, h2, h3, h4, h5, h6⟩ := h
  have hc := renc_any x.op x.rd x.rs1 x.rs2 x.imm h1 h2 h3 h4 h5 h6 w
  have eW : encW x.op x.rd x.rs1 x.rs2 x.imm = 0 := by unfold In.ok at ho; rw [encW, if_neg (by simp [ho])]
  have eE : encE x.op x.rd x.rs1 x.rs2 x.imm = 2 := by unfold In.ok at ho; rw [encE, if_neg (by simp [ho])]
  rw [eW, eE] at hc
  exact hc

theorem res_ct {fn : Func} {p q : Tmp} (h : fn.results = #[.cell p 48, .tmp q]) (tmps : Array Value) (w : World) (g : Nat) (c0 c1 c2 c3 c4 d : Value) (hp : tmps.getD p undef = .pointer (some ⟨g, 0, none⟩)) (hq : tmps.getD q undef = d)
    (hr : rowG #[c0, c1, c2, c3, c4] w g) :
    (results fn tmps).run Tryz.prog w = .ok (.tuple #[.agg #[c0, c1, c2, c3, c4], d]) w := by
  have hp' : tmps[p]?.getD undef = .pointer (some ⟨g, 0, none⟩) := by simpa using hp
  have hq' : tmps[q]?.getD undef = d := by simpa using hq
  have h0 : w.cell? ⟨g, 0, none⟩ = some c0 := hr.1 0 (by simp)
  have h1 : w.cell? ⟨g, 1, none⟩ = some c1 := hr.1 1 (by simp)
  have h2 : w.cell? ⟨g, 2, none⟩ = some c2 := hr.1 2 (by simp)
  have h3 : w.cell? ⟨g, 3, none⟩ = some c3 := hr.1 3 (by simp)
  have h4 : w.cell? ⟨g, 4, none⟩ = some c4 := hr.1 4 (by simp)
  simp [results, h, hp', hq', go_sem, h0, h1, h2, h3, h4]
theorem form_le' (k : Nat) (h : k < 35) : formT k ≤ 8 := (by decide +kernel : ∀ k < 35, formT k ≤ 8) k h
theorem form_pos (k : Nat) (h1 : 1 ≤ k) (h2 : k ≤ 34) : 1 ≤ formT k := (by decide +kernel : ∀ k < 35, 1 ≤ k → 1 ≤ formT k) k (by omega) h1
set_option maxRecDepth 100000 in
set_option maxHeartbeats 4000000 in
theorem rdec_any (v : Nat) (hv : v < 4294967296) (w0 : World) :
    Calls Tryz.prog 30 #[.int .u32 v] w0 fun e w' => e = .returned (.tuple #[.agg (inC (decA v)), .int .i64 (decE v)]) ∧ Below w0.heap.size w0 w' := by
  go_enter Tryz.func30, Tryz.ntmps30
  go_wp2
  have hz : rowG #[.int .u8 0, .int .u8 0, .int .u8 0, .int .u8 0, .int .i64 0] (w0.alloc (.cells #[.int .u8 0, .int .u8 0, .int .u8 0, .int .u8 0, .int .i64 0] 48)) w0.heap.size := rowG_new _ _ _
  go_loopw [4] (fun o wr => ∃ k : Nat, 1 ≤ k ∧ k ≤ 35 ∧ o = .int .u8 k ∧ (∀ j, 1 ≤ j → j < k → ¬ isW v (fldF (formT j) v j)) ∧ Below w0.heap.size w0 wr ∧ rowG #[.int .u8 0, .int .u8 0, .int .u8 0, .int .u8 0, .int .i64 0] wr w0.heap.size) (fun o _ => 40 - (intOf o).toNat)
  case atStart => exact ⟨1, by omega, by omega, rfl, fun j h1 h2 => by omega, (Below.refl _ _).alloc (Nat.le_refl _) _, hz⟩
  case round =>
    obtain ⟨k, hk1, hk2, rfl, hno, hB, hr⟩ := hrel
    by_cases hlt : k ≤ 34
    · have hkf : formT k ≤ 8 := form_le' k (by omega)
      have hk0 : 1 ≤ formT k := form_pos k hk1 hlt
      have hO := rof_any k hk1 hlt
      have hG := gs_any (formT k) k v hk0 hkf (by omega) hv
      obtain ⟨x, hx⟩ : ∃ x, fldF (formT k) v k = x := ⟨_, rfl⟩
      have hxw : x.wf := by rw [← hx]; exact fldF_wf _ _ _ hv (by omega)
      rw [hx] at hG
      unfold inC at hG
      have hlk : (k : Int) ≤ 34 := by omega
      by_cases ho : x.ok = true
      · have hE := rency x hxw ho
        by_cases hw : x.word = v
        · have hW : isW v x := ⟨ho, hw⟩
          obtain ⟨eA, eE⟩ := dec_yes hW
          rw [hw] at hE
          clear hno hx
          go_wp2_with (first | (go_at_call 76; (with_reducible refine (hO _).mono ?_); (rintro e w1 ⟨rfl, b1⟩); have B1 := below_trans' hB (Nat.le_refl _) (b1.alloc b1.size (.cells #[.int .u32 (codeT k : Nat), .int .u32 (f3T k : Nat), .int .u32 (f7T k : Nat), .int .i64 (formT k : Nat)] 132))) | (go_at_call 77; (with_reducible refine (hG _).mono ?_); (rintro e w2 ⟨rfl, b2⟩); have B2 := below_trans' B1 (Nat.le_refl _) (b2.alloc b2.size (.cells #[.int .u8 x.op, .int .u8 x.rd, .int .u8 x.rs1, .int .u8 x.rs2, .int .i64 x.imm] 48))) | (go_at_call 46; (with_reducible refine (hE _).mono ?_); (rintro e w3 ⟨rfl, b3⟩); have B3 := below_trans' B2 (Nat.le_refl _) b3; have hr1 := rowG_alloc (rowG_below hr b1 hr.2.2) (.cells #[.int .u32 (codeT k : Nat), .int .u32 (f3T k : Nat), .int .u32 (f7T k : Nat), .int .i64 (formT k : Nat)] 132); have hr2 := rowG_alloc (rowG_below hr1 b2 hr1.2.2) (.cells #[.int .u8 x.op, .int .u8 x.rd, .int .u8 x.rs1, .int .u8 x.rs2, .int .i64 x.imm] 48); have hr3 := rowG_below hr2 b3 hr2.2.2; have nx := rowG_below (rowG_new #[.int .u8 x.op, .int .u8 x.rd, .int .u8 x.rs1, .int .u8 x.rs2, .int .i64 x.imm] 48 w2) b3 (by simp); have n_0 : w3.cell? ⟨w2.heap.size, 0, none⟩ = some (.int .u8 x.op) := nx.1 0 (by simp); have n_1 : w3.cell? ⟨w2.heap.size, 1, none⟩ = some (.int .u8 x.rd) := nx.1 1 (by simp); have n_2 : w3.cell? ⟨w2.heap.size, 2, none⟩ = some (.int .u8 x.rs1) := nx.1 2 (by simp); have n_3 : w3.cell? ⟨w2.heap.size, 3, none⟩ = some (.int .u8 x.rs2) := nx.1 3 (by simp); have n_4 : w3.cell? ⟨w2.heap.size, 4, none⟩ = some (.int .i64 x.imm) := nx.1 4 (by simp); have y_0 : w3.cell? ⟨w0.heap.size, 0, none⟩ = some (.int .u8 0) := hr3.1 0 (by simp); have z_0 := hr3.2.1 0; have y_1 : w3.cell? ⟨w0.heap.size, 1, none⟩ = some (.int .u8 0) := hr3.1 1 (by simp); have z_1 := hr3.2.1 1; have y_2 : w3.cell? ⟨w0.heap.size, 2, none⟩ = some (.int .u8 0) := hr3.1 2 (by simp); have z_2 := hr3.2.1 2; have y_3 : w3.cell? ⟨w0.heap.size, 3, none⟩ = some (.int .u8 0) := hr3.1 3 (by simp); have z_3 := hr3.2.1 3; have y_4 : w3.cell? ⟨w0.heap.size, 4, none⟩ = some (.int .i64 0) := hr3.1 4 (by simp); have z_4 := hr3.2.1 4))
          have B4 := B3
          refine bodyPost_ret (res_ct rfl _ _ w0.heap.size _ _ _ _ _ _ rfl rfl (row_five _ _ _ _ _ hr3)) rfl ⟨by rw [eA, eE]; rfl, ?_⟩
          repeat (first | (with_reducible exact B3) | (with_reducible refine sBelow ?_ (Nat.le_refl _)))
        · have hn : ¬ isW v (fldF (formT k) v k) := fun h => hw (by rw [hx] at h; exact h.2)
          have hne : (((x.word : Nat) : Int) == (v : Int)) = false := by simp only [beq_eq_false_iff_ne]; omega
          have hwl : x.word < 4294967296 := wordN_lt _ _ _ _ _
          generalize x.word = wd at *
          go_wp2_with (first | (go_at_call 76; (with_reducible refine (hO _).mono ?_); (rintro e w1 ⟨rfl, b1⟩); have B1 := below_trans' hB (Nat.le_refl _) (b1.alloc b1.size (.cells #[.int .u32 (codeT k : Nat), .int .u32 (f3T k : Nat), .int .u32 (f7T k : Nat), .int .i64 (formT k : Nat)] 132))) | (go_at_call 77; (with_reducible refine (hG _).mono ?_); (rintro e w2 ⟨rfl, b2⟩); have B2 := below_trans' B1 (Nat.le_refl _) (b2.alloc b2.size (.cells #[.int .u8 x.op, .int .u8 x.rd, .int .u8 x.rs1, .int .u8 x.rs2, .int .i64 x.imm] 48))) | (go_at_call 46; (with_reducible refine (hE _).mono ?_); (rintro e w3 ⟨rfl, b3⟩); have B3 := below_trans' B2 (Nat.le_refl _) b3))
          go_roundw
          case rel => exact ⟨k + 1, by omega, by omega, by go_num, fun j h1 h2 => by rcases Nat.lt_or_ge j k with h | h; exact hno j h1 h; (obtain rfl : j = k := by omega); exact hn, B3, rowG_below (rowG_alloc (rowG_below (rowG_alloc (rowG_below hr b1 hr.2.2) (.cells #[.int .u32 (codeT k : Nat), .int .u32 (f3T k : Nat), .int .u32 (f7T k : Nat), .int .i64 (formT k : Nat)] 132)) b2 (by have := b1.size; have := hr.2.2; simp; omega)) (.cells #[.int .u8 x.op, .int .u8 x.rd, .int .u8 x.rs1, .int .u8 x.rs2, .int .i64 x.imm] 48)) b3 (by have h1 := b1.size; have h2 := b2.size; have := hr.2.2; simp at h2 ⊢; omega)⟩
          case measure => first | (simp [intOf]; done) | (simp [intOf]; omega)
      · have hn : ¬ isW v (fldF (formT k) v k) := fun h => ho (by rw [hx] at h; exact h.1)
        have hE := rencn x hxw (by simpa using ho)
        go_wp2_with (first | (go_at_call 76; (with_reducible refine (hO _).mono ?_); (rintro e w1 ⟨rfl, b1⟩); have B1 := below_trans' hB (Nat.le_refl _) (b1.alloc b1.size (.cells #[.int .u32 (codeT k : Nat), .int .u32 (f3T k : Nat), .int .u32 (f7T k : Nat), .int .i64 (formT k : Nat)] 132))) | (go_at_call 77; (with_reducible refine (hG _).mono ?_); (rintro e w2 ⟨rfl, b2⟩); have B2 := below_trans' B1 (Nat.le_refl _) (b2.alloc b2.size (.cells #[.int .u8 x.op, .int .u8 x.rd, .int .u8 x.rs1, .int .u8 x.rs2, .int .i64 x.imm] 48))) | (go_at_call 46; (with_reducible refine (hE _).mono ?_); (rintro e w3 ⟨rfl, b3⟩); have B3 := below_trans' B2 (Nat.le_refl _) b3))
        go_roundw
        case rel => exact ⟨k + 1, by omega, by omega, by go_num, fun j h1 h2 => by rcases Nat.lt_or_ge j k with h | h; exact hno j h1 h; (obtain rfl : j = k := by omega); exact hn, B3, rowG_below (rowG_alloc (rowG_below (rowG_alloc (rowG_below hr b1 hr.2.2) (.cells #[.int .u32 (codeT k : Nat), .int .u32 (f3T k : Nat), .int .u32 (f7T k : Nat), .int .i64 (formT k : Nat)] 132)) b2 (by have := b1.size; have := hr.2.2; simp; omega)) (.cells #[.int .u8 x.op, .int .u8 x.rd, .int .u8 x.rs1, .int .u8 x.rs2, .int .i64 x.imm] 48)) b3 (by have h1 := b1.size; have h2 := b2.size; have := hr.2.2; simp at h2 ⊢; omega)⟩
        case measure => first | (simp [intOf]; done) | (simp [intOf]; omega)
    · obtain rfl : k = 35 := by omega
      obtain ⟨eA, eE⟩ := dec_no (decN_none' (fun j a b => hno j a (by omega)))
      have y_0 : wr.cell? ⟨w0.heap.size, 0, none⟩ = some (.int .u8 0) := hr.1 0 (by simp)
      have z_0 := hr.2.1 0
      have y_1 : wr.cell? ⟨w0.heap.size, 1, none⟩ = some (.int .u8 0) := hr.1 1 (by simp)
      have z_1 := hr.2.1 1
      have y_2 : wr.cell? ⟨w0.heap.size, 2, none⟩ = some (.int .u8 0) := hr.1 2 (by simp)
      have z_2 := hr.2.1 2
      have y_3 : wr.cell? ⟨w0.heap.size, 3, none⟩ = some (.int .u8 0) := hr.1 3 (by simp)
      have z_3 := hr.2.1 3
      have y_4 : wr.cell? ⟨w0.heap.size, 4, none⟩ = some (.int .i64 0) := hr.1 4 (by simp)
      have z_4 := hr.2.1 4
      go_wp2
      refine bodyPost_ret (res_ct rfl _ _ w0.heap.size _ _ _ _ _ _ rfl rfl (row_five _ _ _ _ _ hr)) rfl ⟨by rw [eA, eE]; rfl, ?_⟩
      repeat (first | (with_reducible exact hB) | (with_reducible refine sBelow ?_ (Nat.le_refl _)))
end Go.Proofs.YtfaacmcnefbgcaaGreatDoor
