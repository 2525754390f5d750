/- Contract of the document's own answer guess of layer 3: what a word would be in a form. -/
import Derived.Test.YtjkagpmepokihaaDoorGsA
import Derived.Test.YtjkagpmepokihaaDoorDec
namespace Go.Proofs.YtjkagpmepokihaaDoor
open Go.ChangeShapes Go.WideShapes Go.ChangeAt Go.RowKit
set_option linter.unusedVariables false
set_option maxRecDepth 100000 in
set_option maxHeartbeats 2000000 in
theorem gs_1 (op v : Nat) (ho : op < 256) (hv : v < 4294967296) (w : World) :
    Calls Tryd.prog 19 #[.int .u8 op, .int .i64 1, .int .u32 v] w fun e w' => e = .returned (.agg (inC (fldF 1 v op))) ∧ Below w.heap.size w w' := by
  obtain ⟨x, hx⟩ : ∃ x, fldF 1 v op = x := ⟨_, rfl⟩
  have o0 : x.op = op := by rw [← hx]; rfl
  have o1 : x.rd = v / 128 % 32 := by rw [← hx]; rfl
  have o2 : x.rs1 = v / 32768 % 32 := by rw [← hx]; rfl
  have o3 : x.rs2 = v / 1048576 % 32 := by rw [← hx]; rfl
  have o4 : x.imm = numW 1 v := by rw [← hx]; rfl
  rw [hx]
  clear hx
  unfold inC
  rw [o0, o1, o2, o3, o4]
  clear o0 o1 o2 o3 o4
  have p0 : ∀ w, Calls Tryd.prog 34 #[.int .u32 v, .int .i64 7, .int .i64 5] w fun e w' => e = .returned (.int .u32 (v / 128 % 32 : Nat)) ∧ w = w' := fun w => by
    have h := rfld_any v 7 5 hv (by omega) (by omega) w
    rw [show v / 2 ^ 7 % 2 ^ 5 = v / 128 % 32 by simp] at h; exact h
  have p1 : ∀ w, Calls Tryd.prog 34 #[.int .u32 v, .int .i64 15, .int .i64 5] w fun e w' => e = .returned (.int .u32 (v / 32768 % 32 : Nat)) ∧ w = w' := fun w => by
    have h := rfld_any v 15 5 hv (by omega) (by omega) w
    rw [show v / 2 ^ 15 % 2 ^ 5 = v / 32768 % 32 by simp] at h; exact h
  have p2 : ∀ w, Calls Tryd.prog 34 #[.int .u32 v, .int .i64 20, .int .i64 5] w fun e w' => e = .returned (.int .u32 (v / 1048576 % 32 : Nat)) ∧ w = w' := fun w => by
    have h := rfld_any v 20 5 hv (by omega) (by omega) w
    rw [show v / 2 ^ 20 % 2 ^ 5 = v / 1048576 % 32 by simp] at h; exact h
  have b0 : v / 128 % 32 < 32 := by omega
  have b1 : v / 32768 % 32 < 32 := by omega
  have b2 : v / 1048576 % 32 < 32 := by omega
  rw [show numW 1 v = 0 from rfl]
  generalize v / 128 % 32 = c0 at *
  generalize v / 32768 % 32 = c1 at *
  generalize v / 1048576 % 32 = c2 at *
  go_enter Tryd.func19, Tryd.ntmps19
  go_wp2_with ((go_at_call 34; first | ((with_reducible refine (p0 _).mono ?_); rintro e w0 ⟨rfl, rfl⟩) | ((with_reducible refine (p1 _).mono ?_); rintro e w1 ⟨rfl, rfl⟩) | ((with_reducible refine (p2 _).mono ?_); rintro e w2 ⟨rfl, rfl⟩)))
  refine bodyPost_ret (res_in rfl _ _ w.heap.size (.int .u8 op) (.int .u8 c0) (.int .u8 c1) (.int .u8 c2) (.int .i64 0) rfl ?_ ?_ ?_ ?_ ?_) rfl ⟨rfl, ?_⟩
  · go_simp
  · go_simp
  · go_simp
  · go_simp
  · go_simp
  · exact ((Below.refl _ _).alloc (Nat.le_refl _) _).alloc (by simp) _
set_option maxRecDepth 100000 in
set_option maxHeartbeats 2000000 in
theorem gs_2 (op v : Nat) (ho : op < 256) (hv : v < 4294967296) (w : World) :
    Calls Tryd.prog 19 #[.int .u8 op, .int .i64 2, .int .u32 v] w fun e w' => e = .returned (.agg (inC (fldF 2 v op))) ∧ Below w.heap.size w w' := by
  obtain ⟨x, hx⟩ : ∃ x, fldF 2 v op = x := ⟨_, rfl⟩
  have o0 : x.op = op := by rw [← hx]; rfl
  have o1 : x.rd = v / 128 % 32 := by rw [← hx]; rfl
  have o2 : x.rs1 = v / 32768 % 32 := by rw [← hx]; rfl
  have o3 : x.rs2 = 0 := by rw [← hx]; rfl
  have o4 : x.imm = numW 2 v := by rw [← hx]; rfl
  rw [hx]
  clear hx
  unfold inC
  rw [o0, o1, o2, o3, o4]
  clear o0 o1 o2 o3 o4
  have p0 : ∀ w, Calls Tryd.prog 34 #[.int .u32 v, .int .i64 7, .int .i64 5] w fun e w' => e = .returned (.int .u32 (v / 128 % 32 : Nat)) ∧ w = w' := fun w => by
    have h := rfld_any v 7 5 hv (by omega) (by omega) w
    rw [show v / 2 ^ 7 % 2 ^ 5 = v / 128 % 32 by simp] at h; exact h
  have p1 : ∀ w, Calls Tryd.prog 34 #[.int .u32 v, .int .i64 15, .int .i64 5] w fun e w' => e = .returned (.int .u32 (v / 32768 % 32 : Nat)) ∧ w = w' := fun w => by
    have h := rfld_any v 15 5 hv (by omega) (by omega) w
    rw [show v / 2 ^ 15 % 2 ^ 5 = v / 32768 % 32 by simp] at h; exact h
  have p2 : ∀ w, Calls Tryd.prog 34 #[.int .u32 v, .int .i64 20, .int .i64 5] w fun e w' => e = .returned (.int .u32 (v / 1048576 % 32 : Nat)) ∧ w = w' := fun w => by
    have h := rfld_any v 20 5 hv (by omega) (by omega) w
    rw [show v / 2 ^ 20 % 2 ^ 5 = v / 1048576 % 32 by simp] at h; exact h
  have p3 : ∀ w, Calls Tryd.prog 34 #[.int .u32 v, .int .i64 20, .int .i64 12] w fun e w' => e = .returned (.int .u32 (v / 1048576 % 4096 : Nat)) ∧ w = w' := fun w => by
    have h := rfld_any v 20 12 hv (by omega) (by omega) w
    rw [show v / 2 ^ 20 % 2 ^ 12 = v / 1048576 % 4096 by simp] at h; exact h
  have b0 : v / 128 % 32 < 32 := by omega
  have b1 : v / 32768 % 32 < 32 := by omega
  have b2 : v / 1048576 % 32 < 32 := by omega
  have b3 : v / 1048576 % 4096 < 4096 := by omega
  obtain ⟨nm, hnm⟩ : ∃ z, numW 2 v = z := ⟨_, rfl⟩
  rw [hnm]
  have hfin : sgI (((v / 1048576 % 4096 : Nat) : Int)) 12 = nm := by
    rw [← hnm, num2, sg12 _ (by omega) (by omega)]
    unfold sgn
    split <;> split <;> omega
  generalize v / 128 % 32 = c0 at *
  generalize v / 32768 % 32 = c1 at *
  generalize v / 1048576 % 32 = c2 at *
  generalize v / 1048576 % 4096 = c3 at *
  go_enter Tryd.func19, Tryd.ntmps19
  go_wp2_with (first | (go_at_call 34; first | ((with_reducible refine (p0 _).mono ?_); rintro e w0 ⟨rfl, rfl⟩) | ((with_reducible refine (p1 _).mono ?_); rintro e w1 ⟨rfl, rfl⟩) | ((with_reducible refine (p2 _).mono ?_); rintro e w2 ⟨rfl, rfl⟩) | ((with_reducible refine (p3 _).mono ?_); rintro e w3 ⟨rfl, rfl⟩)) | (go_at_call 35; (with_reducible refine (rsg12 _ ?qa ?qb _).mono ?_); (case qa => omega); (case qb => omega); rintro e w9 ⟨rfl, rfl⟩))
  refine bodyPost_ret (res_in rfl _ _ w.heap.size (.int .u8 op) (.int .u8 c0) (.int .u8 c1) (.int .u8 0) (.int .i64 nm) rfl ?_ ?_ ?_ ?_ ?_) rfl ⟨rfl, ?_⟩
  · go_simp
  · go_simp
  · go_simp
  · go_simp
  · go_simp
  · exact ((Below.refl _ _).alloc (Nat.le_refl _) _).alloc (by simp) _
set_option maxRecDepth 100000 in
set_option maxHeartbeats 2000000 in
theorem gs_3 (op v : Nat) (ho : op < 256) (hv : v < 4294967296) (w : World) :
    Calls Tryd.prog 19 #[.int .u8 op, .int .i64 3, .int .u32 v] w fun e w' => e = .returned (.agg (inC (fldF 3 v op))) ∧ Below w.heap.size w w' := by
  obtain ⟨x, hx⟩ : ∃ x, fldF 3 v op = x := ⟨_, rfl⟩
  have o0 : x.op = op := by rw [← hx]; rfl
  have o1 : x.rd = v / 128 % 32 := by rw [← hx]; rfl
  have o2 : x.rs1 = v / 32768 % 32 := by rw [← hx]; rfl
  have o3 : x.rs2 = 0 := by rw [← hx]; rfl
  have o4 : x.imm = numW 3 v := by rw [← hx]; rfl
  rw [hx]
  clear hx
  unfold inC
  rw [o0, o1, o2, o3, o4]
  clear o0 o1 o2 o3 o4
  have p0 : ∀ w, Calls Tryd.prog 34 #[.int .u32 v, .int .i64 7, .int .i64 5] w fun e w' => e = .returned (.int .u32 (v / 128 % 32 : Nat)) ∧ w = w' := fun w => by
    have h := rfld_any v 7 5 hv (by omega) (by omega) w
    rw [show v / 2 ^ 7 % 2 ^ 5 = v / 128 % 32 by simp] at h; exact h
  have p1 : ∀ w, Calls Tryd.prog 34 #[.int .u32 v, .int .i64 15, .int .i64 5] w fun e w' => e = .returned (.int .u32 (v / 32768 % 32 : Nat)) ∧ w = w' := fun w => by
    have h := rfld_any v 15 5 hv (by omega) (by omega) w
    rw [show v / 2 ^ 15 % 2 ^ 5 = v / 32768 % 32 by simp] at h; exact h
  have p2 : ∀ w, Calls Tryd.prog 34 #[.int .u32 v, .int .i64 20, .int .i64 5] w fun e w' => e = .returned (.int .u32 (v / 1048576 % 32 : Nat)) ∧ w = w' := fun w => by
    have h := rfld_any v 20 5 hv (by omega) (by omega) w
    rw [show v / 2 ^ 20 % 2 ^ 5 = v / 1048576 % 32 by simp] at h; exact h
  have p3 : ∀ w, Calls Tryd.prog 34 #[.int .u32 v, .int .i64 20, .int .i64 6] w fun e w' => e = .returned (.int .u32 (v / 1048576 % 64 : Nat)) ∧ w = w' := fun w => by
    have h := rfld_any v 20 6 hv (by omega) (by omega) w
    rw [show v / 2 ^ 20 % 2 ^ 6 = v / 1048576 % 64 by simp] at h; exact h
  have b0 : v / 128 % 32 < 32 := by omega
  have b1 : v / 32768 % 32 < 32 := by omega
  have b2 : v / 1048576 % 32 < 32 := by omega
  have b3 : v / 1048576 % 64 < 64 := by omega
  obtain ⟨nm, hnm⟩ : ∃ z, numW 3 v = z := ⟨_, rfl⟩
  rw [hnm]
  have hfin : ((v / 1048576 % 64 : Nat) : Int) = nm := by
    rw [← hnm, num3]
    have e1 : sgn v / 33554432 % 2 = ((v / 33554432 % 2 : Nat) : Int) := by unfold sgn; split <;> omega
    rw [e1]
    omega
  generalize v / 128 % 32 = c0 at *
  generalize v / 32768 % 32 = c1 at *
  generalize v / 1048576 % 32 = c2 at *
  generalize v / 1048576 % 64 = c3 at *
  go_enter Tryd.func19, Tryd.ntmps19
  go_wp2_with ((go_at_call 34; first | ((with_reducible refine (p0 _).mono ?_); rintro e w0 ⟨rfl, rfl⟩) | ((with_reducible refine (p1 _).mono ?_); rintro e w1 ⟨rfl, rfl⟩) | ((with_reducible refine (p2 _).mono ?_); rintro e w2 ⟨rfl, rfl⟩) | ((with_reducible refine (p3 _).mono ?_); rintro e w3 ⟨rfl, rfl⟩)))
  refine bodyPost_ret (res_in rfl _ _ w.heap.size (.int .u8 op) (.int .u8 c0) (.int .u8 c1) (.int .u8 0) (.int .i64 nm) rfl ?_ ?_ ?_ ?_ ?_) rfl ⟨rfl, ?_⟩
  · go_simp
  · go_simp
  · go_simp
  · go_simp
  · go_simp
  · exact ((Below.refl _ _).alloc (Nat.le_refl _) _).alloc (by simp) _
set_option maxRecDepth 100000 in
set_option maxHeartbeats 2000000 in
theorem gs_4 (op v : Nat) (ho : op < 256) (hv : v < 4294967296) (w : World) :
    Calls Tryd.prog 19 #[.int .u8 op, .int .i64 4, .int .u32 v] w fun e w' => e = .returned (.agg (inC (fldF 4 v op))) ∧ Below w.heap.size w w' := by
  obtain ⟨x, hx⟩ : ∃ x, fldF 4 v op = x := ⟨_, rfl⟩
  have o0 : x.op = op := by rw [← hx]; rfl
  have o1 : x.rd = v / 128 % 32 := by rw [← hx]; rfl
  have o2 : x.rs1 = 0 := by rw [← hx]; rfl
  have o3 : x.rs2 = 0 := by rw [← hx]; rfl
  have o4 : x.imm = numW 4 v := by rw [← hx]; rfl
  rw [hx]
  clear hx
  unfold inC
  rw [o0, o1, o2, o3, o4]
  clear o0 o1 o2 o3 o4
  have p0 : ∀ w, Calls Tryd.prog 34 #[.int .u32 v, .int .i64 7, .int .i64 5] w fun e w' => e = .returned (.int .u32 (v / 128 % 32 : Nat)) ∧ w = w' := fun w => by
    have h := rfld_any v 7 5 hv (by omega) (by omega) w
    rw [show v / 2 ^ 7 % 2 ^ 5 = v / 128 % 32 by simp] at h; exact h
  have p1 : ∀ w, Calls Tryd.prog 34 #[.int .u32 v, .int .i64 15, .int .i64 5] w fun e w' => e = .returned (.int .u32 (v / 32768 % 32 : Nat)) ∧ w = w' := fun w => by
    have h := rfld_any v 15 5 hv (by omega) (by omega) w
    rw [show v / 2 ^ 15 % 2 ^ 5 = v / 32768 % 32 by simp] at h; exact h
  have p2 : ∀ w, Calls Tryd.prog 34 #[.int .u32 v, .int .i64 20, .int .i64 5] w fun e w' => e = .returned (.int .u32 (v / 1048576 % 32 : Nat)) ∧ w = w' := fun w => by
    have h := rfld_any v 20 5 hv (by omega) (by omega) w
    rw [show v / 2 ^ 20 % 2 ^ 5 = v / 1048576 % 32 by simp] at h; exact h
  have p3 : ∀ w, Calls Tryd.prog 34 #[.int .u32 v, .int .i64 12, .int .i64 20] w fun e w' => e = .returned (.int .u32 (v / 4096 % 1048576 : Nat)) ∧ w = w' := fun w => by
    have h := rfld_any v 12 20 hv (by omega) (by omega) w
    rw [show v / 2 ^ 12 % 2 ^ 20 = v / 4096 % 1048576 by simp] at h; exact h
  have b0 : v / 128 % 32 < 32 := by omega
  have b1 : v / 32768 % 32 < 32 := by omega
  have b2 : v / 1048576 % 32 < 32 := by omega
  have b3 : v / 4096 % 1048576 < 1048576 := by omega
  obtain ⟨nm, hnm⟩ : ∃ z, numW 4 v = z := ⟨_, rfl⟩
  rw [hnm]
  have hfin : sgI (((v / 4096 % 1048576 : Nat) : Int) * 4096) 32 = nm := by
    rw [← hnm, num4, sg32 _ (by omega) (by omega)]
    unfold sgn
    split <;> split <;> omega
  generalize v / 128 % 32 = c0 at *
  generalize v / 32768 % 32 = c1 at *
  generalize v / 1048576 % 32 = c2 at *
  generalize v / 4096 % 1048576 = c3 at *
  go_enter Tryd.func19, Tryd.ntmps19
  go_wp2_with (first | (go_at_call 34; first | ((with_reducible refine (p0 _).mono ?_); rintro e w0 ⟨rfl, rfl⟩) | ((with_reducible refine (p1 _).mono ?_); rintro e w1 ⟨rfl, rfl⟩) | ((with_reducible refine (p2 _).mono ?_); rintro e w2 ⟨rfl, rfl⟩) | ((with_reducible refine (p3 _).mono ?_); rintro e w3 ⟨rfl, rfl⟩)) | (go_at_call 35; (with_reducible refine (rsg32 _ ?qa ?qb _).mono ?_); (case qa => omega); (case qb => omega); rintro e w9 ⟨rfl, rfl⟩))
  refine bodyPost_ret (res_in rfl _ _ w.heap.size (.int .u8 op) (.int .u8 c0) (.int .u8 0) (.int .u8 0) (.int .i64 nm) rfl ?_ ?_ ?_ ?_ ?_) rfl ⟨rfl, ?_⟩
  · go_simp
  · go_simp
  · go_simp
  · go_simp
  · go_simp
  · exact ((Below.refl _ _).alloc (Nat.le_refl _) _).alloc (by simp) _
set_option maxRecDepth 100000 in
set_option maxHeartbeats 2000000 in
theorem gs_5 (op v : Nat) (ho : op < 256) (hv : v < 4294967296) (w : World) :
    Calls Tryd.prog 19 #[.int .u8 op, .int .i64 5, .int .u32 v] w fun e w' => e = .returned (.agg (inC (fldF 5 v op))) ∧ Below w.heap.size w w' := by
  obtain ⟨x, hx⟩ : ∃ x, fldF 5 v op = x := ⟨_, rfl⟩
  have o0 : x.op = op := by rw [← hx]; rfl
  have o1 : x.rd = 0 := by rw [← hx]; rfl
  have o2 : x.rs1 = v / 32768 % 32 := by rw [← hx]; rfl
  have o3 : x.rs2 = v / 1048576 % 32 := by rw [← hx]; rfl
  have o4 : x.imm = numW 5 v := by rw [← hx]; rfl
  rw [hx]
  clear hx
  unfold inC
  rw [o0, o1, o2, o3, o4]
  clear o0 o1 o2 o3 o4
  have p0 : ∀ w, Calls Tryd.prog 34 #[.int .u32 v, .int .i64 7, .int .i64 5] w fun e w' => e = .returned (.int .u32 (v / 128 % 32 : Nat)) ∧ w = w' := fun w => by
    have h := rfld_any v 7 5 hv (by omega) (by omega) w
    rw [show v / 2 ^ 7 % 2 ^ 5 = v / 128 % 32 by simp] at h; exact h
  have p1 : ∀ w, Calls Tryd.prog 34 #[.int .u32 v, .int .i64 15, .int .i64 5] w fun e w' => e = .returned (.int .u32 (v / 32768 % 32 : Nat)) ∧ w = w' := fun w => by
    have h := rfld_any v 15 5 hv (by omega) (by omega) w
    rw [show v / 2 ^ 15 % 2 ^ 5 = v / 32768 % 32 by simp] at h; exact h
  have p2 : ∀ w, Calls Tryd.prog 34 #[.int .u32 v, .int .i64 20, .int .i64 5] w fun e w' => e = .returned (.int .u32 (v / 1048576 % 32 : Nat)) ∧ w = w' := fun w => by
    have h := rfld_any v 20 5 hv (by omega) (by omega) w
    rw [show v / 2 ^ 20 % 2 ^ 5 = v / 1048576 % 32 by simp] at h; exact h
  have p3 : ∀ w, Calls Tryd.prog 34 #[.int .u32 v, .int .i64 25, .int .i64 7] w fun e w' => e = .returned (.int .u32 (v / 33554432 % 128 : Nat)) ∧ w = w' := fun w => by
    have h := rfld_any v 25 7 hv (by omega) (by omega) w
    rw [show v / 2 ^ 25 % 2 ^ 7 = v / 33554432 % 128 by simp] at h; exact h
  have b0 : v / 128 % 32 < 32 := by omega
  have b1 : v / 32768 % 32 < 32 := by omega
  have b2 : v / 1048576 % 32 < 32 := by omega
  have b3 : v / 33554432 % 128 < 128 := by omega
  obtain ⟨nm, hnm⟩ : ∃ z, numW 5 v = z := ⟨_, rfl⟩
  rw [hnm]
  have hfin : sgI (((v / 128 % 32 : Nat) : Int) + ((v / 33554432 % 128 : Nat) : Int) * 32) 12 = nm := by
    rw [← hnm, num5, sg12 _ (by omega) (by omega)]
    unfold sgn
    split <;> split <;> omega
  generalize v / 128 % 32 = c0 at *
  generalize v / 32768 % 32 = c1 at *
  generalize v / 1048576 % 32 = c2 at *
  generalize v / 33554432 % 128 = c3 at *
  go_enter Tryd.func19, Tryd.ntmps19
  go_wp2_with (first | (go_at_call 34; first | ((with_reducible refine (p0 _).mono ?_); rintro e w0 ⟨rfl, rfl⟩) | ((with_reducible refine (p1 _).mono ?_); rintro e w1 ⟨rfl, rfl⟩) | ((with_reducible refine (p2 _).mono ?_); rintro e w2 ⟨rfl, rfl⟩) | ((with_reducible refine (p3 _).mono ?_); rintro e w3 ⟨rfl, rfl⟩)) | (go_at_call 35; (with_reducible refine (rsg12 _ ?qa ?qb _).mono ?_); (case qa => omega); (case qb => omega); rintro e w9 ⟨rfl, rfl⟩))
  refine bodyPost_ret (res_in rfl _ _ w.heap.size (.int .u8 op) (.int .u8 0) (.int .u8 c1) (.int .u8 c2) (.int .i64 nm) rfl ?_ ?_ ?_ ?_ ?_) rfl ⟨rfl, ?_⟩
  · go_simp
  · go_simp
  · go_simp
  · go_simp
  · go_simp
  · exact ((Below.refl _ _).alloc (Nat.le_refl _) _).alloc (by simp) _
set_option maxRecDepth 100000 in
set_option maxHeartbeats 2000000 in
theorem gs_6 (op v : Nat) (ho : op < 256) (hv : v < 4294967296) (w : World) :
    Calls Tryd.prog 19 #[.int .u8 op, .int .i64 6, .int .u32 v] w fun e w' => e = .returned (.agg (inC (fldF 6 v op))) ∧ Below w.heap.size w w' := by
  obtain ⟨x, hx⟩ : ∃ x, fldF 6 v op = x := ⟨_, rfl⟩
  have o0 : x.op = op := by rw [← hx]; rfl
  have o1 : x.rd = 0 := by rw [← hx]; rfl
  have o2 : x.rs1 = v / 32768 % 32 := by rw [← hx]; rfl
  have o3 : x.rs2 = v / 1048576 % 32 := by rw [← hx]; rfl
  have o4 : x.imm = numW 6 v := by rw [← hx]; rfl
  rw [hx]
  clear hx
  unfold inC
  rw [o0, o1, o2, o3, o4]
  clear o0 o1 o2 o3 o4
  have p0 : ∀ w, Calls Tryd.prog 34 #[.int .u32 v, .int .i64 7, .int .i64 5] w fun e w' => e = .returned (.int .u32 (v / 128 % 32 : Nat)) ∧ w = w' := fun w => by
    have h := rfld_any v 7 5 hv (by omega) (by omega) w
    rw [show v / 2 ^ 7 % 2 ^ 5 = v / 128 % 32 by simp] at h; exact h
  have p1 : ∀ w, Calls Tryd.prog 34 #[.int .u32 v, .int .i64 15, .int .i64 5] w fun e w' => e = .returned (.int .u32 (v / 32768 % 32 : Nat)) ∧ w = w' := fun w => by
    have h := rfld_any v 15 5 hv (by omega) (by omega) w
    rw [show v / 2 ^ 15 % 2 ^ 5 = v / 32768 % 32 by simp] at h; exact h
  have p2 : ∀ w, Calls Tryd.prog 34 #[.int .u32 v, .int .i64 20, .int .i64 5] w fun e w' => e = .returned (.int .u32 (v / 1048576 % 32 : Nat)) ∧ w = w' := fun w => by
    have h := rfld_any v 20 5 hv (by omega) (by omega) w
    rw [show v / 2 ^ 20 % 2 ^ 5 = v / 1048576 % 32 by simp] at h; exact h
  have p3 : ∀ w, Calls Tryd.prog 34 #[.int .u32 v, .int .i64 8, .int .i64 4] w fun e w' => e = .returned (.int .u32 (v / 256 % 16 : Nat)) ∧ w = w' := fun w => by
    have h := rfld_any v 8 4 hv (by omega) (by omega) w
    rw [show v / 2 ^ 8 % 2 ^ 4 = v / 256 % 16 by simp] at h; exact h
  have p4 : ∀ w, Calls Tryd.prog 34 #[.int .u32 v, .int .i64 25, .int .i64 6] w fun e w' => e = .returned (.int .u32 (v / 33554432 % 64 : Nat)) ∧ w = w' := fun w => by
    have h := rfld_any v 25 6 hv (by omega) (by omega) w
    rw [show v / 2 ^ 25 % 2 ^ 6 = v / 33554432 % 64 by simp] at h; exact h
  have p5 : ∀ w, Calls Tryd.prog 34 #[.int .u32 v, .int .i64 7, .int .i64 1] w fun e w' => e = .returned (.int .u32 (v / 128 % 2 : Nat)) ∧ w = w' := fun w => by
    have h := rfld_any v 7 1 hv (by omega) (by omega) w
    rw [show v / 2 ^ 7 % 2 ^ 1 = v / 128 % 2 by simp] at h; exact h
  have p6 : ∀ w, Calls Tryd.prog 34 #[.int .u32 v, .int .i64 31, .int .i64 1] w fun e w' => e = .returned (.int .u32 (v / 2147483648 % 2 : Nat)) ∧ w = w' := fun w => by
    have h := rfld_any v 31 1 hv (by omega) (by omega) w
    rw [show v / 2 ^ 31 % 2 ^ 1 = v / 2147483648 % 2 by simp] at h; exact h
  have b0 : v / 128 % 32 < 32 := by omega
  have b1 : v / 32768 % 32 < 32 := by omega
  have b2 : v / 1048576 % 32 < 32 := by omega
  have b3 : v / 256 % 16 < 16 := by omega
  have b4 : v / 33554432 % 64 < 64 := by omega
  have b5 : v / 128 % 2 < 2 := by omega
  have b6 : v / 2147483648 % 2 < 2 := by omega
  obtain ⟨nm, hnm⟩ : ∃ z, numW 6 v = z := ⟨_, rfl⟩
  rw [hnm]
  have hfin : sgI (((v / 256 % 16 : Nat) : Int) * 2 + ((v / 33554432 % 64 : Nat) : Int) * 32 + ((v / 128 % 2 : Nat) : Int) * 2048 + ((v / 2147483648 % 2 : Nat) : Int) * 4096) 13 = nm := by
    rw [← hnm, num6, sg13 _ (by omega) (by omega)]
    unfold sgn
    split <;> split <;> omega
  generalize v / 128 % 32 = c0 at *
  generalize v / 32768 % 32 = c1 at *
  generalize v / 1048576 % 32 = c2 at *
  generalize v / 256 % 16 = c3 at *
  generalize v / 33554432 % 64 = c4 at *
  generalize v / 128 % 2 = c5 at *
  generalize v / 2147483648 % 2 = c6 at *
  go_enter Tryd.func19, Tryd.ntmps19
  go_wp2_with (first | (go_at_call 34; first | ((with_reducible refine (p0 _).mono ?_); rintro e w0 ⟨rfl, rfl⟩) | ((with_reducible refine (p1 _).mono ?_); rintro e w1 ⟨rfl, rfl⟩) | ((with_reducible refine (p2 _).mono ?_); rintro e w2 ⟨rfl, rfl⟩) | ((with_reducible refine (p3 _).mono ?_); rintro e w3 ⟨rfl, rfl⟩) | ((with_reducible refine (p4 _).mono ?_); rintro e w4 ⟨rfl, rfl⟩) | ((with_reducible refine (p5 _).mono ?_); rintro e w5 ⟨rfl, rfl⟩) | ((with_reducible refine (p6 _).mono ?_); rintro e w6 ⟨rfl, rfl⟩)) | (go_at_call 35; (with_reducible refine (rsg13 _ ?qa ?qb _).mono ?_); (case qa => omega); (case qb => omega); rintro e w9 ⟨rfl, rfl⟩))
  refine bodyPost_ret (res_in rfl _ _ w.heap.size (.int .u8 op) (.int .u8 0) (.int .u8 c1) (.int .u8 c2) (.int .i64 nm) rfl ?_ ?_ ?_ ?_ ?_) rfl ⟨rfl, ?_⟩
  · go_simp
  · go_simp
  · go_simp
  · go_simp
  · go_simp
  · exact ((Below.refl _ _).alloc (Nat.le_refl _) _).alloc (by simp) _
set_option maxRecDepth 100000 in
set_option maxHeartbeats 2000000 in
theorem gs_7 (op v : Nat) (ho : op < 256) (hv : v < 4294967296) (w : World) :
    Calls Tryd.prog 19 #[.int .u8 op, .int .i64 7, .int .u32 v] w fun e w' => e = .returned (.agg (inC (fldF 7 v op))) ∧ Below w.heap.size w w' := by
  obtain ⟨x, hx⟩ : ∃ x, fldF 7 v op = x := ⟨_, rfl⟩
  have o0 : x.op = op := by rw [← hx]; rfl
  have o1 : x.rd = v / 128 % 32 := by rw [← hx]; rfl
  have o2 : x.rs1 = 0 := by rw [← hx]; rfl
  have o3 : x.rs2 = 0 := by rw [← hx]; rfl
  have o4 : x.imm = numW 7 v := by rw [← hx]; rfl
  rw [hx]
  clear hx
  unfold inC
  rw [o0, o1, o2, o3, o4]
  clear o0 o1 o2 o3 o4
  have p0 : ∀ w, Calls Tryd.prog 34 #[.int .u32 v, .int .i64 7, .int .i64 5] w fun e w' => e = .returned (.int .u32 (v / 128 % 32 : Nat)) ∧ w = w' := fun w => by
    have h := rfld_any v 7 5 hv (by omega) (by omega) w
    rw [show v / 2 ^ 7 % 2 ^ 5 = v / 128 % 32 by simp] at h; exact h
  have p1 : ∀ w, Calls Tryd.prog 34 #[.int .u32 v, .int .i64 15, .int .i64 5] w fun e w' => e = .returned (.int .u32 (v / 32768 % 32 : Nat)) ∧ w = w' := fun w => by
    have h := rfld_any v 15 5 hv (by omega) (by omega) w
    rw [show v / 2 ^ 15 % 2 ^ 5 = v / 32768 % 32 by simp] at h; exact h
  have p2 : ∀ w, Calls Tryd.prog 34 #[.int .u32 v, .int .i64 20, .int .i64 5] w fun e w' => e = .returned (.int .u32 (v / 1048576 % 32 : Nat)) ∧ w = w' := fun w => by
    have h := rfld_any v 20 5 hv (by omega) (by omega) w
    rw [show v / 2 ^ 20 % 2 ^ 5 = v / 1048576 % 32 by simp] at h; exact h
  have p3 : ∀ w, Calls Tryd.prog 34 #[.int .u32 v, .int .i64 21, .int .i64 10] w fun e w' => e = .returned (.int .u32 (v / 2097152 % 1024 : Nat)) ∧ w = w' := fun w => by
    have h := rfld_any v 21 10 hv (by omega) (by omega) w
    rw [show v / 2 ^ 21 % 2 ^ 10 = v / 2097152 % 1024 by simp] at h; exact h
  have p4 : ∀ w, Calls Tryd.prog 34 #[.int .u32 v, .int .i64 20, .int .i64 1] w fun e w' => e = .returned (.int .u32 (v / 1048576 % 2 : Nat)) ∧ w = w' := fun w => by
    have h := rfld_any v 20 1 hv (by omega) (by omega) w
    rw [show v / 2 ^ 20 % 2 ^ 1 = v / 1048576 % 2 by simp] at h; exact h
  have p5 : ∀ w, Calls Tryd.prog 34 #[.int .u32 v, .int .i64 12, .int .i64 8] w fun e w' => e = .returned (.int .u32 (v / 4096 % 256 : Nat)) ∧ w = w' := fun w => by
    have h := rfld_any v 12 8 hv (by omega) (by omega) w
    rw [show v / 2 ^ 12 % 2 ^ 8 = v / 4096 % 256 by simp] at h; exact h
  have p6 : ∀ w, Calls Tryd.prog 34 #[.int .u32 v, .int .i64 31, .int .i64 1] w fun e w' => e = .returned (.int .u32 (v / 2147483648 % 2 : Nat)) ∧ w = w' := fun w => by
    have h := rfld_any v 31 1 hv (by omega) (by omega) w
    rw [show v / 2 ^ 31 % 2 ^ 1 = v / 2147483648 % 2 by simp] at h; exact h
  have b0 : v / 128 % 32 < 32 := by omega
  have b1 : v / 32768 % 32 < 32 := by omega
  have b2 : v / 1048576 % 32 < 32 := by omega
  have b3 : v / 2097152 % 1024 < 1024 := by omega
  have b4 : v / 1048576 % 2 < 2 := by omega
  have b5 : v / 4096 % 256 < 256 := by omega
  have b6 : v / 2147483648 % 2 < 2 := by omega
  obtain ⟨nm, hnm⟩ : ∃ z, numW 7 v = z := ⟨_, rfl⟩
  rw [hnm]
  have hfin : sgI (((v / 2097152 % 1024 : Nat) : Int) * 2 + ((v / 1048576 % 2 : Nat) : Int) * 2048 + ((v / 4096 % 256 : Nat) : Int) * 4096 + ((v / 2147483648 % 2 : Nat) : Int) * 1048576) 21 = nm := by
    rw [← hnm, num7, sg21 _ (by omega) (by omega)]
    unfold sgn
    split <;> split <;> omega
  generalize v / 128 % 32 = c0 at *
  generalize v / 32768 % 32 = c1 at *
  generalize v / 1048576 % 32 = c2 at *
  generalize v / 2097152 % 1024 = c3 at *
  generalize v / 1048576 % 2 = c4 at *
  generalize v / 4096 % 256 = c5 at *
  generalize v / 2147483648 % 2 = c6 at *
  go_enter Tryd.func19, Tryd.ntmps19
  go_wp2_with (first | (go_at_call 34; first | ((with_reducible refine (p0 _).mono ?_); rintro e w0 ⟨rfl, rfl⟩) | ((with_reducible refine (p1 _).mono ?_); rintro e w1 ⟨rfl, rfl⟩) | ((with_reducible refine (p2 _).mono ?_); rintro e w2 ⟨rfl, rfl⟩) | ((with_reducible refine (p3 _).mono ?_); rintro e w3 ⟨rfl, rfl⟩) | ((with_reducible refine (p4 _).mono ?_); rintro e w4 ⟨rfl, rfl⟩) | ((with_reducible refine (p5 _).mono ?_); rintro e w5 ⟨rfl, rfl⟩) | ((with_reducible refine (p6 _).mono ?_); rintro e w6 ⟨rfl, rfl⟩)) | (go_at_call 35; (with_reducible refine (rsg21 _ ?qa ?qb _).mono ?_); (case qa => omega); (case qb => omega); rintro e w9 ⟨rfl, rfl⟩))
  refine bodyPost_ret (res_in rfl _ _ w.heap.size (.int .u8 op) (.int .u8 c0) (.int .u8 0) (.int .u8 0) (.int .i64 nm) rfl ?_ ?_ ?_ ?_ ?_) rfl ⟨rfl, ?_⟩
  · go_simp
  · go_simp
  · go_simp
  · go_simp
  · go_simp
  · exact ((Below.refl _ _).alloc (Nat.le_refl _) _).alloc (by simp) _
set_option maxRecDepth 100000 in
set_option maxHeartbeats 2000000 in
theorem gs_8 (op v : Nat) (ho : op < 256) (hv : v < 4294967296) (w : World) :
    Calls Tryd.prog 19 #[.int .u8 op, .int .i64 8, .int .u32 v] w fun e w' => e = .returned (.agg (inC (fldF 8 v op))) ∧ Below w.heap.size w w' := by
  obtain ⟨x, hx⟩ : ∃ x, fldF 8 v op = x := ⟨_, rfl⟩
  have o0 : x.op = op := by rw [← hx]; rfl
  have o1 : x.rd = 0 := by rw [← hx]; rfl
  have o2 : x.rs1 = 0 := by rw [← hx]; rfl
  have o3 : x.rs2 = 0 := by rw [← hx]; rfl
  have o4 : x.imm = numW 8 v := by rw [← hx]; rfl
  rw [hx]
  clear hx
  unfold inC
  rw [o0, o1, o2, o3, o4]
  clear o0 o1 o2 o3 o4
  have p0 : ∀ w, Calls Tryd.prog 34 #[.int .u32 v, .int .i64 7, .int .i64 5] w fun e w' => e = .returned (.int .u32 (v / 128 % 32 : Nat)) ∧ w = w' := fun w => by
    have h := rfld_any v 7 5 hv (by omega) (by omega) w
    rw [show v / 2 ^ 7 % 2 ^ 5 = v / 128 % 32 by simp] at h; exact h
  have p1 : ∀ w, Calls Tryd.prog 34 #[.int .u32 v, .int .i64 15, .int .i64 5] w fun e w' => e = .returned (.int .u32 (v / 32768 % 32 : Nat)) ∧ w = w' := fun w => by
    have h := rfld_any v 15 5 hv (by omega) (by omega) w
    rw [show v / 2 ^ 15 % 2 ^ 5 = v / 32768 % 32 by simp] at h; exact h
  have p2 : ∀ w, Calls Tryd.prog 34 #[.int .u32 v, .int .i64 20, .int .i64 5] w fun e w' => e = .returned (.int .u32 (v / 1048576 % 32 : Nat)) ∧ w = w' := fun w => by
    have h := rfld_any v 20 5 hv (by omega) (by omega) w
    rw [show v / 2 ^ 20 % 2 ^ 5 = v / 1048576 % 32 by simp] at h; exact h
  have b0 : v / 128 % 32 < 32 := by omega
  have b1 : v / 32768 % 32 < 32 := by omega
  have b2 : v / 1048576 % 32 < 32 := by omega
  rw [show numW 8 v = 0 from rfl]
  generalize v / 128 % 32 = c0 at *
  generalize v / 32768 % 32 = c1 at *
  generalize v / 1048576 % 32 = c2 at *
  go_enter Tryd.func19, Tryd.ntmps19
  go_wp2_with ((go_at_call 34; first | ((with_reducible refine (p0 _).mono ?_); rintro e w0 ⟨rfl, rfl⟩) | ((with_reducible refine (p1 _).mono ?_); rintro e w1 ⟨rfl, rfl⟩) | ((with_reducible refine (p2 _).mono ?_); rintro e w2 ⟨rfl, rfl⟩)))
  refine bodyPost_ret (res_in rfl _ _ w.heap.size (.int .u8 op) (.int .u8 0) (.int .u8 0) (.int .u8 0) (.int .i64 0) rfl ?_ ?_ ?_ ?_ ?_) rfl ⟨rfl, ?_⟩
  · go_simp
  · go_simp
  · go_simp
  · go_simp
  · go_simp
  · exact ((Below.refl _ _).alloc (Nat.le_refl _) _).alloc (by simp) _
theorem gs_any (f op v : Nat) (hf : 1 ≤ f) (hf8 : f ≤ 8) (ho : op < 256) (hv : v < 4294967296) (w : World) :
    Calls Tryd.prog 19 #[.int .u8 op, .int .i64 f, .int .u32 v] w fun e w' => e = .returned (.agg (inC (fldF f v op))) ∧ Below w.heap.size w w' := by
  rcases form_cases hf8 (by omega) with rfl | rfl | rfl | rfl | rfl | rfl | rfl | rfl
  · exact gs_1 op v ho hv w
  · exact gs_2 op v ho hv w
  · exact gs_3 op v ho hv w
  · exact gs_4 op v ho hv w
  · exact gs_5 op v ho hv w
  · exact gs_6 op v ho hv w
  · exact gs_7 op v ho hv w
  · exact gs_8 op v ho hv w
end Go.Proofs.YtjkagpmepokihaaDoor
