/- The document's machine: what call leaves. -/
import Derived.Test.YtfaacmcnefbgcaaGreatDoorDm
namespace Go.Proofs.YtfaacmcnefbgcaaGreatDoor.m4
open Go.ChangeShapes Go.WideShapes Go.ChangeAt Go.RowKit
set_option linter.unusedVariables false

set_option maxRecDepth 100000 in
set_option maxHeartbeats 8000000 in
theorem call_wrong {w : World} {D : Dc} {s : Ms} (h : IsD w D s) (p : Nat) (hr : 5 < s.rv 17) :
    Calls Tryz.prog 81 #[.pointer (some ⟨D.db, 0, none⟩), .agg #[.int .u64 (p : Nat), .int .u8 1, .int .u64 0, .int .u64 0, .bool false]] w (MmP w D (s) [.int .u64 (p : Nat), .int .u8 5, .int .u64 (s.rv 17 : Nat), .int .u64 0, .bool (s.rt 17)] 51) := by
  have r17 : w.cell? ⟨D.db, 19, none⟩ = some (.int .u64 (s.rv 17 : Nat)) := h.rv 17 (by omega)
  have t17 : w.cell? ⟨D.db, 51, none⟩ = some (.bool (s.rt 17)) := h.rt 17 (by omega)
  have hv17 := h.ok.v 17
  have hl := h.lt
  have q1 : 5 < (s.rv 17 : Int) := by omega
  go_enter Tryz.func81, Tryz.ntmps81
  go_wp2
  have hB := aBelow (aBelow (Below.refl w.heap.size w) (.cells #[.int .u64 (p : Nat), .int .u8 5, .int .u64 (s.rv 17 : Nat), .int .u64 0, .bool (s.rt 17)] 82)) (.cells #[.int .u64 (p : Nat), .int .u8 5, .int .u64 (s.rv 17 : Nat), .int .u64 0, .bool (s.rt 17)] 82)
  exact bodyPost_ret (res_se rfl _ _ (w.heap.size + 1) _ _ _ _ _ _ rfl rfl (rowG_at _ _ _ _ (by simp))) rfl ⟨rfl, h.of hB, only_below hB⟩
set_option maxRecDepth 100000 in
set_option maxHeartbeats 8000000 in
theorem call_seal {w : World} {D : Dc} {s : Ms} (h : IsD w D s) (p : Nat) (hr : s.rv 17 = 5) :
    Calls Tryz.prog 81 #[.pointer (some ⟨D.db, 0, none⟩), .agg #[.int .u64 (p : Nat), .int .u8 1, .int .u64 0, .int .u64 0, .bool false]] w (MmP w D (s) [.int .u64 (p : Nat), .int .u8 5, .int .u64 (s.rv 17 : Nat), .int .u64 0, .bool (s.rt 17)] 0) := by
  have r17 : w.cell? ⟨D.db, 19, none⟩ = some (.int .u64 (s.rv 17 : Nat)) := h.rv 17 (by omega)
  have t17 : w.cell? ⟨D.db, 51, none⟩ = some (.bool (s.rt 17)) := h.rt 17 (by omega)
  have hv17 := h.ok.v 17
  have hl := h.lt
  have q1 : ¬ 5 < (s.rv 17 : Int) := by omega
  have q2 : ¬ (s.rv 17 : Int) = 4 := by omega
  have q3 : ((s.rv 17 : Int) == 4) = false := by simp; omega
  have q4 : ¬ (s.rv 17 : Int) < 4 := by omega
  clear hr
  go_enter Tryz.func81, Tryz.ntmps81
  go_wp2
  have hB := aBelow (aBelow (Below.refl w.heap.size w) (.cells #[.int .u64 (p : Nat), .int .u8 5, .int .u64 (s.rv 17 : Nat), .int .u64 0, .bool (s.rt 17)] 82)) (.cells #[.int .u64 (p : Nat), .int .u8 5, .int .u64 (s.rv 17 : Nat), .int .u64 0, .bool (s.rt 17)] 82)
  exact bodyPost_ret (res_se rfl _ _ (w.heap.size + 1) _ _ _ _ _ _ rfl rfl (rowG_at _ _ _ _ (by simp))) rfl ⟨rfl, h.of hB, only_below hB⟩
set_option maxRecDepth 100000 in
set_option maxHeartbeats 8000000 in
theorem call_halt {w : World} {D : Dc} {s : Ms} (h : IsD w D s) (p : Nat) (hr : s.rv 17 < 4) (q : Nat) (hq : q < 18446744073709551616) (hpc : s.pc = sm q 4) :
    Calls Tryz.prog 81 #[.pointer (some ⟨D.db, 0, none⟩), .agg #[.int .u64 (p : Nat), .int .u8 1, .int .u64 0, .int .u64 0, .bool false]] w (MmP w D (({ { s with ov := true } with cd := s.rv 17 } : Ms).go q) [.int .u64 (p : Nat), .int .u8 5, .int .u64 (s.rv 17 : Nat), .int .u64 0, .bool (s.rt 17)] 0) := by
  have r17 : w.cell? ⟨D.db, 19, none⟩ = some (.int .u64 (s.rv 17 : Nat)) := h.rv 17 (by omega)
  have t17 : w.cell? ⟨D.db, 51, none⟩ = some (.bool (s.rt 17)) := h.rt 17 (by omega)
  have hv17 := h.ok.v 17
  have hl := h.lt
  have q1 : ¬ 5 < (s.rv 17 : Int) := by omega
  have q2 : ¬ (s.rv 17 : Int) = 4 := by omega
  have q3 : ((s.rv 17 : Int) == 4) = false := by simp; omega
  have q4 : (s.rv 17 : Int) < 4 := by omega
  have e1 := h.e1
  have e66 := h.e66
  have e67 := h.e67
  have f1 := h.fz 1
  have f66 := h.fz 66
  have f67 := h.fz 67
  have hw : IntKind.u64.wrap ((s.pc : Int) - 4) = (q : Int) := by rw [IntKind.wrap_u64, hpc]; unfold sm; omega
  have hw8 : IntKind.u8.wrap (s.rv 17 : Int) = (s.rv 17 : Int) := by rw [IntKind.wrap_u8]; omega
  clear hpc
  go_enter Tryz.func81, Tryz.ntmps81
  go_wp2
  have hF := (h.setOv.setCd (v := s.rv 17) (by omega)).setPc hq
  have hO := (((only_one w D.db 66 (.bool true)).trans (only_one _ D.db 67 (.int .u8 (s.rv 17 : Nat)))).trans (only_one _ D.db 1 (.int .u64 (q : Nat)))).mono (T := fun j => j = D.db ∨ D.y.bl j) fun j hj => .inl hj
  have hB := fun (W : World) => aBelow (aBelow (Below.refl W.heap.size W) (.cells #[.int .u64 (p : Nat), .int .u8 5, .int .u64 (s.rv 17 : Nat), .int .u64 0, .bool (s.rt 17)] 82)) (.cells #[.int .u64 (p : Nat), .int .u8 5, .int .u64 (s.rv 17 : Nat), .int .u64 0, .bool (s.rt 17)] 82)
  exact bodyPost_ret (res_se rfl _ _ (w.heap.size + 1) _ _ _ _ _ _ rfl rfl (rowG_at _ _ _ _ (by simp))) rfl ⟨rfl, hF.of (hB _), hO.trans (only_below (hB _))⟩
set_option maxRecDepth 100000 in
set_option maxHeartbeats 8000000 in
theorem call_tell {w : World} {D : Dc} {s : Ms} (h : IsD w D s) (p : Nat) (hr : s.rv 17 = 4) (hk : s.told.length ≤ 1048576) :
    Calls Tryz.prog 81 #[.pointer (some ⟨D.db, 0, none⟩), .agg #[.int .u64 (p : Nat), .int .u8 1, .int .u64 0, .int .u64 0, .bool false]] w fun e w' => ∃ D', Dc.nxt w D D' ∧ e = .returned (.tuple #[.agg #[.int .u64 (p : Nat), .int .u8 5, .int .u64 (s.rv 17 : Nat), .int .u64 0, .bool (s.rt 17)], .int .i64 0]) ∧ IsD w' D' s.tell ∧ Only D.own w w' := by
  obtain ⟨iT, hiT, zT0, zT1, zT2⟩ := info_parts infoTa
  have r17 : w.cell? ⟨D.db, 19, none⟩ = some (.int .u64 (s.rv 17 : Nat)) := h.rv 17 (by omega)
  have t17 : w.cell? ⟨D.db, 51, none⟩ = some (.bool (s.rt 17)) := h.rt 17 (by omega)
  have hv17 := h.ok.v 17
  have hl := h.lt
  have q1 : ¬ 5 < (s.rv 17 : Int) := by omega
  have q3 : ((s.rv 17 : Int) == 4) = true := by simp; omega
  have q5 : decide ((s.rv 17 : Int) = 4) = true := by simp; omega
  have q4 : ¬ (s.rv 17 : Int) < 4 := by omega
  clear hr
  go_enter Tryz.func81, Tryz.ntmps81
  go_wp2
  obtain ⟨W1, hW1⟩ : ∃ W1, (w.alloc (.cells #[.int .u64 (p : Nat), .int .u8 5, .int .u64 (s.rv 17 : Nat), .int .u64 0, .bool (s.rt 17)] 82)).alloc (.cells #[.int .u64 0, .int .u8 0, .int .u64 0, .int .u64 0, .bool false] 82) = W1 := ⟨_, rfl⟩
  have hB1 : Below w.heap.size w W1 := by rw [← hW1]; exact aBelow (aBelow (Below.refl _ _) _) _
  have RS : rowG #[.int .u64 (p : Nat), .int .u8 5, .int .u64 (s.rv 17 : Nat), .int .u64 0, .bool (s.rt 17)] W1 w.heap.size := by rw [← hW1]; exact rowG_alloc (rowG_new _ _ _) _
  have RZ : rowG #[.int .u64 0, .int .u8 0, .int .u64 0, .int .u64 0, .bool false] W1 (w.heap.size + 1) := by rw [← hW1]; exact rowG_at _ _ _ _ (by simp)
  rw [hW1]
  clear hW1
  have hD1 := h.of hB1
  have c69 := hD1.e69
  have r10 : W1.cell? ⟨D.db, 12, none⟩ = some (.int .u64 (s.rv 10 : Nat)) := hD1.rv 10 (by omega)
  have t10 : W1.cell? ⟨D.db, 44, none⟩ = some (.bool (s.rt 10)) := hD1.rt 10 (by omega)
  have i0 : (0 : Int) ≤ 10 := by omega
  have hBW : Below W1.heap.size W1 (W1.alloc (.cells #[.int .u64 (s.rv 10 : Nat), .bool (s.rt 10)] 54)).drew := bd1 (aBelow (Below.refl _ _) _)
  have owT := own_of hD1.rowT hBW
  have nT := news2 W1 #[.int .u64 (s.rv 10 : Nat), .bool (s.rt 10)] 54
  have hF0 : (fun w' : World => w'.cell? ⟨D.db, 69, none⟩ = some D.vt ∧ w'.cell? ⟨D.db, 12, none⟩ = some (.int .u64 (s.rv 10 : Nat)) ∧ w'.cell? ⟨D.db, 44, none⟩ = some (.bool (s.rt 10))) W1.drew := ⟨c69, r10, t10⟩
  have hF1 : (fun w' : World => w'.cell? ⟨D.db, 69, none⟩ = some D.vt ∧ w'.cell? ⟨D.db, 12, none⟩ = some (.int .u64 (s.rv 10 : Nat)) ∧ w'.cell? ⟨D.db, 44, none⟩ = some (.bool (s.rt 10))) (W1.alloc (.cells #[.int .u64 (s.rv 10 : Nat), .bool (s.rt 10)] 54)).drew := ⟨stay hBW c69, stay hBW r10, stay hBW t10⟩
  have nvt : ∀ j, w.heap.size ≤ j → ¬ some j = D.vt.ownBlock := fun j hj e => by have := own_lt h.rowT e.symm; omega
  have ndb : ¬ some D.db = D.vt.ownBlock := fun e => (h.n2 _ e.symm).1 rfl
  refine region_F (fun w' : World => w'.cell? ⟨D.db, 69, none⟩ = some D.vt ∧ w'.cell? ⟨D.db, 12, none⟩ = some (.int .u64 (s.rv 10 : Nat)) ∧ w'.cell? ⟨D.db, 44, none⟩ = some (.bool (s.rt 10))) 20 (by kernel_rfl) ?_
  refine wpAnyF_take (i := 0) rfl (by kernel_rfl) (by kernel_rfl) (by kernel_rfl) (by kernel_rfl) (by kernel_rfl) (fun _ _ _ _ h => h) hF0 (fun K hK => ?_)
  apply Exists.intro
  refine ⟨Or.inl ⟨by kernel_rfl, fun w' hf => ?_⟩, ?_⟩
  · obtain ⟨b0, b1, b2⟩ := hf
    go_simp
    try exact rfl
  go_simp
  refine hK _ ?_
  clear hK K
  refine wpAnyF_take (i := 1) rfl (by kernel_rfl) (by kernel_rfl) (by kernel_rfl) (by kernel_rfl) (by kernel_rfl) (fun _ _ _ _ h => h) hF0 (fun K hK => ?_)
  apply Exists.intro
  refine ⟨Or.inl ⟨by kernel_rfl, fun w' hf => ?_⟩, ?_⟩
  · obtain ⟨b0, b1, b2⟩ := hf
    go_simp
    try exact rfl
  go_simp
  refine hK _ ?_
  clear hK K
  refine wpAnyF_take (i := 2) rfl (by kernel_rfl) (by kernel_rfl) (by kernel_rfl) (by kernel_rfl) (by kernel_rfl) (fun _ _ _ _ h => h) hF0 (fun K hK => ?_)
  apply Exists.intro
  refine ⟨Or.inl ⟨by kernel_rfl, fun w' hf => ?_⟩, ?_⟩
  · obtain ⟨b0, b1, b2⟩ := hf
    go_simp
    try exact rfl
  go_simp
  refine hK _ ?_
  clear hK K
  refine wpAnyF_take (i := 3) rfl (by kernel_rfl) (by kernel_rfl) (by kernel_rfl) (by kernel_rfl) (by kernel_rfl) (fun _ _ _ _ h => h) hF0 (fun K hK => ?_)
  apply Exists.intro
  refine ⟨Or.inl ⟨by kernel_rfl, fun w' hf => ?_⟩, ?_⟩
  · obtain ⟨b0, b1, b2⟩ := hf
    go_simp
    try exact rfl
  go_simp
  refine hK _ ?_
  clear hK K
  refine wpAnyF_take (i := 4) rfl (by kernel_rfl) (by kernel_rfl) (by kernel_rfl) (by kernel_rfl) (by kernel_rfl) (fun _ _ _ _ h => h) hF0 (fun K hK => ?_)
  apply Exists.intro
  refine ⟨Or.inl ⟨by kernel_rfl, fun w' hf => ?_⟩, ?_⟩
  · obtain ⟨b0, b1, b2⟩ := hf
    go_simp
    try exact rfl
  go_simp
  refine hK _ ?_
  clear hK K
  refine wpAnyF_take (i := 5) rfl (by kernel_rfl) (by kernel_rfl) (by kernel_rfl) (by kernel_rfl) (by kernel_rfl) (fun _ _ _ _ h => h) hF0 (fun K hK => ?_)
  apply Exists.intro
  refine ⟨Or.inl ⟨by kernel_rfl, fun w' hf => ?_⟩, ?_⟩
  · obtain ⟨b0, b1, b2⟩ := hf
    go_simp
    try exact rfl
  go_simp
  refine hK _ ?_
  clear hK K
  refine wpAnyF_take (i := 6) rfl (by kernel_rfl) (by kernel_rfl) (by kernel_rfl) (by kernel_rfl) (by kernel_rfl) (fun _ _ _ _ h => h) hF0 (fun K hK => ?_)
  apply Exists.intro
  refine ⟨Or.inl ⟨by kernel_rfl, fun w' hf => ?_⟩, ?_⟩
  · obtain ⟨b0, b1, b2⟩ := hf
    go_simp
    try exact rfl
  go_simp
  refine hK _ ?_
  clear hK K
  refine wpAnyF_take (i := 7) rfl (by kernel_rfl) (by kernel_rfl) (by kernel_rfl) (by kernel_rfl) (by kernel_rfl) (fun _ _ _ _ h => h) hF0 (fun K hK => ?_)
  apply Exists.intro
  refine ⟨Or.inl ⟨by kernel_rfl, fun w' hf => ?_⟩, ?_⟩
  · obtain ⟨b0, b1, b2⟩ := hf
    go_simp
    try exact rfl
  go_simp
  refine hK _ ?_
  clear hK K
  refine wpAnyF_take (i := 8) rfl (by kernel_rfl) (by kernel_rfl) (by kernel_rfl) (by kernel_rfl) (by kernel_rfl) (fun _ _ _ _ h => h) hF0 (fun K hK => ?_)
  apply Exists.intro
  refine ⟨Or.inl ⟨by kernel_rfl, fun w' hf => ?_⟩, ?_⟩
  · obtain ⟨b0, b1, b2⟩ := hf
    go_simp
    try exact rfl
  go_simp
  refine hK _ ?_
  clear hK K
  refine wpAnyF_take (i := 9) rfl (by kernel_rfl) (by kernel_rfl) (by kernel_rfl) (by kernel_rfl) (by kernel_rfl) (fun _ _ _ _ h => h) hF0 (fun K hK => ?_)
  apply Exists.intro
  refine ⟨Or.inl ⟨by kernel_rfl, fun w' hf => ?_⟩, ?_⟩
  · obtain ⟨b0, b1, b2⟩ := hf
    go_simp
    try exact rfl
  go_simp
  refine hK _ ?_
  clear hK K
  refine wpAnyF_take (i := 10) rfl (by kernel_rfl) (by kernel_rfl) (by kernel_rfl) (by kernel_rfl) (by kernel_rfl) (fun _ _ _ _ h => h) hF0 (fun K hK => ?_)
  apply Exists.intro
  refine ⟨Or.inl ⟨by kernel_rfl, fun w' hf => ?_⟩, ?_⟩
  · obtain ⟨b0, b1, b2⟩ := hf
    go_simp
    try exact rfl
  go_simp
  refine hK _ ?_
  clear hK K
  refine wpAnyF_take (i := 11) rfl (by kernel_rfl) (by kernel_rfl) (by kernel_rfl) (by kernel_rfl) (by kernel_rfl) (fun _ _ _ _ h => h) hF0 (fun K hK => ?_)
  apply Exists.intro
  refine ⟨Or.inl ⟨by kernel_rfl, fun w' hf => ?_⟩, ?_⟩
  · obtain ⟨b0, b1, b2⟩ := hf
    go_simp
    try exact rfl
  go_simp
  refine hK _ ?_
  clear hK K
  refine wpAnyF_take (i := 12) rfl (by kernel_rfl) (by kernel_rfl) (by kernel_rfl) (by kernel_rfl) (by kernel_rfl) (fun _ _ _ _ h => h) hF0 (fun K hK => ?_)
  apply Exists.intro
  refine ⟨Or.inl ⟨by kernel_rfl, fun w' hf => ?_⟩, ?_⟩
  · obtain ⟨b0, b1, b2⟩ := hf
    go_simp
    try exact rfl
  go_simp
  refine hK _ ?_
  clear hK K
  refine wpAnyF_take (i := 13) rfl (by kernel_rfl) (by kernel_rfl) (by kernel_rfl) (by kernel_rfl) (by kernel_rfl) (fun _ _ _ _ h => h) hF0 (fun K hK => ?_)
  apply Exists.intro
  refine ⟨Or.inl ⟨by kernel_rfl, fun w' hf => ?_⟩, ?_⟩
  · obtain ⟨b0, b1, b2⟩ := hf
    go_simp
    try exact rfl
  go_simp
  refine hK _ ?_
  clear hK K
  refine wpAnyF_take (i := 14) rfl (by kernel_rfl) (by kernel_rfl) (by kernel_rfl) (by kernel_rfl) (by kernel_rfl) (fun _ _ _ _ h => h) hF0 (fun K hK => ?_)
  apply Exists.intro
  refine ⟨Or.inl ⟨by kernel_rfl, fun w' hf => ?_⟩, ?_⟩
  · obtain ⟨b0, b1, b2⟩ := hf
    go_simp
    try exact rfl
  go_simp
  refine hK _ ?_
  clear hK K
  refine wpAnyF_take (i := 15) rfl (by kernel_rfl) (by kernel_rfl) (by kernel_rfl) (by kernel_rfl) (by kernel_rfl) (fun _ _ _ _ h => h) hF0 (fun K hK => ?_)
  apply Exists.intro
  refine ⟨Or.inl ⟨by kernel_rfl, fun w' hf => ?_⟩, ?_⟩
  · obtain ⟨b0, b1, b2⟩ := hf
    go_simp
    try exact rfl
  go_simp
  refine hK _ ?_
  clear hK K
  refine wpAnyF_one (k := 16) (by kernel_rfl) ?_
  refine wpOp_step rfl (fun K hK => ?_)
  go_simp
  refine hK _ _ ⟨fun _ => hF1, ?_⟩
  clear hK K
  refine wpAnyF_one (k := 17) (by kernel_rfl) ?_
  refine wpOp_step rfl (fun K hK => ?_)
  refine step_append_lies _ rfl (.tmp 30) (.tmp 42) 42 rfl 0 54 iT _ 2 16 Tryz.underlying42 hiT zT0 zT1 zT2 rfl (by decide) D.vt s.told.length (tlL s.told) rfl owT ⟨W1.heap.size, 0, none⟩ 1 1 [.int .u64 (s.rv 10 : Nat), .bool (s.rt 10)] rfl rfl nT (by intro u hu; simp at hu; rcases hu with rfl | rfl <;> rfl) (by decide) (by unfold maxLen; omega) (by omega) (Nat.zero_le _) _ rfl ?_
  intro g cap w5 hown5 hgrow hat hlt5
  have O5 := only_grown hgrow
  have k69 := O5.cell (a := ⟨D.db, 69, none⟩) ndb (stay hBW c69)
  have k44 := O5.cell (a := ⟨D.db, 44, none⟩) ndb (stay hBW t10)
  have hF5 : (fun w' : World => w'.cell? ⟨D.db, 69, none⟩ = some D.vt ∧ w'.cell? ⟨D.db, 12, none⟩ = some (.int .u64 (s.rv 10 : Nat)) ∧ w'.cell? ⟨D.db, 44, none⟩ = some (.bool (s.rt 10))) w5 := ⟨k69, O5.cell (a := ⟨D.db, 12, none⟩) ndb (stay hBW r10), k44⟩
  have z69 : w5.frozen? ⟨D.db, 69, none⟩ = false := (O5.frozen (by exact (hD1.of hBW).lt) ndb).trans ((hD1.of hBW).fz 69)
  have z44 : w5.frozen? ⟨D.db, 44, none⟩ = false := (O5.frozen (by exact (hD1.of hBW).lt) ndb).trans ((hD1.of hBW).fz 44)
  have RS5 := sn_row O5 (nvt _ (Nat.le_refl _)) (rowG_b RS hBW)
  have RZ5 := sn_row O5 (nvt _ (by omega)) (rowG_b RZ hBW)
  go_simp
  refine hK _ _ ⟨fun _ => hF5, ?_⟩
  clear hK K
  refine wpAnyF_one (k := 18) (by kernel_rfl) ?_
  refine wpOp_step rfl (fun K hK => ?_)
  go_simp
  refine hK _ _ ⟨fun _ => hF5, ?_⟩
  clear hK K
  refine wpAnyF_one (k := 19) (by kernel_rfl) ?_
  refine wpOp_step rfl (fun K hK => ?_)
  go_simp
  refine hK _ _ ⟨fun _ => hF5, ?_⟩
  clear hK K
  refine wpAnyF_one (k := 20) (by kernel_rfl) ?_
  refine wpOp_step rfl (fun K hK => ?_)
  go_simp
  refine hK _ _ ⟨fun h => (Bool.false_ne_true (h.symm.trans (by kernel_rfl))).elim, ?_⟩
  clear hK K
  refine wpAnyF_done (by kernel_rfl) ?_
  have hG := (hD1.of hBW).growT (t' := s.told ++ [(s.rv 10, s.rt 10)]) hgrow (by rw [List.length_append, tlL_snoc]; exact hown5) (own_blk' hat)
  obtain ⟨w6, hw6⟩ : ∃ w6, w5.setCell ⟨D.db, 69, none⟩ (.slice (some ⟨g, 0, none⟩) (s.told.length + 1) cap) = w6 := ⟨_, rfl⟩
  have RS6 := sn_row (only_one _ D.db 69 (.slice (some ⟨g, 0, none⟩) (s.told.length + 1) cap)) (by omega) RS5
  have RZ6 := sn_row (only_one _ D.db 69 (.slice (some ⟨g, 0, none⟩) (s.told.length + 1) cap)) (by omega) RZ5
  have hO6 : Only D.own w w6 := by
    rw [← hw6]
    exact ((((only_below hB1).trans (only_below hBW)).trans (O5.mono fun j hj => .inr (.inr (.inl hj.symm))))).setCell (.inl rfl)
  have hnx := dnxtT (w0 := w) (D := D) (v' := .slice (some ⟨g, 0, none⟩) (s.told.length + 1) cap) (w := (W1.alloc (.cells #[.int .u64 (s.rv 10 : Nat), .bool (s.rt 10)] 54)).drew) (Nat.le_trans hB1.size hBW.size) (own_blk' hat)
  rw [hw6] at hG RS6 RZ6 ⊢
  have y44 := hG.rt 10 (by omega)
  have yf := hG.fz 44
  have yl := hG.lt
  have s0 := RS6.1 0 (by simp)
  have s1 := RS6.1 1 (by simp)
  have s2 := RS6.1 2 (by simp)
  have s3 := RS6.1 3 (by simp)
  have s4 := RS6.1 4 (by simp)
  have sl := RS6.2.2
  have z0 := RZ6.1 0 (by simp)
  have z1 := RZ6.1 1 (by simp)
  have z2 := RZ6.1 2 (by simp)
  have z3 := RZ6.1 3 (by simp)
  have z4 := RZ6.1 4 (by simp)
  have zl := RZ6.2.2
  have f0 := RZ6.2.1 0
  have f1 := RZ6.2.1 1
  have f2 := RZ6.2.1 2
  have f3 := RZ6.2.1 3
  have f4 := RZ6.2.1 4
  clear hw6 k69 k44 z69 z44 hF5 hF0 hF1 t10 r10 c69 r17 t17 RS RS5 RZ5 nT owT hown5 hgrow
  go_wp2
  have hH := hG.setT (i := 10) (t := false) (by omega) (by omega)
  have RZ7 := sn_row (only_one _ D.db 44 (.bool false)) (by omega) RZ6
  refine bodyPost_ret (res_se rfl _ _ (w.heap.size + 1) _ _ _ _ _ _ rfl rfl (sn_five _ _ _ _ _ RZ7)) rfl ⟨_, hnx, rfl, hH.only (sn_only _ (w.heap.size + 1) _ _ _ _ _) (fun j hj e => ?_), ?_⟩
  · have h9 : D.all j ∨ w.heap.size + 2 ≤ j := by
      rcases hj with hj | hj
      · rcases hj with hj | hj | hj | hj
        · exact .inl (.inl (.inl hj))
        · exact .inl (.inl (.inr (.inl hj)))
        · rcases own_blk' hat j hj with h8 | h8
          · exact .inl (.inl (.inr (.inr (.inl h8))))
          · have h7 := RZ.2.2
            have := hBW.size
            exact .inr (by omega)
        · exact .inl (.inl (.inr (.inr (.inr hj))))
      · exact .inl (.inr hj)
    rcases h9 with h9 | h9
    · have := h.all_lt h9; omega
    · omega
  · exact only_new (only_new (only_new (only_new (only_new (hO6.setCell (.inl rfl)) (by omega)) (by omega)) (by omega)) (by omega)) (by omega)
end Go.Proofs.YtfaacmcnefbgcaaGreatDoor.m4
