/- The document's machine: what an instruction does. -/
import Derived.Test.YtfaacmcnefbgcaaGreatDoorDc5
import Derived.Test.YtfaacmcnefbgcaaGreatDoorQv
namespace Go.Proofs.YtfaacmcnefbgcaaGreatDoor.m4
open Go.ChangeShapes Go.WideShapes Go.ChangeAt Go.RowKit
set_option linter.unusedVariables false
set_option maxRecDepth 100000
set_option maxHeartbeats 8000000
/-- What does leaves: the error; where there is none, the state and what is seen. -/
def DsP (w : World) (D : Dc) (s : Ms) (k : Int) (s' : Ms) (n : Sn) (e : Ending) (w' : World) : Prop := ∃ D' c0 c1 c2 c3 c4, Dc.nxt w D D' ∧ e = .returned (.tuple #[.agg #[c0, c1, c2, c3, c4], .int .i64 k]) ∧ (∃ n0 : Sn, [c0, c1, c2, c3, c4] = snC n0) ∧ (k = 0 → [c0, c1, c2, c3, c4] = snC n ∧ IsD w' D' s') ∧ (k ≠ 0 → IsD w' D' s) ∧ Only D.own w w'
theorem own_db {D : Dc} : D.own D.db := .inl rfl
theorem own_bl {D : Dc} {j : Nat} (h : j = D.db ∨ D.y.bl j) : D.own j := by
  rcases h with h | h
  · exact .inl h
  · exact .inr (.inl h)
theorem five {a b c d e : Value} {w : World} {k : Nat} (h : rowG #[a, b, c, d, e] w k) : w.cell? ⟨k, 0, none⟩ = some a ∧ w.cell? ⟨k, 1, none⟩ = some b ∧ w.cell? ⟨k, 2, none⟩ = some c ∧ w.cell? ⟨k, 3, none⟩ = some d ∧ w.cell? ⟨k, 4, none⟩ = some e ∧ k < w.heap.size := ⟨h.1 0 (by simp), h.1 1 (by simp), h.1 2 (by simp), h.1 3 (by simp), h.1 4 (by simp), h.2.2⟩
theorem fivef {C : Array Value} {w : World} {k : Nat} (h : rowG C w k) : w.frozen? ⟨k, 0, none⟩ = false ∧ w.frozen? ⟨k, 1, none⟩ = false ∧ w.frozen? ⟨k, 2, none⟩ = false ∧ w.frozen? ⟨k, 3, none⟩ = false ∧ w.frozen? ⟨k, 4, none⟩ = false := ⟨h.2.1 0, h.2.1 1, h.2.1 2, h.2.1 3, h.2.1 4⟩
theorem start3 (w : World) (x : In) (p : Nat) : ∃ W1, ((w.alloc (.cells #[.int .u8 (x.op : Nat), .int .u8 (x.rd : Nat), .int .u8 (x.rs1 : Nat), .int .u8 (x.rs2 : Nat), .int .i64 x.imm] 48)).alloc (.cells #[.int .u64 (p : Nat), .int .u8 1, .int .u64 0, .int .u64 0, .bool false] 82)).alloc (.cells #[.int .u64 0, .int .u8 0, .int .u64 0, .int .u64 0, .bool false] 82) = W1 ∧ Below w.heap.size w W1 ∧ rowG #[.int .u8 (x.op : Nat), .int .u8 (x.rd : Nat), .int .u8 (x.rs1 : Nat), .int .u8 (x.rs2 : Nat), .int .i64 x.imm] W1 w.heap.size ∧ rowG #[.int .u64 (p : Nat), .int .u8 1, .int .u64 0, .int .u64 0, .bool false] W1 (w.heap.size + 1) ∧ rowG #[.int .u64 0, .int .u8 0, .int .u64 0, .int .u64 0, .bool false] W1 (w.heap.size + 1 + 1) :=
  ⟨_, rfl, aBelow (aBelow (aBelow (Below.refl _ _) _) _) _, rowG_alloc (rowG_alloc (rowG_new _ _ _) _) _, rowG_alloc (rowG_at _ _ _ _ (by simp)) _, rowG_at _ _ _ _ (by simp)⟩
theorem does_two {w : World} {D : Dc} {s : Ms} (h : IsD w D s) (x : In) (p : Nat) (ho : 1 ≤ x.op ∧ x.op ≤ 12) (h1 : x.rd < 32) (h2 : x.rs1 < 32) (h3 : x.rs2 < 32) :
    Calls Tryz.prog 31 #[.pointer (some ⟨D.db, 0, none⟩), .agg #[.int .u8 (x.op : Nat), .int .u8 (x.rd : Nat), .int .u8 (x.rs1 : Nat), .int .u8 (x.rs2 : Nat), .int .i64 x.imm], .agg #[.int .u64 (p : Nat), .int .u8 1, .int .u64 0, .int .u64 0, .bool false]] w (DsP w D s 0 (s.lay x.rd (opv x.op (s.rv x.rs1) (s.rv x.rs2)) (s.rt x.rs1 || s.rt x.rs2)) ⟨p, 1, 0, 0, false⟩) := by
  have l22 : (x.op : Int) ≤ 22 := by omega
  have d22 : decide ((x.op : Int) ≤ 22) = true := by simp; omega
  have i1 : (0 : Int) ≤ (x.rs1 : Int) := by omega
  have i2 : (x.rs1 : Int) < 32 := by omega
  have i3 : (0 : Int) ≤ (x.rs2 : Int) := by omega
  have i4 : (x.rs2 : Int) < 32 := by omega
  have hdl := h.lt
  have nb : ∀ k, w.heap.size ≤ k → ¬ D.own k := fun k hk e => by have := h.all_lt (.inl e); omega
  go_enter Tryz.func31, Tryz.ntmps31
  go_wp2
  obtain ⟨W1, hW1, hB1, RX, RS, RZ⟩ := start3 w x p
  rw [hW1]
  clear hW1
  have hD1 := h.of hB1
  have x2 := RX.1 2 (by simp)
  have x3 := RX.1 3 (by simp)
  have r1 := hD1.rv x.rs1 h2
  have r2 := hD1.rv x.rs2 h3
  refine region_below (by kernel_rfl) (by kernel_rfl) ?_
  repeat (first
    | go_big_quiet_skip
    | (refine BigFrame.wpQuiet_want (by kernel_rfl) fun K hK => ?_
       apply Exists.intro
       refine ⟨fun w' hb' => ?_, ?_⟩
       · have s0 := stay hb' x2
         have s1 := stay hb' x3
         have s2 := stay hb' r1
         have s3 := stay hb' r2
         go_simp
         first
           | exact rfl
           | exact ⟨rfl, hb'⟩
       go_simp
       refine hK _ ?_
       clear hK K))
  refine wpQuiet_nil ?_
  intro W2 hb2
  have hB2 := below_trans' hB1 (Nat.le_refl _) hb2
  have hD2 := hD1.of hb2
  have RX := rowG_b RX hb2
  have RS := rowG_b RS hb2
  have RZ := rowG_b RZ hb2
  clear x2 x3 r1 r2 hb2 hD1 hB1
  have hS2 : Only D.own w W2 := only_below hB2
  obtain ⟨x0, x1, x2, x3, x4, xl⟩ := five RX
  obtain ⟨v0, v1, v2, v3, v4, vl⟩ := five RS
  obtain ⟨z0, z1, z2, z3, z4, zl⟩ := five RZ
  obtain ⟨fz0, fz1, fz2, fz3, fz4⟩ := fivef RZ
  have fs4 := RS.2.1 4
  go_wp2_with (go_at_call 78; (have hcall := alu_two hD2 x p ho h1 h2 h3); (with_reducible refine hcall.mono ?_); (clear hcall); (rintro e w3 ⟨rfl, hD3, hO3⟩); have hO3' := hO3.mono (T := D.own) (fun j hj => hj ▸ own_db); have hSf := hS2.trans hO3'; have RX := sn_row hO3' (nb _ (by omega)) RX; have RS := sn_row hO3' (nb _ (by omega)) RS; have RZ := sn_row hO3' (nb _ (by omega)) RZ; obtain ⟨y0, y1, y2, y3, y4, yl⟩ := five RZ; obtain ⟨fy0, fy1, fy2, fy3, fy4⟩ := fivef RZ)
  refine bodyPost_ret (res_se rfl _ _ (w.heap.size + 1 + 1) _ _ _ _ _ _ rfl rfl (sn_five _ _ _ _ _ RZ)) rfl ⟨D, _, _, _, _, _, Dc.nxt_refl _ _, rfl, ⟨⟨p, 1, 0, 0, false⟩, rfl⟩, fun _ => ⟨rfl, hD3.only (sn_only w3 (w.heap.size + 1 + 1) _ _ _ _ _) (fun j hj e => by have := h.all_lt hj; omega)⟩, fun hne => absurd rfl hne, only_new (only_new (only_new (only_new (only_new hSf (by omega)) (by omega)) (by omega)) (by omega)) (by omega)⟩
theorem does_13 {w : World} {D : Dc} {s : Ms} (h : IsD w D s) (x : In) (p : Nat) (ho : 13 ≤ x.op ∧ x.op ≤ 13) (h1 : x.rd < 32) (h2 : x.rs1 < 32) (h3 : x.rs2 < 32) :
    Calls Tryz.prog 31 #[.pointer (some ⟨D.db, 0, none⟩), .agg #[.int .u8 (x.op : Nat), .int .u8 (x.rd : Nat), .int .u8 (x.rs1 : Nat), .int .u8 (x.rs2 : Nat), .int .i64 x.imm], .agg #[.int .u64 (p : Nat), .int .u8 1, .int .u64 0, .int .u64 0, .bool false]] w (DsP w D s 0 (s.lay x.rd (opv x.op (s.rv x.rs1) (s.rv x.rs2)) (s.rt x.rs1 || s.rt x.rs2)) ⟨p, 4, s.rv x.rs1, s.rv x.rs2, (s.rt x.rs1 || s.rt x.rs2)⟩) := by
  have l22 : (x.op : Int) ≤ 22 := by omega
  have d22 : decide ((x.op : Int) ≤ 22) = true := by simp; omega
  have i1 : (0 : Int) ≤ (x.rs1 : Int) := by omega
  have i2 : (x.rs1 : Int) < 32 := by omega
  have i3 : (0 : Int) ≤ (x.rs2 : Int) := by omega
  have i4 : (x.rs2 : Int) < 32 := by omega
  have hdl := h.lt
  have nb : ∀ k, w.heap.size ≤ k → ¬ D.own k := fun k hk e => by have := h.all_lt (.inl e); omega
  go_enter Tryz.func31, Tryz.ntmps31
  go_wp2
  obtain ⟨W1, hW1, hB1, RX, RS, RZ⟩ := start3 w x p
  rw [hW1]
  clear hW1
  have hD1 := h.of hB1
  have x2 := RX.1 2 (by simp)
  have x3 := RX.1 3 (by simp)
  have r1 := hD1.rv x.rs1 h2
  have r2 := hD1.rv x.rs2 h3
  refine region_below (by kernel_rfl) (by kernel_rfl) ?_
  repeat (first
    | go_big_quiet_skip
    | (refine BigFrame.wpQuiet_want (by kernel_rfl) fun K hK => ?_
       apply Exists.intro
       refine ⟨fun w' hb' => ?_, ?_⟩
       · have s0 := stay hb' x2
         have s1 := stay hb' x3
         have s2 := stay hb' r1
         have s3 := stay hb' r2
         go_simp
         first
           | exact rfl
           | exact ⟨rfl, hb'⟩
       go_simp
       refine hK _ ?_
       clear hK K))
  refine wpQuiet_nil ?_
  intro W2 hb2
  have hB2 := below_trans' hB1 (Nat.le_refl _) hb2
  have hD2 := hD1.of hb2
  have RX := rowG_b RX hb2
  have RS := rowG_b RS hb2
  have RZ := rowG_b RZ hb2
  clear x2 x3 r1 r2 hb2 hD1 hB1
  have hS2 : Only D.own w W2 := only_below hB2
  obtain ⟨x0, x1, x2, x3, x4, xl⟩ := five RX
  obtain ⟨v0, v1, v2, v3, v4, vl⟩ := five RS
  obtain ⟨z0, z1, z2, z3, z4, zl⟩ := five RZ
  obtain ⟨fz0, fz1, fz2, fz3, fz4⟩ := fivef RZ
  have fs4 := RS.2.1 4
  go_wp2_with (go_at_call 78; (have hcall := alu_13 hD2 x p ho h1 h2 h3); (with_reducible refine hcall.mono ?_); (clear hcall); (rintro e w3 ⟨rfl, hD3, hO3⟩); have hO3' := hO3.mono (T := D.own) (fun j hj => hj ▸ own_db); have hSf := hS2.trans hO3'; have RX := sn_row hO3' (nb _ (by omega)) RX; have RS := sn_row hO3' (nb _ (by omega)) RS; have RZ := sn_row hO3' (nb _ (by omega)) RZ; obtain ⟨y0, y1, y2, y3, y4, yl⟩ := five RZ; obtain ⟨fy0, fy1, fy2, fy3, fy4⟩ := fivef RZ)
  refine bodyPost_ret (res_se rfl _ _ (w.heap.size + 1 + 1) _ _ _ _ _ _ rfl rfl (sn_five _ _ _ _ _ RZ)) rfl ⟨D, _, _, _, _, _, Dc.nxt_refl _ _, rfl, ⟨⟨p, 4, s.rv x.rs1, s.rv x.rs2, (s.rt x.rs1 || s.rt x.rs2)⟩, rfl⟩, fun _ => ⟨rfl, hD3.only (sn_only w3 (w.heap.size + 1 + 1) _ _ _ _ _) (fun j hj e => by have := h.all_lt hj; omega)⟩, fun hne => absurd rfl hne, only_new (only_new (only_new (only_new (only_new hSf (by omega)) (by omega)) (by omega)) (by omega)) (by omega)⟩
theorem does_14 {w : World} {D : Dc} {s : Ms} (h : IsD w D s) (x : In) (p : Nat) (ho : 14 ≤ x.op ∧ x.op ≤ 14) (h1 : x.rd < 32) (h2 : x.rs1 < 32) (h3 : x.rs2 < 32) :
    Calls Tryz.prog 31 #[.pointer (some ⟨D.db, 0, none⟩), .agg #[.int .u8 (x.op : Nat), .int .u8 (x.rd : Nat), .int .u8 (x.rs1 : Nat), .int .u8 (x.rs2 : Nat), .int .i64 x.imm], .agg #[.int .u64 (p : Nat), .int .u8 1, .int .u64 0, .int .u64 0, .bool false]] w (DsP w D s 0 (s.lay x.rd (opv x.op (s.rv x.rs1) (s.rv x.rs2)) (s.rt x.rs1 || s.rt x.rs2)) ⟨p, 4, s.rv x.rs1, s.rv x.rs2, (s.rt x.rs1 || s.rt x.rs2)⟩) := by
  have l22 : (x.op : Int) ≤ 22 := by omega
  have d22 : decide ((x.op : Int) ≤ 22) = true := by simp; omega
  have i1 : (0 : Int) ≤ (x.rs1 : Int) := by omega
  have i2 : (x.rs1 : Int) < 32 := by omega
  have i3 : (0 : Int) ≤ (x.rs2 : Int) := by omega
  have i4 : (x.rs2 : Int) < 32 := by omega
  have hdl := h.lt
  have nb : ∀ k, w.heap.size ≤ k → ¬ D.own k := fun k hk e => by have := h.all_lt (.inl e); omega
  go_enter Tryz.func31, Tryz.ntmps31
  go_wp2
  obtain ⟨W1, hW1, hB1, RX, RS, RZ⟩ := start3 w x p
  rw [hW1]
  clear hW1
  have hD1 := h.of hB1
  have x2 := RX.1 2 (by simp)
  have x3 := RX.1 3 (by simp)
  have r1 := hD1.rv x.rs1 h2
  have r2 := hD1.rv x.rs2 h3
  refine region_below (by kernel_rfl) (by kernel_rfl) ?_
  repeat (first
    | go_big_quiet_skip
    | (refine BigFrame.wpQuiet_want (by kernel_rfl) fun K hK => ?_
       apply Exists.intro
       refine ⟨fun w' hb' => ?_, ?_⟩
       · have s0 := stay hb' x2
         have s1 := stay hb' x3
         have s2 := stay hb' r1
         have s3 := stay hb' r2
         go_simp
         first
           | exact rfl
           | exact ⟨rfl, hb'⟩
       go_simp
       refine hK _ ?_
       clear hK K))
  refine wpQuiet_nil ?_
  intro W2 hb2
  have hB2 := below_trans' hB1 (Nat.le_refl _) hb2
  have hD2 := hD1.of hb2
  have RX := rowG_b RX hb2
  have RS := rowG_b RS hb2
  have RZ := rowG_b RZ hb2
  clear x2 x3 r1 r2 hb2 hD1 hB1
  have hS2 : Only D.own w W2 := only_below hB2
  obtain ⟨x0, x1, x2, x3, x4, xl⟩ := five RX
  obtain ⟨v0, v1, v2, v3, v4, vl⟩ := five RS
  obtain ⟨z0, z1, z2, z3, z4, zl⟩ := five RZ
  obtain ⟨fz0, fz1, fz2, fz3, fz4⟩ := fivef RZ
  have fs4 := RS.2.1 4
  go_wp2_with (go_at_call 78; (have hcall := alu_14 hD2 x p ho h1 h2 h3); (with_reducible refine hcall.mono ?_); (clear hcall); (rintro e w3 ⟨rfl, hD3, hO3⟩); have hO3' := hO3.mono (T := D.own) (fun j hj => hj ▸ own_db); have hSf := hS2.trans hO3'; have RX := sn_row hO3' (nb _ (by omega)) RX; have RS := sn_row hO3' (nb _ (by omega)) RS; have RZ := sn_row hO3' (nb _ (by omega)) RZ; obtain ⟨y0, y1, y2, y3, y4, yl⟩ := five RZ; obtain ⟨fy0, fy1, fy2, fy3, fy4⟩ := fivef RZ)
  refine bodyPost_ret (res_se rfl _ _ (w.heap.size + 1 + 1) _ _ _ _ _ _ rfl rfl (sn_five _ _ _ _ _ RZ)) rfl ⟨D, _, _, _, _, _, Dc.nxt_refl _ _, rfl, ⟨⟨p, 4, s.rv x.rs1, s.rv x.rs2, (s.rt x.rs1 || s.rt x.rs2)⟩, rfl⟩, fun _ => ⟨rfl, hD3.only (sn_only w3 (w.heap.size + 1 + 1) _ _ _ _ _) (fun j hj e => by have := h.all_lt hj; omega)⟩, fun hne => absurd rfl hne, only_new (only_new (only_new (only_new (only_new hSf (by omega)) (by omega)) (by omega)) (by omega)) (by omega)⟩
theorem does_num {w : World} {D : Dc} {s : Ms} (h : IsD w D s) (x : In) (p : Nat) (ho : 15 ≤ x.op ∧ x.op ≤ 22) (h1 : x.rd < 32) (h2 : x.rs1 < 32) (h3 : x.rs2 < 32) :
    Calls Tryz.prog 31 #[.pointer (some ⟨D.db, 0, none⟩), .agg #[.int .u8 (x.op : Nat), .int .u8 (x.rd : Nat), .int .u8 (x.rs1 : Nat), .int .u8 (x.rs2 : Nat), .int .i64 x.imm], .agg #[.int .u64 (p : Nat), .int .u8 1, .int .u64 0, .int .u64 0, .bool false]] w (DsP w D s 0 (s.lay x.rd (opv (likeN x.op) (s.rv x.rs1) (uw x.imm)) (s.rt x.rs1)) ⟨p, 1, 0, 0, false⟩) := by
  have l22 : (x.op : Int) ≤ 22 := by omega
  have d22 : decide ((x.op : Int) ≤ 22) = true := by simp; omega
  have i1 : (0 : Int) ≤ (x.rs1 : Int) := by omega
  have i2 : (x.rs1 : Int) < 32 := by omega
  have i3 : (0 : Int) ≤ (x.rs2 : Int) := by omega
  have i4 : (x.rs2 : Int) < 32 := by omega
  have hdl := h.lt
  have nb : ∀ k, w.heap.size ≤ k → ¬ D.own k := fun k hk e => by have := h.all_lt (.inl e); omega
  go_enter Tryz.func31, Tryz.ntmps31
  go_wp2
  obtain ⟨W1, hW1, hB1, RX, RS, RZ⟩ := start3 w x p
  rw [hW1]
  clear hW1
  have hD1 := h.of hB1
  have x2 := RX.1 2 (by simp)
  have x3 := RX.1 3 (by simp)
  have r1 := hD1.rv x.rs1 h2
  have r2 := hD1.rv x.rs2 h3
  refine region_below (by kernel_rfl) (by kernel_rfl) ?_
  repeat (first
    | go_big_quiet_skip
    | (refine BigFrame.wpQuiet_want (by kernel_rfl) fun K hK => ?_
       apply Exists.intro
       refine ⟨fun w' hb' => ?_, ?_⟩
       · have s0 := stay hb' x2
         have s1 := stay hb' x3
         have s2 := stay hb' r1
         have s3 := stay hb' r2
         go_simp
         first
           | exact rfl
           | exact ⟨rfl, hb'⟩
       go_simp
       refine hK _ ?_
       clear hK K))
  refine wpQuiet_nil ?_
  intro W2 hb2
  have hB2 := below_trans' hB1 (Nat.le_refl _) hb2
  have hD2 := hD1.of hb2
  have RX := rowG_b RX hb2
  have RS := rowG_b RS hb2
  have RZ := rowG_b RZ hb2
  clear x2 x3 r1 r2 hb2 hD1 hB1
  have hS2 : Only D.own w W2 := only_below hB2
  obtain ⟨x0, x1, x2, x3, x4, xl⟩ := five RX
  obtain ⟨v0, v1, v2, v3, v4, vl⟩ := five RS
  obtain ⟨z0, z1, z2, z3, z4, zl⟩ := five RZ
  obtain ⟨fz0, fz1, fz2, fz3, fz4⟩ := fivef RZ
  have fs4 := RS.2.1 4
  go_wp2_with (go_at_call 78; (have hcall := alu_num hD2 x p ho h1 h2 h3); (with_reducible refine hcall.mono ?_); (clear hcall); (rintro e w3 ⟨rfl, hD3, hO3⟩); have hO3' := hO3.mono (T := D.own) (fun j hj => hj ▸ own_db); have hSf := hS2.trans hO3'; have RX := sn_row hO3' (nb _ (by omega)) RX; have RS := sn_row hO3' (nb _ (by omega)) RS; have RZ := sn_row hO3' (nb _ (by omega)) RZ; obtain ⟨y0, y1, y2, y3, y4, yl⟩ := five RZ; obtain ⟨fy0, fy1, fy2, fy3, fy4⟩ := fivef RZ)
  refine bodyPost_ret (res_se rfl _ _ (w.heap.size + 1 + 1) _ _ _ _ _ _ rfl rfl (sn_five _ _ _ _ _ RZ)) rfl ⟨D, _, _, _, _, _, Dc.nxt_refl _ _, rfl, ⟨⟨p, 1, 0, 0, false⟩, rfl⟩, fun _ => ⟨rfl, hD3.only (sn_only w3 (w.heap.size + 1 + 1) _ _ _ _ _) (fun j hj e => by have := h.all_lt hj; omega)⟩, fun hne => absurd rfl hne, only_new (only_new (only_new (only_new (only_new hSf (by omega)) (by omega)) (by omega)) (by omega)) (by omega)⟩
theorem does_lui {w : World} {D : Dc} {s : Ms} (h : IsD w D s) (x : In) (p : Nat) (ho : 23 ≤ x.op ∧ x.op ≤ 23) (h1 : x.rd < 32) (h2 : x.rs1 < 32) (h3 : x.rs2 < 32) :
    Calls Tryz.prog 31 #[.pointer (some ⟨D.db, 0, none⟩), .agg #[.int .u8 (x.op : Nat), .int .u8 (x.rd : Nat), .int .u8 (x.rs1 : Nat), .int .u8 (x.rs2 : Nat), .int .i64 x.imm], .agg #[.int .u64 (p : Nat), .int .u8 1, .int .u64 0, .int .u64 0, .bool false]] w (DsP w D s 0 (s.lay x.rd (uw x.imm) false) ⟨p, 1, 0, 0, false⟩) := by
  have l22 : ¬ (x.op : Int) ≤ 22 := by omega
  have d22 : decide ((x.op : Int) ≤ 22) = false := by simp; omega
  have p23 : ((x.op : Int) == 23) = true := by simp; omega
  have e23 : decide ((x.op : Int) = 23) = true := by simp; omega
  have i1 : (0 : Int) ≤ (x.rs1 : Int) := by omega
  have i2 : (x.rs1 : Int) < 32 := by omega
  have i3 : (0 : Int) ≤ (x.rs2 : Int) := by omega
  have i4 : (x.rs2 : Int) < 32 := by omega
  have hdl := h.lt
  have nb : ∀ k, w.heap.size ≤ k → ¬ D.own k := fun k hk e => by have := h.all_lt (.inl e); omega
  go_enter Tryz.func31, Tryz.ntmps31
  go_wp2
  obtain ⟨W1, hW1, hB1, RX, RS, RZ⟩ := start3 w x p
  rw [hW1]
  clear hW1
  have hD1 := h.of hB1
  have x2 := RX.1 2 (by simp)
  have x3 := RX.1 3 (by simp)
  have r1 := hD1.rv x.rs1 h2
  have r2 := hD1.rv x.rs2 h3
  refine region_below (by kernel_rfl) (by kernel_rfl) ?_
  repeat (first
    | go_big_quiet_skip
    | (refine BigFrame.wpQuiet_want (by kernel_rfl) fun K hK => ?_
       apply Exists.intro
       refine ⟨fun w' hb' => ?_, ?_⟩
       · have s0 := stay hb' x2
         have s1 := stay hb' x3
         have s2 := stay hb' r1
         have s3 := stay hb' r2
         go_simp
         first
           | exact rfl
           | exact ⟨rfl, hb'⟩
       go_simp
       refine hK _ ?_
       clear hK K))
  refine wpQuiet_nil ?_
  intro W2 hb2
  have hB2 := below_trans' hB1 (Nat.le_refl _) hb2
  have hD2 := hD1.of hb2
  have RX := rowG_b RX hb2
  have RS := rowG_b RS hb2
  have RZ := rowG_b RZ hb2
  clear x2 x3 r1 r2 hb2 hD1 hB1
  have hS2 : Only D.own w W2 := only_below hB2
  obtain ⟨x0, x1, x2, x3, x4, xl⟩ := five RX
  obtain ⟨v0, v1, v2, v3, v4, vl⟩ := five RS
  obtain ⟨z0, z1, z2, z3, z4, zl⟩ := five RZ
  obtain ⟨fz0, fz1, fz2, fz3, fz4⟩ := fivef RZ
  have fs4 := RS.2.1 4
  have hu := uw_wrap x.imm
  go_wp2_with (go_at_call 24; (have hcall := dset_any hD2 x.rd (uw x.imm) false h1 (uw_lt _)); (with_reducible refine hcall.mono ?_); (clear hcall); (rintro e w3 ⟨rfl, hD3, hO3⟩); have hO3' := hO3.mono (T := D.own) (fun j hj => hj ▸ own_db); have hSf := hS2.trans hO3'; have RX := sn_row hO3' (nb _ (by omega)) RX; have RS := sn_row hO3' (nb _ (by omega)) RS; have RZ := sn_row hO3' (nb _ (by omega)) RZ; obtain ⟨xx0, xx1, xx2, xx3, xx4, xxl⟩ := five RX; obtain ⟨vv0, vv1, vv2, vv3, vv4, vvl⟩ := five RS; obtain ⟨y0, y1, y2, y3, y4, yl⟩ := five RZ; obtain ⟨fy0, fy1, fy2, fy3, fy4⟩ := fivef RZ)
  refine bodyPost_ret (res_se rfl _ _ (w.heap.size + 1 + 1) _ _ _ _ _ _ rfl rfl (sn_five _ _ _ _ _ RZ)) rfl ⟨D, _, _, _, _, _, Dc.nxt_refl _ _, rfl, ⟨⟨p, 1, 0, 0, false⟩, rfl⟩, fun _ => ⟨rfl, hD3.only (sn_only w3 (w.heap.size + 1 + 1) _ _ _ _ _) (fun j hj e => by have := h.all_lt hj; omega)⟩, fun hne => absurd rfl hne, only_new (only_new (only_new (only_new (only_new hSf (by omega)) (by omega)) (by omega)) (by omega)) (by omega)⟩
theorem isd_pos {w : World} {D : Dc} {k : Int} {a b : Ms} (h : IsD w D (if k = 0 then a else b)) (hk : k = 0) : IsD w D a := by rw [if_pos hk] at h; exact h
theorem isd_neg {w : World} {D : Dc} {k : Int} {a b : Ms} (h : IsD w D (if k = 0 then a else b)) (hk : k ≠ 0) : IsD w D b := by rw [if_neg hk] at h; exact h
theorem isd_put {w : World} {D : Dc} {s : Ms} {l : List Rg} {p m v : Nat} {n : Int} {t : Bool} (h : IsD w D (s.put (stO l p n) m v t)) (hk : stE l p n ≠ 0) : IsD w D s := by rw [stO_no hk] at h; exact h
theorem does_m24 {w : World} {D : Dc} {s : Ms} (h : IsD w D s) (x : In) (p : Nat) (ho : 24 ≤ x.op ∧ x.op ≤ 24) (h1 : x.rd < 32) (h2 : x.rs1 < 32) (h3 : x.rs2 < 32) :
    Calls Tryz.prog 31 #[.pointer (some ⟨D.db, 0, none⟩), .agg #[.int .u8 (x.op : Nat), .int .u8 (x.rd : Nat), .int .u8 (x.rs1 : Nat), .int .u8 (x.rs2 : Nat), .int .i64 x.imm], .agg #[.int .u64 (p : Nat), .int .u8 1, .int .u64 0, .int .u64 0, .bool false]] w (DsP w D s (ldF D.y.l s.bv s.tv (s.at x) 1).2.2 (s.lay x.rd (ldF D.y.l s.bv s.tv (s.at x) 1).1 ((ldF D.y.l s.bv s.tv (s.at x) 1).2.1 || s.rt x.rs1)) ⟨p, 2, s.at x, 0, s.rt x.rs1⟩) := by
  have l22 : ¬ (x.op : Int) ≤ 22 := by omega
  have d22 : decide ((x.op : Int) ≤ 22) = false := by simp; omega
  have n23 : ¬ (x.op : Int) = 23 := by omega
  have p23 : ((x.op : Int) == 23) = false := by simp; omega
  have l27 : (x.op : Int) ≤ 27 := by omega
  have d27 : decide ((x.op : Int) ≤ 27) = true := by simp; omega
  have i1 : (0 : Int) ≤ (x.rs1 : Int) := by omega
  have i2 : (x.rs1 : Int) < 32 := by omega
  have i3 : (0 : Int) ≤ (x.rs2 : Int) := by omega
  have i4 : (x.rs2 : Int) < 32 := by omega
  have hdl := h.lt
  have nb : ∀ k, w.heap.size ≤ k → ¬ D.own k := fun k hk e => by have := h.all_lt (.inl e); omega
  go_enter Tryz.func31, Tryz.ntmps31
  go_wp2
  obtain ⟨W1, hW1, hB1, RX, RS, RZ⟩ := start3 w x p
  rw [hW1]
  clear hW1
  have hD1 := h.of hB1
  have x2 := RX.1 2 (by simp)
  have x3 := RX.1 3 (by simp)
  have r1 := hD1.rv x.rs1 h2
  have r2 := hD1.rv x.rs2 h3
  refine region_below (by kernel_rfl) (by kernel_rfl) ?_
  repeat (first
    | go_big_quiet_skip
    | (refine BigFrame.wpQuiet_want (by kernel_rfl) fun K hK => ?_
       apply Exists.intro
       refine ⟨fun w' hb' => ?_, ?_⟩
       · have s0 := stay hb' x2
         have s1 := stay hb' x3
         have s2 := stay hb' r1
         have s3 := stay hb' r2
         go_simp
         first
           | exact rfl
           | exact ⟨rfl, hb'⟩
       go_simp
       refine hK _ ?_
       clear hK K))
  refine wpQuiet_nil ?_
  intro W2 hb2
  have hB2 := below_trans' hB1 (Nat.le_refl _) hb2
  have hD2 := hD1.of hb2
  have RX := rowG_b RX hb2
  have RS := rowG_b RS hb2
  have RZ := rowG_b RZ hb2
  clear x2 x3 r1 r2 hb2 hD1 hB1
  have hS2 : Only D.own w W2 := only_below hB2
  obtain ⟨x0, x1, x2, x3, x4, xl⟩ := five RX
  obtain ⟨v0, v1, v2, v3, v4, vl⟩ := five RS
  obtain ⟨z0, z1, z2, z3, z4, zl⟩ := five RZ
  obtain ⟨fz0, fz1, fz2, fz3, fz4⟩ := fivef RZ
  have fs4 := RS.2.1 4
  go_wp2_with (go_at_call 79; (have hcall := mem_24 hD2 x p ho h1 h2); (with_reducible refine hcall.mono ?_); (clear hcall); (rintro e w3 ⟨rfl, hD3, hO3⟩); have hO3' := hO3.mono (T := D.own) (fun j hj => own_bl hj); have hSf := hS2.trans hO3'; have RX := sn_row hO3' (nb _ (by omega)) RX; have RS := sn_row hO3' (nb _ (by omega)) RS; have RZ := sn_row hO3' (nb _ (by omega)) RZ; obtain ⟨xx0, xx1, xx2, xx3, xx4, xxl⟩ := five RX; obtain ⟨vv0, vv1, vv2, vv3, vv4, vvl⟩ := five RS; obtain ⟨y0, y1, y2, y3, y4, yl⟩ := five RZ; obtain ⟨fy0, fy1, fy2, fy3, fy4⟩ := fivef RZ)
  refine bodyPost_ret (res_se rfl _ _ (w.heap.size + 1 + 1) _ _ _ _ _ _ rfl rfl (sn_five _ _ _ _ _ RZ)) rfl ⟨D, _, _, _, _, _, Dc.nxt_refl _ _, rfl, ⟨⟨p, 2, s.at x, 0, s.rt x.rs1⟩, rfl⟩, fun hk => ⟨rfl, isd_pos (hD3.only (sn_only w3 (w.heap.size + 1 + 1) _ _ _ _ _) (fun j hj e => by have := h.all_lt hj; omega)) hk⟩, fun hk => isd_neg (hD3.only (sn_only w3 (w.heap.size + 1 + 1) _ _ _ _ _) (fun j hj e => by have := h.all_lt hj; omega)) hk, only_new (only_new (only_new (only_new (only_new hSf (by omega)) (by omega)) (by omega)) (by omega)) (by omega)⟩
theorem does_m25 {w : World} {D : Dc} {s : Ms} (h : IsD w D s) (x : In) (p : Nat) (ho : 25 ≤ x.op ∧ x.op ≤ 25) (h1 : x.rd < 32) (h2 : x.rs1 < 32) (h3 : x.rs2 < 32) :
    Calls Tryz.prog 31 #[.pointer (some ⟨D.db, 0, none⟩), .agg #[.int .u8 (x.op : Nat), .int .u8 (x.rd : Nat), .int .u8 (x.rs1 : Nat), .int .u8 (x.rs2 : Nat), .int .i64 x.imm], .agg #[.int .u64 (p : Nat), .int .u8 1, .int .u64 0, .int .u64 0, .bool false]] w (DsP w D s (ldF D.y.l s.bv s.tv (s.at x) 8).2.2 (s.lay x.rd (ldF D.y.l s.bv s.tv (s.at x) 8).1 ((ldF D.y.l s.bv s.tv (s.at x) 8).2.1 || s.rt x.rs1)) ⟨p, 2, s.at x, 0, s.rt x.rs1⟩) := by
  have l22 : ¬ (x.op : Int) ≤ 22 := by omega
  have d22 : decide ((x.op : Int) ≤ 22) = false := by simp; omega
  have n23 : ¬ (x.op : Int) = 23 := by omega
  have p23 : ((x.op : Int) == 23) = false := by simp; omega
  have l27 : (x.op : Int) ≤ 27 := by omega
  have d27 : decide ((x.op : Int) ≤ 27) = true := by simp; omega
  have i1 : (0 : Int) ≤ (x.rs1 : Int) := by omega
  have i2 : (x.rs1 : Int) < 32 := by omega
  have i3 : (0 : Int) ≤ (x.rs2 : Int) := by omega
  have i4 : (x.rs2 : Int) < 32 := by omega
  have hdl := h.lt
  have nb : ∀ k, w.heap.size ≤ k → ¬ D.own k := fun k hk e => by have := h.all_lt (.inl e); omega
  go_enter Tryz.func31, Tryz.ntmps31
  go_wp2
  obtain ⟨W1, hW1, hB1, RX, RS, RZ⟩ := start3 w x p
  rw [hW1]
  clear hW1
  have hD1 := h.of hB1
  have x2 := RX.1 2 (by simp)
  have x3 := RX.1 3 (by simp)
  have r1 := hD1.rv x.rs1 h2
  have r2 := hD1.rv x.rs2 h3
  refine region_below (by kernel_rfl) (by kernel_rfl) ?_
  repeat (first
    | go_big_quiet_skip
    | (refine BigFrame.wpQuiet_want (by kernel_rfl) fun K hK => ?_
       apply Exists.intro
       refine ⟨fun w' hb' => ?_, ?_⟩
       · have s0 := stay hb' x2
         have s1 := stay hb' x3
         have s2 := stay hb' r1
         have s3 := stay hb' r2
         go_simp
         first
           | exact rfl
           | exact ⟨rfl, hb'⟩
       go_simp
       refine hK _ ?_
       clear hK K))
  refine wpQuiet_nil ?_
  intro W2 hb2
  have hB2 := below_trans' hB1 (Nat.le_refl _) hb2
  have hD2 := hD1.of hb2
  have RX := rowG_b RX hb2
  have RS := rowG_b RS hb2
  have RZ := rowG_b RZ hb2
  clear x2 x3 r1 r2 hb2 hD1 hB1
  have hS2 : Only D.own w W2 := only_below hB2
  obtain ⟨x0, x1, x2, x3, x4, xl⟩ := five RX
  obtain ⟨v0, v1, v2, v3, v4, vl⟩ := five RS
  obtain ⟨z0, z1, z2, z3, z4, zl⟩ := five RZ
  obtain ⟨fz0, fz1, fz2, fz3, fz4⟩ := fivef RZ
  have fs4 := RS.2.1 4
  go_wp2_with (go_at_call 79; (have hcall := mem_25 hD2 x p ho h1 h2); (with_reducible refine hcall.mono ?_); (clear hcall); (rintro e w3 ⟨rfl, hD3, hO3⟩); have hO3' := hO3.mono (T := D.own) (fun j hj => own_bl hj); have hSf := hS2.trans hO3'; have RX := sn_row hO3' (nb _ (by omega)) RX; have RS := sn_row hO3' (nb _ (by omega)) RS; have RZ := sn_row hO3' (nb _ (by omega)) RZ; obtain ⟨xx0, xx1, xx2, xx3, xx4, xxl⟩ := five RX; obtain ⟨vv0, vv1, vv2, vv3, vv4, vvl⟩ := five RS; obtain ⟨y0, y1, y2, y3, y4, yl⟩ := five RZ; obtain ⟨fy0, fy1, fy2, fy3, fy4⟩ := fivef RZ)
  refine bodyPost_ret (res_se rfl _ _ (w.heap.size + 1 + 1) _ _ _ _ _ _ rfl rfl (sn_five _ _ _ _ _ RZ)) rfl ⟨D, _, _, _, _, _, Dc.nxt_refl _ _, rfl, ⟨⟨p, 2, s.at x, 0, s.rt x.rs1⟩, rfl⟩, fun hk => ⟨rfl, isd_pos (hD3.only (sn_only w3 (w.heap.size + 1 + 1) _ _ _ _ _) (fun j hj e => by have := h.all_lt hj; omega)) hk⟩, fun hk => isd_neg (hD3.only (sn_only w3 (w.heap.size + 1 + 1) _ _ _ _ _) (fun j hj e => by have := h.all_lt hj; omega)) hk, only_new (only_new (only_new (only_new (only_new hSf (by omega)) (by omega)) (by omega)) (by omega)) (by omega)⟩
theorem does_m26 {w : World} {D : Dc} {s : Ms} (h : IsD w D s) (x : In) (p : Nat) (ho : 26 ≤ x.op ∧ x.op ≤ 26) (h1 : x.rd < 32) (h2 : x.rs1 < 32) (h3 : x.rs2 < 32) :
    Calls Tryz.prog 31 #[.pointer (some ⟨D.db, 0, none⟩), .agg #[.int .u8 (x.op : Nat), .int .u8 (x.rd : Nat), .int .u8 (x.rs1 : Nat), .int .u8 (x.rs2 : Nat), .int .i64 x.imm], .agg #[.int .u64 (p : Nat), .int .u8 1, .int .u64 0, .int .u64 0, .bool false]] w (DsP w D s (stE D.y.l (s.at x) 1) (s.put (stO D.y.l (s.at x) 1) 1 (s.rv x.rs2) (s.rt x.rs1 || s.rt x.rs2)) ⟨p, 3, s.at x, 0, s.rt x.rs1⟩) := by
  have l22 : ¬ (x.op : Int) ≤ 22 := by omega
  have d22 : decide ((x.op : Int) ≤ 22) = false := by simp; omega
  have n23 : ¬ (x.op : Int) = 23 := by omega
  have p23 : ((x.op : Int) == 23) = false := by simp; omega
  have l27 : (x.op : Int) ≤ 27 := by omega
  have d27 : decide ((x.op : Int) ≤ 27) = true := by simp; omega
  have i1 : (0 : Int) ≤ (x.rs1 : Int) := by omega
  have i2 : (x.rs1 : Int) < 32 := by omega
  have i3 : (0 : Int) ≤ (x.rs2 : Int) := by omega
  have i4 : (x.rs2 : Int) < 32 := by omega
  have hdl := h.lt
  have nb : ∀ k, w.heap.size ≤ k → ¬ D.own k := fun k hk e => by have := h.all_lt (.inl e); omega
  go_enter Tryz.func31, Tryz.ntmps31
  go_wp2
  obtain ⟨W1, hW1, hB1, RX, RS, RZ⟩ := start3 w x p
  rw [hW1]
  clear hW1
  have hD1 := h.of hB1
  have x2 := RX.1 2 (by simp)
  have x3 := RX.1 3 (by simp)
  have r1 := hD1.rv x.rs1 h2
  have r2 := hD1.rv x.rs2 h3
  refine region_below (by kernel_rfl) (by kernel_rfl) ?_
  repeat (first
    | go_big_quiet_skip
    | (refine BigFrame.wpQuiet_want (by kernel_rfl) fun K hK => ?_
       apply Exists.intro
       refine ⟨fun w' hb' => ?_, ?_⟩
       · have s0 := stay hb' x2
         have s1 := stay hb' x3
         have s2 := stay hb' r1
         have s3 := stay hb' r2
         go_simp
         first
           | exact rfl
           | exact ⟨rfl, hb'⟩
       go_simp
       refine hK _ ?_
       clear hK K))
  refine wpQuiet_nil ?_
  intro W2 hb2
  have hB2 := below_trans' hB1 (Nat.le_refl _) hb2
  have hD2 := hD1.of hb2
  have RX := rowG_b RX hb2
  have RS := rowG_b RS hb2
  have RZ := rowG_b RZ hb2
  clear x2 x3 r1 r2 hb2 hD1 hB1
  have hS2 : Only D.own w W2 := only_below hB2
  obtain ⟨x0, x1, x2, x3, x4, xl⟩ := five RX
  obtain ⟨v0, v1, v2, v3, v4, vl⟩ := five RS
  obtain ⟨z0, z1, z2, z3, z4, zl⟩ := five RZ
  obtain ⟨fz0, fz1, fz2, fz3, fz4⟩ := fivef RZ
  have fs4 := RS.2.1 4
  go_wp2_with (go_at_call 79; (have hcall := mem_26 hD2 x p ho h3 h2); (with_reducible refine hcall.mono ?_); (clear hcall); (rintro e w3 ⟨rfl, hD3, hO3⟩); have hO3' := hO3.mono (T := D.own) (fun j hj => own_bl hj); have hSf := hS2.trans hO3'; have RX := sn_row hO3' (nb _ (by omega)) RX; have RS := sn_row hO3' (nb _ (by omega)) RS; have RZ := sn_row hO3' (nb _ (by omega)) RZ; obtain ⟨xx0, xx1, xx2, xx3, xx4, xxl⟩ := five RX; obtain ⟨vv0, vv1, vv2, vv3, vv4, vvl⟩ := five RS; obtain ⟨y0, y1, y2, y3, y4, yl⟩ := five RZ; obtain ⟨fy0, fy1, fy2, fy3, fy4⟩ := fivef RZ)
  refine bodyPost_ret (res_se rfl _ _ (w.heap.size + 1 + 1) _ _ _ _ _ _ rfl rfl (sn_five _ _ _ _ _ RZ)) rfl ⟨D, _, _, _, _, _, Dc.nxt_refl _ _, rfl, ⟨⟨p, 3, s.at x, 0, s.rt x.rs1⟩, rfl⟩, fun hk => ⟨rfl, (hD3.only (sn_only w3 (w.heap.size + 1 + 1) _ _ _ _ _) (fun j hj e => by have := h.all_lt hj; omega))⟩, fun hk => isd_put (hD3.only (sn_only w3 (w.heap.size + 1 + 1) _ _ _ _ _) (fun j hj e => by have := h.all_lt hj; omega)) hk, only_new (only_new (only_new (only_new (only_new hSf (by omega)) (by omega)) (by omega)) (by omega)) (by omega)⟩
theorem does_m27 {w : World} {D : Dc} {s : Ms} (h : IsD w D s) (x : In) (p : Nat) (ho : 27 ≤ x.op ∧ x.op ≤ 27) (h1 : x.rd < 32) (h2 : x.rs1 < 32) (h3 : x.rs2 < 32) :
    Calls Tryz.prog 31 #[.pointer (some ⟨D.db, 0, none⟩), .agg #[.int .u8 (x.op : Nat), .int .u8 (x.rd : Nat), .int .u8 (x.rs1 : Nat), .int .u8 (x.rs2 : Nat), .int .i64 x.imm], .agg #[.int .u64 (p : Nat), .int .u8 1, .int .u64 0, .int .u64 0, .bool false]] w (DsP w D s (stE D.y.l (s.at x) 8) (s.put (stO D.y.l (s.at x) 8) 8 (s.rv x.rs2) (s.rt x.rs1 || s.rt x.rs2)) ⟨p, 3, s.at x, 0, s.rt x.rs1⟩) := by
  have l22 : ¬ (x.op : Int) ≤ 22 := by omega
  have d22 : decide ((x.op : Int) ≤ 22) = false := by simp; omega
  have n23 : ¬ (x.op : Int) = 23 := by omega
  have p23 : ((x.op : Int) == 23) = false := by simp; omega
  have l27 : (x.op : Int) ≤ 27 := by omega
  have d27 : decide ((x.op : Int) ≤ 27) = true := by simp; omega
  have i1 : (0 : Int) ≤ (x.rs1 : Int) := by omega
  have i2 : (x.rs1 : Int) < 32 := by omega
  have i3 : (0 : Int) ≤ (x.rs2 : Int) := by omega
  have i4 : (x.rs2 : Int) < 32 := by omega
  have hdl := h.lt
  have nb : ∀ k, w.heap.size ≤ k → ¬ D.own k := fun k hk e => by have := h.all_lt (.inl e); omega
  go_enter Tryz.func31, Tryz.ntmps31
  go_wp2
  obtain ⟨W1, hW1, hB1, RX, RS, RZ⟩ := start3 w x p
  rw [hW1]
  clear hW1
  have hD1 := h.of hB1
  have x2 := RX.1 2 (by simp)
  have x3 := RX.1 3 (by simp)
  have r1 := hD1.rv x.rs1 h2
  have r2 := hD1.rv x.rs2 h3
  refine region_below (by kernel_rfl) (by kernel_rfl) ?_
  repeat (first
    | go_big_quiet_skip
    | (refine BigFrame.wpQuiet_want (by kernel_rfl) fun K hK => ?_
       apply Exists.intro
       refine ⟨fun w' hb' => ?_, ?_⟩
       · have s0 := stay hb' x2
         have s1 := stay hb' x3
         have s2 := stay hb' r1
         have s3 := stay hb' r2
         go_simp
         first
           | exact rfl
           | exact ⟨rfl, hb'⟩
       go_simp
       refine hK _ ?_
       clear hK K))
  refine wpQuiet_nil ?_
  intro W2 hb2
  have hB2 := below_trans' hB1 (Nat.le_refl _) hb2
  have hD2 := hD1.of hb2
  have RX := rowG_b RX hb2
  have RS := rowG_b RS hb2
  have RZ := rowG_b RZ hb2
  clear x2 x3 r1 r2 hb2 hD1 hB1
  have hS2 : Only D.own w W2 := only_below hB2
  obtain ⟨x0, x1, x2, x3, x4, xl⟩ := five RX
  obtain ⟨v0, v1, v2, v3, v4, vl⟩ := five RS
  obtain ⟨z0, z1, z2, z3, z4, zl⟩ := five RZ
  obtain ⟨fz0, fz1, fz2, fz3, fz4⟩ := fivef RZ
  have fs4 := RS.2.1 4
  go_wp2_with (go_at_call 79; (have hcall := mem_27 hD2 x p ho h3 h2); (with_reducible refine hcall.mono ?_); (clear hcall); (rintro e w3 ⟨rfl, hD3, hO3⟩); have hO3' := hO3.mono (T := D.own) (fun j hj => own_bl hj); have hSf := hS2.trans hO3'; have RX := sn_row hO3' (nb _ (by omega)) RX; have RS := sn_row hO3' (nb _ (by omega)) RS; have RZ := sn_row hO3' (nb _ (by omega)) RZ; obtain ⟨xx0, xx1, xx2, xx3, xx4, xxl⟩ := five RX; obtain ⟨vv0, vv1, vv2, vv3, vv4, vvl⟩ := five RS; obtain ⟨y0, y1, y2, y3, y4, yl⟩ := five RZ; obtain ⟨fy0, fy1, fy2, fy3, fy4⟩ := fivef RZ)
  refine bodyPost_ret (res_se rfl _ _ (w.heap.size + 1 + 1) _ _ _ _ _ _ rfl rfl (sn_five _ _ _ _ _ RZ)) rfl ⟨D, _, _, _, _, _, Dc.nxt_refl _ _, rfl, ⟨⟨p, 3, s.at x, 0, s.rt x.rs1⟩, rfl⟩, fun hk => ⟨rfl, (hD3.only (sn_only w3 (w.heap.size + 1 + 1) _ _ _ _ _) (fun j hj e => by have := h.all_lt hj; omega))⟩, fun hk => isd_put (hD3.only (sn_only w3 (w.heap.size + 1 + 1) _ _ _ _ _) (fun j hj e => by have := h.all_lt hj; omega)) hk, only_new (only_new (only_new (only_new (only_new hSf (by omega)) (by omega)) (by omega)) (by omega)) (by omega)⟩
theorem does_br {w : World} {D : Dc} {s : Ms} (h : IsD w D s) (x : In) (p : Nat) (ho : 28 ≤ x.op ∧ x.op ≤ 31) (h1 : x.rd < 32) (h2 : x.rs1 < 32) (h3 : x.rs2 < 32) :
    Calls Tryz.prog 31 #[.pointer (some ⟨D.db, 0, none⟩), .agg #[.int .u8 (x.op : Nat), .int .u8 (x.rd : Nat), .int .u8 (x.rs1 : Nat), .int .u8 (x.rs2 : Nat), .int .i64 x.imm], .agg #[.int .u64 (p : Nat), .int .u8 1, .int .u64 0, .int .u64 0, .bool false]] w (DsP w D s 0 (if goesB x.op (s.rv x.rs1) (s.rv x.rs2) then s.go (sm p (uw x.imm)) else s) ⟨p, 1, 0, 0, s.rt x.rs1 || s.rt x.rs2⟩) := by
  have l22 : ¬ (x.op : Int) ≤ 22 := by omega
  have d22 : decide ((x.op : Int) ≤ 22) = false := by simp; omega
  have n23 : ¬ (x.op : Int) = 23 := by omega
  have p23 : ((x.op : Int) == 23) = false := by simp; omega
  have l27 : ¬ (x.op : Int) ≤ 27 := by omega
  have d27 : decide ((x.op : Int) ≤ 27) = false := by simp; omega
  have l31 : (x.op : Int) ≤ 31 := by omega
  have d31 : decide ((x.op : Int) ≤ 31) = true := by simp; omega
  have i1 : (0 : Int) ≤ (x.rs1 : Int) := by omega
  have i2 : (x.rs1 : Int) < 32 := by omega
  have i3 : (0 : Int) ≤ (x.rs2 : Int) := by omega
  have i4 : (x.rs2 : Int) < 32 := by omega
  have hdl := h.lt
  have nb : ∀ k, w.heap.size ≤ k → ¬ D.own k := fun k hk e => by have := h.all_lt (.inl e); omega
  obtain ⟨g, hg⟩ : ∃ g, goesB x.op (s.rv x.rs1) (s.rv x.rs2) = g := ⟨_, rfl⟩
  obtain ⟨sf, hsf⟩ : ∃ sf, (if goesB x.op (s.rv x.rs1) (s.rv x.rs2) then s.go (sm p (uw x.imm)) else s) = sf := ⟨_, rfl⟩
  rw [hsf]
  rw [hg] at hsf
  have HG := Lib.hid hg
  have HSF := Lib.hid hsf
  clear hg hsf
  obtain ⟨t, ht⟩ : ∃ t, (s.rt x.rs1 || s.rt x.rs2) = t := ⟨_, rfl⟩
  rw [ht]
  go_enter Tryz.func31, Tryz.ntmps31
  go_wp2
  obtain ⟨W1, hW1, hB1, RX, RS, RZ⟩ := start3 w x p
  rw [hW1]
  clear hW1
  have hD1 := h.of hB1
  have x2 := RX.1 2 (by simp)
  have x3 := RX.1 3 (by simp)
  have r1 := hD1.rv x.rs1 h2
  have r2 := hD1.rv x.rs2 h3
  refine region_below (by kernel_rfl) (by kernel_rfl) ?_
  repeat (first
    | go_big_quiet_skip
    | (refine BigFrame.wpQuiet_want (by kernel_rfl) fun K hK => ?_
       apply Exists.intro
       refine ⟨fun w' hb' => ?_, ?_⟩
       · have s0 := stay hb' x2
         have s1 := stay hb' x3
         have s2 := stay hb' r1
         have s3 := stay hb' r2
         go_simp
         first
           | exact rfl
           | exact ⟨rfl, hb'⟩
       go_simp
       refine hK _ ?_
       clear hK K))
  refine wpQuiet_nil ?_
  intro W2 hb2
  have hB2 := below_trans' hB1 (Nat.le_refl _) hb2
  have hD2 := hD1.of hb2
  have RX := rowG_b RX hb2
  have RS := rowG_b RS hb2
  have RZ := rowG_b RZ hb2
  clear x2 x3 r1 r2 hb2 hD1 hB1
  have hS2 : Only D.own w W2 := only_below hB2
  obtain ⟨x0, x1, x2, x3, x4, xl⟩ := five RX
  obtain ⟨v0, v1, v2, v3, v4, vl⟩ := five RS
  obtain ⟨z0, z1, z2, z3, z4, zl⟩ := five RZ
  obtain ⟨fz0, fz1, fz2, fz3, fz4⟩ := fivef RZ
  have fs4 := RS.2.1 4
  have hu := uw_wrap x.imm
  have hsm := sm_wrap p (uw x.imm)
  have hsl := sm_lt p (uw x.imm)
  have t1 := hD2.rt x.rs1 h2
  have t2 := hD2.rt x.rs2 h3
  have hgo := goes_any x.op (s.rv x.rs1) (s.rv x.rs2) ho
  rw [HG.out] at hgo
  go_wp2
  cases hta : s.rt x.rs1
  · rw [hta] at t1 ht
    rw [Bool.false_or] at ht; rw [ht] at t2
    go_still_tail 17, (by kernel_rfl)
    change wpList _ _ _ _ _ W2.drew
    obtain ⟨W4, hW4⟩ : ∃ W4, (W2.setCell ⟨w.heap.size + 1, 4, none⟩ (.bool (t))).drew = W4 := ⟨_, rfl⟩
    have hO4 : Only (fun j => j = w.heap.size + 1) W2 W4 := by rw [← hW4]; exact (only_one _ _ _ _).trans (only_below (bd1 (Below.refl _ _)))
    have hS4 : Only D.own w W4 := by rw [← hW4]; exact (only_new hS2 (by omega)).trans (only_below (bd1 (Below.refl _ _)))
    have RS : rowG #[.int .u64 (p : Nat), .int .u8 1, .int .u64 0, .int .u64 0, .bool (t)] W4 (w.heap.size + 1) := by rw [← hW4]; exact rowG_b (sn_set 4 (by omega) _ RS) (bd1 (Below.refl _ _))
    have RX := sn_row hO4 (by omega) RX
    have RZ := sn_row hO4 (by omega) RZ
    have hD4 := hD2.only hO4 (fun j hj e => by have := h.all_lt hj; omega)
    obtain ⟨xx0, xx1, xx2, xx3, xx4, xxl⟩ := five RX
    obtain ⟨vv0, vv1, vv2, vv3, vv4, vvl⟩ := five RS
    obtain ⟨zz0, zz1, zz2, zz3, zz4, zzl⟩ := five RZ
    obtain ⟨fz0, fz1, fz2, fz3, fz4⟩ := fivef RZ
    have db1 := hD4.e1
    have dbf := hD4.fz 1
    have dbl := hD4.lt

    cases g
    · go_wp2_with (go_at_call 80; (with_reducible refine (hgo _).mono ?_); (rintro e w5 ⟨rfl, rfl⟩))
      have e9 := HSF.out
      simp only [Bool.false_eq_true, ↓reduceIte] at e9
      subst e9
      refine bodyPost_ret (res_se rfl _ _ (w.heap.size + 1 + 1) _ _ _ _ _ _ rfl rfl (sn_five _ _ _ _ _ RZ)) rfl ⟨D, _, _, _, _, _, Dc.nxt_refl _ _, rfl, ⟨⟨p, 1, 0, 0, t⟩, rfl⟩, fun _ => ⟨rfl, hD4.only (sn_only W4 (w.heap.size + 1 + 1) _ _ _ _ _) (fun j hj e => by have := h.all_lt hj; omega)⟩, fun hne => absurd rfl hne, only_new (only_new (only_new (only_new (only_new hS4 (by omega)) (by omega)) (by omega)) (by omega)) (by omega)⟩
    · go_wp2_with (go_at_call 80; (with_reducible refine (hgo _).mono ?_); (rintro e w5 ⟨rfl, rfl⟩))
      have e9 := HSF.out
      simp only [↓reduceIte] at e9
      subst e9
      have hDp := hD4.setPc (v := sm p (uw x.imm)) (hsl)
      have hSp := hS4.setCell (b := D.db) (o := 1) (v := .int .u64 (sm p (uw x.imm) : Nat)) own_db
      have RZ := sn_row (only_one _ D.db 1 (.int .u64 (sm p (uw x.imm) : Nat))) (by omega) RZ
      refine bodyPost_ret (res_se rfl _ _ (w.heap.size + 1 + 1) _ _ _ _ _ _ rfl rfl (sn_five _ _ _ _ _ RZ)) rfl ⟨D, _, _, _, _, _, Dc.nxt_refl _ _, rfl, ⟨⟨p, 1, 0, 0, t⟩, rfl⟩, fun _ => ⟨rfl, hDp.only (sn_only (W4.setCell ⟨D.db, 1, none⟩ (.int .u64 (sm p (uw x.imm) : Nat))) (w.heap.size + 1 + 1) _ _ _ _ _) (fun j hj e => by have := h.all_lt hj; omega)⟩, fun hne => absurd rfl hne, only_new (only_new (only_new (only_new (only_new hSp (by omega)) (by omega)) (by omega)) (by omega)) (by omega)⟩
  · rw [hta] at t1 ht
    rw [Bool.true_or] at ht; subst ht
    have hF0 : (fun w' : World => w'.cell? ⟨w.heap.size, 2, none⟩ = some (.int .u8 (x.rs1 : Nat)) ∧ w'.cell? ⟨D.db, 34 + x.rs1, none⟩ = some (.bool true)) W2.drew := ⟨x2, t1⟩
    obtain ⟨W4, hW4⟩ : ∃ W4, W2.drew.setCell ⟨w.heap.size + 1, 4, none⟩ (.bool true) = W4 := ⟨_, rfl⟩
    have hO4 : Only (fun j => j = w.heap.size + 1) W2 W4 := by rw [← hW4]; exact (only_below (bd1 (Below.refl _ _))).trans (only_one _ _ _ _)
    have hS4 : Only D.own w W4 := by rw [← hW4]; exact only_new (hS2.trans (only_below (bd1 (Below.refl _ _)))) (by omega)
    have RS : rowG #[.int .u64 (p : Nat), .int .u8 1, .int .u64 0, .int .u64 0, .bool true] W4 (w.heap.size + 1) := by rw [← hW4]; exact sn_set 4 (by omega) _ (rowG_b RS (bd1 (Below.refl _ _)))
    refine region_F (fun w' : World => w'.cell? ⟨w.heap.size, 2, none⟩ = some (.int .u8 (x.rs1 : Nat)) ∧ w'.cell? ⟨D.db, 34 + x.rs1, none⟩ = some (.bool true)) 17 (by kernel_rfl) ?_
    refine wpAnyF_take (i := 0) rfl (by kernel_rfl) (by kernel_rfl) (by kernel_rfl) (by kernel_rfl) (by kernel_rfl) (fun _ _ _ _ h => h) hF0 (fun K hK => ?_)
    apply Exists.intro
    refine ⟨Or.inl ⟨by kernel_rfl, fun w' hf => ?_⟩, ?_⟩
    · obtain ⟨g0, g1⟩ := hf
      go_simp
      try exact rfl
    go_simp
    refine hK _ ?_
    clear hK K
    refine wpAnyF_take (i := 1) rfl (by kernel_rfl) (by kernel_rfl) (by kernel_rfl) (by kernel_rfl) (by kernel_rfl) (fun _ _ _ _ h => h) hF0 (fun K hK => ?_)
    apply Exists.intro
    refine ⟨Or.inl ⟨by kernel_rfl, fun w' hf => ?_⟩, ?_⟩
    · obtain ⟨g0, g1⟩ := hf
      go_simp
      try exact rfl
    go_simp
    refine hK _ ?_
    clear hK K
    refine wpAnyF_take (i := 2) rfl (by kernel_rfl) (by kernel_rfl) (by kernel_rfl) (by kernel_rfl) (by kernel_rfl) (fun _ _ _ _ h => h) hF0 (fun K hK => ?_)
    apply Exists.intro
    refine ⟨Or.inl ⟨by kernel_rfl, fun w' hf => ?_⟩, ?_⟩
    · obtain ⟨g0, g1⟩ := hf
      go_simp
      try exact rfl
    go_simp
    refine hK _ ?_
    clear hK K
    refine wpAnyF_take (i := 3) rfl (by kernel_rfl) (by kernel_rfl) (by kernel_rfl) (by kernel_rfl) (by kernel_rfl) (fun _ _ _ _ h => h) hF0 (fun K hK => ?_)
    apply Exists.intro
    refine ⟨Or.inl ⟨by kernel_rfl, fun w' hf => ?_⟩, ?_⟩
    · obtain ⟨g0, g1⟩ := hf
      go_simp
      try exact rfl
    go_simp
    refine hK _ ?_
    clear hK K
    refine wpAnyF_take (i := 4) rfl (by kernel_rfl) (by kernel_rfl) (by kernel_rfl) (by kernel_rfl) (by kernel_rfl) (fun _ _ _ _ h => h) hF0 (fun K hK => ?_)
    apply Exists.intro
    refine ⟨Or.inl ⟨by kernel_rfl, fun w' hf => ?_⟩, ?_⟩
    · obtain ⟨g0, g1⟩ := hf
      go_simp
      try exact rfl
    go_simp
    refine hK _ ?_
    clear hK K
    refine wpAnyF_take (i := 5) rfl (by kernel_rfl) (by kernel_rfl) (by kernel_rfl) (by kernel_rfl) (by kernel_rfl) (fun _ _ _ _ h => h) hF0 (fun K hK => ?_)
    apply Exists.intro
    refine ⟨Or.inl ⟨by kernel_rfl, fun w' hf => ?_⟩, ?_⟩
    · obtain ⟨g0, g1⟩ := hf
      go_simp
      try exact rfl
    go_simp
    refine hK _ ?_
    clear hK K
    refine wpAnyF_take (i := 6) rfl (by kernel_rfl) (by kernel_rfl) (by kernel_rfl) (by kernel_rfl) (by kernel_rfl) (fun _ _ _ _ h => h) hF0 (fun K hK => ?_)
    apply Exists.intro
    refine ⟨Or.inl ⟨by kernel_rfl, fun w' hf => ?_⟩, ?_⟩
    · obtain ⟨g0, g1⟩ := hf
      go_simp
      try exact rfl
    go_simp
    refine hK _ ?_
    clear hK K
    refine wpAnyF_take (i := 7) rfl (by kernel_rfl) (by kernel_rfl) (by kernel_rfl) (by kernel_rfl) (by kernel_rfl) (fun _ _ _ _ h => h) hF0 (fun K hK => ?_)
    apply Exists.intro
    refine ⟨Or.inl ⟨by kernel_rfl, fun w' hf => ?_⟩, ?_⟩
    · obtain ⟨g0, g1⟩ := hf
      go_simp
      try exact rfl
    go_simp
    refine hK _ ?_
    clear hK K
    refine wpAnyF_take (i := 8) rfl (by kernel_rfl) (by kernel_rfl) (by kernel_rfl) (by kernel_rfl) (by kernel_rfl) (fun _ _ _ _ h => h) hF0 (fun K hK => ⟨undef, Or.inr ⟨by kernel_rfl, rfl⟩, ?_⟩)
    go_simp
    refine hK _ ?_
    clear hK K
    refine wpAnyF_take (i := 9) rfl (by kernel_rfl) (by kernel_rfl) (by kernel_rfl) (by kernel_rfl) (by kernel_rfl) (fun _ _ _ _ h => h) hF0 (fun K hK => ⟨undef, Or.inr ⟨by kernel_rfl, rfl⟩, ?_⟩)
    go_simp
    refine hK _ ?_
    clear hK K
    refine wpAnyF_take (i := 10) rfl (by kernel_rfl) (by kernel_rfl) (by kernel_rfl) (by kernel_rfl) (by kernel_rfl) (fun _ _ _ _ h => h) hF0 (fun K hK => ⟨undef, Or.inr ⟨by kernel_rfl, rfl⟩, ?_⟩)
    go_simp
    refine hK _ ?_
    clear hK K
    refine wpAnyF_take (i := 11) rfl (by kernel_rfl) (by kernel_rfl) (by kernel_rfl) (by kernel_rfl) (by kernel_rfl) (fun _ _ _ _ h => h) hF0 (fun K hK => ⟨undef, Or.inr ⟨by kernel_rfl, rfl⟩, ?_⟩)
    go_simp
    refine hK _ ?_
    clear hK K
    refine wpAnyF_take (i := 12) rfl (by kernel_rfl) (by kernel_rfl) (by kernel_rfl) (by kernel_rfl) (by kernel_rfl) (fun _ _ _ _ h => h) hF0 (fun K hK => ⟨undef, Or.inr ⟨by kernel_rfl, rfl⟩, ?_⟩)
    go_simp
    refine hK _ ?_
    clear hK K
    refine wpAnyF_take (i := 13) rfl (by kernel_rfl) (by kernel_rfl) (by kernel_rfl) (by kernel_rfl) (by kernel_rfl) (fun _ _ _ _ h => h) hF0 (fun K hK => ⟨undef, Or.inr ⟨by kernel_rfl, rfl⟩, ?_⟩)
    go_simp
    refine hK _ ?_
    clear hK K
    refine wpAnyF_take (i := 14) rfl (by kernel_rfl) (by kernel_rfl) (by kernel_rfl) (by kernel_rfl) (by kernel_rfl) (fun _ _ _ _ h => h) hF0 (fun K hK => ⟨undef, Or.inr ⟨by kernel_rfl, rfl⟩, ?_⟩)
    go_simp
    refine hK _ ?_
    clear hK K
    refine wpAnyF_take (i := 15) rfl (by kernel_rfl) (by kernel_rfl) (by kernel_rfl) (by kernel_rfl) (by kernel_rfl) (fun _ _ _ _ h => h) hF0 (fun K hK => ?_)
    apply Exists.intro
    refine ⟨Or.inl ⟨by kernel_rfl, fun w' hf => ?_⟩, ?_⟩
    · obtain ⟨g0, g1⟩ := hf
      go_simp
      try exact rfl
    go_simp
    refine hK _ ?_
    clear hK K
    refine wpAnyF_take (i := 16) rfl (by kernel_rfl) (by kernel_rfl) (by kernel_rfl) (by kernel_rfl) (by kernel_rfl) (fun _ _ _ _ h => h) hF0 (fun K hK => ?_)
    apply Exists.intro
    refine ⟨Or.inl ⟨by kernel_rfl, fun w' hf => ?_⟩, ?_⟩
    · obtain ⟨g0, g1⟩ := hf
      go_simp
      try exact rfl
    go_simp
    refine hK _ ?_
    clear hK K
    refine wpAnyF_one (k := 17) (by kernel_rfl) ?_
    refine wpOp_step rfl (fun K hK => ?_)
    go_simp
    refine hK _ _ ⟨fun h => (Bool.false_ne_true (h.symm.trans (by kernel_rfl))).elim, ?_⟩
    clear hK K
    refine wpAnyF_done (by kernel_rfl) ?_
    clear hW4
    have RX := sn_row hO4 (by omega) RX
    have RZ := sn_row hO4 (by omega) RZ
    have hD4 := hD2.only hO4 (fun j hj e => by have := h.all_lt hj; omega)
    obtain ⟨xx0, xx1, xx2, xx3, xx4, xxl⟩ := five RX
    obtain ⟨vv0, vv1, vv2, vv3, vv4, vvl⟩ := five RS
    obtain ⟨zz0, zz1, zz2, zz3, zz4, zzl⟩ := five RZ
    obtain ⟨fz0, fz1, fz2, fz3, fz4⟩ := fivef RZ
    have db1 := hD4.e1
    have dbf := hD4.fz 1
    have dbl := hD4.lt

    cases g
    · go_wp2_with (go_at_call 80; (with_reducible refine (hgo _).mono ?_); (rintro e w5 ⟨rfl, rfl⟩))
      have e9 := HSF.out
      simp only [Bool.false_eq_true, ↓reduceIte] at e9
      subst e9
      refine bodyPost_ret (res_se rfl _ _ (w.heap.size + 1 + 1) _ _ _ _ _ _ rfl rfl (sn_five _ _ _ _ _ RZ)) rfl ⟨D, _, _, _, _, _, Dc.nxt_refl _ _, rfl, ⟨⟨p, 1, 0, 0, true⟩, rfl⟩, fun _ => ⟨rfl, hD4.only (sn_only W4 (w.heap.size + 1 + 1) _ _ _ _ _) (fun j hj e => by have := h.all_lt hj; omega)⟩, fun hne => absurd rfl hne, only_new (only_new (only_new (only_new (only_new hS4 (by omega)) (by omega)) (by omega)) (by omega)) (by omega)⟩
    · go_wp2_with (go_at_call 80; (with_reducible refine (hgo _).mono ?_); (rintro e w5 ⟨rfl, rfl⟩))
      have e9 := HSF.out
      simp only [↓reduceIte] at e9
      subst e9
      have hDp := hD4.setPc (v := sm p (uw x.imm)) (hsl)
      have hSp := hS4.setCell (b := D.db) (o := 1) (v := .int .u64 (sm p (uw x.imm) : Nat)) own_db
      have RZ := sn_row (only_one _ D.db 1 (.int .u64 (sm p (uw x.imm) : Nat))) (by omega) RZ
      refine bodyPost_ret (res_se rfl _ _ (w.heap.size + 1 + 1) _ _ _ _ _ _ rfl rfl (sn_five _ _ _ _ _ RZ)) rfl ⟨D, _, _, _, _, _, Dc.nxt_refl _ _, rfl, ⟨⟨p, 1, 0, 0, true⟩, rfl⟩, fun _ => ⟨rfl, hDp.only (sn_only (W4.setCell ⟨D.db, 1, none⟩ (.int .u64 (sm p (uw x.imm) : Nat))) (w.heap.size + 1 + 1) _ _ _ _ _) (fun j hj e => by have := h.all_lt hj; omega)⟩, fun hne => absurd rfl hne, only_new (only_new (only_new (only_new (only_new hSp (by omega)) (by omega)) (by omega)) (by omega)) (by omega)⟩
theorem does_jal {w : World} {D : Dc} {s : Ms} (h : IsD w D s) (x : In) (p : Nat) (ho : 32 ≤ x.op ∧ x.op ≤ 32) (h1 : x.rd < 32) (h2 : x.rs1 < 32) (h3 : x.rs2 < 32) :
    Calls Tryz.prog 31 #[.pointer (some ⟨D.db, 0, none⟩), .agg #[.int .u8 (x.op : Nat), .int .u8 (x.rd : Nat), .int .u8 (x.rs1 : Nat), .int .u8 (x.rs2 : Nat), .int .i64 x.imm], .agg #[.int .u64 (p : Nat), .int .u8 1, .int .u64 0, .int .u64 0, .bool false]] w (DsP w D s 0 ((s.lay x.rd (sm p 4) false).go (sm p (uw x.imm))) ⟨p, 1, 0, 0, false⟩) := by
  have l22 : ¬ (x.op : Int) ≤ 22 := by omega
  have d22 : decide ((x.op : Int) ≤ 22) = false := by simp; omega
  have n23 : ¬ (x.op : Int) = 23 := by omega
  have p23 : ((x.op : Int) == 23) = false := by simp; omega
  have l27 : ¬ (x.op : Int) ≤ 27 := by omega
  have d27 : decide ((x.op : Int) ≤ 27) = false := by simp; omega
  have l31 : ¬ (x.op : Int) ≤ 31 := by omega
  have d31 : decide ((x.op : Int) ≤ 31) = false := by simp; omega
  have p32 : ((x.op : Int) == 32) = true := by simp; omega
  have e32 : decide ((x.op : Int) = 32) = true := by simp; omega
  have i1 : (0 : Int) ≤ (x.rs1 : Int) := by omega
  have i2 : (x.rs1 : Int) < 32 := by omega
  have i3 : (0 : Int) ≤ (x.rs2 : Int) := by omega
  have i4 : (x.rs2 : Int) < 32 := by omega
  have hdl := h.lt
  have nb : ∀ k, w.heap.size ≤ k → ¬ D.own k := fun k hk e => by have := h.all_lt (.inl e); omega
  go_enter Tryz.func31, Tryz.ntmps31
  go_wp2
  obtain ⟨W1, hW1, hB1, RX, RS, RZ⟩ := start3 w x p
  rw [hW1]
  clear hW1
  have hD1 := h.of hB1
  have x2 := RX.1 2 (by simp)
  have x3 := RX.1 3 (by simp)
  have r1 := hD1.rv x.rs1 h2
  have r2 := hD1.rv x.rs2 h3
  refine region_below (by kernel_rfl) (by kernel_rfl) ?_
  repeat (first
    | go_big_quiet_skip
    | (refine BigFrame.wpQuiet_want (by kernel_rfl) fun K hK => ?_
       apply Exists.intro
       refine ⟨fun w' hb' => ?_, ?_⟩
       · have s0 := stay hb' x2
         have s1 := stay hb' x3
         have s2 := stay hb' r1
         have s3 := stay hb' r2
         go_simp
         first
           | exact rfl
           | exact ⟨rfl, hb'⟩
       go_simp
       refine hK _ ?_
       clear hK K))
  refine wpQuiet_nil ?_
  intro W2 hb2
  have hB2 := below_trans' hB1 (Nat.le_refl _) hb2
  have hD2 := hD1.of hb2
  have RX := rowG_b RX hb2
  have RS := rowG_b RS hb2
  have RZ := rowG_b RZ hb2
  clear x2 x3 r1 r2 hb2 hD1 hB1
  have hS2 : Only D.own w W2 := only_below hB2
  obtain ⟨x0, x1, x2, x3, x4, xl⟩ := five RX
  obtain ⟨v0, v1, v2, v3, v4, vl⟩ := five RS
  obtain ⟨z0, z1, z2, z3, z4, zl⟩ := five RZ
  obtain ⟨fz0, fz1, fz2, fz3, fz4⟩ := fivef RZ
  have fs4 := RS.2.1 4
  have hu := uw_wrap x.imm
  have hsm := sm_wrap p (uw x.imm)
  have hsl := sm_lt p (uw x.imm)
  have h4 : IntKind.u64.wrap ((p : Int) + 4) = (sm p 4 : Nat) := sm_wrap p 4
  go_wp2_with (go_at_call 24; (have hcall := dset_any hD2 x.rd (sm p 4) false h1 (sm_lt _ _)); (with_reducible refine hcall.mono ?_); (clear hcall); (rintro e w3 ⟨rfl, hD3, hO3⟩); have hO3' := hO3.mono (T := D.own) (fun j hj => hj ▸ own_db); have hSf := hS2.trans hO3'; have RX := sn_row hO3' (nb _ (by omega)) RX; have RS := sn_row hO3' (nb _ (by omega)) RS; have RZ := sn_row hO3' (nb _ (by omega)) RZ; obtain ⟨xx0, xx1, xx2, xx3, xx4, xxl⟩ := five RX; obtain ⟨vv0, vv1, vv2, vv3, vv4, vvl⟩ := five RS; obtain ⟨y0, y1, y2, y3, y4, yl⟩ := five RZ; obtain ⟨fy0, fy1, fy2, fy3, fy4⟩ := fivef RZ; have db1 := hD3.e1; have dbf := hD3.fz 1; have dbl := hD3.lt)
  have hDp := hD3.setPc (v := sm p (uw x.imm)) (hsl)
  have hSp := hSf.setCell (b := D.db) (o := 1) (v := .int .u64 (sm p (uw x.imm) : Nat)) own_db
  have RZ := sn_row (only_one _ D.db 1 (.int .u64 (sm p (uw x.imm) : Nat))) (by omega) RZ
  refine bodyPost_ret (res_se rfl _ _ (w.heap.size + 1 + 1) _ _ _ _ _ _ rfl rfl (sn_five _ _ _ _ _ RZ)) rfl ⟨D, _, _, _, _, _, Dc.nxt_refl _ _, rfl, ⟨⟨p, 1, 0, 0, false⟩, rfl⟩, fun _ => ⟨rfl, hDp.only (sn_only (w3.setCell ⟨D.db, 1, none⟩ (.int .u64 (sm p (uw x.imm) : Nat))) (w.heap.size + 1 + 1) _ _ _ _ _) (fun j hj e => by have := h.all_lt hj; omega)⟩, fun hne => absurd rfl hne, only_new (only_new (only_new (only_new (only_new hSp (by omega)) (by omega)) (by omega)) (by omega)) (by omega)⟩
theorem does_jalr {w : World} {D : Dc} {s : Ms} (h : IsD w D s) (x : In) (p : Nat) (ho : 33 ≤ x.op ∧ x.op ≤ 33) (h1 : x.rd < 32) (h2 : x.rs1 < 32) (h3 : x.rs2 < 32) :
    Calls Tryz.prog 31 #[.pointer (some ⟨D.db, 0, none⟩), .agg #[.int .u8 (x.op : Nat), .int .u8 (x.rd : Nat), .int .u8 (x.rs1 : Nat), .int .u8 (x.rs2 : Nat), .int .i64 x.imm], .agg #[.int .u64 (p : Nat), .int .u8 1, .int .u64 0, .int .u64 0, .bool false]] w (DsP w D s 0 ((s.lay x.rd (sm p 4) false).go (ev (s.at x))) ⟨p, 1, 0, 0, s.rt x.rs1⟩) := by
  have l22 : ¬ (x.op : Int) ≤ 22 := by omega
  have d22 : decide ((x.op : Int) ≤ 22) = false := by simp; omega
  have n23 : ¬ (x.op : Int) = 23 := by omega
  have p23 : ((x.op : Int) == 23) = false := by simp; omega
  have l27 : ¬ (x.op : Int) ≤ 27 := by omega
  have d27 : decide ((x.op : Int) ≤ 27) = false := by simp; omega
  have l31 : ¬ (x.op : Int) ≤ 31 := by omega
  have d31 : decide ((x.op : Int) ≤ 31) = false := by simp; omega
  have n32 : ¬ (x.op : Int) = 32 := by omega
  have p32 : ((x.op : Int) == 32) = false := by simp; omega
  have p33 : ((x.op : Int) == 33) = true := by simp; omega
  have e33 : decide ((x.op : Int) = 33) = true := by simp; omega
  have i1 : (0 : Int) ≤ (x.rs1 : Int) := by omega
  have i2 : (x.rs1 : Int) < 32 := by omega
  have i3 : (0 : Int) ≤ (x.rs2 : Int) := by omega
  have i4 : (x.rs2 : Int) < 32 := by omega
  have hdl := h.lt
  have nb : ∀ k, w.heap.size ≤ k → ¬ D.own k := fun k hk e => by have := h.all_lt (.inl e); omega
  go_enter Tryz.func31, Tryz.ntmps31
  go_wp2
  obtain ⟨W1, hW1, hB1, RX, RS, RZ⟩ := start3 w x p
  rw [hW1]
  clear hW1
  have hD1 := h.of hB1
  have x2 := RX.1 2 (by simp)
  have x3 := RX.1 3 (by simp)
  have r1 := hD1.rv x.rs1 h2
  have r2 := hD1.rv x.rs2 h3
  refine region_below (by kernel_rfl) (by kernel_rfl) ?_
  repeat (first
    | go_big_quiet_skip
    | (refine BigFrame.wpQuiet_want (by kernel_rfl) fun K hK => ?_
       apply Exists.intro
       refine ⟨fun w' hb' => ?_, ?_⟩
       · have s0 := stay hb' x2
         have s1 := stay hb' x3
         have s2 := stay hb' r1
         have s3 := stay hb' r2
         go_simp
         first
           | exact rfl
           | exact ⟨rfl, hb'⟩
       go_simp
       refine hK _ ?_
       clear hK K))
  refine wpQuiet_nil ?_
  intro W2 hb2
  have hB2 := below_trans' hB1 (Nat.le_refl _) hb2
  have hD2 := hD1.of hb2
  have RX := rowG_b RX hb2
  have RS := rowG_b RS hb2
  have RZ := rowG_b RZ hb2
  clear x2 x3 r1 r2 hb2 hD1 hB1
  have hS2 : Only D.own w W2 := only_below hB2
  obtain ⟨x0, x1, x2, x3, x4, xl⟩ := five RX
  obtain ⟨v0, v1, v2, v3, v4, vl⟩ := five RS
  obtain ⟨z0, z1, z2, z3, z4, zl⟩ := five RZ
  obtain ⟨fz0, fz1, fz2, fz3, fz4⟩ := fivef RZ
  have fs4 := RS.2.1 4
  have hu := uw_wrap x.imm
  have hsm := sm_wrap (s.rv x.rs1) (uw x.imm)
  have hat : sm (s.rv x.rs1) (uw x.imm) = s.at x := rfl
  rw [hat] at hsm
  clear hat
  have hal : s.at x < 18446744073709551616 := sm_lt _ _
  have hev := ev_bits (s.at x) hal
  have hel := ev_lt hal
  have h4 : IntKind.u64.wrap ((p : Int) + 4) = (sm p 4 : Nat) := sm_wrap p 4
  have t1 := hD2.rt x.rs1 h2
  go_wp2
  go_still_tail 8, (by kernel_rfl)
  change wpList _ _ _ _ _ W2.drew
  obtain ⟨W4, hW4⟩ : ∃ W4, (W2.setCell ⟨w.heap.size + 1, 4, none⟩ (.bool (s.rt x.rs1))).drew = W4 := ⟨_, rfl⟩
  have hO4 : Only (fun j => j = w.heap.size + 1) W2 W4 := by rw [← hW4]; exact (only_one _ _ _ _).trans (only_below (bd1 (Below.refl _ _)))
  have hS4 : Only D.own w W4 := by rw [← hW4]; exact (only_new hS2 (by omega)).trans (only_below (bd1 (Below.refl _ _)))
  have RS : rowG #[.int .u64 (p : Nat), .int .u8 1, .int .u64 0, .int .u64 0, .bool (s.rt x.rs1)] W4 (w.heap.size + 1) := by rw [← hW4]; exact rowG_b (sn_set 4 (by omega) _ RS) (bd1 (Below.refl _ _))
  have RX := sn_row hO4 (by omega) RX
  have RZ := sn_row hO4 (by omega) RZ
  have hD4 := hD2.only hO4 (fun j hj e => by have := h.all_lt hj; omega)
  obtain ⟨xx0, xx1, xx2, xx3, xx4, xxl⟩ := five RX
  obtain ⟨vv0, vv1, vv2, vv3, vv4, vvl⟩ := five RS
  obtain ⟨zz0, zz1, zz2, zz3, zz4, zzl⟩ := five RZ
  obtain ⟨fz0, fz1, fz2, fz3, fz4⟩ := fivef RZ
  have db1 := hD4.e1
  have dbf := hD4.fz 1
  have dbl := hD4.lt

  go_wp2_with (go_at_call 24; (have hcall := dset_any hD4 x.rd (sm p 4) false h1 (sm_lt _ _)); (with_reducible refine hcall.mono ?_); (clear hcall); (rintro e w3 ⟨rfl, hD3, hO3⟩); have hO3' := hO3.mono (T := D.own) (fun j hj => hj ▸ own_db); have hSf := hS4.trans hO3'; have RX := sn_row hO3' (nb _ (by omega)) RX; have RS := sn_row hO3' (nb _ (by omega)) RS; have RZ := sn_row hO3' (nb _ (by omega)) RZ; obtain ⟨xx0, xx1, xx2, xx3, xx4, xxl⟩ := five RX; obtain ⟨vv0, vv1, vv2, vv3, vv4, vvl⟩ := five RS; obtain ⟨y0, y1, y2, y3, y4, yl⟩ := five RZ; obtain ⟨fy0, fy1, fy2, fy3, fy4⟩ := fivef RZ; have db1 := hD3.e1; have dbf := hD3.fz 1; have dbl := hD3.lt)
  have hDp := hD3.setPc (v := ev (s.at x)) (hel)
  have hSp := hSf.setCell (b := D.db) (o := 1) (v := .int .u64 (ev (s.at x) : Nat)) own_db
  have RZ := sn_row (only_one _ D.db 1 (.int .u64 (ev (s.at x) : Nat))) (by omega) RZ
  refine bodyPost_ret (res_se rfl _ _ (w.heap.size + 1 + 1) _ _ _ _ _ _ rfl rfl (sn_five _ _ _ _ _ RZ)) rfl ⟨D, _, _, _, _, _, Dc.nxt_refl _ _, rfl, ⟨⟨p, 1, 0, 0, s.rt x.rs1⟩, rfl⟩, fun _ => ⟨rfl, hDp.only (sn_only (w3.setCell ⟨D.db, 1, none⟩ (.int .u64 (ev (s.at x) : Nat))) (w.heap.size + 1 + 1) _ _ _ _ _) (fun j hj e => by have := h.all_lt hj; omega)⟩, fun hne => absurd rfl hne, only_new (only_new (only_new (only_new (only_new hSp (by omega)) (by omega)) (by omega)) (by omega)) (by omega)⟩
theorem does_cw {w : World} {D : Dc} {s : Ms} (h : IsD w D s) (x : In) (p : Nat) (ho : 34 ≤ x.op ∧ x.op ≤ 34) (h1 : x.rd < 32) (h2 : x.rs1 < 32) (h3 : x.rs2 < 32) (hr : 5 < s.rv 17) :
    Calls Tryz.prog 31 #[.pointer (some ⟨D.db, 0, none⟩), .agg #[.int .u8 (x.op : Nat), .int .u8 (x.rd : Nat), .int .u8 (x.rs1 : Nat), .int .u8 (x.rs2 : Nat), .int .i64 x.imm], .agg #[.int .u64 (p : Nat), .int .u8 1, .int .u64 0, .int .u64 0, .bool false]] w (DsP w D s 51 (s) ⟨p, 5, s.rv 17, 0, s.rt 17⟩) := by
  have l22 : ¬ (x.op : Int) ≤ 22 := by omega
  have d22 : decide ((x.op : Int) ≤ 22) = false := by simp; omega
  have n23 : ¬ (x.op : Int) = 23 := by omega
  have p23 : ((x.op : Int) == 23) = false := by simp; omega
  have l27 : ¬ (x.op : Int) ≤ 27 := by omega
  have d27 : decide ((x.op : Int) ≤ 27) = false := by simp; omega
  have l31 : ¬ (x.op : Int) ≤ 31 := by omega
  have d31 : decide ((x.op : Int) ≤ 31) = false := by simp; omega
  have n32 : ¬ (x.op : Int) = 32 := by omega
  have p32 : ((x.op : Int) == 32) = false := by simp; omega
  have n33 : ¬ (x.op : Int) = 33 := by omega
  have p33 : ((x.op : Int) == 33) = false := by simp; omega
  have i1 : (0 : Int) ≤ (x.rs1 : Int) := by omega
  have i2 : (x.rs1 : Int) < 32 := by omega
  have i3 : (0 : Int) ≤ (x.rs2 : Int) := by omega
  have i4 : (x.rs2 : Int) < 32 := by omega
  have hdl := h.lt
  have nb : ∀ k, w.heap.size ≤ k → ¬ D.own k := fun k hk e => by have := h.all_lt (.inl e); omega
  go_enter Tryz.func31, Tryz.ntmps31
  go_wp2
  obtain ⟨W1, hW1, hB1, RX, RS, RZ⟩ := start3 w x p
  rw [hW1]
  clear hW1
  have hD1 := h.of hB1
  have x2 := RX.1 2 (by simp)
  have x3 := RX.1 3 (by simp)
  have r1 := hD1.rv x.rs1 h2
  have r2 := hD1.rv x.rs2 h3
  refine region_below (by kernel_rfl) (by kernel_rfl) ?_
  repeat (first
    | go_big_quiet_skip
    | (refine BigFrame.wpQuiet_want (by kernel_rfl) fun K hK => ?_
       apply Exists.intro
       refine ⟨fun w' hb' => ?_, ?_⟩
       · have s0 := stay hb' x2
         have s1 := stay hb' x3
         have s2 := stay hb' r1
         have s3 := stay hb' r2
         go_simp
         first
           | exact rfl
           | exact ⟨rfl, hb'⟩
       go_simp
       refine hK _ ?_
       clear hK K))
  refine wpQuiet_nil ?_
  intro W2 hb2
  have hB2 := below_trans' hB1 (Nat.le_refl _) hb2
  have hD2 := hD1.of hb2
  have RX := rowG_b RX hb2
  have RS := rowG_b RS hb2
  have RZ := rowG_b RZ hb2
  clear x2 x3 r1 r2 hb2 hD1 hB1
  have hS2 : Only D.own w W2 := only_below hB2
  obtain ⟨x0, x1, x2, x3, x4, xl⟩ := five RX
  obtain ⟨v0, v1, v2, v3, v4, vl⟩ := five RS
  obtain ⟨z0, z1, z2, z3, z4, zl⟩ := five RZ
  obtain ⟨fz0, fz1, fz2, fz3, fz4⟩ := fivef RZ
  have fs4 := RS.2.1 4
  go_wp2_with (go_at_call 81; (have hcall := call_wrong hD2 p hr); (with_reducible refine hcall.mono ?_); (clear hcall); (rintro e w3 ⟨rfl, hD3, hO3⟩); have hO3' := hO3.mono (T := D.own) (fun j hj => own_bl hj); have hSf := hS2.trans hO3'; have RX := sn_row hO3' (nb _ (by omega)) RX; have RS := sn_row hO3' (nb _ (by omega)) RS; have RZ := sn_row hO3' (nb _ (by omega)) RZ; obtain ⟨xx0, xx1, xx2, xx3, xx4, xxl⟩ := five RX; obtain ⟨vv0, vv1, vv2, vv3, vv4, vvl⟩ := five RS; obtain ⟨y0, y1, y2, y3, y4, yl⟩ := five RZ; obtain ⟨fy0, fy1, fy2, fy3, fy4⟩ := fivef RZ)
  refine bodyPost_ret (res_se rfl _ _ (w.heap.size + 1 + 1) _ _ _ _ _ _ rfl rfl (sn_five _ _ _ _ _ RZ)) rfl ⟨D, _, _, _, _, _, Dc.nxt_refl _ _, rfl, ⟨⟨p, 5, s.rv 17, 0, s.rt 17⟩, rfl⟩, fun hk => ⟨rfl, absurd hk (by decide)⟩, fun hk => (hD3.only (sn_only w3 (w.heap.size + 1 + 1) _ _ _ _ _) (fun j hj e => by have := h.all_lt hj; omega)), only_new (only_new (only_new (only_new (only_new hSf (by omega)) (by omega)) (by omega)) (by omega)) (by omega)⟩
theorem does_cs {w : World} {D : Dc} {s : Ms} (h : IsD w D s) (x : In) (p : Nat) (ho : 34 ≤ x.op ∧ x.op ≤ 34) (h1 : x.rd < 32) (h2 : x.rs1 < 32) (h3 : x.rs2 < 32) (hr : s.rv 17 = 5) :
    Calls Tryz.prog 31 #[.pointer (some ⟨D.db, 0, none⟩), .agg #[.int .u8 (x.op : Nat), .int .u8 (x.rd : Nat), .int .u8 (x.rs1 : Nat), .int .u8 (x.rs2 : Nat), .int .i64 x.imm], .agg #[.int .u64 (p : Nat), .int .u8 1, .int .u64 0, .int .u64 0, .bool false]] w (DsP w D s 0 (s) ⟨p, 5, s.rv 17, 0, s.rt 17⟩) := by
  have l22 : ¬ (x.op : Int) ≤ 22 := by omega
  have d22 : decide ((x.op : Int) ≤ 22) = false := by simp; omega
  have n23 : ¬ (x.op : Int) = 23 := by omega
  have p23 : ((x.op : Int) == 23) = false := by simp; omega
  have l27 : ¬ (x.op : Int) ≤ 27 := by omega
  have d27 : decide ((x.op : Int) ≤ 27) = false := by simp; omega
  have l31 : ¬ (x.op : Int) ≤ 31 := by omega
  have d31 : decide ((x.op : Int) ≤ 31) = false := by simp; omega
  have n32 : ¬ (x.op : Int) = 32 := by omega
  have p32 : ((x.op : Int) == 32) = false := by simp; omega
  have n33 : ¬ (x.op : Int) = 33 := by omega
  have p33 : ((x.op : Int) == 33) = false := by simp; omega
  have i1 : (0 : Int) ≤ (x.rs1 : Int) := by omega
  have i2 : (x.rs1 : Int) < 32 := by omega
  have i3 : (0 : Int) ≤ (x.rs2 : Int) := by omega
  have i4 : (x.rs2 : Int) < 32 := by omega
  have hdl := h.lt
  have nb : ∀ k, w.heap.size ≤ k → ¬ D.own k := fun k hk e => by have := h.all_lt (.inl e); omega
  have HR := Lib.hid hr
  clear hr
  go_enter Tryz.func31, Tryz.ntmps31
  go_wp2
  obtain ⟨W1, hW1, hB1, RX, RS, RZ⟩ := start3 w x p
  rw [hW1]
  clear hW1
  have hD1 := h.of hB1
  have x2 := RX.1 2 (by simp)
  have x3 := RX.1 3 (by simp)
  have r1 := hD1.rv x.rs1 h2
  have r2 := hD1.rv x.rs2 h3
  refine region_below (by kernel_rfl) (by kernel_rfl) ?_
  repeat (first
    | go_big_quiet_skip
    | (refine BigFrame.wpQuiet_want (by kernel_rfl) fun K hK => ?_
       apply Exists.intro
       refine ⟨fun w' hb' => ?_, ?_⟩
       · have s0 := stay hb' x2
         have s1 := stay hb' x3
         have s2 := stay hb' r1
         have s3 := stay hb' r2
         go_simp
         first
           | exact rfl
           | exact ⟨rfl, hb'⟩
       go_simp
       refine hK _ ?_
       clear hK K))
  refine wpQuiet_nil ?_
  intro W2 hb2
  have hB2 := below_trans' hB1 (Nat.le_refl _) hb2
  have hD2 := hD1.of hb2
  have RX := rowG_b RX hb2
  have RS := rowG_b RS hb2
  have RZ := rowG_b RZ hb2
  clear x2 x3 r1 r2 hb2 hD1 hB1
  have hS2 : Only D.own w W2 := only_below hB2
  obtain ⟨x0, x1, x2, x3, x4, xl⟩ := five RX
  obtain ⟨v0, v1, v2, v3, v4, vl⟩ := five RS
  obtain ⟨z0, z1, z2, z3, z4, zl⟩ := five RZ
  obtain ⟨fz0, fz1, fz2, fz3, fz4⟩ := fivef RZ
  have fs4 := RS.2.1 4
  go_wp2_with (go_at_call 81; (have hcall := call_seal hD2 p HR.out); (with_reducible refine hcall.mono ?_); (clear hcall); (rintro e w3 ⟨rfl, hD3, hO3⟩); have hO3' := hO3.mono (T := D.own) (fun j hj => own_bl hj); have hSf := hS2.trans hO3'; have RX := sn_row hO3' (nb _ (by omega)) RX; have RS := sn_row hO3' (nb _ (by omega)) RS; have RZ := sn_row hO3' (nb _ (by omega)) RZ; obtain ⟨xx0, xx1, xx2, xx3, xx4, xxl⟩ := five RX; obtain ⟨vv0, vv1, vv2, vv3, vv4, vvl⟩ := five RS; obtain ⟨y0, y1, y2, y3, y4, yl⟩ := five RZ; obtain ⟨fy0, fy1, fy2, fy3, fy4⟩ := fivef RZ)
  refine bodyPost_ret (res_se rfl _ _ (w.heap.size + 1 + 1) _ _ _ _ _ _ rfl rfl (sn_five _ _ _ _ _ RZ)) rfl ⟨D, _, _, _, _, _, Dc.nxt_refl _ _, rfl, ⟨⟨p, 5, s.rv 17, 0, s.rt 17⟩, rfl⟩, fun hk => ⟨rfl, (hD3.only (sn_only w3 (w.heap.size + 1 + 1) _ _ _ _ _) (fun j hj e => by have := h.all_lt hj; omega))⟩, fun hk => absurd rfl hk, only_new (only_new (only_new (only_new (only_new hSf (by omega)) (by omega)) (by omega)) (by omega)) (by omega)⟩
theorem does_ch {w : World} {D : Dc} {s : Ms} (h : IsD w D s) (x : In) (p : Nat) (ho : 34 ≤ x.op ∧ x.op ≤ 34) (h1 : x.rd < 32) (h2 : x.rs1 < 32) (h3 : x.rs2 < 32) (hr : s.rv 17 < 4) (hq : p < 18446744073709551616) (hpc : s.pc = sm p 4) :
    Calls Tryz.prog 31 #[.pointer (some ⟨D.db, 0, none⟩), .agg #[.int .u8 (x.op : Nat), .int .u8 (x.rd : Nat), .int .u8 (x.rs1 : Nat), .int .u8 (x.rs2 : Nat), .int .i64 x.imm], .agg #[.int .u64 (p : Nat), .int .u8 1, .int .u64 0, .int .u64 0, .bool false]] w (DsP w D s 0 (({ { s with ov := true } with cd := s.rv 17 } : Ms).go p) ⟨p, 5, s.rv 17, 0, s.rt 17⟩) := by
  have l22 : ¬ (x.op : Int) ≤ 22 := by omega
  have d22 : decide ((x.op : Int) ≤ 22) = false := by simp; omega
  have n23 : ¬ (x.op : Int) = 23 := by omega
  have p23 : ((x.op : Int) == 23) = false := by simp; omega
  have l27 : ¬ (x.op : Int) ≤ 27 := by omega
  have d27 : decide ((x.op : Int) ≤ 27) = false := by simp; omega
  have l31 : ¬ (x.op : Int) ≤ 31 := by omega
  have d31 : decide ((x.op : Int) ≤ 31) = false := by simp; omega
  have n32 : ¬ (x.op : Int) = 32 := by omega
  have p32 : ((x.op : Int) == 32) = false := by simp; omega
  have n33 : ¬ (x.op : Int) = 33 := by omega
  have p33 : ((x.op : Int) == 33) = false := by simp; omega
  have i1 : (0 : Int) ≤ (x.rs1 : Int) := by omega
  have i2 : (x.rs1 : Int) < 32 := by omega
  have i3 : (0 : Int) ≤ (x.rs2 : Int) := by omega
  have i4 : (x.rs2 : Int) < 32 := by omega
  have hdl := h.lt
  have nb : ∀ k, w.heap.size ≤ k → ¬ D.own k := fun k hk e => by have := h.all_lt (.inl e); omega
  go_enter Tryz.func31, Tryz.ntmps31
  go_wp2
  obtain ⟨W1, hW1, hB1, RX, RS, RZ⟩ := start3 w x p
  rw [hW1]
  clear hW1
  have hD1 := h.of hB1
  have x2 := RX.1 2 (by simp)
  have x3 := RX.1 3 (by simp)
  have r1 := hD1.rv x.rs1 h2
  have r2 := hD1.rv x.rs2 h3
  refine region_below (by kernel_rfl) (by kernel_rfl) ?_
  repeat (first
    | go_big_quiet_skip
    | (refine BigFrame.wpQuiet_want (by kernel_rfl) fun K hK => ?_
       apply Exists.intro
       refine ⟨fun w' hb' => ?_, ?_⟩
       · have s0 := stay hb' x2
         have s1 := stay hb' x3
         have s2 := stay hb' r1
         have s3 := stay hb' r2
         go_simp
         first
           | exact rfl
           | exact ⟨rfl, hb'⟩
       go_simp
       refine hK _ ?_
       clear hK K))
  refine wpQuiet_nil ?_
  intro W2 hb2
  have hB2 := below_trans' hB1 (Nat.le_refl _) hb2
  have hD2 := hD1.of hb2
  have RX := rowG_b RX hb2
  have RS := rowG_b RS hb2
  have RZ := rowG_b RZ hb2
  clear x2 x3 r1 r2 hb2 hD1 hB1
  have hS2 : Only D.own w W2 := only_below hB2
  obtain ⟨x0, x1, x2, x3, x4, xl⟩ := five RX
  obtain ⟨v0, v1, v2, v3, v4, vl⟩ := five RS
  obtain ⟨z0, z1, z2, z3, z4, zl⟩ := five RZ
  obtain ⟨fz0, fz1, fz2, fz3, fz4⟩ := fivef RZ
  have fs4 := RS.2.1 4
  go_wp2_with (go_at_call 81; (have hcall := call_halt hD2 p hr p hq hpc); (with_reducible refine hcall.mono ?_); (clear hcall); (rintro e w3 ⟨rfl, hD3, hO3⟩); have hO3' := hO3.mono (T := D.own) (fun j hj => own_bl hj); have hSf := hS2.trans hO3'; have RX := sn_row hO3' (nb _ (by omega)) RX; have RS := sn_row hO3' (nb _ (by omega)) RS; have RZ := sn_row hO3' (nb _ (by omega)) RZ; obtain ⟨xx0, xx1, xx2, xx3, xx4, xxl⟩ := five RX; obtain ⟨vv0, vv1, vv2, vv3, vv4, vvl⟩ := five RS; obtain ⟨y0, y1, y2, y3, y4, yl⟩ := five RZ; obtain ⟨fy0, fy1, fy2, fy3, fy4⟩ := fivef RZ)
  refine bodyPost_ret (res_se rfl _ _ (w.heap.size + 1 + 1) _ _ _ _ _ _ rfl rfl (sn_five _ _ _ _ _ RZ)) rfl ⟨D, _, _, _, _, _, Dc.nxt_refl _ _, rfl, ⟨⟨p, 5, s.rv 17, 0, s.rt 17⟩, rfl⟩, fun hk => ⟨rfl, (hD3.only (sn_only w3 (w.heap.size + 1 + 1) _ _ _ _ _) (fun j hj e => by have := h.all_lt hj; omega))⟩, fun hk => absurd rfl hk, only_new (only_new (only_new (only_new (only_new hSf (by omega)) (by omega)) (by omega)) (by omega)) (by omega)⟩
theorem dnxt_pre {w W : World} {D D' : Dc} (h : Dc.nxt W D D') (hs : w.heap.size ≤ W.heap.size) : Dc.nxt w D D' := ⟨h.1, h.2.1, fun j hj => (h.2.2 j hj).imp_right fun e => Nat.le_trans hs e⟩
theorem dnxt_all {W : World} {D D' : Dc} (h : Dc.nxt W D D') {j : Nat} (hj : D'.all j) : D.all j ∨ W.heap.size ≤ j := by
  rcases hj with hj | hj
  · exact (h.2.2 j hj).imp_left .inl
  · rw [h.2.1] at hj; exact .inl (.inr hj)
theorem does_ct {w : World} {D : Dc} {s : Ms} (h : IsD w D s) (x : In) (p : Nat) (ho : 34 ≤ x.op ∧ x.op ≤ 34) (h1 : x.rd < 32) (h2 : x.rs1 < 32) (h3 : x.rs2 < 32) (hr : s.rv 17 = 4) (hk : s.told.length ≤ 1048576) :
    Calls Tryz.prog 31 #[.pointer (some ⟨D.db, 0, none⟩), .agg #[.int .u8 (x.op : Nat), .int .u8 (x.rd : Nat), .int .u8 (x.rs1 : Nat), .int .u8 (x.rs2 : Nat), .int .i64 x.imm], .agg #[.int .u64 (p : Nat), .int .u8 1, .int .u64 0, .int .u64 0, .bool false]] w (DsP w D s 0 (s.tell) ⟨p, 5, s.rv 17, 0, s.rt 17⟩) := by
  have l22 : ¬ (x.op : Int) ≤ 22 := by omega
  have d22 : decide ((x.op : Int) ≤ 22) = false := by simp; omega
  have n23 : ¬ (x.op : Int) = 23 := by omega
  have p23 : ((x.op : Int) == 23) = false := by simp; omega
  have l27 : ¬ (x.op : Int) ≤ 27 := by omega
  have d27 : decide ((x.op : Int) ≤ 27) = false := by simp; omega
  have l31 : ¬ (x.op : Int) ≤ 31 := by omega
  have d31 : decide ((x.op : Int) ≤ 31) = false := by simp; omega
  have n32 : ¬ (x.op : Int) = 32 := by omega
  have p32 : ((x.op : Int) == 32) = false := by simp; omega
  have n33 : ¬ (x.op : Int) = 33 := by omega
  have p33 : ((x.op : Int) == 33) = false := by simp; omega
  have i1 : (0 : Int) ≤ (x.rs1 : Int) := by omega
  have i2 : (x.rs1 : Int) < 32 := by omega
  have i3 : (0 : Int) ≤ (x.rs2 : Int) := by omega
  have i4 : (x.rs2 : Int) < 32 := by omega
  have hdl := h.lt
  have nb : ∀ k, w.heap.size ≤ k → ¬ D.own k := fun k hk e => by have := h.all_lt (.inl e); omega
  have HR := Lib.hid hr
  clear hr
  go_enter Tryz.func31, Tryz.ntmps31
  go_wp2
  obtain ⟨W1, hW1, hB1, RX, RS, RZ⟩ := start3 w x p
  rw [hW1]
  clear hW1
  have hD1 := h.of hB1
  have x2 := RX.1 2 (by simp)
  have x3 := RX.1 3 (by simp)
  have r1 := hD1.rv x.rs1 h2
  have r2 := hD1.rv x.rs2 h3
  refine region_below (by kernel_rfl) (by kernel_rfl) ?_
  repeat (first
    | go_big_quiet_skip
    | (refine BigFrame.wpQuiet_want (by kernel_rfl) fun K hK => ?_
       apply Exists.intro
       refine ⟨fun w' hb' => ?_, ?_⟩
       · have s0 := stay hb' x2
         have s1 := stay hb' x3
         have s2 := stay hb' r1
         have s3 := stay hb' r2
         go_simp
         first
           | exact rfl
           | exact ⟨rfl, hb'⟩
       go_simp
       refine hK _ ?_
       clear hK K))
  refine wpQuiet_nil ?_
  intro W2 hb2
  have hB2 := below_trans' hB1 (Nat.le_refl _) hb2
  have hD2 := hD1.of hb2
  have RX := rowG_b RX hb2
  have RS := rowG_b RS hb2
  have RZ := rowG_b RZ hb2
  clear x2 x3 r1 r2 hb2 hD1 hB1
  have hS2 : Only D.own w W2 := only_below hB2
  obtain ⟨x0, x1, x2, x3, x4, xl⟩ := five RX
  obtain ⟨v0, v1, v2, v3, v4, vl⟩ := five RS
  obtain ⟨z0, z1, z2, z3, z4, zl⟩ := five RZ
  obtain ⟨fz0, fz1, fz2, fz3, fz4⟩ := fivef RZ
  have fs4 := RS.2.1 4
  have hz2 : w.heap.size + 1 + 1 < W2.heap.size := RZ.2.2
  go_wp2_with (go_at_call 81; (have hcall := call_tell hD2 p HR.out hk); (with_reducible refine hcall.mono ?_); (clear hcall); (rintro e w3 ⟨D', hn, rfl, hD3, hO3⟩); have hO3' := hO3; have hSf := hS2.trans hO3'; have RX := sn_row hO3' (nb _ (by omega)) RX; have RS := sn_row hO3' (nb _ (by omega)) RS; have RZ := sn_row hO3' (nb _ (by omega)) RZ; obtain ⟨xx0, xx1, xx2, xx3, xx4, xxl⟩ := five RX; obtain ⟨vv0, vv1, vv2, vv3, vv4, vvl⟩ := five RS; obtain ⟨y0, y1, y2, y3, y4, yl⟩ := five RZ; obtain ⟨fy0, fy1, fy2, fy3, fy4⟩ := fivef RZ)
  refine bodyPost_ret (res_se rfl _ _ (w.heap.size + 1 + 1) _ _ _ _ _ _ rfl rfl (sn_five _ _ _ _ _ RZ)) rfl ⟨D', _, _, _, _, _, dnxt_pre hn hB2.size, rfl, ⟨⟨p, 5, s.rv 17, 0, s.rt 17⟩, rfl⟩, fun _ => ⟨rfl, hD3.only (sn_only w3 (w.heap.size + 1 + 1) _ _ _ _ _) (fun j hj e => by rcases dnxt_all hn hj with h9 | h9; exact absurd (h.all_lt h9) (by omega); omega)⟩, fun hne => absurd rfl hne, only_new (only_new (only_new (only_new (only_new hSf (by omega)) (by omega)) (by omega)) (by omega)) (by omega)⟩
end Go.Proofs.YtfaacmcnefbgcaaGreatDoor.m4
