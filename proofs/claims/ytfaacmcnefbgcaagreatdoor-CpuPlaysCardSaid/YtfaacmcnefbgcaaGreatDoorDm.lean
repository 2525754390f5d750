/- The document's machine: what memory leaves. -/
import Derived.Test.YtfaacmcnefbgcaaGreatDoorDb5
namespace Go.Proofs.YtfaacmcnefbgcaaGreatDoor.m4
open Go.ChangeShapes Go.WideShapes Go.ChangeAt Go.RowKit
set_option linter.unusedVariables false
/-- A result of two: what is seen, and the error. -/
theorem res_se {fn : Func} {p q : Tmp} (h : fn.results = #[.cell p 82, .tmp q]) (tmps : Array Value) (w : World) (g : Nat) (c0 c1 c2 c3 c4 d : Value) (hp : tmps.getD p undef = .pointer (some ⟨g, 0, none⟩)) (hq : tmps.getD q undef = d)
    (hr : rowG #[c0, c1, c2, c3, c4] w g) :
    (results fn tmps).run Tryz.prog w = .ok (.tuple #[.agg #[c0, c1, c2, c3, c4], d]) w := by
  have hp' : tmps[p]?.getD undef = .pointer (some ⟨g, 0, none⟩) := by simpa using hp
  have hq' : tmps[q]?.getD undef = d := by simpa using hq
  have h0 : w.cell? ⟨g, 0, none⟩ = some c0 := hr.1 0 (by simp)
  have h1 : w.cell? ⟨g, 1, none⟩ = some c1 := hr.1 1 (by simp)
  have h2 : w.cell? ⟨g, 2, none⟩ = some c2 := hr.1 2 (by simp)
  have h3 : w.cell? ⟨g, 3, none⟩ = some c3 := hr.1 3 (by simp)
  have h4 : w.cell? ⟨g, 4, none⟩ = some c4 := hr.1 4 (by simp)
  simp [results, h, hp', hq', go_sem, h0, h1, h2, h3, h4]
/-- What a part of the document's step leaves that may go wrong. -/
def MmP (w : World) (D : Dc) (s : Ms) (n : List Value) (k : Int) (e : Ending) (w' : World) : Prop := e = .returned (.tuple #[.agg n.toArray, .int .i64 k]) ∧ IsD w' D s ∧ Only (fun j => j = D.db ∨ D.y.bl j) w w'

set_option maxRecDepth 100000 in
set_option maxHeartbeats 8000000 in
theorem mem_24 {w : World} {D : Dc} {s : Ms} (h : IsD w D s) (x : In) (p : Nat) (ho : 24 ≤ x.op ∧ x.op ≤ 24) (h1 : x.rd < 32) (h2 : x.rs1 < 32) :
    Calls Tryz.prog 79 #[.pointer (some ⟨D.db, 0, none⟩), .agg #[.int .u8 (x.op : Nat), .int .u8 (x.rd : Nat), .int .u8 (x.rs1 : Nat), .int .u8 (x.rs2 : Nat), .int .i64 x.imm], .agg #[.int .u64 (p : Nat), .int .u8 1, .int .u64 0, .int .u64 0, .bool false]] w (MmP w D (if (ldF D.y.l s.bv s.tv (s.at x) 1).2.2 = 0 then s.lay x.rd (ldF D.y.l s.bv s.tv (s.at x) 1).1 ((ldF D.y.l s.bv s.tv (s.at x) 1).2.1 || s.rt x.rs1) else s) [.int .u64 (p : Nat), .int .u8 2, .int .u64 (s.at x : Nat), .int .u64 0, .bool (s.rt x.rs1)] (ldF D.y.l s.bv s.tv (s.at x) 1).2.2) := by
  have p24 : ((x.op : Int) == 24) = true := by simp; omega
  have d24 : decide ((x.op : Int) = 24) = true := by simp; omega
  have n25 : ¬ (x.op : Int) = 25 := by omega
  have p25 : ((x.op : Int) == 25) = false := by simp; omega
  have n26 : ¬ (x.op : Int) = 26 := by omega
  have p26 : ((x.op : Int) == 26) = false := by simp; omega
  have i1 : (0 : Int) ≤ (x.rs1 : Int) := by omega
  have i2 : (x.rs1 : Int) < 32 := by omega
  have hu := uw_wrap x.imm
  have hsm := sm_wrap (s.rv x.rs1) (uw x.imm)
  have hat : sm (s.rv x.rs1) (uw x.imm) = s.at x := rfl
  rw [hat] at hsm
  clear hat
  have hal : s.at x < 18446744073709551616 := sm_lt _ _
  have hvl := ldF_lt D.y.l s.tv (s.at x) 1 h.ok.b
  have hLd := fun w' (hD : IsD w' D s) => rload_any (s.at x) 1 hal w' hD.mem
  obtain ⟨r, hr⟩ : ∃ r, ldF D.y.l s.bv s.tv (s.at x) 1 = r := ⟨_, rfl⟩
  rw [hr] at hLd hvl ⊢
  clear hr
  obtain ⟨v, t, k⟩ := r
  simp only at hLd hvl ⊢
  obtain ⟨s', hs'⟩ : ∃ s', (if k = 0 then s.lay x.rd v (t || s.rt x.rs1) else s) = s' := ⟨_, rfl⟩
  rw [hs']
  go_enter Tryz.func79, Tryz.ntmps79
  go_wp2
  obtain ⟨W1, hW1⟩ : ∃ W1, ((w.alloc (.cells #[.int .u8 (x.op : Nat), .int .u8 (x.rd : Nat), .int .u8 (x.rs1 : Nat), .int .u8 (x.rs2 : Nat), .int .i64 x.imm] 48)).alloc (.cells #[.int .u64 (p : Nat), .int .u8 1, .int .u64 0, .int .u64 0, .bool false] 82)).alloc (.cells #[.int .u64 0, .int .u8 0, .int .u64 0, .int .u64 0, .bool false] 82) = W1 := ⟨_, rfl⟩
  have hB1 : Below w.heap.size w W1 := by rw [← hW1]; exact aBelow (aBelow (aBelow (Below.refl _ _) _) _) _
  have RX : rowG #[.int .u8 (x.op : Nat), .int .u8 (x.rd : Nat), .int .u8 (x.rs1 : Nat), .int .u8 (x.rs2 : Nat), .int .i64 x.imm] W1 w.heap.size := by rw [← hW1]; exact rowG_alloc (rowG_alloc (rowG_new _ _ _) _) _
  have RS : rowG #[.int .u64 (p : Nat), .int .u8 1, .int .u64 0, .int .u64 0, .bool false] W1 (w.heap.size + 1) := by rw [← hW1]; exact rowG_alloc (rowG_at _ _ _ _ (by simp)) _
  have RZ : rowG #[.int .u64 0, .int .u8 0, .int .u64 0, .int .u64 0, .bool false] W1 (w.heap.size + 1 + 1) := by rw [← hW1]; exact rowG_at _ _ _ _ (by simp)
  rw [hW1]
  clear hW1
  have hD1 := h.of hB1
  have x2 := RX.1 2 (by simp)
  have x4 := RX.1 4 (by simp)
  have r1 := hD1.rv x.rs1 h2
  refine region_below (by kernel_rfl) (by kernel_rfl) ?_
  repeat (first
    | go_big_quiet_skip
    | (refine BigFrame.wpQuiet_want (by kernel_rfl) fun K hK => ?_
       apply Exists.intro
       refine ⟨fun w' hb' => ?_, ?_⟩
       · have s0 := stay hb' x2
         have s1 := stay hb' x4
         have s2 := stay hb' r1
         go_simp
         first
           | exact rfl
           | exact ⟨rfl, hb'⟩
       go_simp
       refine hK _ ?_
       clear hK K))
  refine wpQuiet_nil ?_
  intro W2 hb2
  have hB2 := below_trans' hB1 (Nat.le_refl _) hb2
  have hD2 := hD1.of hb2
  have RX := rowG_b RX hb2
  have RS := rowG_b RS hb2
  have RZ := rowG_b RZ hb2
  clear x2 x4 r1 hb2 hD1 hB1
  have s2 := RS.1 2 (by simp)
  have f2 := RS.2.1 2
  go_wp2
  obtain ⟨W3, hW3⟩ : ∃ W3, W2.setCell ⟨w.heap.size + 1, 2, none⟩ (.int .u64 (s.at x : Nat)) = W3 := ⟨_, rfl⟩
  have hO3 : Only (fun j => j = w.heap.size + 1) W2 W3 := by rw [← hW3]; exact only_one _ _ _ _
  have hS3 : Only (fun j => j = D.db ∨ D.y.bl j) w W3 := by rw [← hW3]; exact only_new (only_below hB2) (by omega)
  have RS : rowG #[.int .u64 (p : Nat), .int .u8 1, .int .u64 (s.at x : Nat), .int .u64 0, .bool false] W3 (w.heap.size + 1) := by rw [← hW3]; exact sn_set 2 (by omega) _ RS
  rw [hW3]
  clear hW3 s2 f2
  have RX := sn_row hO3 (by omega) RX
  have RZ := sn_row hO3 (by omega) RZ
  have hD3 := hD2.only hO3 (fun j hj e => by have := h.all_lt hj; omega)
  have x0 := RX.1 0 (by simp)
  have e0 := hD3.e0
  have x2 := RX.1 2 (by simp)
  have r1 := hD3.rt x.rs1 h2
  have lx := RX.2.2
  have ls := RS.2.2
  have lz := RZ.2.2
  have f4 := RS.2.1 4
  have f1 := RS.2.1 1
  have u4 := RS.1 4 (by simp)
  have u1 := RS.1 1 (by simp)
  go_still_tail 8, (by kernel_rfl)
  change wpList _ _ _ _ _ W3.drew
  have hO4 : Only (fun j => j = w.heap.size + 1) W3 (((W3.setCell ⟨w.heap.size + 1, 4, none⟩ (.bool (s.rt x.rs1))).setCell ⟨w.heap.size + 1, 1, none⟩ (.int .u8 2)).drew) := ((only_one _ _ _ _).trans (only_one _ _ _ _)).trans (only_below (bd1 (Below.refl _ _)))
  have hS4 : Only (fun j => j = D.db ∨ D.y.bl j) w (((W3.setCell ⟨w.heap.size + 1, 4, none⟩ (.bool (s.rt x.rs1))).setCell ⟨w.heap.size + 1, 1, none⟩ (.int .u8 2)).drew) := (only_new (only_new hS3 (by omega)) (by omega)).trans (only_below (bd1 (Below.refl _ _)))
  have RS4 : rowG #[.int .u64 (p : Nat), .int .u8 2, .int .u64 (s.at x : Nat), .int .u64 0, .bool (s.rt x.rs1)] (((W3.setCell ⟨w.heap.size + 1, 4, none⟩ (.bool (s.rt x.rs1))).setCell ⟨w.heap.size + 1, 1, none⟩ (.int .u8 2)).drew) (w.heap.size + 1) := rowG_b (sn_set 1 (by omega) _ (sn_set 4 (by omega) _ RS)) (bd1 (Below.refl _ _))
  have RX4 := sn_row hO4 (by omega) RX
  have RZ4 := sn_row hO4 (by omega) RZ
  have hD4 := hD3.only hO4 (fun j hj e => by have := h.all_lt hj; omega)
  have hL4 := hLd _ hD4
  have hdl := h.lt
  by_cases hk : k = 0
  · subst hk
    rw [if_pos rfl] at hs'
    subst hs'
    cases t
    · go_wp2_with (first
        | (go_at_call 108; (with_reducible refine hL4.mono ?_); (rintro e w5 ⟨rfl, hb5⟩); have RX5 := rowG_b RX4 hb5; have RS5 := rowG_b RS4 hb5; have RZ5 := rowG_b RZ4 hb5; have hD5 := hD4.of hb5; have hS5 := hS4.trans (only_below hb5); have x1 := RX5.1 1 (by simp); have lx5 := RX5.2.2; have s4 := RS5.1 4 (by simp); have ls5 := RS5.2.2; have hSet := dset_any hD5 x.rd v (s.rt x.rs1) h1 hvl)
        | (go_at_call 24; (with_reducible refine hSet.mono ?_); (rintro e w6 ⟨rfl, hD6, hO6⟩); have RS6 := sn_row hO6 (by omega) RS5; have RZ6 := sn_row hO6 (by omega) RZ5; have hS6 := hS5.trans (hO6.mono fun j hj => .inl hj); have z0 := RZ6.1 0 (by simp); have z1 := RZ6.1 1 (by simp); have z2 := RZ6.1 2 (by simp); have z3 := RZ6.1 3 (by simp); have z4 := RZ6.1 4 (by simp); have g0 := RZ6.2.1 0; have g1 := RZ6.2.1 1; have g2 := RZ6.2.1 2; have g3 := RZ6.2.1 3; have g4 := RZ6.2.1 4; have lz5 := RZ6.2.2; have s0 := RS6.1 0 (by simp); have s1 := RS6.1 1 (by simp); have s2 := RS6.1 2 (by simp); have s3 := RS6.1 3 (by simp); have s4 := RS6.1 4 (by simp); have ls5 := RS6.2.2))
      refine bodyPost_ret (res_se rfl _ _ (w.heap.size + 1 + 1) _ _ _ _ _ _ rfl rfl (sn_five _ _ _ _ _ RZ6)) rfl ⟨rfl, hD6.only (sn_only w6 (w.heap.size + 1 + 1) _ _ _ _ _) (fun j hj e => by have := h.all_lt hj; omega), only_new (only_new (only_new (only_new (only_new hS6 (by omega)) (by omega)) (by omega)) (by omega)) (by omega)⟩
    · go_wp2_with (first
        | (go_at_call 108; (with_reducible refine hL4.mono ?_); (rintro e w5 ⟨rfl, hb5⟩); have RX5 := rowG_b RX4 hb5; have RS5 := rowG_b RS4 hb5; have RZ5 := rowG_b RZ4 hb5; have hD5 := hD4.of hb5; have hS5 := hS4.trans (only_below hb5); have x1 := RX5.1 1 (by simp); have lx5 := RX5.2.2; have hSet := dset_any hD5 x.rd v true h1 hvl)
        | (go_at_call 24; (with_reducible refine hSet.mono ?_); (rintro e w6 ⟨rfl, hD6, hO6⟩); have RS6 := sn_row hO6 (by omega) RS5; have RZ6 := sn_row hO6 (by omega) RZ5; have hS6 := hS5.trans (hO6.mono fun j hj => .inl hj); have z0 := RZ6.1 0 (by simp); have z1 := RZ6.1 1 (by simp); have z2 := RZ6.1 2 (by simp); have z3 := RZ6.1 3 (by simp); have z4 := RZ6.1 4 (by simp); have g0 := RZ6.2.1 0; have g1 := RZ6.2.1 1; have g2 := RZ6.2.1 2; have g3 := RZ6.2.1 3; have g4 := RZ6.2.1 4; have lz5 := RZ6.2.2; have s0 := RS6.1 0 (by simp); have s1 := RS6.1 1 (by simp); have s2 := RS6.1 2 (by simp); have s3 := RS6.1 3 (by simp); have s4 := RS6.1 4 (by simp); have ls5 := RS6.2.2))
      refine bodyPost_ret (res_se rfl _ _ (w.heap.size + 1 + 1) _ _ _ _ _ _ rfl rfl (sn_five _ _ _ _ _ RZ6)) rfl ⟨rfl, hD6.only (sn_only w6 (w.heap.size + 1 + 1) _ _ _ _ _) (fun j hj e => by have := h.all_lt hj; omega), only_new (only_new (only_new (only_new (only_new hS6 (by omega)) (by omega)) (by omega)) (by omega)) (by omega)⟩
  · rw [if_neg hk] at hs'
    subst hs'
    have hkb : (k == 0) = false := by simp [hk]
    go_wp2_with (go_at_call 108; (with_reducible refine hL4.mono ?_); (rintro e w5 ⟨rfl, hb5⟩); have RX5 := rowG_b RX4 hb5; have RS5 := rowG_b RS4 hb5; have RZ5 := rowG_b RZ4 hb5; have hD5 := hD4.of hb5; have hS5 := hS4.trans (only_below hb5); have x1 := RX5.1 1 (by simp); have lx5 := RX5.2.2; have z0 := RZ5.1 0 (by simp); have z1 := RZ5.1 1 (by simp); have z2 := RZ5.1 2 (by simp); have z3 := RZ5.1 3 (by simp); have z4 := RZ5.1 4 (by simp); have g0 := RZ5.2.1 0; have g1 := RZ5.2.1 1; have g2 := RZ5.2.1 2; have g3 := RZ5.2.1 3; have g4 := RZ5.2.1 4; have lz5 := RZ5.2.2; have s0 := RS5.1 0 (by simp); have s1 := RS5.1 1 (by simp); have s2 := RS5.1 2 (by simp); have s3 := RS5.1 3 (by simp); have s4 := RS5.1 4 (by simp); have ls5 := RS5.2.2)
    refine bodyPost_ret (res_se rfl _ _ (w.heap.size + 1 + 1) _ _ _ _ _ _ rfl rfl (sn_five _ _ _ _ _ RZ5)) rfl ⟨rfl, hD5.only (sn_only w5 (w.heap.size + 1 + 1) _ _ _ _ _) (fun j hj e => by have := h.all_lt hj; omega), only_new (only_new (only_new (only_new (only_new hS5 (by omega)) (by omega)) (by omega)) (by omega)) (by omega)⟩
set_option maxRecDepth 100000 in
set_option maxHeartbeats 8000000 in
theorem mem_25 {w : World} {D : Dc} {s : Ms} (h : IsD w D s) (x : In) (p : Nat) (ho : 25 ≤ x.op ∧ x.op ≤ 25) (h1 : x.rd < 32) (h2 : x.rs1 < 32) :
    Calls Tryz.prog 79 #[.pointer (some ⟨D.db, 0, none⟩), .agg #[.int .u8 (x.op : Nat), .int .u8 (x.rd : Nat), .int .u8 (x.rs1 : Nat), .int .u8 (x.rs2 : Nat), .int .i64 x.imm], .agg #[.int .u64 (p : Nat), .int .u8 1, .int .u64 0, .int .u64 0, .bool false]] w (MmP w D (if (ldF D.y.l s.bv s.tv (s.at x) 8).2.2 = 0 then s.lay x.rd (ldF D.y.l s.bv s.tv (s.at x) 8).1 ((ldF D.y.l s.bv s.tv (s.at x) 8).2.1 || s.rt x.rs1) else s) [.int .u64 (p : Nat), .int .u8 2, .int .u64 (s.at x : Nat), .int .u64 0, .bool (s.rt x.rs1)] (ldF D.y.l s.bv s.tv (s.at x) 8).2.2) := by
  have n24 : ¬ (x.op : Int) = 24 := by omega
  have p24 : ((x.op : Int) == 24) = false := by simp; omega
  have p25 : ((x.op : Int) == 25) = true := by simp; omega
  have d25 : decide ((x.op : Int) = 25) = true := by simp; omega
  have n26 : ¬ (x.op : Int) = 26 := by omega
  have p26 : ((x.op : Int) == 26) = false := by simp; omega
  have i1 : (0 : Int) ≤ (x.rs1 : Int) := by omega
  have i2 : (x.rs1 : Int) < 32 := by omega
  have hu := uw_wrap x.imm
  have hsm := sm_wrap (s.rv x.rs1) (uw x.imm)
  have hat : sm (s.rv x.rs1) (uw x.imm) = s.at x := rfl
  rw [hat] at hsm
  clear hat
  have hal : s.at x < 18446744073709551616 := sm_lt _ _
  have hvl := ldF_lt D.y.l s.tv (s.at x) 8 h.ok.b
  have hLd := fun w' (hD : IsD w' D s) => rload_any (s.at x) 8 hal w' hD.mem
  obtain ⟨r, hr⟩ : ∃ r, ldF D.y.l s.bv s.tv (s.at x) 8 = r := ⟨_, rfl⟩
  rw [hr] at hLd hvl ⊢
  clear hr
  obtain ⟨v, t, k⟩ := r
  simp only at hLd hvl ⊢
  obtain ⟨s', hs'⟩ : ∃ s', (if k = 0 then s.lay x.rd v (t || s.rt x.rs1) else s) = s' := ⟨_, rfl⟩
  rw [hs']
  go_enter Tryz.func79, Tryz.ntmps79
  go_wp2
  obtain ⟨W1, hW1⟩ : ∃ W1, ((w.alloc (.cells #[.int .u8 (x.op : Nat), .int .u8 (x.rd : Nat), .int .u8 (x.rs1 : Nat), .int .u8 (x.rs2 : Nat), .int .i64 x.imm] 48)).alloc (.cells #[.int .u64 (p : Nat), .int .u8 1, .int .u64 0, .int .u64 0, .bool false] 82)).alloc (.cells #[.int .u64 0, .int .u8 0, .int .u64 0, .int .u64 0, .bool false] 82) = W1 := ⟨_, rfl⟩
  have hB1 : Below w.heap.size w W1 := by rw [← hW1]; exact aBelow (aBelow (aBelow (Below.refl _ _) _) _) _
  have RX : rowG #[.int .u8 (x.op : Nat), .int .u8 (x.rd : Nat), .int .u8 (x.rs1 : Nat), .int .u8 (x.rs2 : Nat), .int .i64 x.imm] W1 w.heap.size := by rw [← hW1]; exact rowG_alloc (rowG_alloc (rowG_new _ _ _) _) _
  have RS : rowG #[.int .u64 (p : Nat), .int .u8 1, .int .u64 0, .int .u64 0, .bool false] W1 (w.heap.size + 1) := by rw [← hW1]; exact rowG_alloc (rowG_at _ _ _ _ (by simp)) _
  have RZ : rowG #[.int .u64 0, .int .u8 0, .int .u64 0, .int .u64 0, .bool false] W1 (w.heap.size + 1 + 1) := by rw [← hW1]; exact rowG_at _ _ _ _ (by simp)
  rw [hW1]
  clear hW1
  have hD1 := h.of hB1
  have x2 := RX.1 2 (by simp)
  have x4 := RX.1 4 (by simp)
  have r1 := hD1.rv x.rs1 h2
  refine region_below (by kernel_rfl) (by kernel_rfl) ?_
  repeat (first
    | go_big_quiet_skip
    | (refine BigFrame.wpQuiet_want (by kernel_rfl) fun K hK => ?_
       apply Exists.intro
       refine ⟨fun w' hb' => ?_, ?_⟩
       · have s0 := stay hb' x2
         have s1 := stay hb' x4
         have s2 := stay hb' r1
         go_simp
         first
           | exact rfl
           | exact ⟨rfl, hb'⟩
       go_simp
       refine hK _ ?_
       clear hK K))
  refine wpQuiet_nil ?_
  intro W2 hb2
  have hB2 := below_trans' hB1 (Nat.le_refl _) hb2
  have hD2 := hD1.of hb2
  have RX := rowG_b RX hb2
  have RS := rowG_b RS hb2
  have RZ := rowG_b RZ hb2
  clear x2 x4 r1 hb2 hD1 hB1
  have s2 := RS.1 2 (by simp)
  have f2 := RS.2.1 2
  go_wp2
  obtain ⟨W3, hW3⟩ : ∃ W3, W2.setCell ⟨w.heap.size + 1, 2, none⟩ (.int .u64 (s.at x : Nat)) = W3 := ⟨_, rfl⟩
  have hO3 : Only (fun j => j = w.heap.size + 1) W2 W3 := by rw [← hW3]; exact only_one _ _ _ _
  have hS3 : Only (fun j => j = D.db ∨ D.y.bl j) w W3 := by rw [← hW3]; exact only_new (only_below hB2) (by omega)
  have RS : rowG #[.int .u64 (p : Nat), .int .u8 1, .int .u64 (s.at x : Nat), .int .u64 0, .bool false] W3 (w.heap.size + 1) := by rw [← hW3]; exact sn_set 2 (by omega) _ RS
  rw [hW3]
  clear hW3 s2 f2
  have RX := sn_row hO3 (by omega) RX
  have RZ := sn_row hO3 (by omega) RZ
  have hD3 := hD2.only hO3 (fun j hj e => by have := h.all_lt hj; omega)
  have x0 := RX.1 0 (by simp)
  have e0 := hD3.e0
  have x2 := RX.1 2 (by simp)
  have r1 := hD3.rt x.rs1 h2
  have lx := RX.2.2
  have ls := RS.2.2
  have lz := RZ.2.2
  have f4 := RS.2.1 4
  have f1 := RS.2.1 1
  have u4 := RS.1 4 (by simp)
  have u1 := RS.1 1 (by simp)
  go_still_tail 8, (by kernel_rfl)
  change wpList _ _ _ _ _ W3.drew
  have hO4 : Only (fun j => j = w.heap.size + 1) W3 (((W3.setCell ⟨w.heap.size + 1, 4, none⟩ (.bool (s.rt x.rs1))).setCell ⟨w.heap.size + 1, 1, none⟩ (.int .u8 2)).drew) := ((only_one _ _ _ _).trans (only_one _ _ _ _)).trans (only_below (bd1 (Below.refl _ _)))
  have hS4 : Only (fun j => j = D.db ∨ D.y.bl j) w (((W3.setCell ⟨w.heap.size + 1, 4, none⟩ (.bool (s.rt x.rs1))).setCell ⟨w.heap.size + 1, 1, none⟩ (.int .u8 2)).drew) := (only_new (only_new hS3 (by omega)) (by omega)).trans (only_below (bd1 (Below.refl _ _)))
  have RS4 : rowG #[.int .u64 (p : Nat), .int .u8 2, .int .u64 (s.at x : Nat), .int .u64 0, .bool (s.rt x.rs1)] (((W3.setCell ⟨w.heap.size + 1, 4, none⟩ (.bool (s.rt x.rs1))).setCell ⟨w.heap.size + 1, 1, none⟩ (.int .u8 2)).drew) (w.heap.size + 1) := rowG_b (sn_set 1 (by omega) _ (sn_set 4 (by omega) _ RS)) (bd1 (Below.refl _ _))
  have RX4 := sn_row hO4 (by omega) RX
  have RZ4 := sn_row hO4 (by omega) RZ
  have hD4 := hD3.only hO4 (fun j hj e => by have := h.all_lt hj; omega)
  have hL4 := hLd _ hD4
  have hdl := h.lt
  by_cases hk : k = 0
  · subst hk
    rw [if_pos rfl] at hs'
    subst hs'
    cases t
    · go_wp2_with (first
        | (go_at_call 108; (with_reducible refine hL4.mono ?_); (rintro e w5 ⟨rfl, hb5⟩); have RX5 := rowG_b RX4 hb5; have RS5 := rowG_b RS4 hb5; have RZ5 := rowG_b RZ4 hb5; have hD5 := hD4.of hb5; have hS5 := hS4.trans (only_below hb5); have x1 := RX5.1 1 (by simp); have lx5 := RX5.2.2; have s4 := RS5.1 4 (by simp); have ls5 := RS5.2.2; have hSet := dset_any hD5 x.rd v (s.rt x.rs1) h1 hvl)
        | (go_at_call 24; (with_reducible refine hSet.mono ?_); (rintro e w6 ⟨rfl, hD6, hO6⟩); have RS6 := sn_row hO6 (by omega) RS5; have RZ6 := sn_row hO6 (by omega) RZ5; have hS6 := hS5.trans (hO6.mono fun j hj => .inl hj); have z0 := RZ6.1 0 (by simp); have z1 := RZ6.1 1 (by simp); have z2 := RZ6.1 2 (by simp); have z3 := RZ6.1 3 (by simp); have z4 := RZ6.1 4 (by simp); have g0 := RZ6.2.1 0; have g1 := RZ6.2.1 1; have g2 := RZ6.2.1 2; have g3 := RZ6.2.1 3; have g4 := RZ6.2.1 4; have lz5 := RZ6.2.2; have s0 := RS6.1 0 (by simp); have s1 := RS6.1 1 (by simp); have s2 := RS6.1 2 (by simp); have s3 := RS6.1 3 (by simp); have s4 := RS6.1 4 (by simp); have ls5 := RS6.2.2))
      refine bodyPost_ret (res_se rfl _ _ (w.heap.size + 1 + 1) _ _ _ _ _ _ rfl rfl (sn_five _ _ _ _ _ RZ6)) rfl ⟨rfl, hD6.only (sn_only w6 (w.heap.size + 1 + 1) _ _ _ _ _) (fun j hj e => by have := h.all_lt hj; omega), only_new (only_new (only_new (only_new (only_new hS6 (by omega)) (by omega)) (by omega)) (by omega)) (by omega)⟩
    · go_wp2_with (first
        | (go_at_call 108; (with_reducible refine hL4.mono ?_); (rintro e w5 ⟨rfl, hb5⟩); have RX5 := rowG_b RX4 hb5; have RS5 := rowG_b RS4 hb5; have RZ5 := rowG_b RZ4 hb5; have hD5 := hD4.of hb5; have hS5 := hS4.trans (only_below hb5); have x1 := RX5.1 1 (by simp); have lx5 := RX5.2.2; have hSet := dset_any hD5 x.rd v true h1 hvl)
        | (go_at_call 24; (with_reducible refine hSet.mono ?_); (rintro e w6 ⟨rfl, hD6, hO6⟩); have RS6 := sn_row hO6 (by omega) RS5; have RZ6 := sn_row hO6 (by omega) RZ5; have hS6 := hS5.trans (hO6.mono fun j hj => .inl hj); have z0 := RZ6.1 0 (by simp); have z1 := RZ6.1 1 (by simp); have z2 := RZ6.1 2 (by simp); have z3 := RZ6.1 3 (by simp); have z4 := RZ6.1 4 (by simp); have g0 := RZ6.2.1 0; have g1 := RZ6.2.1 1; have g2 := RZ6.2.1 2; have g3 := RZ6.2.1 3; have g4 := RZ6.2.1 4; have lz5 := RZ6.2.2; have s0 := RS6.1 0 (by simp); have s1 := RS6.1 1 (by simp); have s2 := RS6.1 2 (by simp); have s3 := RS6.1 3 (by simp); have s4 := RS6.1 4 (by simp); have ls5 := RS6.2.2))
      refine bodyPost_ret (res_se rfl _ _ (w.heap.size + 1 + 1) _ _ _ _ _ _ rfl rfl (sn_five _ _ _ _ _ RZ6)) rfl ⟨rfl, hD6.only (sn_only w6 (w.heap.size + 1 + 1) _ _ _ _ _) (fun j hj e => by have := h.all_lt hj; omega), only_new (only_new (only_new (only_new (only_new hS6 (by omega)) (by omega)) (by omega)) (by omega)) (by omega)⟩
  · rw [if_neg hk] at hs'
    subst hs'
    have hkb : (k == 0) = false := by simp [hk]
    go_wp2_with (go_at_call 108; (with_reducible refine hL4.mono ?_); (rintro e w5 ⟨rfl, hb5⟩); have RX5 := rowG_b RX4 hb5; have RS5 := rowG_b RS4 hb5; have RZ5 := rowG_b RZ4 hb5; have hD5 := hD4.of hb5; have hS5 := hS4.trans (only_below hb5); have x1 := RX5.1 1 (by simp); have lx5 := RX5.2.2; have z0 := RZ5.1 0 (by simp); have z1 := RZ5.1 1 (by simp); have z2 := RZ5.1 2 (by simp); have z3 := RZ5.1 3 (by simp); have z4 := RZ5.1 4 (by simp); have g0 := RZ5.2.1 0; have g1 := RZ5.2.1 1; have g2 := RZ5.2.1 2; have g3 := RZ5.2.1 3; have g4 := RZ5.2.1 4; have lz5 := RZ5.2.2; have s0 := RS5.1 0 (by simp); have s1 := RS5.1 1 (by simp); have s2 := RS5.1 2 (by simp); have s3 := RS5.1 3 (by simp); have s4 := RS5.1 4 (by simp); have ls5 := RS5.2.2)
    refine bodyPost_ret (res_se rfl _ _ (w.heap.size + 1 + 1) _ _ _ _ _ _ rfl rfl (sn_five _ _ _ _ _ RZ5)) rfl ⟨rfl, hD5.only (sn_only w5 (w.heap.size + 1 + 1) _ _ _ _ _) (fun j hj e => by have := h.all_lt hj; omega), only_new (only_new (only_new (only_new (only_new hS5 (by omega)) (by omega)) (by omega)) (by omega)) (by omega)⟩
set_option maxRecDepth 100000 in
set_option maxHeartbeats 8000000 in
theorem mem_26 {w : World} {D : Dc} {s : Ms} (h : IsD w D s) (x : In) (p : Nat) (ho : 26 ≤ x.op ∧ x.op ≤ 26) (h3 : x.rs2 < 32) (h2 : x.rs1 < 32) :
    Calls Tryz.prog 79 #[.pointer (some ⟨D.db, 0, none⟩), .agg #[.int .u8 (x.op : Nat), .int .u8 (x.rd : Nat), .int .u8 (x.rs1 : Nat), .int .u8 (x.rs2 : Nat), .int .i64 x.imm], .agg #[.int .u64 (p : Nat), .int .u8 1, .int .u64 0, .int .u64 0, .bool false]] w (MmP w D (s.put (stO D.y.l (s.at x) 1) 1 (s.rv x.rs2) (s.rt x.rs1 || s.rt x.rs2)) [.int .u64 (p : Nat), .int .u8 3, .int .u64 (s.at x : Nat), .int .u64 0, .bool (s.rt x.rs1)] (stE D.y.l (s.at x) 1)) := by
  have n24 : ¬ (x.op : Int) = 24 := by omega
  have p24 : ((x.op : Int) == 24) = false := by simp; omega
  have n25 : ¬ (x.op : Int) = 25 := by omega
  have p25 : ((x.op : Int) == 25) = false := by simp; omega
  have p26 : ((x.op : Int) == 26) = true := by simp; omega
  have d26 : decide ((x.op : Int) = 26) = true := by simp; omega
  have i1 : (0 : Int) ≤ (x.rs1 : Int) := by omega
  have i2 : (x.rs1 : Int) < 32 := by omega
  have hu := uw_wrap x.imm
  have hsm := sm_wrap (s.rv x.rs1) (uw x.imm)
  have hat : sm (s.rv x.rs1) (uw x.imm) = s.at x := rfl
  rw [hat] at hsm
  clear hat
  have hal : s.at x < 18446744073709551616 := sm_lt _ _
  have hvl := h.ok.v x.rs2
  have i3 : (0 : Int) ≤ (x.rs2 : Int) := by omega
  have i4 : (x.rs2 : Int) < 32 := by omega
  obtain ⟨tz, htz⟩ : ∃ z, (s.rt x.rs1 || s.rt x.rs2) = z := ⟨_, rfl⟩
  rw [htz]
  go_enter Tryz.func79, Tryz.ntmps79
  go_wp2
  obtain ⟨W1, hW1⟩ : ∃ W1, ((w.alloc (.cells #[.int .u8 (x.op : Nat), .int .u8 (x.rd : Nat), .int .u8 (x.rs1 : Nat), .int .u8 (x.rs2 : Nat), .int .i64 x.imm] 48)).alloc (.cells #[.int .u64 (p : Nat), .int .u8 1, .int .u64 0, .int .u64 0, .bool false] 82)).alloc (.cells #[.int .u64 0, .int .u8 0, .int .u64 0, .int .u64 0, .bool false] 82) = W1 := ⟨_, rfl⟩
  have hB1 : Below w.heap.size w W1 := by rw [← hW1]; exact aBelow (aBelow (aBelow (Below.refl _ _) _) _) _
  have RX : rowG #[.int .u8 (x.op : Nat), .int .u8 (x.rd : Nat), .int .u8 (x.rs1 : Nat), .int .u8 (x.rs2 : Nat), .int .i64 x.imm] W1 w.heap.size := by rw [← hW1]; exact rowG_alloc (rowG_alloc (rowG_new _ _ _) _) _
  have RS : rowG #[.int .u64 (p : Nat), .int .u8 1, .int .u64 0, .int .u64 0, .bool false] W1 (w.heap.size + 1) := by rw [← hW1]; exact rowG_alloc (rowG_at _ _ _ _ (by simp)) _
  have RZ : rowG #[.int .u64 0, .int .u8 0, .int .u64 0, .int .u64 0, .bool false] W1 (w.heap.size + 1 + 1) := by rw [← hW1]; exact rowG_at _ _ _ _ (by simp)
  rw [hW1]
  clear hW1
  have hD1 := h.of hB1
  have x2 := RX.1 2 (by simp)
  have x4 := RX.1 4 (by simp)
  have r1 := hD1.rv x.rs1 h2
  refine region_below (by kernel_rfl) (by kernel_rfl) ?_
  repeat (first
    | go_big_quiet_skip
    | (refine BigFrame.wpQuiet_want (by kernel_rfl) fun K hK => ?_
       apply Exists.intro
       refine ⟨fun w' hb' => ?_, ?_⟩
       · have s0 := stay hb' x2
         have s1 := stay hb' x4
         have s2 := stay hb' r1
         go_simp
         first
           | exact rfl
           | exact ⟨rfl, hb'⟩
       go_simp
       refine hK _ ?_
       clear hK K))
  refine wpQuiet_nil ?_
  intro W2 hb2
  have hB2 := below_trans' hB1 (Nat.le_refl _) hb2
  have hD2 := hD1.of hb2
  have RX := rowG_b RX hb2
  have RS := rowG_b RS hb2
  have RZ := rowG_b RZ hb2
  clear x2 x4 r1 hb2 hD1 hB1
  have s2 := RS.1 2 (by simp)
  have f2 := RS.2.1 2
  go_wp2
  obtain ⟨W3, hW3⟩ : ∃ W3, W2.setCell ⟨w.heap.size + 1, 2, none⟩ (.int .u64 (s.at x : Nat)) = W3 := ⟨_, rfl⟩
  have hO3 : Only (fun j => j = w.heap.size + 1) W2 W3 := by rw [← hW3]; exact only_one _ _ _ _
  have hS3 : Only (fun j => j = D.db ∨ D.y.bl j) w W3 := by rw [← hW3]; exact only_new (only_below hB2) (by omega)
  have RS : rowG #[.int .u64 (p : Nat), .int .u8 1, .int .u64 (s.at x : Nat), .int .u64 0, .bool false] W3 (w.heap.size + 1) := by rw [← hW3]; exact sn_set 2 (by omega) _ RS
  rw [hW3]
  clear hW3 s2 f2
  have RX := sn_row hO3 (by omega) RX
  have RZ := sn_row hO3 (by omega) RZ
  have hD3 := hD2.only hO3 (fun j hj e => by have := h.all_lt hj; omega)
  have x0 := RX.1 0 (by simp)
  have e0 := hD3.e0
  have x2 := RX.1 2 (by simp)
  have r1 := hD3.rt x.rs1 h2
  have lx := RX.2.2
  have ls := RS.2.2
  have lz := RZ.2.2
  have f4 := RS.2.1 4
  have f1 := RS.2.1 1
  have u4 := RS.1 4 (by simp)
  have u1 := RS.1 1 (by simp)
  go_still_tail 8, (by kernel_rfl)
  change wpList _ _ _ _ _ W3.drew
  go_wp2
  obtain ⟨W4, hW4⟩ : ∃ W4, ((W3.setCell ⟨w.heap.size + 1, 4, none⟩ (.bool (s.rt x.rs1))).setCell ⟨w.heap.size + 1, 1, none⟩ (.int .u8 3)).drew = W4 := ⟨_, rfl⟩
  have hO4 : Only (fun j => j = w.heap.size + 1) W3 W4 := by rw [← hW4]; exact ((only_one _ _ _ _).trans (only_one _ _ _ _)).trans (only_below (bd1 (Below.refl _ _)))
  have hS4 : Only (fun j => j = D.db ∨ D.y.bl j) w W4 := by rw [← hW4]; exact (only_new (only_new hS3 (by omega)) (by omega)).trans (only_below (bd1 (Below.refl _ _)))
  have RS4 : rowG #[.int .u64 (p : Nat), .int .u8 3, .int .u64 (s.at x : Nat), .int .u64 0, .bool (s.rt x.rs1)] W4 (w.heap.size + 1) := by rw [← hW4]; exact rowG_b (sn_set 1 (by omega) _ (sn_set 4 (by omega) _ RS)) (bd1 (Below.refl _ _))
  rw [hW4]
  clear hW4
  have RX4 := sn_row hO4 (by omega) RX
  have RZ4 := sn_row hO4 (by omega) RZ
  have hD4 := hD3.only hO4 (fun j hj e => by have := h.all_lt hj; omega)
  have hdl := h.lt
  clear x0 x2 e0 r1 f4 f1 u4 u1
  have e0 := hD4.e0
  have x3 := RX4.1 3 (by simp)
  have m0 := RS4.1 0 (by simp)
  have m1 := RS4.1 1 (by simp)
  have m2 := RS4.1 2 (by simp)
  have m3 := RS4.1 3 (by simp)
  have m4 := RS4.1 4 (by simp)
  have r2 := hD4.rv x.rs2 h3
  have t2 := hD4.rt x.rs2 h3
  cases hta : s.rt x.rs2
  · rw [hta] at t2
    rw [hta, Bool.or_false] at htz
    subst htz
    obtain ⟨F, hFd⟩ : ∃ F : World → Prop, F = fun W' : World => (W'.cell? ⟨D.db, 0, none⟩ = some (.pointer (some ⟨D.y.rb, 0, none⟩)) ∧ W'.cell? ⟨w.heap.size, 3, none⟩ = some (.int .u8 (x.rs2 : Nat)) ∧ W'.cell? ⟨w.heap.size + 1, 0, none⟩ = some (.int .u64 (p : Nat)) ∧ W'.cell? ⟨w.heap.size + 1, 1, none⟩ = some (.int .u8 3) ∧ W'.cell? ⟨w.heap.size + 1, 2, none⟩ = some (.int .u64 (s.at x : Nat)) ∧ W'.cell? ⟨w.heap.size + 1, 3, none⟩ = some (.int .u64 0) ∧ W'.cell? ⟨w.heap.size + 1, 4, none⟩ = some (.bool (s.rt x.rs1)) ∧ W'.cell? ⟨D.db, 2 + x.rs2, none⟩ = some (.int .u64 (s.rv x.rs2 : Nat)) ∧ W'.cell? ⟨D.db, 34 + x.rs2, none⟩ = some (.bool false)) := ⟨_, rfl⟩
    have hFi : ∀ W', F W' ↔ (W'.cell? ⟨D.db, 0, none⟩ = some (.pointer (some ⟨D.y.rb, 0, none⟩)) ∧ W'.cell? ⟨w.heap.size, 3, none⟩ = some (.int .u8 (x.rs2 : Nat)) ∧ W'.cell? ⟨w.heap.size + 1, 0, none⟩ = some (.int .u64 (p : Nat)) ∧ W'.cell? ⟨w.heap.size + 1, 1, none⟩ = some (.int .u8 3) ∧ W'.cell? ⟨w.heap.size + 1, 2, none⟩ = some (.int .u64 (s.at x : Nat)) ∧ W'.cell? ⟨w.heap.size + 1, 3, none⟩ = some (.int .u64 0) ∧ W'.cell? ⟨w.heap.size + 1, 4, none⟩ = some (.bool (s.rt x.rs1)) ∧ W'.cell? ⟨D.db, 2 + x.rs2, none⟩ = some (.int .u64 (s.rv x.rs2 : Nat)) ∧ W'.cell? ⟨D.db, 34 + x.rs2, none⟩ = some (.bool false)) := fun W' => by rw [hFd]
    clear hFd
    have hF0 : F W4.drew := (hFi _).2 ⟨e0, x3, m0, m1, m2, m3, m4, r2, t2⟩
    have hFo : ∀ (S : Nat → Prop) Wa Wb, F Wa → Only S Wa Wb → ¬ S D.db → ¬ S w.heap.size → ¬ S (w.heap.size + 1) → F Wb := fun S Wa Wb hf ho n1 n2 n3 => by
      obtain ⟨a0, a1, a2, a3, a4, a5, a6, a7, a8⟩ := (hFi Wa).1 hf
      exact (hFi Wb).2 ⟨ho.cell (a := ⟨D.db, _, none⟩) n1 a0, ho.cell (a := ⟨w.heap.size, _, none⟩) n2 a1, ho.cell (a := ⟨w.heap.size + 1, _, none⟩) n3 a2, ho.cell (a := ⟨w.heap.size + 1, _, none⟩) n3 a3, ho.cell (a := ⟨w.heap.size + 1, _, none⟩) n3 a4, ho.cell (a := ⟨w.heap.size + 1, _, none⟩) n3 a5, ho.cell (a := ⟨w.heap.size + 1, _, none⟩) n3 a6, ho.cell (a := ⟨D.db, _, none⟩) n1 a7, ho.cell (a := ⟨D.db, _, none⟩) n1 a8⟩
    have hD5 := hD4.of (bd1 (Below.refl _ _))
    have RZ5 := rowG_b RZ4 (bd1 (Below.refl _ _))
    have hS5 := hS4.trans (only_below (bd1 (Below.refl _ _)))
    have hSt := rstore_any (s.at x) 1 (s.rv x.rs2) (s.rt x.rs1) hal hvl W4.drew hD5.mem
    have nb : ∀ j, w.heap.size ≤ j → ¬ D.y.bl j := fun j hj hh => by have := h.all_lt (.inl (.inr (.inl hh))); omega
    clear e0 x3 m0 m1 m2 m3 m4 r2 t2
    refine region_KN F (by kernel_rfl) ?_
    refine wpAnyK_take (i := 0) rfl (by kernel_rfl) (by kernel_rfl) (by kernel_rfl) (onlyN_panic _) hF0 (fun K hK => ?_)
    apply Exists.intro
    refine ⟨Or.inl ⟨by kernel_rfl, fun w' hf => ?_⟩, ?_⟩
    · obtain ⟨b0, b1, b2, b3, b4, b5, b6, b7, b8⟩ := (hFi _).1 hf
      go_simp
      try exact rfl
    go_simp
    refine hK _ ?_
    clear hK K
    refine wpAnyK_take (i := 1) rfl (by kernel_rfl) (by kernel_rfl) (by kernel_rfl) (onlyN_panic _) hF0 (fun K hK => ?_)
    apply Exists.intro
    refine ⟨Or.inl ⟨by kernel_rfl, fun w' hf => ?_⟩, ?_⟩
    · obtain ⟨b0, b1, b2, b3, b4, b5, b6, b7, b8⟩ := (hFi _).1 hf
      go_simp
      try exact rfl
    go_simp
    refine hK _ ?_
    clear hK K
    refine wpAnyK_take (i := 2) rfl (by kernel_rfl) (by kernel_rfl) (by kernel_rfl) (onlyN_panic _) hF0 (fun K hK => ?_)
    apply Exists.intro
    refine ⟨Or.inl ⟨by kernel_rfl, fun w' hf => ?_⟩, ?_⟩
    · obtain ⟨b0, b1, b2, b3, b4, b5, b6, b7, b8⟩ := (hFi _).1 hf
      go_simp
      try exact rfl
    go_simp
    refine hK _ ?_
    clear hK K
    refine wpAnyK_take (i := 3) rfl (by kernel_rfl) (by kernel_rfl) (by kernel_rfl) (onlyN_panic _) hF0 (fun K hK => ?_)
    apply Exists.intro
    refine ⟨Or.inl ⟨by kernel_rfl, fun w' hf => ?_⟩, ?_⟩
    · obtain ⟨b0, b1, b2, b3, b4, b5, b6, b7, b8⟩ := (hFi _).1 hf
      go_simp
      try exact rfl
    go_simp
    refine hK _ ?_
    clear hK K
    refine wpAnyK_take (i := 4) rfl (by kernel_rfl) (by kernel_rfl) (by kernel_rfl) (onlyN_panic _) hF0 (fun K hK => ?_)
    apply Exists.intro
    refine ⟨Or.inl ⟨by kernel_rfl, fun w' hf => ?_⟩, ?_⟩
    · obtain ⟨b0, b1, b2, b3, b4, b5, b6, b7, b8⟩ := (hFi _).1 hf
      go_simp
      try exact rfl
    go_simp
    refine hK _ ?_
    clear hK K
    refine wpAnyK_take (i := 5) rfl (by kernel_rfl) (by kernel_rfl) (by kernel_rfl) (onlyN_panic _) hF0 (fun K hK => ?_)
    apply Exists.intro
    refine ⟨Or.inl ⟨by kernel_rfl, fun w' hf => ?_⟩, ?_⟩
    · obtain ⟨b0, b1, b2, b3, b4, b5, b6, b7, b8⟩ := (hFi _).1 hf
      go_simp
      try exact rfl
    go_simp
    refine hK _ ?_
    clear hK K
    refine wpAnyK_take (i := 6) rfl (by kernel_rfl) (by kernel_rfl) (by kernel_rfl) (onlyN_panic _) hF0 (fun K hK => ?_)
    apply Exists.intro
    refine ⟨Or.inl ⟨by kernel_rfl, fun w' hf => ?_⟩, ?_⟩
    · obtain ⟨b0, b1, b2, b3, b4, b5, b6, b7, b8⟩ := (hFi _).1 hf
      go_simp
      try exact rfl
    go_simp
    refine hK _ ?_
    clear hK K
    refine wpAnyK_take (i := 7) rfl (by kernel_rfl) (by kernel_rfl) (by kernel_rfl) (onlyN_panic _) hF0 (fun K hK => ?_)
    apply Exists.intro
    refine ⟨Or.inl ⟨by kernel_rfl, fun w' hf => ?_⟩, ?_⟩
    · obtain ⟨b0, b1, b2, b3, b4, b5, b6, b7, b8⟩ := (hFi _).1 hf
      go_simp
      try exact rfl
    go_simp
    refine hK _ ?_
    clear hK K
    refine wpAnyK_take (i := 8) rfl (by kernel_rfl) (by kernel_rfl) (by kernel_rfl) (onlyN_panic _) hF0 (fun K hK => ?_)
    apply Exists.intro
    refine ⟨Or.inl ⟨by kernel_rfl, fun w' hf => ?_⟩, ?_⟩
    · obtain ⟨b0, b1, b2, b3, b4, b5, b6, b7, b8⟩ := (hFi _).1 hf
      go_simp
      try exact rfl
    go_simp
    refine hK _ ?_
    clear hK K
    refine wpAnyK_take (i := 9) rfl (by kernel_rfl) (by kernel_rfl) (by kernel_rfl) (onlyN_panic _) hF0 (fun K hK => ?_)
    apply Exists.intro
    refine ⟨Or.inl ⟨by kernel_rfl, fun w' hf => ?_⟩, ?_⟩
    · obtain ⟨b0, b1, b2, b3, b4, b5, b6, b7, b8⟩ := (hFi _).1 hf
      go_simp
      try exact rfl
    go_simp
    refine hK _ ?_
    clear hK K
    refine wpAnyK_take (i := 10) rfl (by kernel_rfl) (by kernel_rfl) (by kernel_rfl) (onlyN_panic _) hF0 (fun K hK => ?_)
    apply Exists.intro
    refine ⟨Or.inl ⟨by kernel_rfl, fun w' hf => ?_⟩, ?_⟩
    · obtain ⟨b0, b1, b2, b3, b4, b5, b6, b7, b8⟩ := (hFi _).1 hf
      go_simp
      try exact rfl
    go_simp
    refine hK _ ?_
    clear hK K
    refine wpAnyK_take (i := 11) rfl (by kernel_rfl) (by kernel_rfl) (by kernel_rfl) (onlyN_panic _) hF0 (fun K hK => ?_)
    apply Exists.intro
    refine ⟨Or.inl ⟨by kernel_rfl, fun w' hf => ?_⟩, ?_⟩
    · obtain ⟨b0, b1, b2, b3, b4, b5, b6, b7, b8⟩ := (hFi _).1 hf
      go_simp
      try exact rfl
    go_simp
    refine hK _ ?_
    clear hK K
    refine wpAnyK_take (i := 12) rfl (by kernel_rfl) (by kernel_rfl) (by kernel_rfl) (onlyN_panic _) hF0 (fun K hK => ?_)
    apply Exists.intro
    refine ⟨Or.inl ⟨by kernel_rfl, fun w' hf => ?_⟩, ?_⟩
    · obtain ⟨b0, b1, b2, b3, b4, b5, b6, b7, b8⟩ := (hFi _).1 hf
      go_simp
      try exact rfl
    go_simp
    refine hK _ ?_
    clear hK K
    refine wpAnyK_take (i := 13) rfl (by kernel_rfl) (by kernel_rfl) (by kernel_rfl) (onlyN_panic _) hF0 (fun K hK => ?_)
    apply Exists.intro
    refine ⟨Or.inl ⟨by kernel_rfl, fun w' hf => ?_⟩, ?_⟩
    · obtain ⟨b0, b1, b2, b3, b4, b5, b6, b7, b8⟩ := (hFi _).1 hf
      go_simp
      try exact rfl
    go_simp
    refine hK _ ?_
    clear hK K
    refine wpAnyK_take (i := 14) rfl (by kernel_rfl) (by kernel_rfl) (by kernel_rfl) (onlyN_panic _) hF0 (fun K hK => ?_)
    apply Exists.intro
    refine ⟨Or.inl ⟨by kernel_rfl, fun w' hf => ?_⟩, ?_⟩
    · obtain ⟨b0, b1, b2, b3, b4, b5, b6, b7, b8⟩ := (hFi _).1 hf
      go_simp
      try exact rfl
    go_simp
    refine hK _ ?_
    clear hK K
    refine wpAnyK_take (i := 15) rfl (by kernel_rfl) (by kernel_rfl) (by kernel_rfl) (onlyN_panic _) hF0 (fun K hK => ?_)
    apply Exists.intro
    refine ⟨Or.inl ⟨by kernel_rfl, fun w' hf => ?_⟩, ?_⟩
    · obtain ⟨b0, b1, b2, b3, b4, b5, b6, b7, b8⟩ := (hFi _).1 hf
      go_simp
      try exact rfl
    go_simp
    refine hK _ ?_
    clear hK K
    refine wpAnyK_take (i := 16) rfl (by kernel_rfl) (by kernel_rfl) (by kernel_rfl) (onlyN_panic _) hF0 (fun K hK => ?_)
    apply Exists.intro
    refine ⟨Or.inl ⟨by kernel_rfl, fun w' hf => ?_⟩, ?_⟩
    · obtain ⟨b0, b1, b2, b3, b4, b5, b6, b7, b8⟩ := (hFi _).1 hf
      go_simp
      try exact rfl
    go_simp
    refine hK _ ?_
    clear hK K
    refine wpAnyK_take (i := 17) rfl (by kernel_rfl) (by kernel_rfl) (by kernel_rfl) (onlyN_panic _) hF0 (fun K hK => ?_)
    apply Exists.intro
    refine ⟨Or.inl ⟨by kernel_rfl, fun w' hf => ?_⟩, ?_⟩
    · obtain ⟨b0, b1, b2, b3, b4, b5, b6, b7, b8⟩ := (hFi _).1 hf
      go_simp
      try exact rfl
    go_simp
    refine hK _ ?_
    clear hK K
    refine wpAnyK_take (i := 18) rfl (by kernel_rfl) (by kernel_rfl) (by kernel_rfl) (onlyN_panic _) hF0 (fun K hK => ?_)
    apply Exists.intro
    refine ⟨Or.inl ⟨by kernel_rfl, fun w' hf => ?_⟩, ?_⟩
    · obtain ⟨b0, b1, b2, b3, b4, b5, b6, b7, b8⟩ := (hFi _).1 hf
      go_simp
      try exact rfl
    go_simp
    refine hK _ ?_
    clear hK K
    refine wpAnyK_take (i := 19) rfl (by kernel_rfl) (by kernel_rfl) (by kernel_rfl) (onlyN_panic _) hF0 (fun K hK => ?_)
    apply Exists.intro
    refine ⟨Or.inl ⟨by kernel_rfl, fun w' hf => ?_⟩, ?_⟩
    · obtain ⟨b0, b1, b2, b3, b4, b5, b6, b7, b8⟩ := (hFi _).1 hf
      go_simp
      try exact rfl
    go_simp
    refine hK _ ?_
    clear hK K
    refine wpAnyK_take (i := 20) rfl (by kernel_rfl) (by kernel_rfl) (by kernel_rfl) (onlyN_panic _) hF0 (fun K hK => ?_)
    apply Exists.intro
    refine ⟨Or.inl ⟨by kernel_rfl, fun w' hf => ?_⟩, ?_⟩
    · obtain ⟨b0, b1, b2, b3, b4, b5, b6, b7, b8⟩ := (hFi _).1 hf
      go_simp
      try exact rfl
    go_simp
    refine hK _ ?_
    clear hK K
    refine wpAnyK_take (i := 21) rfl (by kernel_rfl) (by kernel_rfl) (by kernel_rfl) (onlyN_panic _) hF0 (fun K hK => ?_)
    apply Exists.intro
    refine ⟨Or.inl ⟨by kernel_rfl, fun w' hf => ?_⟩, ?_⟩
    · obtain ⟨b0, b1, b2, b3, b4, b5, b6, b7, b8⟩ := (hFi _).1 hf
      go_simp
      try exact rfl
    go_simp
    refine hK _ ?_
    clear hK K
    refine wpAnyK_take (i := 22) rfl (by kernel_rfl) (by kernel_rfl) (by kernel_rfl) (onlyN_panic _) hF0 (fun K hK => ?_)
    apply Exists.intro
    refine ⟨Or.inl ⟨by kernel_rfl, fun w' hf => ?_⟩, ?_⟩
    · obtain ⟨b0, b1, b2, b3, b4, b5, b6, b7, b8⟩ := (hFi _).1 hf
      go_simp
      try exact rfl
    go_simp
    refine hK _ ?_
    clear hK K
    refine wpAnyK_take (i := 23) rfl (by kernel_rfl) (by kernel_rfl) (by kernel_rfl) (onlyN_panic _) hF0 (fun K hK => ?_)
    apply Exists.intro
    refine ⟨Or.inl ⟨by kernel_rfl, fun w' hf => ?_⟩, ?_⟩
    · obtain ⟨b0, b1, b2, b3, b4, b5, b6, b7, b8⟩ := (hFi _).1 hf
      go_simp
      try exact rfl
    go_simp
    refine hK _ ?_
    clear hK K
    refine wpAnyK_take (i := 24) rfl (by kernel_rfl) (by kernel_rfl) (by kernel_rfl) (onlyN_panic _) hF0 (fun K hK => ?_)
    apply Exists.intro
    refine ⟨Or.inl ⟨by kernel_rfl, fun w' hf => ?_⟩, ?_⟩
    · obtain ⟨b0, b1, b2, b3, b4, b5, b6, b7, b8⟩ := (hFi _).1 hf
      go_simp
      try exact rfl
    go_simp
    refine hK _ ?_
    clear hK K
    refine wpAnyK_one (k := 25) (by kernel_rfl) ?_
    refine wpOp_step rfl (fun K hK => ?_)
    go_simp
    go_at_call 109
    with_reducible refine hSt.mono ?_
    rintro e w7 ⟨rfl, hW7⟩
    have hF7 := hFo _ _ _ hF0 hW7.2 h.n0.2 (nb _ (Nat.le_refl _)) (nb _ (by omega))
    have RZ7 := sn_row hW7.2 (nb _ (by omega)) RZ5
    have z0 := RZ7.1 0 (by simp)
    have z1 := RZ7.1 1 (by simp)
    have z2 := RZ7.1 2 (by simp)
    have z3 := RZ7.1 3 (by simp)
    have z4 := RZ7.1 4 (by simp)
    have g0 := RZ7.2.1 0
    have g1 := RZ7.2.1 1
    have g2 := RZ7.2.1 2
    have g3 := RZ7.2.1 3
    have g4 := RZ7.2.1 4
    have lz7 := RZ7.2.2
    refine hK _ _ ⟨hF7, ?_⟩
    clear hK K
    refine wpAnyK_one (k := 26) (by kernel_rfl) ?_
    refine wpOp_step rfl (fun K hK => ?_)
    go_simp
    have hF8 := fun c0 c1 c2 c3 c4 => hFo _ _ _ hF7 (sn_only w7 (w.heap.size + 1 + 1) c0 c1 c2 c3 c4) (by omega) (by omega) (by omega)
    refine hK _ _ ⟨hF8 _ _ _ _ _, ?_⟩
    clear hK K
    refine wpAnyK_one (k := 27) (by kernel_rfl) ?_
    refine wpOp_step rfl (fun K hK => ?_)
    go_simp
    refine hK _ _ ⟨hF8 _ _ _ _ _, ?_⟩
    clear hK K
    refine wpAnyK_done (by kernel_rfl) ⟨rfl, ?_⟩
    have hD7 := hD5.wrt hW7
    have hS7 := hS5.trans (hW7.2.mono fun j hj => .inr hj)
    go_wp2
    refine bodyPost_ret (res_se rfl _ _ (w.heap.size + 1 + 1) _ _ _ _ _ _ rfl rfl (sn_five _ _ _ _ _ RZ7)) rfl ⟨rfl, hD7.only (sn_only w7 (w.heap.size + 1 + 1) _ _ _ _ _) (fun j hj e => by have := h.all_lt hj; omega), only_new (only_new (only_new (only_new (only_new hS7 (by omega)) (by omega)) (by omega)) (by omega)) (by omega)⟩
  · rw [hta] at t2
    rw [hta, Bool.or_true] at htz
    subst htz
    obtain ⟨F, hFd⟩ : ∃ F : World → Prop, F = fun W' : World => (W'.cell? ⟨D.db, 0, none⟩ = some (.pointer (some ⟨D.y.rb, 0, none⟩)) ∧ W'.cell? ⟨w.heap.size, 3, none⟩ = some (.int .u8 (x.rs2 : Nat)) ∧ W'.cell? ⟨w.heap.size + 1, 0, none⟩ = some (.int .u64 (p : Nat)) ∧ W'.cell? ⟨w.heap.size + 1, 1, none⟩ = some (.int .u8 3) ∧ W'.cell? ⟨w.heap.size + 1, 2, none⟩ = some (.int .u64 (s.at x : Nat)) ∧ W'.cell? ⟨w.heap.size + 1, 3, none⟩ = some (.int .u64 0) ∧ W'.cell? ⟨w.heap.size + 1, 4, none⟩ = some (.bool (s.rt x.rs1)) ∧ W'.cell? ⟨D.db, 2 + x.rs2, none⟩ = some (.int .u64 (s.rv x.rs2 : Nat)) ∧ W'.cell? ⟨D.db, 34 + x.rs2, none⟩ = some (.bool true)) := ⟨_, rfl⟩
    have hFi : ∀ W', F W' ↔ (W'.cell? ⟨D.db, 0, none⟩ = some (.pointer (some ⟨D.y.rb, 0, none⟩)) ∧ W'.cell? ⟨w.heap.size, 3, none⟩ = some (.int .u8 (x.rs2 : Nat)) ∧ W'.cell? ⟨w.heap.size + 1, 0, none⟩ = some (.int .u64 (p : Nat)) ∧ W'.cell? ⟨w.heap.size + 1, 1, none⟩ = some (.int .u8 3) ∧ W'.cell? ⟨w.heap.size + 1, 2, none⟩ = some (.int .u64 (s.at x : Nat)) ∧ W'.cell? ⟨w.heap.size + 1, 3, none⟩ = some (.int .u64 0) ∧ W'.cell? ⟨w.heap.size + 1, 4, none⟩ = some (.bool (s.rt x.rs1)) ∧ W'.cell? ⟨D.db, 2 + x.rs2, none⟩ = some (.int .u64 (s.rv x.rs2 : Nat)) ∧ W'.cell? ⟨D.db, 34 + x.rs2, none⟩ = some (.bool true)) := fun W' => by rw [hFd]
    clear hFd
    have hF0 : F W4.drew := (hFi _).2 ⟨e0, x3, m0, m1, m2, m3, m4, r2, t2⟩
    have hFo : ∀ (S : Nat → Prop) Wa Wb, F Wa → Only S Wa Wb → ¬ S D.db → ¬ S w.heap.size → ¬ S (w.heap.size + 1) → F Wb := fun S Wa Wb hf ho n1 n2 n3 => by
      obtain ⟨a0, a1, a2, a3, a4, a5, a6, a7, a8⟩ := (hFi Wa).1 hf
      exact (hFi Wb).2 ⟨ho.cell (a := ⟨D.db, _, none⟩) n1 a0, ho.cell (a := ⟨w.heap.size, _, none⟩) n2 a1, ho.cell (a := ⟨w.heap.size + 1, _, none⟩) n3 a2, ho.cell (a := ⟨w.heap.size + 1, _, none⟩) n3 a3, ho.cell (a := ⟨w.heap.size + 1, _, none⟩) n3 a4, ho.cell (a := ⟨w.heap.size + 1, _, none⟩) n3 a5, ho.cell (a := ⟨w.heap.size + 1, _, none⟩) n3 a6, ho.cell (a := ⟨D.db, _, none⟩) n1 a7, ho.cell (a := ⟨D.db, _, none⟩) n1 a8⟩
    have hD5 := hD4.of (bd1 (Below.refl _ _))
    have RZ5 := rowG_b RZ4 (bd1 (Below.refl _ _))
    have hS5 := hS4.trans (only_below (bd1 (Below.refl _ _)))
    have hSt := rstore_any (s.at x) 1 (s.rv x.rs2) true hal hvl W4.drew hD5.mem
    have nb : ∀ j, w.heap.size ≤ j → ¬ D.y.bl j := fun j hj hh => by have := h.all_lt (.inl (.inr (.inl hh))); omega
    clear e0 x3 m0 m1 m2 m3 m4 r2 t2
    refine region_KN F (by kernel_rfl) ?_
    refine wpAnyK_take (i := 0) rfl (by kernel_rfl) (by kernel_rfl) (by kernel_rfl) (onlyN_panic _) hF0 (fun K hK => ?_)
    apply Exists.intro
    refine ⟨Or.inl ⟨by kernel_rfl, fun w' hf => ?_⟩, ?_⟩
    · obtain ⟨b0, b1, b2, b3, b4, b5, b6, b7, b8⟩ := (hFi _).1 hf
      go_simp
      try exact rfl
    go_simp
    refine hK _ ?_
    clear hK K
    refine wpAnyK_take (i := 1) rfl (by kernel_rfl) (by kernel_rfl) (by kernel_rfl) (onlyN_panic _) hF0 (fun K hK => ?_)
    apply Exists.intro
    refine ⟨Or.inl ⟨by kernel_rfl, fun w' hf => ?_⟩, ?_⟩
    · obtain ⟨b0, b1, b2, b3, b4, b5, b6, b7, b8⟩ := (hFi _).1 hf
      go_simp
      try exact rfl
    go_simp
    refine hK _ ?_
    clear hK K
    refine wpAnyK_take (i := 2) rfl (by kernel_rfl) (by kernel_rfl) (by kernel_rfl) (onlyN_panic _) hF0 (fun K hK => ?_)
    apply Exists.intro
    refine ⟨Or.inl ⟨by kernel_rfl, fun w' hf => ?_⟩, ?_⟩
    · obtain ⟨b0, b1, b2, b3, b4, b5, b6, b7, b8⟩ := (hFi _).1 hf
      go_simp
      try exact rfl
    go_simp
    refine hK _ ?_
    clear hK K
    refine wpAnyK_take (i := 3) rfl (by kernel_rfl) (by kernel_rfl) (by kernel_rfl) (onlyN_panic _) hF0 (fun K hK => ?_)
    apply Exists.intro
    refine ⟨Or.inl ⟨by kernel_rfl, fun w' hf => ?_⟩, ?_⟩
    · obtain ⟨b0, b1, b2, b3, b4, b5, b6, b7, b8⟩ := (hFi _).1 hf
      go_simp
      try exact rfl
    go_simp
    refine hK _ ?_
    clear hK K
    refine wpAnyK_take (i := 4) rfl (by kernel_rfl) (by kernel_rfl) (by kernel_rfl) (onlyN_panic _) hF0 (fun K hK => ?_)
    apply Exists.intro
    refine ⟨Or.inl ⟨by kernel_rfl, fun w' hf => ?_⟩, ?_⟩
    · obtain ⟨b0, b1, b2, b3, b4, b5, b6, b7, b8⟩ := (hFi _).1 hf
      go_simp
      try exact rfl
    go_simp
    refine hK _ ?_
    clear hK K
    refine wpAnyK_take (i := 5) rfl (by kernel_rfl) (by kernel_rfl) (by kernel_rfl) (onlyN_panic _) hF0 (fun K hK => ?_)
    apply Exists.intro
    refine ⟨Or.inl ⟨by kernel_rfl, fun w' hf => ?_⟩, ?_⟩
    · obtain ⟨b0, b1, b2, b3, b4, b5, b6, b7, b8⟩ := (hFi _).1 hf
      go_simp
      try exact rfl
    go_simp
    refine hK _ ?_
    clear hK K
    refine wpAnyK_take (i := 6) rfl (by kernel_rfl) (by kernel_rfl) (by kernel_rfl) (onlyN_panic _) hF0 (fun K hK => ?_)
    apply Exists.intro
    refine ⟨Or.inl ⟨by kernel_rfl, fun w' hf => ?_⟩, ?_⟩
    · obtain ⟨b0, b1, b2, b3, b4, b5, b6, b7, b8⟩ := (hFi _).1 hf
      go_simp
      try exact rfl
    go_simp
    refine hK _ ?_
    clear hK K
    refine wpAnyK_take (i := 7) rfl (by kernel_rfl) (by kernel_rfl) (by kernel_rfl) (onlyN_panic _) hF0 (fun K hK => ?_)
    apply Exists.intro
    refine ⟨Or.inl ⟨by kernel_rfl, fun w' hf => ?_⟩, ?_⟩
    · obtain ⟨b0, b1, b2, b3, b4, b5, b6, b7, b8⟩ := (hFi _).1 hf
      go_simp
      try exact rfl
    go_simp
    refine hK _ ?_
    clear hK K
    refine wpAnyK_take (i := 8) rfl (by kernel_rfl) (by kernel_rfl) (by kernel_rfl) (onlyN_panic _) hF0 (fun K hK => ?_)
    apply Exists.intro
    refine ⟨Or.inl ⟨by kernel_rfl, fun w' hf => ?_⟩, ?_⟩
    · obtain ⟨b0, b1, b2, b3, b4, b5, b6, b7, b8⟩ := (hFi _).1 hf
      go_simp
      try exact rfl
    go_simp
    refine hK _ ?_
    clear hK K
    refine wpAnyK_take (i := 9) rfl (by kernel_rfl) (by kernel_rfl) (by kernel_rfl) (onlyN_panic _) hF0 (fun K hK => ?_)
    apply Exists.intro
    refine ⟨Or.inl ⟨by kernel_rfl, fun w' hf => ?_⟩, ?_⟩
    · obtain ⟨b0, b1, b2, b3, b4, b5, b6, b7, b8⟩ := (hFi _).1 hf
      go_simp
      try exact rfl
    go_simp
    refine hK _ ?_
    clear hK K
    refine wpAnyK_take (i := 10) rfl (by kernel_rfl) (by kernel_rfl) (by kernel_rfl) (onlyN_panic _) hF0 (fun K hK => ?_)
    apply Exists.intro
    refine ⟨Or.inl ⟨by kernel_rfl, fun w' hf => ?_⟩, ?_⟩
    · obtain ⟨b0, b1, b2, b3, b4, b5, b6, b7, b8⟩ := (hFi _).1 hf
      go_simp
      try exact rfl
    go_simp
    refine hK _ ?_
    clear hK K
    refine wpAnyK_take (i := 11) rfl (by kernel_rfl) (by kernel_rfl) (by kernel_rfl) (onlyN_panic _) hF0 (fun K hK => ?_)
    apply Exists.intro
    refine ⟨Or.inl ⟨by kernel_rfl, fun w' hf => ?_⟩, ?_⟩
    · obtain ⟨b0, b1, b2, b3, b4, b5, b6, b7, b8⟩ := (hFi _).1 hf
      go_simp
      try exact rfl
    go_simp
    refine hK _ ?_
    clear hK K
    refine wpAnyK_take (i := 12) rfl (by kernel_rfl) (by kernel_rfl) (by kernel_rfl) (onlyN_panic _) hF0 (fun K hK => ?_)
    apply Exists.intro
    refine ⟨Or.inl ⟨by kernel_rfl, fun w' hf => ?_⟩, ?_⟩
    · obtain ⟨b0, b1, b2, b3, b4, b5, b6, b7, b8⟩ := (hFi _).1 hf
      go_simp
      try exact rfl
    go_simp
    refine hK _ ?_
    clear hK K
    refine wpAnyK_take (i := 13) rfl (by kernel_rfl) (by kernel_rfl) (by kernel_rfl) (onlyN_panic _) hF0 (fun K hK => ?_)
    apply Exists.intro
    refine ⟨Or.inl ⟨by kernel_rfl, fun w' hf => ?_⟩, ?_⟩
    · obtain ⟨b0, b1, b2, b3, b4, b5, b6, b7, b8⟩ := (hFi _).1 hf
      go_simp
      try exact rfl
    go_simp
    refine hK _ ?_
    clear hK K
    refine wpAnyK_take (i := 14) rfl (by kernel_rfl) (by kernel_rfl) (by kernel_rfl) (onlyN_panic _) hF0 (fun K hK => ?_)
    apply Exists.intro
    refine ⟨Or.inl ⟨by kernel_rfl, fun w' hf => ?_⟩, ?_⟩
    · obtain ⟨b0, b1, b2, b3, b4, b5, b6, b7, b8⟩ := (hFi _).1 hf
      go_simp
      try exact rfl
    go_simp
    refine hK _ ?_
    clear hK K
    refine wpAnyK_take (i := 15) rfl (by kernel_rfl) (by kernel_rfl) (by kernel_rfl) (onlyN_panic _) hF0 (fun K hK => ?_)
    apply Exists.intro
    refine ⟨Or.inl ⟨by kernel_rfl, fun w' hf => ?_⟩, ?_⟩
    · obtain ⟨b0, b1, b2, b3, b4, b5, b6, b7, b8⟩ := (hFi _).1 hf
      go_simp
      try exact rfl
    go_simp
    refine hK _ ?_
    clear hK K
    refine wpAnyK_take (i := 16) rfl (by kernel_rfl) (by kernel_rfl) (by kernel_rfl) (onlyN_panic _) hF0 (fun K hK => ?_)
    apply Exists.intro
    refine ⟨Or.inl ⟨by kernel_rfl, fun w' hf => ?_⟩, ?_⟩
    · obtain ⟨b0, b1, b2, b3, b4, b5, b6, b7, b8⟩ := (hFi _).1 hf
      go_simp
      try exact rfl
    go_simp
    refine hK _ ?_
    clear hK K
    refine wpAnyK_take (i := 17) rfl (by kernel_rfl) (by kernel_rfl) (by kernel_rfl) (onlyN_panic _) hF0 (fun K hK => ?_)
    apply Exists.intro
    refine ⟨Or.inl ⟨by kernel_rfl, fun w' hf => ?_⟩, ?_⟩
    · obtain ⟨b0, b1, b2, b3, b4, b5, b6, b7, b8⟩ := (hFi _).1 hf
      go_simp
      try exact rfl
    go_simp
    refine hK _ ?_
    clear hK K
    refine wpAnyK_take (i := 18) rfl (by kernel_rfl) (by kernel_rfl) (by kernel_rfl) (onlyN_panic _) hF0 (fun K hK => ?_)
    apply Exists.intro
    refine ⟨Or.inl ⟨by kernel_rfl, fun w' hf => ?_⟩, ?_⟩
    · obtain ⟨b0, b1, b2, b3, b4, b5, b6, b7, b8⟩ := (hFi _).1 hf
      go_simp
      try exact rfl
    go_simp
    refine hK _ ?_
    clear hK K
    refine wpAnyK_take (i := 19) rfl (by kernel_rfl) (by kernel_rfl) (by kernel_rfl) (onlyN_panic _) hF0 (fun K hK => ?_)
    apply Exists.intro
    refine ⟨Or.inl ⟨by kernel_rfl, fun w' hf => ?_⟩, ?_⟩
    · obtain ⟨b0, b1, b2, b3, b4, b5, b6, b7, b8⟩ := (hFi _).1 hf
      go_simp
      try exact rfl
    go_simp
    refine hK _ ?_
    clear hK K
    refine wpAnyK_take (i := 20) rfl (by kernel_rfl) (by kernel_rfl) (by kernel_rfl) (onlyN_panic _) hF0 (fun K hK => ?_)
    apply Exists.intro
    refine ⟨Or.inl ⟨by kernel_rfl, fun w' hf => ?_⟩, ?_⟩
    · obtain ⟨b0, b1, b2, b3, b4, b5, b6, b7, b8⟩ := (hFi _).1 hf
      go_simp
      try exact rfl
    go_simp
    refine hK _ ?_
    clear hK K
    refine wpAnyK_take (i := 21) rfl (by kernel_rfl) (by kernel_rfl) (by kernel_rfl) (onlyN_panic _) hF0 (fun K hK => ?_)
    apply Exists.intro
    refine ⟨Or.inl ⟨by kernel_rfl, fun w' hf => ?_⟩, ?_⟩
    · obtain ⟨b0, b1, b2, b3, b4, b5, b6, b7, b8⟩ := (hFi _).1 hf
      go_simp
      try exact rfl
    go_simp
    refine hK _ ?_
    clear hK K
    refine wpAnyK_take (i := 22) rfl (by kernel_rfl) (by kernel_rfl) (by kernel_rfl) (onlyN_panic _) hF0 (fun K hK => ⟨undef, Or.inr ⟨by kernel_rfl, rfl⟩, ?_⟩)
    go_simp
    refine hK _ ?_
    clear hK K
    refine wpAnyK_take (i := 23) rfl (by kernel_rfl) (by kernel_rfl) (by kernel_rfl) (onlyN_panic _) hF0 (fun K hK => ⟨undef, Or.inr ⟨by kernel_rfl, rfl⟩, ?_⟩)
    go_simp
    refine hK _ ?_
    clear hK K
    refine wpAnyK_take (i := 24) rfl (by kernel_rfl) (by kernel_rfl) (by kernel_rfl) (onlyN_panic _) hF0 (fun K hK => ?_)
    apply Exists.intro
    refine ⟨Or.inl ⟨by kernel_rfl, fun w' hf => ?_⟩, ?_⟩
    · obtain ⟨b0, b1, b2, b3, b4, b5, b6, b7, b8⟩ := (hFi _).1 hf
      go_simp
      try exact rfl
    go_simp
    refine hK _ ?_
    clear hK K
    refine wpAnyK_one (k := 25) (by kernel_rfl) ?_
    refine wpOp_step rfl (fun K hK => ?_)
    go_simp
    go_at_call 109
    with_reducible refine hSt.mono ?_
    rintro e w7 ⟨rfl, hW7⟩
    have hF7 := hFo _ _ _ hF0 hW7.2 h.n0.2 (nb _ (Nat.le_refl _)) (nb _ (by omega))
    have RZ7 := sn_row hW7.2 (nb _ (by omega)) RZ5
    have z0 := RZ7.1 0 (by simp)
    have z1 := RZ7.1 1 (by simp)
    have z2 := RZ7.1 2 (by simp)
    have z3 := RZ7.1 3 (by simp)
    have z4 := RZ7.1 4 (by simp)
    have g0 := RZ7.2.1 0
    have g1 := RZ7.2.1 1
    have g2 := RZ7.2.1 2
    have g3 := RZ7.2.1 3
    have g4 := RZ7.2.1 4
    have lz7 := RZ7.2.2
    refine hK _ _ ⟨hF7, ?_⟩
    clear hK K
    refine wpAnyK_one (k := 26) (by kernel_rfl) ?_
    refine wpOp_step rfl (fun K hK => ?_)
    go_simp
    have hF8 := fun c0 c1 c2 c3 c4 => hFo _ _ _ hF7 (sn_only w7 (w.heap.size + 1 + 1) c0 c1 c2 c3 c4) (by omega) (by omega) (by omega)
    refine hK _ _ ⟨hF8 _ _ _ _ _, ?_⟩
    clear hK K
    refine wpAnyK_one (k := 27) (by kernel_rfl) ?_
    refine wpOp_step rfl (fun K hK => ?_)
    go_simp
    refine hK _ _ ⟨hF8 _ _ _ _ _, ?_⟩
    clear hK K
    refine wpAnyK_done (by kernel_rfl) ⟨rfl, ?_⟩
    have hD7 := hD5.wrt hW7
    have hS7 := hS5.trans (hW7.2.mono fun j hj => .inr hj)
    go_wp2
    refine bodyPost_ret (res_se rfl _ _ (w.heap.size + 1 + 1) _ _ _ _ _ _ rfl rfl (sn_five _ _ _ _ _ RZ7)) rfl ⟨rfl, hD7.only (sn_only w7 (w.heap.size + 1 + 1) _ _ _ _ _) (fun j hj e => by have := h.all_lt hj; omega), only_new (only_new (only_new (only_new (only_new hS7 (by omega)) (by omega)) (by omega)) (by omega)) (by omega)⟩
set_option maxRecDepth 100000 in
set_option maxHeartbeats 8000000 in
theorem mem_27 {w : World} {D : Dc} {s : Ms} (h : IsD w D s) (x : In) (p : Nat) (ho : 27 ≤ x.op ∧ x.op ≤ 27) (h3 : x.rs2 < 32) (h2 : x.rs1 < 32) :
    Calls Tryz.prog 79 #[.pointer (some ⟨D.db, 0, none⟩), .agg #[.int .u8 (x.op : Nat), .int .u8 (x.rd : Nat), .int .u8 (x.rs1 : Nat), .int .u8 (x.rs2 : Nat), .int .i64 x.imm], .agg #[.int .u64 (p : Nat), .int .u8 1, .int .u64 0, .int .u64 0, .bool false]] w (MmP w D (s.put (stO D.y.l (s.at x) 8) 8 (s.rv x.rs2) (s.rt x.rs1 || s.rt x.rs2)) [.int .u64 (p : Nat), .int .u8 3, .int .u64 (s.at x : Nat), .int .u64 0, .bool (s.rt x.rs1)] (stE D.y.l (s.at x) 8)) := by
  have n24 : ¬ (x.op : Int) = 24 := by omega
  have p24 : ((x.op : Int) == 24) = false := by simp; omega
  have n25 : ¬ (x.op : Int) = 25 := by omega
  have p25 : ((x.op : Int) == 25) = false := by simp; omega
  have n26 : ¬ (x.op : Int) = 26 := by omega
  have p26 : ((x.op : Int) == 26) = false := by simp; omega
  have i1 : (0 : Int) ≤ (x.rs1 : Int) := by omega
  have i2 : (x.rs1 : Int) < 32 := by omega
  have hu := uw_wrap x.imm
  have hsm := sm_wrap (s.rv x.rs1) (uw x.imm)
  have hat : sm (s.rv x.rs1) (uw x.imm) = s.at x := rfl
  rw [hat] at hsm
  clear hat
  have hal : s.at x < 18446744073709551616 := sm_lt _ _
  have hvl := h.ok.v x.rs2
  have i3 : (0 : Int) ≤ (x.rs2 : Int) := by omega
  have i4 : (x.rs2 : Int) < 32 := by omega
  obtain ⟨tz, htz⟩ : ∃ z, (s.rt x.rs1 || s.rt x.rs2) = z := ⟨_, rfl⟩
  rw [htz]
  go_enter Tryz.func79, Tryz.ntmps79
  go_wp2
  obtain ⟨W1, hW1⟩ : ∃ W1, ((w.alloc (.cells #[.int .u8 (x.op : Nat), .int .u8 (x.rd : Nat), .int .u8 (x.rs1 : Nat), .int .u8 (x.rs2 : Nat), .int .i64 x.imm] 48)).alloc (.cells #[.int .u64 (p : Nat), .int .u8 1, .int .u64 0, .int .u64 0, .bool false] 82)).alloc (.cells #[.int .u64 0, .int .u8 0, .int .u64 0, .int .u64 0, .bool false] 82) = W1 := ⟨_, rfl⟩
  have hB1 : Below w.heap.size w W1 := by rw [← hW1]; exact aBelow (aBelow (aBelow (Below.refl _ _) _) _) _
  have RX : rowG #[.int .u8 (x.op : Nat), .int .u8 (x.rd : Nat), .int .u8 (x.rs1 : Nat), .int .u8 (x.rs2 : Nat), .int .i64 x.imm] W1 w.heap.size := by rw [← hW1]; exact rowG_alloc (rowG_alloc (rowG_new _ _ _) _) _
  have RS : rowG #[.int .u64 (p : Nat), .int .u8 1, .int .u64 0, .int .u64 0, .bool false] W1 (w.heap.size + 1) := by rw [← hW1]; exact rowG_alloc (rowG_at _ _ _ _ (by simp)) _
  have RZ : rowG #[.int .u64 0, .int .u8 0, .int .u64 0, .int .u64 0, .bool false] W1 (w.heap.size + 1 + 1) := by rw [← hW1]; exact rowG_at _ _ _ _ (by simp)
  rw [hW1]
  clear hW1
  have hD1 := h.of hB1
  have x2 := RX.1 2 (by simp)
  have x4 := RX.1 4 (by simp)
  have r1 := hD1.rv x.rs1 h2
  refine region_below (by kernel_rfl) (by kernel_rfl) ?_
  repeat (first
    | go_big_quiet_skip
    | (refine BigFrame.wpQuiet_want (by kernel_rfl) fun K hK => ?_
       apply Exists.intro
       refine ⟨fun w' hb' => ?_, ?_⟩
       · have s0 := stay hb' x2
         have s1 := stay hb' x4
         have s2 := stay hb' r1
         go_simp
         first
           | exact rfl
           | exact ⟨rfl, hb'⟩
       go_simp
       refine hK _ ?_
       clear hK K))
  refine wpQuiet_nil ?_
  intro W2 hb2
  have hB2 := below_trans' hB1 (Nat.le_refl _) hb2
  have hD2 := hD1.of hb2
  have RX := rowG_b RX hb2
  have RS := rowG_b RS hb2
  have RZ := rowG_b RZ hb2
  clear x2 x4 r1 hb2 hD1 hB1
  have s2 := RS.1 2 (by simp)
  have f2 := RS.2.1 2
  go_wp2
  obtain ⟨W3, hW3⟩ : ∃ W3, W2.setCell ⟨w.heap.size + 1, 2, none⟩ (.int .u64 (s.at x : Nat)) = W3 := ⟨_, rfl⟩
  have hO3 : Only (fun j => j = w.heap.size + 1) W2 W3 := by rw [← hW3]; exact only_one _ _ _ _
  have hS3 : Only (fun j => j = D.db ∨ D.y.bl j) w W3 := by rw [← hW3]; exact only_new (only_below hB2) (by omega)
  have RS : rowG #[.int .u64 (p : Nat), .int .u8 1, .int .u64 (s.at x : Nat), .int .u64 0, .bool false] W3 (w.heap.size + 1) := by rw [← hW3]; exact sn_set 2 (by omega) _ RS
  rw [hW3]
  clear hW3 s2 f2
  have RX := sn_row hO3 (by omega) RX
  have RZ := sn_row hO3 (by omega) RZ
  have hD3 := hD2.only hO3 (fun j hj e => by have := h.all_lt hj; omega)
  have x0 := RX.1 0 (by simp)
  have e0 := hD3.e0
  have x2 := RX.1 2 (by simp)
  have r1 := hD3.rt x.rs1 h2
  have lx := RX.2.2
  have ls := RS.2.2
  have lz := RZ.2.2
  have f4 := RS.2.1 4
  have f1 := RS.2.1 1
  have u4 := RS.1 4 (by simp)
  have u1 := RS.1 1 (by simp)
  go_still_tail 8, (by kernel_rfl)
  change wpList _ _ _ _ _ W3.drew
  go_wp2
  obtain ⟨W4, hW4⟩ : ∃ W4, ((W3.setCell ⟨w.heap.size + 1, 4, none⟩ (.bool (s.rt x.rs1))).setCell ⟨w.heap.size + 1, 1, none⟩ (.int .u8 3)).drew = W4 := ⟨_, rfl⟩
  have hO4 : Only (fun j => j = w.heap.size + 1) W3 W4 := by rw [← hW4]; exact ((only_one _ _ _ _).trans (only_one _ _ _ _)).trans (only_below (bd1 (Below.refl _ _)))
  have hS4 : Only (fun j => j = D.db ∨ D.y.bl j) w W4 := by rw [← hW4]; exact (only_new (only_new hS3 (by omega)) (by omega)).trans (only_below (bd1 (Below.refl _ _)))
  have RS4 : rowG #[.int .u64 (p : Nat), .int .u8 3, .int .u64 (s.at x : Nat), .int .u64 0, .bool (s.rt x.rs1)] W4 (w.heap.size + 1) := by rw [← hW4]; exact rowG_b (sn_set 1 (by omega) _ (sn_set 4 (by omega) _ RS)) (bd1 (Below.refl _ _))
  rw [hW4]
  clear hW4
  have RX4 := sn_row hO4 (by omega) RX
  have RZ4 := sn_row hO4 (by omega) RZ
  have hD4 := hD3.only hO4 (fun j hj e => by have := h.all_lt hj; omega)
  have hdl := h.lt
  clear x0 x2 e0 r1 f4 f1 u4 u1
  have e0 := hD4.e0
  have x3 := RX4.1 3 (by simp)
  have m0 := RS4.1 0 (by simp)
  have m1 := RS4.1 1 (by simp)
  have m2 := RS4.1 2 (by simp)
  have m3 := RS4.1 3 (by simp)
  have m4 := RS4.1 4 (by simp)
  have r2 := hD4.rv x.rs2 h3
  have t2 := hD4.rt x.rs2 h3
  cases hta : s.rt x.rs2
  · rw [hta] at t2
    rw [hta, Bool.or_false] at htz
    subst htz
    obtain ⟨F, hFd⟩ : ∃ F : World → Prop, F = fun W' : World => (W'.cell? ⟨D.db, 0, none⟩ = some (.pointer (some ⟨D.y.rb, 0, none⟩)) ∧ W'.cell? ⟨w.heap.size, 3, none⟩ = some (.int .u8 (x.rs2 : Nat)) ∧ W'.cell? ⟨w.heap.size + 1, 0, none⟩ = some (.int .u64 (p : Nat)) ∧ W'.cell? ⟨w.heap.size + 1, 1, none⟩ = some (.int .u8 3) ∧ W'.cell? ⟨w.heap.size + 1, 2, none⟩ = some (.int .u64 (s.at x : Nat)) ∧ W'.cell? ⟨w.heap.size + 1, 3, none⟩ = some (.int .u64 0) ∧ W'.cell? ⟨w.heap.size + 1, 4, none⟩ = some (.bool (s.rt x.rs1)) ∧ W'.cell? ⟨D.db, 2 + x.rs2, none⟩ = some (.int .u64 (s.rv x.rs2 : Nat)) ∧ W'.cell? ⟨D.db, 34 + x.rs2, none⟩ = some (.bool false)) := ⟨_, rfl⟩
    have hFi : ∀ W', F W' ↔ (W'.cell? ⟨D.db, 0, none⟩ = some (.pointer (some ⟨D.y.rb, 0, none⟩)) ∧ W'.cell? ⟨w.heap.size, 3, none⟩ = some (.int .u8 (x.rs2 : Nat)) ∧ W'.cell? ⟨w.heap.size + 1, 0, none⟩ = some (.int .u64 (p : Nat)) ∧ W'.cell? ⟨w.heap.size + 1, 1, none⟩ = some (.int .u8 3) ∧ W'.cell? ⟨w.heap.size + 1, 2, none⟩ = some (.int .u64 (s.at x : Nat)) ∧ W'.cell? ⟨w.heap.size + 1, 3, none⟩ = some (.int .u64 0) ∧ W'.cell? ⟨w.heap.size + 1, 4, none⟩ = some (.bool (s.rt x.rs1)) ∧ W'.cell? ⟨D.db, 2 + x.rs2, none⟩ = some (.int .u64 (s.rv x.rs2 : Nat)) ∧ W'.cell? ⟨D.db, 34 + x.rs2, none⟩ = some (.bool false)) := fun W' => by rw [hFd]
    clear hFd
    have hF0 : F W4.drew := (hFi _).2 ⟨e0, x3, m0, m1, m2, m3, m4, r2, t2⟩
    have hFo : ∀ (S : Nat → Prop) Wa Wb, F Wa → Only S Wa Wb → ¬ S D.db → ¬ S w.heap.size → ¬ S (w.heap.size + 1) → F Wb := fun S Wa Wb hf ho n1 n2 n3 => by
      obtain ⟨a0, a1, a2, a3, a4, a5, a6, a7, a8⟩ := (hFi Wa).1 hf
      exact (hFi Wb).2 ⟨ho.cell (a := ⟨D.db, _, none⟩) n1 a0, ho.cell (a := ⟨w.heap.size, _, none⟩) n2 a1, ho.cell (a := ⟨w.heap.size + 1, _, none⟩) n3 a2, ho.cell (a := ⟨w.heap.size + 1, _, none⟩) n3 a3, ho.cell (a := ⟨w.heap.size + 1, _, none⟩) n3 a4, ho.cell (a := ⟨w.heap.size + 1, _, none⟩) n3 a5, ho.cell (a := ⟨w.heap.size + 1, _, none⟩) n3 a6, ho.cell (a := ⟨D.db, _, none⟩) n1 a7, ho.cell (a := ⟨D.db, _, none⟩) n1 a8⟩
    have hD5 := hD4.of (bd1 (Below.refl _ _))
    have RZ5 := rowG_b RZ4 (bd1 (Below.refl _ _))
    have hS5 := hS4.trans (only_below (bd1 (Below.refl _ _)))
    have hSt := rstore_any (s.at x) 8 (s.rv x.rs2) (s.rt x.rs1) hal hvl W4.drew hD5.mem
    have nb : ∀ j, w.heap.size ≤ j → ¬ D.y.bl j := fun j hj hh => by have := h.all_lt (.inl (.inr (.inl hh))); omega
    clear e0 x3 m0 m1 m2 m3 m4 r2 t2
    refine region_KN F (by kernel_rfl) ?_
    refine wpAnyK_take (i := 0) rfl (by kernel_rfl) (by kernel_rfl) (by kernel_rfl) (onlyN_panic _) hF0 (fun K hK => ?_)
    apply Exists.intro
    refine ⟨Or.inl ⟨by kernel_rfl, fun w' hf => ?_⟩, ?_⟩
    · obtain ⟨b0, b1, b2, b3, b4, b5, b6, b7, b8⟩ := (hFi _).1 hf
      go_simp
      try exact rfl
    go_simp
    refine hK _ ?_
    clear hK K
    refine wpAnyK_take (i := 1) rfl (by kernel_rfl) (by kernel_rfl) (by kernel_rfl) (onlyN_panic _) hF0 (fun K hK => ?_)
    apply Exists.intro
    refine ⟨Or.inl ⟨by kernel_rfl, fun w' hf => ?_⟩, ?_⟩
    · obtain ⟨b0, b1, b2, b3, b4, b5, b6, b7, b8⟩ := (hFi _).1 hf
      go_simp
      try exact rfl
    go_simp
    refine hK _ ?_
    clear hK K
    refine wpAnyK_take (i := 2) rfl (by kernel_rfl) (by kernel_rfl) (by kernel_rfl) (onlyN_panic _) hF0 (fun K hK => ?_)
    apply Exists.intro
    refine ⟨Or.inl ⟨by kernel_rfl, fun w' hf => ?_⟩, ?_⟩
    · obtain ⟨b0, b1, b2, b3, b4, b5, b6, b7, b8⟩ := (hFi _).1 hf
      go_simp
      try exact rfl
    go_simp
    refine hK _ ?_
    clear hK K
    refine wpAnyK_take (i := 3) rfl (by kernel_rfl) (by kernel_rfl) (by kernel_rfl) (onlyN_panic _) hF0 (fun K hK => ?_)
    apply Exists.intro
    refine ⟨Or.inl ⟨by kernel_rfl, fun w' hf => ?_⟩, ?_⟩
    · obtain ⟨b0, b1, b2, b3, b4, b5, b6, b7, b8⟩ := (hFi _).1 hf
      go_simp
      try exact rfl
    go_simp
    refine hK _ ?_
    clear hK K
    refine wpAnyK_take (i := 4) rfl (by kernel_rfl) (by kernel_rfl) (by kernel_rfl) (onlyN_panic _) hF0 (fun K hK => ?_)
    apply Exists.intro
    refine ⟨Or.inl ⟨by kernel_rfl, fun w' hf => ?_⟩, ?_⟩
    · obtain ⟨b0, b1, b2, b3, b4, b5, b6, b7, b8⟩ := (hFi _).1 hf
      go_simp
      try exact rfl
    go_simp
    refine hK _ ?_
    clear hK K
    refine wpAnyK_take (i := 5) rfl (by kernel_rfl) (by kernel_rfl) (by kernel_rfl) (onlyN_panic _) hF0 (fun K hK => ?_)
    apply Exists.intro
    refine ⟨Or.inl ⟨by kernel_rfl, fun w' hf => ?_⟩, ?_⟩
    · obtain ⟨b0, b1, b2, b3, b4, b5, b6, b7, b8⟩ := (hFi _).1 hf
      go_simp
      try exact rfl
    go_simp
    refine hK _ ?_
    clear hK K
    refine wpAnyK_take (i := 6) rfl (by kernel_rfl) (by kernel_rfl) (by kernel_rfl) (onlyN_panic _) hF0 (fun K hK => ?_)
    apply Exists.intro
    refine ⟨Or.inl ⟨by kernel_rfl, fun w' hf => ?_⟩, ?_⟩
    · obtain ⟨b0, b1, b2, b3, b4, b5, b6, b7, b8⟩ := (hFi _).1 hf
      go_simp
      try exact rfl
    go_simp
    refine hK _ ?_
    clear hK K
    refine wpAnyK_take (i := 7) rfl (by kernel_rfl) (by kernel_rfl) (by kernel_rfl) (onlyN_panic _) hF0 (fun K hK => ?_)
    apply Exists.intro
    refine ⟨Or.inl ⟨by kernel_rfl, fun w' hf => ?_⟩, ?_⟩
    · obtain ⟨b0, b1, b2, b3, b4, b5, b6, b7, b8⟩ := (hFi _).1 hf
      go_simp
      try exact rfl
    go_simp
    refine hK _ ?_
    clear hK K
    refine wpAnyK_take (i := 8) rfl (by kernel_rfl) (by kernel_rfl) (by kernel_rfl) (onlyN_panic _) hF0 (fun K hK => ?_)
    apply Exists.intro
    refine ⟨Or.inl ⟨by kernel_rfl, fun w' hf => ?_⟩, ?_⟩
    · obtain ⟨b0, b1, b2, b3, b4, b5, b6, b7, b8⟩ := (hFi _).1 hf
      go_simp
      try exact rfl
    go_simp
    refine hK _ ?_
    clear hK K
    refine wpAnyK_take (i := 9) rfl (by kernel_rfl) (by kernel_rfl) (by kernel_rfl) (onlyN_panic _) hF0 (fun K hK => ?_)
    apply Exists.intro
    refine ⟨Or.inl ⟨by kernel_rfl, fun w' hf => ?_⟩, ?_⟩
    · obtain ⟨b0, b1, b2, b3, b4, b5, b6, b7, b8⟩ := (hFi _).1 hf
      go_simp
      try exact rfl
    go_simp
    refine hK _ ?_
    clear hK K
    refine wpAnyK_take (i := 10) rfl (by kernel_rfl) (by kernel_rfl) (by kernel_rfl) (onlyN_panic _) hF0 (fun K hK => ?_)
    apply Exists.intro
    refine ⟨Or.inl ⟨by kernel_rfl, fun w' hf => ?_⟩, ?_⟩
    · obtain ⟨b0, b1, b2, b3, b4, b5, b6, b7, b8⟩ := (hFi _).1 hf
      go_simp
      try exact rfl
    go_simp
    refine hK _ ?_
    clear hK K
    refine wpAnyK_take (i := 11) rfl (by kernel_rfl) (by kernel_rfl) (by kernel_rfl) (onlyN_panic _) hF0 (fun K hK => ?_)
    apply Exists.intro
    refine ⟨Or.inl ⟨by kernel_rfl, fun w' hf => ?_⟩, ?_⟩
    · obtain ⟨b0, b1, b2, b3, b4, b5, b6, b7, b8⟩ := (hFi _).1 hf
      go_simp
      try exact rfl
    go_simp
    refine hK _ ?_
    clear hK K
    refine wpAnyK_take (i := 12) rfl (by kernel_rfl) (by kernel_rfl) (by kernel_rfl) (onlyN_panic _) hF0 (fun K hK => ?_)
    apply Exists.intro
    refine ⟨Or.inl ⟨by kernel_rfl, fun w' hf => ?_⟩, ?_⟩
    · obtain ⟨b0, b1, b2, b3, b4, b5, b6, b7, b8⟩ := (hFi _).1 hf
      go_simp
      try exact rfl
    go_simp
    refine hK _ ?_
    clear hK K
    refine wpAnyK_take (i := 13) rfl (by kernel_rfl) (by kernel_rfl) (by kernel_rfl) (onlyN_panic _) hF0 (fun K hK => ?_)
    apply Exists.intro
    refine ⟨Or.inl ⟨by kernel_rfl, fun w' hf => ?_⟩, ?_⟩
    · obtain ⟨b0, b1, b2, b3, b4, b5, b6, b7, b8⟩ := (hFi _).1 hf
      go_simp
      try exact rfl
    go_simp
    refine hK _ ?_
    clear hK K
    refine wpAnyK_take (i := 14) rfl (by kernel_rfl) (by kernel_rfl) (by kernel_rfl) (onlyN_panic _) hF0 (fun K hK => ?_)
    apply Exists.intro
    refine ⟨Or.inl ⟨by kernel_rfl, fun w' hf => ?_⟩, ?_⟩
    · obtain ⟨b0, b1, b2, b3, b4, b5, b6, b7, b8⟩ := (hFi _).1 hf
      go_simp
      try exact rfl
    go_simp
    refine hK _ ?_
    clear hK K
    refine wpAnyK_take (i := 15) rfl (by kernel_rfl) (by kernel_rfl) (by kernel_rfl) (onlyN_panic _) hF0 (fun K hK => ?_)
    apply Exists.intro
    refine ⟨Or.inl ⟨by kernel_rfl, fun w' hf => ?_⟩, ?_⟩
    · obtain ⟨b0, b1, b2, b3, b4, b5, b6, b7, b8⟩ := (hFi _).1 hf
      go_simp
      try exact rfl
    go_simp
    refine hK _ ?_
    clear hK K
    refine wpAnyK_take (i := 16) rfl (by kernel_rfl) (by kernel_rfl) (by kernel_rfl) (onlyN_panic _) hF0 (fun K hK => ?_)
    apply Exists.intro
    refine ⟨Or.inl ⟨by kernel_rfl, fun w' hf => ?_⟩, ?_⟩
    · obtain ⟨b0, b1, b2, b3, b4, b5, b6, b7, b8⟩ := (hFi _).1 hf
      go_simp
      try exact rfl
    go_simp
    refine hK _ ?_
    clear hK K
    refine wpAnyK_take (i := 17) rfl (by kernel_rfl) (by kernel_rfl) (by kernel_rfl) (onlyN_panic _) hF0 (fun K hK => ?_)
    apply Exists.intro
    refine ⟨Or.inl ⟨by kernel_rfl, fun w' hf => ?_⟩, ?_⟩
    · obtain ⟨b0, b1, b2, b3, b4, b5, b6, b7, b8⟩ := (hFi _).1 hf
      go_simp
      try exact rfl
    go_simp
    refine hK _ ?_
    clear hK K
    refine wpAnyK_take (i := 18) rfl (by kernel_rfl) (by kernel_rfl) (by kernel_rfl) (onlyN_panic _) hF0 (fun K hK => ?_)
    apply Exists.intro
    refine ⟨Or.inl ⟨by kernel_rfl, fun w' hf => ?_⟩, ?_⟩
    · obtain ⟨b0, b1, b2, b3, b4, b5, b6, b7, b8⟩ := (hFi _).1 hf
      go_simp
      try exact rfl
    go_simp
    refine hK _ ?_
    clear hK K
    refine wpAnyK_take (i := 19) rfl (by kernel_rfl) (by kernel_rfl) (by kernel_rfl) (onlyN_panic _) hF0 (fun K hK => ?_)
    apply Exists.intro
    refine ⟨Or.inl ⟨by kernel_rfl, fun w' hf => ?_⟩, ?_⟩
    · obtain ⟨b0, b1, b2, b3, b4, b5, b6, b7, b8⟩ := (hFi _).1 hf
      go_simp
      try exact rfl
    go_simp
    refine hK _ ?_
    clear hK K
    refine wpAnyK_take (i := 20) rfl (by kernel_rfl) (by kernel_rfl) (by kernel_rfl) (onlyN_panic _) hF0 (fun K hK => ?_)
    apply Exists.intro
    refine ⟨Or.inl ⟨by kernel_rfl, fun w' hf => ?_⟩, ?_⟩
    · obtain ⟨b0, b1, b2, b3, b4, b5, b6, b7, b8⟩ := (hFi _).1 hf
      go_simp
      try exact rfl
    go_simp
    refine hK _ ?_
    clear hK K
    refine wpAnyK_take (i := 21) rfl (by kernel_rfl) (by kernel_rfl) (by kernel_rfl) (onlyN_panic _) hF0 (fun K hK => ?_)
    apply Exists.intro
    refine ⟨Or.inl ⟨by kernel_rfl, fun w' hf => ?_⟩, ?_⟩
    · obtain ⟨b0, b1, b2, b3, b4, b5, b6, b7, b8⟩ := (hFi _).1 hf
      go_simp
      try exact rfl
    go_simp
    refine hK _ ?_
    clear hK K
    refine wpAnyK_take (i := 22) rfl (by kernel_rfl) (by kernel_rfl) (by kernel_rfl) (onlyN_panic _) hF0 (fun K hK => ?_)
    apply Exists.intro
    refine ⟨Or.inl ⟨by kernel_rfl, fun w' hf => ?_⟩, ?_⟩
    · obtain ⟨b0, b1, b2, b3, b4, b5, b6, b7, b8⟩ := (hFi _).1 hf
      go_simp
      try exact rfl
    go_simp
    refine hK _ ?_
    clear hK K
    refine wpAnyK_take (i := 23) rfl (by kernel_rfl) (by kernel_rfl) (by kernel_rfl) (onlyN_panic _) hF0 (fun K hK => ?_)
    apply Exists.intro
    refine ⟨Or.inl ⟨by kernel_rfl, fun w' hf => ?_⟩, ?_⟩
    · obtain ⟨b0, b1, b2, b3, b4, b5, b6, b7, b8⟩ := (hFi _).1 hf
      go_simp
      try exact rfl
    go_simp
    refine hK _ ?_
    clear hK K
    refine wpAnyK_take (i := 24) rfl (by kernel_rfl) (by kernel_rfl) (by kernel_rfl) (onlyN_panic _) hF0 (fun K hK => ?_)
    apply Exists.intro
    refine ⟨Or.inl ⟨by kernel_rfl, fun w' hf => ?_⟩, ?_⟩
    · obtain ⟨b0, b1, b2, b3, b4, b5, b6, b7, b8⟩ := (hFi _).1 hf
      go_simp
      try exact rfl
    go_simp
    refine hK _ ?_
    clear hK K
    refine wpAnyK_one (k := 25) (by kernel_rfl) ?_
    refine wpOp_step rfl (fun K hK => ?_)
    go_simp
    go_at_call 109
    with_reducible refine hSt.mono ?_
    rintro e w7 ⟨rfl, hW7⟩
    have hF7 := hFo _ _ _ hF0 hW7.2 h.n0.2 (nb _ (Nat.le_refl _)) (nb _ (by omega))
    have RZ7 := sn_row hW7.2 (nb _ (by omega)) RZ5
    have z0 := RZ7.1 0 (by simp)
    have z1 := RZ7.1 1 (by simp)
    have z2 := RZ7.1 2 (by simp)
    have z3 := RZ7.1 3 (by simp)
    have z4 := RZ7.1 4 (by simp)
    have g0 := RZ7.2.1 0
    have g1 := RZ7.2.1 1
    have g2 := RZ7.2.1 2
    have g3 := RZ7.2.1 3
    have g4 := RZ7.2.1 4
    have lz7 := RZ7.2.2
    refine hK _ _ ⟨hF7, ?_⟩
    clear hK K
    refine wpAnyK_one (k := 26) (by kernel_rfl) ?_
    refine wpOp_step rfl (fun K hK => ?_)
    go_simp
    have hF8 := fun c0 c1 c2 c3 c4 => hFo _ _ _ hF7 (sn_only w7 (w.heap.size + 1 + 1) c0 c1 c2 c3 c4) (by omega) (by omega) (by omega)
    refine hK _ _ ⟨hF8 _ _ _ _ _, ?_⟩
    clear hK K
    refine wpAnyK_one (k := 27) (by kernel_rfl) ?_
    refine wpOp_step rfl (fun K hK => ?_)
    go_simp
    refine hK _ _ ⟨hF8 _ _ _ _ _, ?_⟩
    clear hK K
    refine wpAnyK_done (by kernel_rfl) ⟨rfl, ?_⟩
    have hD7 := hD5.wrt hW7
    have hS7 := hS5.trans (hW7.2.mono fun j hj => .inr hj)
    go_wp2
    refine bodyPost_ret (res_se rfl _ _ (w.heap.size + 1 + 1) _ _ _ _ _ _ rfl rfl (sn_five _ _ _ _ _ RZ7)) rfl ⟨rfl, hD7.only (sn_only w7 (w.heap.size + 1 + 1) _ _ _ _ _) (fun j hj e => by have := h.all_lt hj; omega), only_new (only_new (only_new (only_new (only_new hS7 (by omega)) (by omega)) (by omega)) (by omega)) (by omega)⟩
  · rw [hta] at t2
    rw [hta, Bool.or_true] at htz
    subst htz
    obtain ⟨F, hFd⟩ : ∃ F : World → Prop, F = fun W' : World => (W'.cell? ⟨D.db, 0, none⟩ = some (.pointer (some ⟨D.y.rb, 0, none⟩)) ∧ W'.cell? ⟨w.heap.size, 3, none⟩ = some (.int .u8 (x.rs2 : Nat)) ∧ W'.cell? ⟨w.heap.size + 1, 0, none⟩ = some (.int .u64 (p : Nat)) ∧ W'.cell? ⟨w.heap.size + 1, 1, none⟩ = some (.int .u8 3) ∧ W'.cell? ⟨w.heap.size + 1, 2, none⟩ = some (.int .u64 (s.at x : Nat)) ∧ W'.cell? ⟨w.heap.size + 1, 3, none⟩ = some (.int .u64 0) ∧ W'.cell? ⟨w.heap.size + 1, 4, none⟩ = some (.bool (s.rt x.rs1)) ∧ W'.cell? ⟨D.db, 2 + x.rs2, none⟩ = some (.int .u64 (s.rv x.rs2 : Nat)) ∧ W'.cell? ⟨D.db, 34 + x.rs2, none⟩ = some (.bool true)) := ⟨_, rfl⟩
    have hFi : ∀ W', F W' ↔ (W'.cell? ⟨D.db, 0, none⟩ = some (.pointer (some ⟨D.y.rb, 0, none⟩)) ∧ W'.cell? ⟨w.heap.size, 3, none⟩ = some (.int .u8 (x.rs2 : Nat)) ∧ W'.cell? ⟨w.heap.size + 1, 0, none⟩ = some (.int .u64 (p : Nat)) ∧ W'.cell? ⟨w.heap.size + 1, 1, none⟩ = some (.int .u8 3) ∧ W'.cell? ⟨w.heap.size + 1, 2, none⟩ = some (.int .u64 (s.at x : Nat)) ∧ W'.cell? ⟨w.heap.size + 1, 3, none⟩ = some (.int .u64 0) ∧ W'.cell? ⟨w.heap.size + 1, 4, none⟩ = some (.bool (s.rt x.rs1)) ∧ W'.cell? ⟨D.db, 2 + x.rs2, none⟩ = some (.int .u64 (s.rv x.rs2 : Nat)) ∧ W'.cell? ⟨D.db, 34 + x.rs2, none⟩ = some (.bool true)) := fun W' => by rw [hFd]
    clear hFd
    have hF0 : F W4.drew := (hFi _).2 ⟨e0, x3, m0, m1, m2, m3, m4, r2, t2⟩
    have hFo : ∀ (S : Nat → Prop) Wa Wb, F Wa → Only S Wa Wb → ¬ S D.db → ¬ S w.heap.size → ¬ S (w.heap.size + 1) → F Wb := fun S Wa Wb hf ho n1 n2 n3 => by
      obtain ⟨a0, a1, a2, a3, a4, a5, a6, a7, a8⟩ := (hFi Wa).1 hf
      exact (hFi Wb).2 ⟨ho.cell (a := ⟨D.db, _, none⟩) n1 a0, ho.cell (a := ⟨w.heap.size, _, none⟩) n2 a1, ho.cell (a := ⟨w.heap.size + 1, _, none⟩) n3 a2, ho.cell (a := ⟨w.heap.size + 1, _, none⟩) n3 a3, ho.cell (a := ⟨w.heap.size + 1, _, none⟩) n3 a4, ho.cell (a := ⟨w.heap.size + 1, _, none⟩) n3 a5, ho.cell (a := ⟨w.heap.size + 1, _, none⟩) n3 a6, ho.cell (a := ⟨D.db, _, none⟩) n1 a7, ho.cell (a := ⟨D.db, _, none⟩) n1 a8⟩
    have hD5 := hD4.of (bd1 (Below.refl _ _))
    have RZ5 := rowG_b RZ4 (bd1 (Below.refl _ _))
    have hS5 := hS4.trans (only_below (bd1 (Below.refl _ _)))
    have hSt := rstore_any (s.at x) 8 (s.rv x.rs2) true hal hvl W4.drew hD5.mem
    have nb : ∀ j, w.heap.size ≤ j → ¬ D.y.bl j := fun j hj hh => by have := h.all_lt (.inl (.inr (.inl hh))); omega
    clear e0 x3 m0 m1 m2 m3 m4 r2 t2
    refine region_KN F (by kernel_rfl) ?_
    refine wpAnyK_take (i := 0) rfl (by kernel_rfl) (by kernel_rfl) (by kernel_rfl) (onlyN_panic _) hF0 (fun K hK => ?_)
    apply Exists.intro
    refine ⟨Or.inl ⟨by kernel_rfl, fun w' hf => ?_⟩, ?_⟩
    · obtain ⟨b0, b1, b2, b3, b4, b5, b6, b7, b8⟩ := (hFi _).1 hf
      go_simp
      try exact rfl
    go_simp
    refine hK _ ?_
    clear hK K
    refine wpAnyK_take (i := 1) rfl (by kernel_rfl) (by kernel_rfl) (by kernel_rfl) (onlyN_panic _) hF0 (fun K hK => ?_)
    apply Exists.intro
    refine ⟨Or.inl ⟨by kernel_rfl, fun w' hf => ?_⟩, ?_⟩
    · obtain ⟨b0, b1, b2, b3, b4, b5, b6, b7, b8⟩ := (hFi _).1 hf
      go_simp
      try exact rfl
    go_simp
    refine hK _ ?_
    clear hK K
    refine wpAnyK_take (i := 2) rfl (by kernel_rfl) (by kernel_rfl) (by kernel_rfl) (onlyN_panic _) hF0 (fun K hK => ?_)
    apply Exists.intro
    refine ⟨Or.inl ⟨by kernel_rfl, fun w' hf => ?_⟩, ?_⟩
    · obtain ⟨b0, b1, b2, b3, b4, b5, b6, b7, b8⟩ := (hFi _).1 hf
      go_simp
      try exact rfl
    go_simp
    refine hK _ ?_
    clear hK K
    refine wpAnyK_take (i := 3) rfl (by kernel_rfl) (by kernel_rfl) (by kernel_rfl) (onlyN_panic _) hF0 (fun K hK => ?_)
    apply Exists.intro
    refine ⟨Or.inl ⟨by kernel_rfl, fun w' hf => ?_⟩, ?_⟩
    · obtain ⟨b0, b1, b2, b3, b4, b5, b6, b7, b8⟩ := (hFi _).1 hf
      go_simp
      try exact rfl
    go_simp
    refine hK _ ?_
    clear hK K
    refine wpAnyK_take (i := 4) rfl (by kernel_rfl) (by kernel_rfl) (by kernel_rfl) (onlyN_panic _) hF0 (fun K hK => ?_)
    apply Exists.intro
    refine ⟨Or.inl ⟨by kernel_rfl, fun w' hf => ?_⟩, ?_⟩
    · obtain ⟨b0, b1, b2, b3, b4, b5, b6, b7, b8⟩ := (hFi _).1 hf
      go_simp
      try exact rfl
    go_simp
    refine hK _ ?_
    clear hK K
    refine wpAnyK_take (i := 5) rfl (by kernel_rfl) (by kernel_rfl) (by kernel_rfl) (onlyN_panic _) hF0 (fun K hK => ?_)
    apply Exists.intro
    refine ⟨Or.inl ⟨by kernel_rfl, fun w' hf => ?_⟩, ?_⟩
    · obtain ⟨b0, b1, b2, b3, b4, b5, b6, b7, b8⟩ := (hFi _).1 hf
      go_simp
      try exact rfl
    go_simp
    refine hK _ ?_
    clear hK K
    refine wpAnyK_take (i := 6) rfl (by kernel_rfl) (by kernel_rfl) (by kernel_rfl) (onlyN_panic _) hF0 (fun K hK => ?_)
    apply Exists.intro
    refine ⟨Or.inl ⟨by kernel_rfl, fun w' hf => ?_⟩, ?_⟩
    · obtain ⟨b0, b1, b2, b3, b4, b5, b6, b7, b8⟩ := (hFi _).1 hf
      go_simp
      try exact rfl
    go_simp
    refine hK _ ?_
    clear hK K
    refine wpAnyK_take (i := 7) rfl (by kernel_rfl) (by kernel_rfl) (by kernel_rfl) (onlyN_panic _) hF0 (fun K hK => ?_)
    apply Exists.intro
    refine ⟨Or.inl ⟨by kernel_rfl, fun w' hf => ?_⟩, ?_⟩
    · obtain ⟨b0, b1, b2, b3, b4, b5, b6, b7, b8⟩ := (hFi _).1 hf
      go_simp
      try exact rfl
    go_simp
    refine hK _ ?_
    clear hK K
    refine wpAnyK_take (i := 8) rfl (by kernel_rfl) (by kernel_rfl) (by kernel_rfl) (onlyN_panic _) hF0 (fun K hK => ?_)
    apply Exists.intro
    refine ⟨Or.inl ⟨by kernel_rfl, fun w' hf => ?_⟩, ?_⟩
    · obtain ⟨b0, b1, b2, b3, b4, b5, b6, b7, b8⟩ := (hFi _).1 hf
      go_simp
      try exact rfl
    go_simp
    refine hK _ ?_
    clear hK K
    refine wpAnyK_take (i := 9) rfl (by kernel_rfl) (by kernel_rfl) (by kernel_rfl) (onlyN_panic _) hF0 (fun K hK => ?_)
    apply Exists.intro
    refine ⟨Or.inl ⟨by kernel_rfl, fun w' hf => ?_⟩, ?_⟩
    · obtain ⟨b0, b1, b2, b3, b4, b5, b6, b7, b8⟩ := (hFi _).1 hf
      go_simp
      try exact rfl
    go_simp
    refine hK _ ?_
    clear hK K
    refine wpAnyK_take (i := 10) rfl (by kernel_rfl) (by kernel_rfl) (by kernel_rfl) (onlyN_panic _) hF0 (fun K hK => ?_)
    apply Exists.intro
    refine ⟨Or.inl ⟨by kernel_rfl, fun w' hf => ?_⟩, ?_⟩
    · obtain ⟨b0, b1, b2, b3, b4, b5, b6, b7, b8⟩ := (hFi _).1 hf
      go_simp
      try exact rfl
    go_simp
    refine hK _ ?_
    clear hK K
    refine wpAnyK_take (i := 11) rfl (by kernel_rfl) (by kernel_rfl) (by kernel_rfl) (onlyN_panic _) hF0 (fun K hK => ?_)
    apply Exists.intro
    refine ⟨Or.inl ⟨by kernel_rfl, fun w' hf => ?_⟩, ?_⟩
    · obtain ⟨b0, b1, b2, b3, b4, b5, b6, b7, b8⟩ := (hFi _).1 hf
      go_simp
      try exact rfl
    go_simp
    refine hK _ ?_
    clear hK K
    refine wpAnyK_take (i := 12) rfl (by kernel_rfl) (by kernel_rfl) (by kernel_rfl) (onlyN_panic _) hF0 (fun K hK => ?_)
    apply Exists.intro
    refine ⟨Or.inl ⟨by kernel_rfl, fun w' hf => ?_⟩, ?_⟩
    · obtain ⟨b0, b1, b2, b3, b4, b5, b6, b7, b8⟩ := (hFi _).1 hf
      go_simp
      try exact rfl
    go_simp
    refine hK _ ?_
    clear hK K
    refine wpAnyK_take (i := 13) rfl (by kernel_rfl) (by kernel_rfl) (by kernel_rfl) (onlyN_panic _) hF0 (fun K hK => ?_)
    apply Exists.intro
    refine ⟨Or.inl ⟨by kernel_rfl, fun w' hf => ?_⟩, ?_⟩
    · obtain ⟨b0, b1, b2, b3, b4, b5, b6, b7, b8⟩ := (hFi _).1 hf
      go_simp
      try exact rfl
    go_simp
    refine hK _ ?_
    clear hK K
    refine wpAnyK_take (i := 14) rfl (by kernel_rfl) (by kernel_rfl) (by kernel_rfl) (onlyN_panic _) hF0 (fun K hK => ?_)
    apply Exists.intro
    refine ⟨Or.inl ⟨by kernel_rfl, fun w' hf => ?_⟩, ?_⟩
    · obtain ⟨b0, b1, b2, b3, b4, b5, b6, b7, b8⟩ := (hFi _).1 hf
      go_simp
      try exact rfl
    go_simp
    refine hK _ ?_
    clear hK K
    refine wpAnyK_take (i := 15) rfl (by kernel_rfl) (by kernel_rfl) (by kernel_rfl) (onlyN_panic _) hF0 (fun K hK => ?_)
    apply Exists.intro
    refine ⟨Or.inl ⟨by kernel_rfl, fun w' hf => ?_⟩, ?_⟩
    · obtain ⟨b0, b1, b2, b3, b4, b5, b6, b7, b8⟩ := (hFi _).1 hf
      go_simp
      try exact rfl
    go_simp
    refine hK _ ?_
    clear hK K
    refine wpAnyK_take (i := 16) rfl (by kernel_rfl) (by kernel_rfl) (by kernel_rfl) (onlyN_panic _) hF0 (fun K hK => ?_)
    apply Exists.intro
    refine ⟨Or.inl ⟨by kernel_rfl, fun w' hf => ?_⟩, ?_⟩
    · obtain ⟨b0, b1, b2, b3, b4, b5, b6, b7, b8⟩ := (hFi _).1 hf
      go_simp
      try exact rfl
    go_simp
    refine hK _ ?_
    clear hK K
    refine wpAnyK_take (i := 17) rfl (by kernel_rfl) (by kernel_rfl) (by kernel_rfl) (onlyN_panic _) hF0 (fun K hK => ?_)
    apply Exists.intro
    refine ⟨Or.inl ⟨by kernel_rfl, fun w' hf => ?_⟩, ?_⟩
    · obtain ⟨b0, b1, b2, b3, b4, b5, b6, b7, b8⟩ := (hFi _).1 hf
      go_simp
      try exact rfl
    go_simp
    refine hK _ ?_
    clear hK K
    refine wpAnyK_take (i := 18) rfl (by kernel_rfl) (by kernel_rfl) (by kernel_rfl) (onlyN_panic _) hF0 (fun K hK => ?_)
    apply Exists.intro
    refine ⟨Or.inl ⟨by kernel_rfl, fun w' hf => ?_⟩, ?_⟩
    · obtain ⟨b0, b1, b2, b3, b4, b5, b6, b7, b8⟩ := (hFi _).1 hf
      go_simp
      try exact rfl
    go_simp
    refine hK _ ?_
    clear hK K
    refine wpAnyK_take (i := 19) rfl (by kernel_rfl) (by kernel_rfl) (by kernel_rfl) (onlyN_panic _) hF0 (fun K hK => ?_)
    apply Exists.intro
    refine ⟨Or.inl ⟨by kernel_rfl, fun w' hf => ?_⟩, ?_⟩
    · obtain ⟨b0, b1, b2, b3, b4, b5, b6, b7, b8⟩ := (hFi _).1 hf
      go_simp
      try exact rfl
    go_simp
    refine hK _ ?_
    clear hK K
    refine wpAnyK_take (i := 20) rfl (by kernel_rfl) (by kernel_rfl) (by kernel_rfl) (onlyN_panic _) hF0 (fun K hK => ?_)
    apply Exists.intro
    refine ⟨Or.inl ⟨by kernel_rfl, fun w' hf => ?_⟩, ?_⟩
    · obtain ⟨b0, b1, b2, b3, b4, b5, b6, b7, b8⟩ := (hFi _).1 hf
      go_simp
      try exact rfl
    go_simp
    refine hK _ ?_
    clear hK K
    refine wpAnyK_take (i := 21) rfl (by kernel_rfl) (by kernel_rfl) (by kernel_rfl) (onlyN_panic _) hF0 (fun K hK => ?_)
    apply Exists.intro
    refine ⟨Or.inl ⟨by kernel_rfl, fun w' hf => ?_⟩, ?_⟩
    · obtain ⟨b0, b1, b2, b3, b4, b5, b6, b7, b8⟩ := (hFi _).1 hf
      go_simp
      try exact rfl
    go_simp
    refine hK _ ?_
    clear hK K
    refine wpAnyK_take (i := 22) rfl (by kernel_rfl) (by kernel_rfl) (by kernel_rfl) (onlyN_panic _) hF0 (fun K hK => ⟨undef, Or.inr ⟨by kernel_rfl, rfl⟩, ?_⟩)
    go_simp
    refine hK _ ?_
    clear hK K
    refine wpAnyK_take (i := 23) rfl (by kernel_rfl) (by kernel_rfl) (by kernel_rfl) (onlyN_panic _) hF0 (fun K hK => ⟨undef, Or.inr ⟨by kernel_rfl, rfl⟩, ?_⟩)
    go_simp
    refine hK _ ?_
    clear hK K
    refine wpAnyK_take (i := 24) rfl (by kernel_rfl) (by kernel_rfl) (by kernel_rfl) (onlyN_panic _) hF0 (fun K hK => ?_)
    apply Exists.intro
    refine ⟨Or.inl ⟨by kernel_rfl, fun w' hf => ?_⟩, ?_⟩
    · obtain ⟨b0, b1, b2, b3, b4, b5, b6, b7, b8⟩ := (hFi _).1 hf
      go_simp
      try exact rfl
    go_simp
    refine hK _ ?_
    clear hK K
    refine wpAnyK_one (k := 25) (by kernel_rfl) ?_
    refine wpOp_step rfl (fun K hK => ?_)
    go_simp
    go_at_call 109
    with_reducible refine hSt.mono ?_
    rintro e w7 ⟨rfl, hW7⟩
    have hF7 := hFo _ _ _ hF0 hW7.2 h.n0.2 (nb _ (Nat.le_refl _)) (nb _ (by omega))
    have RZ7 := sn_row hW7.2 (nb _ (by omega)) RZ5
    have z0 := RZ7.1 0 (by simp)
    have z1 := RZ7.1 1 (by simp)
    have z2 := RZ7.1 2 (by simp)
    have z3 := RZ7.1 3 (by simp)
    have z4 := RZ7.1 4 (by simp)
    have g0 := RZ7.2.1 0
    have g1 := RZ7.2.1 1
    have g2 := RZ7.2.1 2
    have g3 := RZ7.2.1 3
    have g4 := RZ7.2.1 4
    have lz7 := RZ7.2.2
    refine hK _ _ ⟨hF7, ?_⟩
    clear hK K
    refine wpAnyK_one (k := 26) (by kernel_rfl) ?_
    refine wpOp_step rfl (fun K hK => ?_)
    go_simp
    have hF8 := fun c0 c1 c2 c3 c4 => hFo _ _ _ hF7 (sn_only w7 (w.heap.size + 1 + 1) c0 c1 c2 c3 c4) (by omega) (by omega) (by omega)
    refine hK _ _ ⟨hF8 _ _ _ _ _, ?_⟩
    clear hK K
    refine wpAnyK_one (k := 27) (by kernel_rfl) ?_
    refine wpOp_step rfl (fun K hK => ?_)
    go_simp
    refine hK _ _ ⟨hF8 _ _ _ _ _, ?_⟩
    clear hK K
    refine wpAnyK_done (by kernel_rfl) ⟨rfl, ?_⟩
    have hD7 := hD5.wrt hW7
    have hS7 := hS5.trans (hW7.2.mono fun j hj => .inr hj)
    go_wp2
    refine bodyPost_ret (res_se rfl _ _ (w.heap.size + 1 + 1) _ _ _ _ _ _ rfl rfl (sn_five _ _ _ _ _ RZ7)) rfl ⟨rfl, hD7.only (sn_only w7 (w.heap.size + 1 + 1) _ _ _ _ _) (fun j hj e => by have := h.all_lt hj; omega), only_new (only_new (only_new (only_new (only_new hS7 (by omega)) (by omega)) (by omega)) (by omega)) (by omega)⟩
end Go.Proofs.YtfaacmcnefbgcaaGreatDoor.m4
