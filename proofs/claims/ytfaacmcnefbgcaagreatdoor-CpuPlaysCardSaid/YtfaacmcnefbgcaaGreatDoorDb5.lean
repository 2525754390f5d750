/- The document's machine: what alu leaves. -/
import Derived.Test.YtfaacmcnefbgcaaGreatDoorDa
import Derived.Test.YtfaacmcnefbgcaaGreatDoorJk
namespace Go.Proofs.YtfaacmcnefbgcaaGreatDoor.m4
open Go.ChangeShapes Go.WideShapes Go.ChangeAt Go.RowKit
set_option linter.unusedVariables false
theorem res_s5 {fn : Func} {p : Tmp} (h : fn.results = #[.cell p 82]) (tmps : Array Value) (w : World) (g : Nat) (c0 c1 c2 c3 c4 : Value) (hp : tmps.getD p undef = .pointer (some ⟨g, 0, none⟩)) (hr : rowG #[c0, c1, c2, c3, c4] w g) :
    (results fn tmps).run Tryz.prog w = .ok (.agg #[c0, c1, c2, c3, c4]) w := by
  have hp' : tmps[p]?.getD undef = .pointer (some ⟨g, 0, none⟩) := by simpa using hp
  have h0 : w.cell? ⟨g, 0, none⟩ = some c0 := hr.1 0 (by simp)
  have h1 : w.cell? ⟨g, 1, none⟩ = some c1 := hr.1 1 (by simp)
  have h2 : w.cell? ⟨g, 2, none⟩ = some c2 := hr.1 2 (by simp)
  have h3 : w.cell? ⟨g, 3, none⟩ = some c3 := hr.1 3 (by simp)
  have h4 : w.cell? ⟨g, 4, none⟩ = some c4 := hr.1 4 (by simp)
  simp [results, h, hp', go_sem, h0, h1, h2, h3, h4]
/-- What a part of the document's step leaves: registers alone. -/
def AlP (w : World) (D : Dc) (s : Ms) (n : List Value) (e : Ending) (w' : World) : Prop := e = .returned (.agg n.toArray) ∧ IsD w' D s ∧ Only (fun j => j = D.db) w w'

theorem only_new {S : Nat → Prop} {w w1 : World} {g o : Nat} {v : Value} (h : Only S w w1) (hg : w.heap.size ≤ g) : Only S w (w1.setCell ⟨g, o, none⟩ v) :=
  ⟨h.os, h.tape, h.output, by rw [World.size_setCell]; exact h.size, fun j hj hs => by rw [Below.heap_setCell _ _ _ _ (by simp only; omega)]; exact h.block j hj hs⟩
theorem sn_set {a0 a1 a2 a3 a4 : Value} (i : Nat) (hi : i < 5) (d : Value) {w : World} {k : Nat} (h : rowG #[a0, a1, a2, a3, a4] w k) : rowG (#[a0, a1, a2, a3, a4].set! i d) (w.setCell ⟨k, i, none⟩ d) k := by
  have q1 : ∃ u, w.cell? ⟨k, i, none⟩ = some u := ⟨_, (h.1 i (by simpa using hi)).trans (Array.getElem?_eq_getElem (by simpa using hi))⟩
  obtain ⟨u, q1⟩ := q1
  refine ⟨fun j hj => ?_, fun j => by rw [World.frozen?_setCell]; exact h.2.1 j, by rw [World.size_setCell]; exact h.2.2⟩
  rw [cell_set _ q1 j]
  have hj' : j < 5 := by simpa using hj
  by_cases e : j = i
  · subst e
    rw [if_pos rfl]
    simp [Array.set!, hi]
  · rw [if_neg e, h.1 j (by simpa using hj')]
    simp [Array.set!, Ne.symm e]
theorem sn_five {a0 a1 a2 a3 a4 : Value} (c0 c1 c2 c3 c4 : Value) {w : World} {k : Nat} (h : rowG #[a0, a1, a2, a3, a4] w k) : rowG #[c0, c1, c2, c3, c4] (((((w.setCell ⟨k, 0, none⟩ c0).setCell ⟨k, 1, none⟩ c1).setCell ⟨k, 2, none⟩ c2).setCell ⟨k, 3, none⟩ c3).setCell ⟨k, 4, none⟩ c4) k :=
  sn_set 4 (by omega) c4 (sn_set 3 (by omega) c3 (sn_set 2 (by omega) c2 (sn_set 1 (by omega) c1 (sn_set 0 (by omega) c0 h))))
theorem sn_four {a0 a1 a2 a3 a4 : Value} (c1 c2 c3 c4 : Value) {w : World} {k : Nat} (h : rowG #[a0, a1, a2, a3, a4] w k) : rowG #[a0, c1, c2, c3, c4] ((((w.setCell ⟨k, 1, none⟩ c1).setCell ⟨k, 2, none⟩ c2).setCell ⟨k, 3, none⟩ c3).setCell ⟨k, 4, none⟩ c4) k :=
  sn_set 4 (by omega) c4 (sn_set 3 (by omega) c3 (sn_set 2 (by omega) c2 (sn_set 1 (by omega) c1 h)))
theorem sn_only (w : World) (k : Nat) (c0 c1 c2 c3 c4 : Value) : Only (fun j => j = k) w (((((w.setCell ⟨k, 0, none⟩ c0).setCell ⟨k, 1, none⟩ c1).setCell ⟨k, 2, none⟩ c2).setCell ⟨k, 3, none⟩ c3).setCell ⟨k, 4, none⟩ c4) := ((((only_one _ _ _ _).trans (only_one _ _ _ _)).trans (only_one _ _ _ _)).trans (only_one _ _ _ _)).trans (only_one _ _ _ _)
theorem sn_row {S : Nat → Prop} {C : Array Value} {w w' : World} {k : Nat} (ho : Only S w w') (hs : ¬ S k) (h : rowG C w k) : rowG C w' k := rowG_blk h (ho.block k h.2.2 hs) (Nat.lt_of_lt_of_le h.2.2 ho.size)

set_option maxRecDepth 100000 in
set_option maxHeartbeats 8000000 in
theorem alu_13 {w : World} {D : Dc} {s : Ms} (h : IsD w D s) (x : In) (p : Nat) (ho : 13 ≤ x.op ∧ x.op ≤ 13) (h1 : x.rd < 32) (h2 : x.rs1 < 32) (h3 : x.rs2 < 32) :
    Calls Tryz.prog 78 #[.pointer (some ⟨D.db, 0, none⟩), .agg #[.int .u8 (x.op : Nat), .int .u8 (x.rd : Nat), .int .u8 (x.rs1 : Nat), .int .u8 (x.rs2 : Nat), .int .i64 x.imm], .agg #[.int .u64 (p : Nat), .int .u8 1, .int .u64 0, .int .u64 0, .bool false]] w (AlP w D (s.lay x.rd (opv x.op (s.rv x.rs1) (s.rv x.rs2)) (s.rt x.rs1 || s.rt x.rs2)) [.int .u64 (p : Nat), .int .u8 4, .int .u64 (s.rv x.rs1 : Nat), .int .u64 (s.rv x.rs2 : Nat), .bool (s.rt x.rs1 || s.rt x.rs2)]) := by
  obtain ⟨t, ht⟩ : ∃ t, (s.rt x.rs1 || s.rt x.rs2) = t := ⟨_, rfl⟩
  rw [ht]
  have hop := fun w' => rop_any x.op (s.rv x.rs1) (s.rv x.rs2) (by omega) (h.ok.v _) (h.ok.v _) w'
  have hlt := opv_lt x.op _ _ (h.ok.v x.rs1) (h.ok.v x.rs2)
  have i1 : (0 : Int) ≤ (x.rs1 : Int) := by omega
  have i2 : (x.rs1 : Int) < 32 := by omega
  have i3 : (0 : Int) ≤ (x.rs2 : Int) := by omega
  have i4 : (x.rs2 : Int) < 32 := by omega
  have q1 : ¬ 14 < (x.op : Int) := by omega
  have q4 : ((x.op : Int) == 13) = true := by simp; omega
  have q5 : decide ((x.op : Int) = 13) = true := by simp; omega
  go_enter Tryz.func78, Tryz.ntmps78
  go_wp2
  obtain ⟨W1, hW1⟩ : ∃ W1, ((w.alloc (.cells #[.int .u8 (x.op : Nat), .int .u8 (x.rd : Nat), .int .u8 (x.rs1 : Nat), .int .u8 (x.rs2 : Nat), .int .i64 x.imm] 48)).alloc (.cells #[.int .u64 (p : Nat), .int .u8 1, .int .u64 0, .int .u64 0, .bool false] 82)).alloc (.cells #[.int .u64 0, .int .u8 0, .int .u64 0, .int .u64 0, .bool false] 82) = W1 := ⟨_, rfl⟩
  have hB1 : Below w.heap.size w W1 := by rw [← hW1]; exact aBelow (aBelow (aBelow (Below.refl _ _) _) _) _
  have RX : rowG #[.int .u8 (x.op : Nat), .int .u8 (x.rd : Nat), .int .u8 (x.rs1 : Nat), .int .u8 (x.rs2 : Nat), .int .i64 x.imm] W1 w.heap.size := by rw [← hW1]; exact rowG_alloc (rowG_alloc (rowG_new _ _ _) _) _
  have RS : rowG #[.int .u64 (p : Nat), .int .u8 1, .int .u64 0, .int .u64 0, .bool false] W1 (w.heap.size + 1) := by rw [← hW1]; exact rowG_alloc (rowG_at _ _ _ _ (by simp)) _
  have RZ : rowG #[.int .u64 0, .int .u8 0, .int .u64 0, .int .u64 0, .bool false] W1 (w.heap.size + 1 + 1) := by rw [← hW1]; exact rowG_at _ _ _ _ (by simp)
  rw [hW1]
  clear hW1
  have hD1 := h.of hB1
  have x2 := RX.1 2 (by simp)
  have x3 := RX.1 3 (by simp)
  have r1 := hD1.rv x.rs1 h2
  have r2 := hD1.rv x.rs2 h3
  refine region_below (by kernel_rfl) (by kernel_rfl) ?_
  repeat (first
    | go_big_quiet_skip
    | (refine BigFrame.wpQuiet_want (by kernel_rfl) fun K hK => ?_
       apply Exists.intro
       refine ⟨fun w' hb' => ?_, ?_⟩
       · have s0 := stay hb' x2
         have s1 := stay hb' x3
         have s2 := stay hb' r1
         have s3 := stay hb' r2
         go_simp
         first
           | exact rfl
           | exact ⟨rfl, hb'⟩
       go_simp
       refine hK _ ?_
       clear hK K))
  refine wpQuiet_nil ?_
  intro W2 hb2
  have hB2 := below_trans' hB1 (Nat.le_refl _) hb2
  have hD2 := hD1.of hb2
  have RX2 := rowG_b RX hb2
  have RS2 := rowG_b RS hb2
  have RZ2 := rowG_b RZ hb2
  have x2 := RX2.1 2 (by simp)
  have x3 := RX2.1 3 (by simp)
  have t1 := hD2.rt x.rs1 h2
  have t2 := hD2.rt x.rs2 h3
  have go3 : ∀ W3, Below W2.heap.size W2 W3 → IsD W3 D s ∧ rowG #[.int .u8 (x.op : Nat), .int .u8 (x.rd : Nat), .int .u8 (x.rs1 : Nat), .int .u8 (x.rs2 : Nat), .int .i64 x.imm] W3 w.heap.size ∧ rowG #[.int .u64 (p : Nat), .int .u8 1, .int .u64 0, .int .u64 0, .bool false] W3 (w.heap.size + 1) ∧ rowG #[.int .u64 0, .int .u8 0, .int .u64 0, .int .u64 0, .bool false] W3 (w.heap.size + 1 + 1) ∧ Below w.heap.size w W3 := fun W3 hb => ⟨hD2.of hb, rowG_b RX2 hb, rowG_b RS2 hb, rowG_b RZ2 hb, below_trans' hB2 (Nat.le_refl _) hb⟩
  clear RX RS RZ RX2 RS2 RZ2 r1 r2 hD1 hb2 hB1
  go_wp2
  cases hta : s.rt x.rs1
  · skip
    rw [hta] at t1 ht
    try (rw [Bool.false_or] at ht; rw [ht] at t2)
    try (rw [Bool.true_or] at ht; subst ht)
    refine region_below (by kernel_rfl) (by kernel_rfl) ?_
    repeat (first
      | go_big_quiet_skip
      | (refine BigFrame.wpQuiet_want (by kernel_rfl) fun K hK => ?_
         apply Exists.intro
         refine ⟨fun w' hb' => ?_, ?_⟩
         · have s0 := stay hb' x2
           have s1 := stay hb' x3
           have s2 := stay hb' t1
           have s3 := stay hb' t2
           go_simp
           first
             | exact rfl
             | exact ⟨rfl, hb'⟩
         go_simp
         refine hK _ ?_
         clear hK K))
    refine wpQuiet_nil ?_
    intro W3 hb3
    obtain ⟨hD3, RX, RS, RZ, hB3⟩ := go3 W3 hb3
    clear go3 x2 x3 t1 t2
    have x0 := RX.1 0 (by simp)
    have x1 := RX.1 1 (by simp)
    have lx := RX.2.2
    have ls := RS.2.2
    have lz := RZ.2.2
    have f1 := RS.2.1 1
    have f2 := RS.2.1 2
    have f3 := RS.2.1 3
    have f4 := RS.2.1 4
    have u1 := RS.1 1 (by simp)
    have u2 := RS.1 2 (by simp)
    have u3 := RS.1 3 (by simp)
    have u4 := RS.1 4 (by simp)
    have RS4 := sn_four (.int .u8 4) (.int .u64 (s.rv x.rs1 : Nat)) (.int .u64 (s.rv x.rs2 : Nat)) (.bool t) RS
    have hO4 : Only (fun j => j = w.heap.size + 1) W3 ((((W3.setCell ⟨w.heap.size + 1, 1, none⟩ (.int .u8 4)).setCell ⟨w.heap.size + 1, 2, none⟩ (.int .u64 (s.rv x.rs1 : Nat))).setCell ⟨w.heap.size + 1, 3, none⟩ (.int .u64 (s.rv x.rs2 : Nat))).setCell ⟨w.heap.size + 1, 4, none⟩ (.bool t)) := (((only_one _ _ _ _).trans (only_one _ _ _ _)).trans (only_one _ _ _ _)).trans (only_one _ _ _ _)
    have RX4 := sn_row hO4 (by omega) RX
    have RZ4 := sn_row hO4 (by omega) RZ
    have hD4 := hD3.only hO4 (fun j hj e => by have := h.all_lt hj; omega)
    have y1 := RX4.1 1 (by simp)
    have hSet := fun t => dset_any hD4 x.rd (opv x.op (s.rv x.rs1) (s.rv x.rs2)) t h1 hlt
    have hOp3 := hop ((((W3.setCell ⟨w.heap.size + 1, 1, none⟩ (.int .u8 4)).setCell ⟨w.heap.size + 1, 2, none⟩ (.int .u64 (s.rv x.rs1 : Nat))).setCell ⟨w.heap.size + 1, 3, none⟩ (.int .u64 (s.rv x.rs2 : Nat))).setCell ⟨w.heap.size + 1, 4, none⟩ (.bool t))
    rw [show ope x.op = 0 from if_pos ⟨by omega, by omega⟩] at hOp3
    have hdl := h.lt
    go_wp2_with (first
      | (go_at_call 107; (with_reducible refine hOp3.mono ?_); (rintro e w4 ⟨rfl, rfl⟩))
      | (go_at_call 24; (with_reducible refine (hSet _).mono ?_); (rintro e w5 ⟨rfl, hD5, hO5⟩); have RS5 := sn_row hO5 (by omega) RS4; have RZ5 := sn_row hO5 (by omega) RZ4; have s0 := RS5.1 0 (by simp); have s1 := RS5.1 1 (by simp); have s2 := RS5.1 2 (by simp); have s3 := RS5.1 3 (by simp); have s4 := RS5.1 4 (by simp); have z0 := RZ5.1 0 (by simp); have z1 := RZ5.1 1 (by simp); have z2 := RZ5.1 2 (by simp); have z3 := RZ5.1 3 (by simp); have z4 := RZ5.1 4 (by simp); have f0 := RZ5.2.1 0; have f1 := RZ5.2.1 1; have f2 := RZ5.2.1 2; have f3 := RZ5.2.1 3; have f4 := RZ5.2.1 4; have l5 := RZ5.2.2))
    have hO := (only_below (S := fun j => j = D.db) hB3)
    have hO := (only_new (only_new (only_new (only_new hO (show w.heap.size ≤ w.heap.size + 1 by omega)) (by omega)) (by omega)) (by omega)).trans hO5
    have hF := fun c0 c1 c2 c3 c4 => sn_only w5 (w.heap.size + 1 + 1) c0 c1 c2 c3 c4
    refine bodyPost_ret (res_s5 rfl _ _ (w.heap.size + 1 + 1) _ _ _ _ _ rfl (sn_five _ _ _ _ _ RZ5)) rfl ⟨rfl, hD5.only (hF _ _ _ _ _) (fun j hj e => by have := h.all_lt hj; omega), only_new (only_new (only_new (only_new (only_new hO (by omega)) (by omega)) (by omega)) (by omega)) (by omega)⟩
  · skip
    rw [hta] at t1 ht
    try (rw [Bool.false_or] at ht; rw [ht] at t2)
    try (rw [Bool.true_or] at ht; subst ht)
    refine region_below (by kernel_rfl) (by kernel_rfl) ?_
    repeat (first
      | go_big_quiet_skip
      | (refine BigFrame.wpQuiet_want (by kernel_rfl) fun K hK => ?_
         apply Exists.intro
         refine ⟨fun w' hb' => ?_, ?_⟩
         · have s0 := stay hb' x2
           have s1 := stay hb' x3
           have s2 := stay hb' t1
           have s3 := stay hb' t2
           go_simp
           first
             | exact rfl
             | exact ⟨rfl, hb'⟩
         go_simp
         refine hK _ ?_
         clear hK K))
    refine wpQuiet_nil ?_
    intro W3 hb3
    obtain ⟨hD3, RX, RS, RZ, hB3⟩ := go3 W3 hb3
    clear go3 x2 x3 t1 t2
    have x0 := RX.1 0 (by simp)
    have x1 := RX.1 1 (by simp)
    have lx := RX.2.2
    have ls := RS.2.2
    have lz := RZ.2.2
    have f1 := RS.2.1 1
    have f2 := RS.2.1 2
    have f3 := RS.2.1 3
    have f4 := RS.2.1 4
    have u1 := RS.1 1 (by simp)
    have u2 := RS.1 2 (by simp)
    have u3 := RS.1 3 (by simp)
    have u4 := RS.1 4 (by simp)
    have RS4 := sn_four (.int .u8 4) (.int .u64 (s.rv x.rs1 : Nat)) (.int .u64 (s.rv x.rs2 : Nat)) (.bool true) RS
    have hO4 : Only (fun j => j = w.heap.size + 1) W3 ((((W3.setCell ⟨w.heap.size + 1, 1, none⟩ (.int .u8 4)).setCell ⟨w.heap.size + 1, 2, none⟩ (.int .u64 (s.rv x.rs1 : Nat))).setCell ⟨w.heap.size + 1, 3, none⟩ (.int .u64 (s.rv x.rs2 : Nat))).setCell ⟨w.heap.size + 1, 4, none⟩ (.bool true)) := (((only_one _ _ _ _).trans (only_one _ _ _ _)).trans (only_one _ _ _ _)).trans (only_one _ _ _ _)
    have RX4 := sn_row hO4 (by omega) RX
    have RZ4 := sn_row hO4 (by omega) RZ
    have hD4 := hD3.only hO4 (fun j hj e => by have := h.all_lt hj; omega)
    have y1 := RX4.1 1 (by simp)
    have hSet := fun t => dset_any hD4 x.rd (opv x.op (s.rv x.rs1) (s.rv x.rs2)) t h1 hlt
    have hOp3 := hop ((((W3.setCell ⟨w.heap.size + 1, 1, none⟩ (.int .u8 4)).setCell ⟨w.heap.size + 1, 2, none⟩ (.int .u64 (s.rv x.rs1 : Nat))).setCell ⟨w.heap.size + 1, 3, none⟩ (.int .u64 (s.rv x.rs2 : Nat))).setCell ⟨w.heap.size + 1, 4, none⟩ (.bool true))
    rw [show ope x.op = 0 from if_pos ⟨by omega, by omega⟩] at hOp3
    have hdl := h.lt
    go_wp2_with (first
      | (go_at_call 107; (with_reducible refine hOp3.mono ?_); (rintro e w4 ⟨rfl, rfl⟩))
      | (go_at_call 24; (with_reducible refine (hSet _).mono ?_); (rintro e w5 ⟨rfl, hD5, hO5⟩); have RS5 := sn_row hO5 (by omega) RS4; have RZ5 := sn_row hO5 (by omega) RZ4; have s0 := RS5.1 0 (by simp); have s1 := RS5.1 1 (by simp); have s2 := RS5.1 2 (by simp); have s3 := RS5.1 3 (by simp); have s4 := RS5.1 4 (by simp); have z0 := RZ5.1 0 (by simp); have z1 := RZ5.1 1 (by simp); have z2 := RZ5.1 2 (by simp); have z3 := RZ5.1 3 (by simp); have z4 := RZ5.1 4 (by simp); have f0 := RZ5.2.1 0; have f1 := RZ5.2.1 1; have f2 := RZ5.2.1 2; have f3 := RZ5.2.1 3; have f4 := RZ5.2.1 4; have l5 := RZ5.2.2))
    have hO := (only_below (S := fun j => j = D.db) hB3)
    have hO := (only_new (only_new (only_new (only_new hO (show w.heap.size ≤ w.heap.size + 1 by omega)) (by omega)) (by omega)) (by omega)).trans hO5
    have hF := fun c0 c1 c2 c3 c4 => sn_only w5 (w.heap.size + 1 + 1) c0 c1 c2 c3 c4
    refine bodyPost_ret (res_s5 rfl _ _ (w.heap.size + 1 + 1) _ _ _ _ _ rfl (sn_five _ _ _ _ _ RZ5)) rfl ⟨rfl, hD5.only (hF _ _ _ _ _) (fun j hj e => by have := h.all_lt hj; omega), only_new (only_new (only_new (only_new (only_new hO (by omega)) (by omega)) (by omega)) (by omega)) (by omega)⟩
set_option maxRecDepth 100000 in
set_option maxHeartbeats 8000000 in
theorem alu_14 {w : World} {D : Dc} {s : Ms} (h : IsD w D s) (x : In) (p : Nat) (ho : 14 ≤ x.op ∧ x.op ≤ 14) (h1 : x.rd < 32) (h2 : x.rs1 < 32) (h3 : x.rs2 < 32) :
    Calls Tryz.prog 78 #[.pointer (some ⟨D.db, 0, none⟩), .agg #[.int .u8 (x.op : Nat), .int .u8 (x.rd : Nat), .int .u8 (x.rs1 : Nat), .int .u8 (x.rs2 : Nat), .int .i64 x.imm], .agg #[.int .u64 (p : Nat), .int .u8 1, .int .u64 0, .int .u64 0, .bool false]] w (AlP w D (s.lay x.rd (opv x.op (s.rv x.rs1) (s.rv x.rs2)) (s.rt x.rs1 || s.rt x.rs2)) [.int .u64 (p : Nat), .int .u8 4, .int .u64 (s.rv x.rs1 : Nat), .int .u64 (s.rv x.rs2 : Nat), .bool (s.rt x.rs1 || s.rt x.rs2)]) := by
  obtain ⟨t, ht⟩ : ∃ t, (s.rt x.rs1 || s.rt x.rs2) = t := ⟨_, rfl⟩
  rw [ht]
  have hop := fun w' => rop_any x.op (s.rv x.rs1) (s.rv x.rs2) (by omega) (h.ok.v _) (h.ok.v _) w'
  have hlt := opv_lt x.op _ _ (h.ok.v x.rs1) (h.ok.v x.rs2)
  have i1 : (0 : Int) ≤ (x.rs1 : Int) := by omega
  have i2 : (x.rs1 : Int) < 32 := by omega
  have i3 : (0 : Int) ≤ (x.rs2 : Int) := by omega
  have i4 : (x.rs2 : Int) < 32 := by omega
  have q1 : ¬ 14 < (x.op : Int) := by omega
  have q2 : ¬ (x.op : Int) = 13 := by omega
  have q4 : ((x.op : Int) == 13) = false := by simp; omega
  have q5 : ((x.op : Int) == 14) = true := by simp; omega
  have q6 : decide ((x.op : Int) = 14) = true := by simp; omega
  go_enter Tryz.func78, Tryz.ntmps78
  go_wp2
  obtain ⟨W1, hW1⟩ : ∃ W1, ((w.alloc (.cells #[.int .u8 (x.op : Nat), .int .u8 (x.rd : Nat), .int .u8 (x.rs1 : Nat), .int .u8 (x.rs2 : Nat), .int .i64 x.imm] 48)).alloc (.cells #[.int .u64 (p : Nat), .int .u8 1, .int .u64 0, .int .u64 0, .bool false] 82)).alloc (.cells #[.int .u64 0, .int .u8 0, .int .u64 0, .int .u64 0, .bool false] 82) = W1 := ⟨_, rfl⟩
  have hB1 : Below w.heap.size w W1 := by rw [← hW1]; exact aBelow (aBelow (aBelow (Below.refl _ _) _) _) _
  have RX : rowG #[.int .u8 (x.op : Nat), .int .u8 (x.rd : Nat), .int .u8 (x.rs1 : Nat), .int .u8 (x.rs2 : Nat), .int .i64 x.imm] W1 w.heap.size := by rw [← hW1]; exact rowG_alloc (rowG_alloc (rowG_new _ _ _) _) _
  have RS : rowG #[.int .u64 (p : Nat), .int .u8 1, .int .u64 0, .int .u64 0, .bool false] W1 (w.heap.size + 1) := by rw [← hW1]; exact rowG_alloc (rowG_at _ _ _ _ (by simp)) _
  have RZ : rowG #[.int .u64 0, .int .u8 0, .int .u64 0, .int .u64 0, .bool false] W1 (w.heap.size + 1 + 1) := by rw [← hW1]; exact rowG_at _ _ _ _ (by simp)
  rw [hW1]
  clear hW1
  have hD1 := h.of hB1
  have x2 := RX.1 2 (by simp)
  have x3 := RX.1 3 (by simp)
  have r1 := hD1.rv x.rs1 h2
  have r2 := hD1.rv x.rs2 h3
  refine region_below (by kernel_rfl) (by kernel_rfl) ?_
  repeat (first
    | go_big_quiet_skip
    | (refine BigFrame.wpQuiet_want (by kernel_rfl) fun K hK => ?_
       apply Exists.intro
       refine ⟨fun w' hb' => ?_, ?_⟩
       · have s0 := stay hb' x2
         have s1 := stay hb' x3
         have s2 := stay hb' r1
         have s3 := stay hb' r2
         go_simp
         first
           | exact rfl
           | exact ⟨rfl, hb'⟩
       go_simp
       refine hK _ ?_
       clear hK K))
  refine wpQuiet_nil ?_
  intro W2 hb2
  have hB2 := below_trans' hB1 (Nat.le_refl _) hb2
  have hD2 := hD1.of hb2
  have RX2 := rowG_b RX hb2
  have RS2 := rowG_b RS hb2
  have RZ2 := rowG_b RZ hb2
  have x2 := RX2.1 2 (by simp)
  have x3 := RX2.1 3 (by simp)
  have t1 := hD2.rt x.rs1 h2
  have t2 := hD2.rt x.rs2 h3
  have go3 : ∀ W3, Below W2.heap.size W2 W3 → IsD W3 D s ∧ rowG #[.int .u8 (x.op : Nat), .int .u8 (x.rd : Nat), .int .u8 (x.rs1 : Nat), .int .u8 (x.rs2 : Nat), .int .i64 x.imm] W3 w.heap.size ∧ rowG #[.int .u64 (p : Nat), .int .u8 1, .int .u64 0, .int .u64 0, .bool false] W3 (w.heap.size + 1) ∧ rowG #[.int .u64 0, .int .u8 0, .int .u64 0, .int .u64 0, .bool false] W3 (w.heap.size + 1 + 1) ∧ Below w.heap.size w W3 := fun W3 hb => ⟨hD2.of hb, rowG_b RX2 hb, rowG_b RS2 hb, rowG_b RZ2 hb, below_trans' hB2 (Nat.le_refl _) hb⟩
  clear RX RS RZ RX2 RS2 RZ2 r1 r2 hD1 hb2 hB1
  go_wp2
  cases hta : s.rt x.rs1
  · skip
    rw [hta] at t1 ht
    try (rw [Bool.false_or] at ht; rw [ht] at t2)
    try (rw [Bool.true_or] at ht; subst ht)
    refine region_below (by kernel_rfl) (by kernel_rfl) ?_
    repeat (first
      | go_big_quiet_skip
      | (refine BigFrame.wpQuiet_want (by kernel_rfl) fun K hK => ?_
         apply Exists.intro
         refine ⟨fun w' hb' => ?_, ?_⟩
         · have s0 := stay hb' x2
           have s1 := stay hb' x3
           have s2 := stay hb' t1
           have s3 := stay hb' t2
           go_simp
           first
             | exact rfl
             | exact ⟨rfl, hb'⟩
         go_simp
         refine hK _ ?_
         clear hK K))
    refine wpQuiet_nil ?_
    intro W3 hb3
    obtain ⟨hD3, RX, RS, RZ, hB3⟩ := go3 W3 hb3
    clear go3 x2 x3 t1 t2
    have x0 := RX.1 0 (by simp)
    have x1 := RX.1 1 (by simp)
    have lx := RX.2.2
    have ls := RS.2.2
    have lz := RZ.2.2
    have f1 := RS.2.1 1
    have f2 := RS.2.1 2
    have f3 := RS.2.1 3
    have f4 := RS.2.1 4
    have u1 := RS.1 1 (by simp)
    have u2 := RS.1 2 (by simp)
    have u3 := RS.1 3 (by simp)
    have u4 := RS.1 4 (by simp)
    have RS4 := sn_four (.int .u8 4) (.int .u64 (s.rv x.rs1 : Nat)) (.int .u64 (s.rv x.rs2 : Nat)) (.bool t) RS
    have hO4 : Only (fun j => j = w.heap.size + 1) W3 ((((W3.setCell ⟨w.heap.size + 1, 1, none⟩ (.int .u8 4)).setCell ⟨w.heap.size + 1, 2, none⟩ (.int .u64 (s.rv x.rs1 : Nat))).setCell ⟨w.heap.size + 1, 3, none⟩ (.int .u64 (s.rv x.rs2 : Nat))).setCell ⟨w.heap.size + 1, 4, none⟩ (.bool t)) := (((only_one _ _ _ _).trans (only_one _ _ _ _)).trans (only_one _ _ _ _)).trans (only_one _ _ _ _)
    have RX4 := sn_row hO4 (by omega) RX
    have RZ4 := sn_row hO4 (by omega) RZ
    have hD4 := hD3.only hO4 (fun j hj e => by have := h.all_lt hj; omega)
    have y1 := RX4.1 1 (by simp)
    have hSet := fun t => dset_any hD4 x.rd (opv x.op (s.rv x.rs1) (s.rv x.rs2)) t h1 hlt
    have hOp3 := hop ((((W3.setCell ⟨w.heap.size + 1, 1, none⟩ (.int .u8 4)).setCell ⟨w.heap.size + 1, 2, none⟩ (.int .u64 (s.rv x.rs1 : Nat))).setCell ⟨w.heap.size + 1, 3, none⟩ (.int .u64 (s.rv x.rs2 : Nat))).setCell ⟨w.heap.size + 1, 4, none⟩ (.bool t))
    rw [show ope x.op = 0 from if_pos ⟨by omega, by omega⟩] at hOp3
    have hdl := h.lt
    go_wp2_with (first
      | (go_at_call 107; (with_reducible refine hOp3.mono ?_); (rintro e w4 ⟨rfl, rfl⟩))
      | (go_at_call 24; (with_reducible refine (hSet _).mono ?_); (rintro e w5 ⟨rfl, hD5, hO5⟩); have RS5 := sn_row hO5 (by omega) RS4; have RZ5 := sn_row hO5 (by omega) RZ4; have s0 := RS5.1 0 (by simp); have s1 := RS5.1 1 (by simp); have s2 := RS5.1 2 (by simp); have s3 := RS5.1 3 (by simp); have s4 := RS5.1 4 (by simp); have z0 := RZ5.1 0 (by simp); have z1 := RZ5.1 1 (by simp); have z2 := RZ5.1 2 (by simp); have z3 := RZ5.1 3 (by simp); have z4 := RZ5.1 4 (by simp); have f0 := RZ5.2.1 0; have f1 := RZ5.2.1 1; have f2 := RZ5.2.1 2; have f3 := RZ5.2.1 3; have f4 := RZ5.2.1 4; have l5 := RZ5.2.2))
    have hO := (only_below (S := fun j => j = D.db) hB3)
    have hO := (only_new (only_new (only_new (only_new hO (show w.heap.size ≤ w.heap.size + 1 by omega)) (by omega)) (by omega)) (by omega)).trans hO5
    have hF := fun c0 c1 c2 c3 c4 => sn_only w5 (w.heap.size + 1 + 1) c0 c1 c2 c3 c4
    refine bodyPost_ret (res_s5 rfl _ _ (w.heap.size + 1 + 1) _ _ _ _ _ rfl (sn_five _ _ _ _ _ RZ5)) rfl ⟨rfl, hD5.only (hF _ _ _ _ _) (fun j hj e => by have := h.all_lt hj; omega), only_new (only_new (only_new (only_new (only_new hO (by omega)) (by omega)) (by omega)) (by omega)) (by omega)⟩
  · skip
    rw [hta] at t1 ht
    try (rw [Bool.false_or] at ht; rw [ht] at t2)
    try (rw [Bool.true_or] at ht; subst ht)
    refine region_below (by kernel_rfl) (by kernel_rfl) ?_
    repeat (first
      | go_big_quiet_skip
      | (refine BigFrame.wpQuiet_want (by kernel_rfl) fun K hK => ?_
         apply Exists.intro
         refine ⟨fun w' hb' => ?_, ?_⟩
         · have s0 := stay hb' x2
           have s1 := stay hb' x3
           have s2 := stay hb' t1
           have s3 := stay hb' t2
           go_simp
           first
             | exact rfl
             | exact ⟨rfl, hb'⟩
         go_simp
         refine hK _ ?_
         clear hK K))
    refine wpQuiet_nil ?_
    intro W3 hb3
    obtain ⟨hD3, RX, RS, RZ, hB3⟩ := go3 W3 hb3
    clear go3 x2 x3 t1 t2
    have x0 := RX.1 0 (by simp)
    have x1 := RX.1 1 (by simp)
    have lx := RX.2.2
    have ls := RS.2.2
    have lz := RZ.2.2
    have f1 := RS.2.1 1
    have f2 := RS.2.1 2
    have f3 := RS.2.1 3
    have f4 := RS.2.1 4
    have u1 := RS.1 1 (by simp)
    have u2 := RS.1 2 (by simp)
    have u3 := RS.1 3 (by simp)
    have u4 := RS.1 4 (by simp)
    have RS4 := sn_four (.int .u8 4) (.int .u64 (s.rv x.rs1 : Nat)) (.int .u64 (s.rv x.rs2 : Nat)) (.bool true) RS
    have hO4 : Only (fun j => j = w.heap.size + 1) W3 ((((W3.setCell ⟨w.heap.size + 1, 1, none⟩ (.int .u8 4)).setCell ⟨w.heap.size + 1, 2, none⟩ (.int .u64 (s.rv x.rs1 : Nat))).setCell ⟨w.heap.size + 1, 3, none⟩ (.int .u64 (s.rv x.rs2 : Nat))).setCell ⟨w.heap.size + 1, 4, none⟩ (.bool true)) := (((only_one _ _ _ _).trans (only_one _ _ _ _)).trans (only_one _ _ _ _)).trans (only_one _ _ _ _)
    have RX4 := sn_row hO4 (by omega) RX
    have RZ4 := sn_row hO4 (by omega) RZ
    have hD4 := hD3.only hO4 (fun j hj e => by have := h.all_lt hj; omega)
    have y1 := RX4.1 1 (by simp)
    have hSet := fun t => dset_any hD4 x.rd (opv x.op (s.rv x.rs1) (s.rv x.rs2)) t h1 hlt
    have hOp3 := hop ((((W3.setCell ⟨w.heap.size + 1, 1, none⟩ (.int .u8 4)).setCell ⟨w.heap.size + 1, 2, none⟩ (.int .u64 (s.rv x.rs1 : Nat))).setCell ⟨w.heap.size + 1, 3, none⟩ (.int .u64 (s.rv x.rs2 : Nat))).setCell ⟨w.heap.size + 1, 4, none⟩ (.bool true))
    rw [show ope x.op = 0 from if_pos ⟨by omega, by omega⟩] at hOp3
    have hdl := h.lt
    go_wp2_with (first
      | (go_at_call 107; (with_reducible refine hOp3.mono ?_); (rintro e w4 ⟨rfl, rfl⟩))
      | (go_at_call 24; (with_reducible refine (hSet _).mono ?_); (rintro e w5 ⟨rfl, hD5, hO5⟩); have RS5 := sn_row hO5 (by omega) RS4; have RZ5 := sn_row hO5 (by omega) RZ4; have s0 := RS5.1 0 (by simp); have s1 := RS5.1 1 (by simp); have s2 := RS5.1 2 (by simp); have s3 := RS5.1 3 (by simp); have s4 := RS5.1 4 (by simp); have z0 := RZ5.1 0 (by simp); have z1 := RZ5.1 1 (by simp); have z2 := RZ5.1 2 (by simp); have z3 := RZ5.1 3 (by simp); have z4 := RZ5.1 4 (by simp); have f0 := RZ5.2.1 0; have f1 := RZ5.2.1 1; have f2 := RZ5.2.1 2; have f3 := RZ5.2.1 3; have f4 := RZ5.2.1 4; have l5 := RZ5.2.2))
    have hO := (only_below (S := fun j => j = D.db) hB3)
    have hO := (only_new (only_new (only_new (only_new hO (show w.heap.size ≤ w.heap.size + 1 by omega)) (by omega)) (by omega)) (by omega)).trans hO5
    have hF := fun c0 c1 c2 c3 c4 => sn_only w5 (w.heap.size + 1 + 1) c0 c1 c2 c3 c4
    refine bodyPost_ret (res_s5 rfl _ _ (w.heap.size + 1 + 1) _ _ _ _ _ rfl (sn_five _ _ _ _ _ RZ5)) rfl ⟨rfl, hD5.only (hF _ _ _ _ _) (fun j hj e => by have := h.all_lt hj; omega), only_new (only_new (only_new (only_new (only_new hO (by omega)) (by omega)) (by omega)) (by omega)) (by omega)⟩
set_option maxRecDepth 100000 in
set_option maxHeartbeats 8000000 in
theorem alu_two {w : World} {D : Dc} {s : Ms} (h : IsD w D s) (x : In) (p : Nat) (ho : 1 ≤ x.op ∧ x.op ≤ 12) (h1 : x.rd < 32) (h2 : x.rs1 < 32) (h3 : x.rs2 < 32) :
    Calls Tryz.prog 78 #[.pointer (some ⟨D.db, 0, none⟩), .agg #[.int .u8 (x.op : Nat), .int .u8 (x.rd : Nat), .int .u8 (x.rs1 : Nat), .int .u8 (x.rs2 : Nat), .int .i64 x.imm], .agg #[.int .u64 (p : Nat), .int .u8 1, .int .u64 0, .int .u64 0, .bool false]] w (AlP w D (s.lay x.rd (opv x.op (s.rv x.rs1) (s.rv x.rs2)) (s.rt x.rs1 || s.rt x.rs2)) [.int .u64 (p : Nat), .int .u8 1, .int .u64 0, .int .u64 0, .bool false]) := by
  obtain ⟨t, ht⟩ : ∃ t, (s.rt x.rs1 || s.rt x.rs2) = t := ⟨_, rfl⟩
  rw [ht]
  have hop := fun w' => rop_any x.op (s.rv x.rs1) (s.rv x.rs2) (by omega) (h.ok.v _) (h.ok.v _) w'
  have hlt := opv_lt x.op _ _ (h.ok.v x.rs1) (h.ok.v x.rs2)
  have i1 : (0 : Int) ≤ (x.rs1 : Int) := by omega
  have i2 : (x.rs1 : Int) < 32 := by omega
  have i3 : (0 : Int) ≤ (x.rs2 : Int) := by omega
  have i4 : (x.rs2 : Int) < 32 := by omega
  have q1 : ¬ 14 < (x.op : Int) := by omega
  have q2 : ¬ (x.op : Int) = 13 := by omega
  have q3 : ¬ (x.op : Int) = 14 := by omega
  have q4 : ((x.op : Int) == 13) = false := by simp; omega
  have q5 : ((x.op : Int) == 14) = false := by simp; omega
  go_enter Tryz.func78, Tryz.ntmps78
  go_wp2
  obtain ⟨W1, hW1⟩ : ∃ W1, ((w.alloc (.cells #[.int .u8 (x.op : Nat), .int .u8 (x.rd : Nat), .int .u8 (x.rs1 : Nat), .int .u8 (x.rs2 : Nat), .int .i64 x.imm] 48)).alloc (.cells #[.int .u64 (p : Nat), .int .u8 1, .int .u64 0, .int .u64 0, .bool false] 82)).alloc (.cells #[.int .u64 0, .int .u8 0, .int .u64 0, .int .u64 0, .bool false] 82) = W1 := ⟨_, rfl⟩
  have hB1 : Below w.heap.size w W1 := by rw [← hW1]; exact aBelow (aBelow (aBelow (Below.refl _ _) _) _) _
  have RX : rowG #[.int .u8 (x.op : Nat), .int .u8 (x.rd : Nat), .int .u8 (x.rs1 : Nat), .int .u8 (x.rs2 : Nat), .int .i64 x.imm] W1 w.heap.size := by rw [← hW1]; exact rowG_alloc (rowG_alloc (rowG_new _ _ _) _) _
  have RS : rowG #[.int .u64 (p : Nat), .int .u8 1, .int .u64 0, .int .u64 0, .bool false] W1 (w.heap.size + 1) := by rw [← hW1]; exact rowG_alloc (rowG_at _ _ _ _ (by simp)) _
  have RZ : rowG #[.int .u64 0, .int .u8 0, .int .u64 0, .int .u64 0, .bool false] W1 (w.heap.size + 1 + 1) := by rw [← hW1]; exact rowG_at _ _ _ _ (by simp)
  rw [hW1]
  clear hW1
  have hD1 := h.of hB1
  have x2 := RX.1 2 (by simp)
  have x3 := RX.1 3 (by simp)
  have r1 := hD1.rv x.rs1 h2
  have r2 := hD1.rv x.rs2 h3
  refine region_below (by kernel_rfl) (by kernel_rfl) ?_
  repeat (first
    | go_big_quiet_skip
    | (refine BigFrame.wpQuiet_want (by kernel_rfl) fun K hK => ?_
       apply Exists.intro
       refine ⟨fun w' hb' => ?_, ?_⟩
       · have s0 := stay hb' x2
         have s1 := stay hb' x3
         have s2 := stay hb' r1
         have s3 := stay hb' r2
         go_simp
         first
           | exact rfl
           | exact ⟨rfl, hb'⟩
       go_simp
       refine hK _ ?_
       clear hK K))
  refine wpQuiet_nil ?_
  intro W2 hb2
  have hB2 := below_trans' hB1 (Nat.le_refl _) hb2
  have hD2 := hD1.of hb2
  have RX2 := rowG_b RX hb2
  have RS2 := rowG_b RS hb2
  have RZ2 := rowG_b RZ hb2
  have x2 := RX2.1 2 (by simp)
  have x3 := RX2.1 3 (by simp)
  have t1 := hD2.rt x.rs1 h2
  have t2 := hD2.rt x.rs2 h3
  have go3 : ∀ W3, Below W2.heap.size W2 W3 → IsD W3 D s ∧ rowG #[.int .u8 (x.op : Nat), .int .u8 (x.rd : Nat), .int .u8 (x.rs1 : Nat), .int .u8 (x.rs2 : Nat), .int .i64 x.imm] W3 w.heap.size ∧ rowG #[.int .u64 (p : Nat), .int .u8 1, .int .u64 0, .int .u64 0, .bool false] W3 (w.heap.size + 1) ∧ rowG #[.int .u64 0, .int .u8 0, .int .u64 0, .int .u64 0, .bool false] W3 (w.heap.size + 1 + 1) ∧ Below w.heap.size w W3 := fun W3 hb => ⟨hD2.of hb, rowG_b RX2 hb, rowG_b RS2 hb, rowG_b RZ2 hb, below_trans' hB2 (Nat.le_refl _) hb⟩
  clear RX RS RZ RX2 RS2 RZ2 r1 r2 hD1 hb2 hB1
  go_wp2
  cases hta : s.rt x.rs1
  all_goals
    rw [hta] at t1 ht
    try (rw [Bool.false_or] at ht; rw [ht] at t2)
    try (rw [Bool.true_or] at ht; subst ht)
    refine region_below (by kernel_rfl) (by kernel_rfl) ?_
    repeat (first
      | go_big_quiet_skip
      | (refine BigFrame.wpQuiet_want (by kernel_rfl) fun K hK => ?_
         apply Exists.intro
         refine ⟨fun w' hb' => ?_, ?_⟩
         · have s0 := stay hb' x2
           have s1 := stay hb' x3
           have s2 := stay hb' t1
           have s3 := stay hb' t2
           go_simp
           first
             | exact rfl
             | exact ⟨rfl, hb'⟩
         go_simp
         refine hK _ ?_
         clear hK K))
    refine wpQuiet_nil ?_
    intro W3 hb3
    obtain ⟨hD3, RX, RS, RZ, hB3⟩ := go3 W3 hb3
    clear go3 x2 x3 t1 t2
    have x0 := RX.1 0 (by simp)
    have x1 := RX.1 1 (by simp)
    have lx := RX.2.2
    have ls := RS.2.2
    have lz := RZ.2.2
    have hSet := fun t => dset_any hD3 x.rd (opv x.op (s.rv x.rs1) (s.rv x.rs2)) t h1 hlt
    have hOp3 := hop W3
    rw [show ope x.op = 0 from if_pos ⟨by omega, by omega⟩] at hOp3
    have hdl := h.lt
    go_wp2_with (first
      | (go_at_call 107; (with_reducible refine hOp3.mono ?_); (rintro e w4 ⟨rfl, rfl⟩))
      | (go_at_call 24; (with_reducible refine (hSet _).mono ?_); (rintro e w5 ⟨rfl, hD5, hO5⟩); have RS5 := sn_row hO5 (by omega) RS; have RZ5 := sn_row hO5 (by omega) RZ; have s0 := RS5.1 0 (by simp); have s1 := RS5.1 1 (by simp); have s2 := RS5.1 2 (by simp); have s3 := RS5.1 3 (by simp); have s4 := RS5.1 4 (by simp); have z0 := RZ5.1 0 (by simp); have z1 := RZ5.1 1 (by simp); have z2 := RZ5.1 2 (by simp); have z3 := RZ5.1 3 (by simp); have z4 := RZ5.1 4 (by simp); have f0 := RZ5.2.1 0; have f1 := RZ5.2.1 1; have f2 := RZ5.2.1 2; have f3 := RZ5.2.1 3; have f4 := RZ5.2.1 4; have l5 := RZ5.2.2))
    have hO := (only_below (S := fun j => j = D.db) hB3).trans hO5
    have hF := fun c0 c1 c2 c3 c4 => sn_only w5 (w.heap.size + 1 + 1) c0 c1 c2 c3 c4
    refine bodyPost_ret (res_s5 rfl _ _ (w.heap.size + 1 + 1) _ _ _ _ _ rfl (sn_five _ _ _ _ _ RZ5)) rfl ⟨rfl, hD5.only (hF _ _ _ _ _) (fun j hj e => by have := h.all_lt hj; omega), only_new (only_new (only_new (only_new (only_new hO (by omega)) (by omega)) (by omega)) (by omega)) (by omega)⟩
set_option maxRecDepth 100000 in
set_option maxHeartbeats 8000000 in
theorem alu_num {w : World} {D : Dc} {s : Ms} (h : IsD w D s) (x : In) (p : Nat) (ho : 15 ≤ x.op ∧ x.op ≤ 22) (h1 : x.rd < 32) (h2 : x.rs1 < 32) (h3 : x.rs2 < 32) :
    Calls Tryz.prog 78 #[.pointer (some ⟨D.db, 0, none⟩), .agg #[.int .u8 (x.op : Nat), .int .u8 (x.rd : Nat), .int .u8 (x.rs1 : Nat), .int .u8 (x.rs2 : Nat), .int .i64 x.imm], .agg #[.int .u64 (p : Nat), .int .u8 1, .int .u64 0, .int .u64 0, .bool false]] w (AlP w D (s.lay x.rd (opv (likeN x.op) (s.rv x.rs1) (uw x.imm)) (s.rt x.rs1)) [.int .u64 (p : Nat), .int .u8 1, .int .u64 0, .int .u64 0, .bool false]) := by
  have hLk := like_any x.op ho
  obtain ⟨L, hL⟩ : ∃ L, likeN x.op = L := ⟨_, rfl⟩
  have hL1 : 1 ≤ L ∧ L ≤ 12 := by
    rw [← hL]
    exact (by decide : ∀ k < 23, 15 ≤ k → 1 ≤ likeN k ∧ likeN k ≤ 12) x.op (by omega) ho.1
  rw [hL] at hLk ⊢
  clear hL
  obtain ⟨t, ht⟩ : ∃ t, (s.rt x.rs1 || s.rt x.rs2) = t := ⟨_, rfl⟩
  obtain ⟨tz, htz⟩ : ∃ z, s.rt x.rs1 = z := ⟨_, rfl⟩
  have ht' := ht
  rw [htz]
  have hu := uw_wrap x.imm
  have hop := fun w' => rop_any L (s.rv x.rs1) (uw x.imm) (by omega) (h.ok.v _) (uw_lt _) w'
  have hlt := opv_lt L _ _ (h.ok.v x.rs1) (uw_lt x.imm)
  have i1 : (0 : Int) ≤ (x.rs1 : Int) := by omega
  have i2 : (x.rs1 : Int) < 32 := by omega
  have i3 : (0 : Int) ≤ (x.rs2 : Int) := by omega
  have i4 : (x.rs2 : Int) < 32 := by omega
  have q1 : 14 < (x.op : Int) := by omega
  have q2 : ¬ (L : Int) = 13 := by omega
  have q3 : ¬ (L : Int) = 14 := by omega
  have q4 : ((L : Int) == 13) = false := by simp; omega
  have q5 : ((L : Int) == 14) = false := by simp; omega
  go_enter Tryz.func78, Tryz.ntmps78
  go_wp2
  obtain ⟨W1, hW1⟩ : ∃ W1, ((w.alloc (.cells #[.int .u8 (x.op : Nat), .int .u8 (x.rd : Nat), .int .u8 (x.rs1 : Nat), .int .u8 (x.rs2 : Nat), .int .i64 x.imm] 48)).alloc (.cells #[.int .u64 (p : Nat), .int .u8 1, .int .u64 0, .int .u64 0, .bool false] 82)).alloc (.cells #[.int .u64 0, .int .u8 0, .int .u64 0, .int .u64 0, .bool false] 82) = W1 := ⟨_, rfl⟩
  have hB1 : Below w.heap.size w W1 := by rw [← hW1]; exact aBelow (aBelow (aBelow (Below.refl _ _) _) _) _
  have RX : rowG #[.int .u8 (x.op : Nat), .int .u8 (x.rd : Nat), .int .u8 (x.rs1 : Nat), .int .u8 (x.rs2 : Nat), .int .i64 x.imm] W1 w.heap.size := by rw [← hW1]; exact rowG_alloc (rowG_alloc (rowG_new _ _ _) _) _
  have RS : rowG #[.int .u64 (p : Nat), .int .u8 1, .int .u64 0, .int .u64 0, .bool false] W1 (w.heap.size + 1) := by rw [← hW1]; exact rowG_alloc (rowG_at _ _ _ _ (by simp)) _
  have RZ : rowG #[.int .u64 0, .int .u8 0, .int .u64 0, .int .u64 0, .bool false] W1 (w.heap.size + 1 + 1) := by rw [← hW1]; exact rowG_at _ _ _ _ (by simp)
  rw [hW1]
  clear hW1
  have hD1 := h.of hB1
  have x2 := RX.1 2 (by simp)
  have x3 := RX.1 3 (by simp)
  have r1 := hD1.rv x.rs1 h2
  have r2 := hD1.rv x.rs2 h3
  refine region_below (by kernel_rfl) (by kernel_rfl) ?_
  repeat (first
    | go_big_quiet_skip
    | (refine BigFrame.wpQuiet_want (by kernel_rfl) fun K hK => ?_
       apply Exists.intro
       refine ⟨fun w' hb' => ?_, ?_⟩
       · have s0 := stay hb' x2
         have s1 := stay hb' x3
         have s2 := stay hb' r1
         have s3 := stay hb' r2
         go_simp
         first
           | exact rfl
           | exact ⟨rfl, hb'⟩
       go_simp
       refine hK _ ?_
       clear hK K))
  refine wpQuiet_nil ?_
  intro W2 hb2
  have hB2 := below_trans' hB1 (Nat.le_refl _) hb2
  have hD2 := hD1.of hb2
  have RX2 := rowG_b RX hb2
  have RS2 := rowG_b RS hb2
  have RZ2 := rowG_b RZ hb2
  have x2 := RX2.1 2 (by simp)
  have x3 := RX2.1 3 (by simp)
  have t1 := hD2.rt x.rs1 h2
  have t2 := hD2.rt x.rs2 h3
  have go3 : ∀ W3, Below W2.heap.size W2 W3 → IsD W3 D s ∧ rowG #[.int .u8 (x.op : Nat), .int .u8 (x.rd : Nat), .int .u8 (x.rs1 : Nat), .int .u8 (x.rs2 : Nat), .int .i64 x.imm] W3 w.heap.size ∧ rowG #[.int .u64 (p : Nat), .int .u8 1, .int .u64 0, .int .u64 0, .bool false] W3 (w.heap.size + 1) ∧ rowG #[.int .u64 0, .int .u8 0, .int .u64 0, .int .u64 0, .bool false] W3 (w.heap.size + 1 + 1) ∧ Below w.heap.size w W3 := fun W3 hb => ⟨hD2.of hb, rowG_b RX2 hb, rowG_b RS2 hb, rowG_b RZ2 hb, below_trans' hB2 (Nat.le_refl _) hb⟩
  clear RX RS RZ RX2 RS2 RZ2 r1 r2 hD1 hb2 hB1
  go_wp2
  cases hta : s.rt x.rs1
  all_goals
    rw [hta] at t1 ht htz
    subst htz
    try (rw [Bool.false_or] at ht; rw [ht] at t2)
    try (rw [Bool.true_or] at ht; subst ht)
    refine region_below (by kernel_rfl) (by kernel_rfl) ?_
    repeat (first
      | go_big_quiet_skip
      | (refine BigFrame.wpQuiet_want (by kernel_rfl) fun K hK => ?_
         apply Exists.intro
         refine ⟨fun w' hb' => ?_, ?_⟩
         · have s0 := stay hb' x2
           have s1 := stay hb' x3
           have s2 := stay hb' t1
           have s3 := stay hb' t2
           go_simp
           first
             | exact rfl
             | exact ⟨rfl, hb'⟩
         go_simp
         refine hK _ ?_
         clear hK K))
    refine wpQuiet_nil ?_
    intro W3 hb3
    obtain ⟨hD3, RX, RS, RZ, hB3⟩ := go3 W3 hb3
    clear go3 x2 x3 t1 t2
    have x0 := RX.1 0 (by simp)
    have x1 := RX.1 1 (by simp)
    have lx := RX.2.2
    have ls := RS.2.2
    have lz := RZ.2.2
    have x4 := RX.1 4 (by simp)
    have y2 := RX.1 2 (by simp)
    have y6 := hD3.rt x.rs1 h2
    rw [hta] at y6
    have hLk3 := hLk W3
    go_wp2_with (go_at_call 106; (with_reducible refine hLk3.mono ?_); (rintro e w4 ⟨rfl, rfl⟩))
    refine region_below (by kernel_rfl) (by kernel_rfl) ?_
    repeat (first
      | go_big_quiet_skip
      | (refine BigFrame.wpQuiet_want (by kernel_rfl) fun K hK => ?_
         apply Exists.intro
         refine ⟨fun w' hb' => ?_, ?_⟩
         · have s0 := stay hb' y2
           have s1 := stay hb' y6
           go_simp
           first
             | exact rfl
             | exact ⟨rfl, hb'⟩
         go_simp
         refine hK _ ?_
         clear hK K))
    refine wpQuiet_nil ?_
    intro W4 hb4
    have hD4 := hD3.of hb4
    have RX4 := rowG_b RX hb4
    have RS4 := rowG_b RS hb4
    have RZ4 := rowG_b RZ hb4
    have hB4 := below_trans' hB3 (Nat.le_refl _) hb4
    clear x0 x1 x4 y2 y6
    have x1 := RX4.1 1 (by simp)
    have lx := RX4.2.2
    have ls := RS4.2.2
    have lz := RZ4.2.2
    have hSet := fun t => dset_any hD4 x.rd (opv L (s.rv x.rs1) (uw x.imm)) t h1 hlt
    have hOp3 := hop W4
    rw [show ope L = 0 from if_pos ⟨by omega, by omega⟩] at hOp3
    have hdl := h.lt
    go_wp2_with (first
      | (go_at_call 107; (with_reducible refine hOp3.mono ?_); (rintro e w6 ⟨rfl, rfl⟩))
      | (go_at_call 24; (with_reducible refine (hSet _).mono ?_); (rintro e w5 ⟨rfl, hD5, hO5⟩); have RS5 := sn_row hO5 (by omega) RS4; have RZ5 := sn_row hO5 (by omega) RZ4; have s0 := RS5.1 0 (by simp); have s1 := RS5.1 1 (by simp); have s2 := RS5.1 2 (by simp); have s3 := RS5.1 3 (by simp); have s4 := RS5.1 4 (by simp); have z0 := RZ5.1 0 (by simp); have z1 := RZ5.1 1 (by simp); have z2 := RZ5.1 2 (by simp); have z3 := RZ5.1 3 (by simp); have z4 := RZ5.1 4 (by simp); have f0 := RZ5.2.1 0; have f1 := RZ5.2.1 1; have f2 := RZ5.2.1 2; have f3 := RZ5.2.1 3; have f4 := RZ5.2.1 4; have l5 := RZ5.2.2))
    have hO := (only_below (S := fun j => j = D.db) hB4).trans hO5
    have hF := fun c0 c1 c2 c3 c4 => sn_only w5 (w.heap.size + 1 + 1) c0 c1 c2 c3 c4
    refine bodyPost_ret (res_s5 rfl _ _ (w.heap.size + 1 + 1) _ _ _ _ _ rfl (sn_five _ _ _ _ _ RZ5)) rfl ⟨rfl, hD5.only (hF _ _ _ _ _) (fun j hj e => by have := h.all_lt hj; omega), only_new (only_new (only_new (only_new (only_new hO (by omega)) (by omega)) (by omega)) (by omega)) (by omega)⟩
end Go.Proofs.YtfaacmcnefbgcaaGreatDoor.m4
