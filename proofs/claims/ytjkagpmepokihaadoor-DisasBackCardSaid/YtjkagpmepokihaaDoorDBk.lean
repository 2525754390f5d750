/- What is proved: DisasBack returns true for any instruction and any word, which stay as they were (its own card). Conditions: none beyond the row's own; the laid tables are tied to the program's text. -/
import Derived.Test.YtjkagpmepokihaaDoorAlv
import Derived.Test.YtjkagpmepokihaaDoorCards
import Derived.Test.YtjkagpmepokihaaDoorTie
import Derived.SevenTiedAt
namespace Go.Proofs.YtjkagpmepokihaaDoor.disasBack
open Go.ChangeShapes Go.WideShapes Go.ChangeAt Go.RowKit
set_option linter.unusedVariables false
set_option maxRecDepth 100000 in
set_option maxHeartbeats 2000000 in
theorem walk_00 (x : In) (v : Nat) (hx : x.wf) (ox : x.ok = false) (hv : v < 4294967296) (hy : decN v = none) (w : World) (h : Tb w) :
    Calls Tryd.prog 5 #[.agg #[.int .u8 x.op, .int .u8 x.rd, .int .u8 x.rs1, .int .u8 x.rs2, .int .i64 x.imm], .int .u32 v] w fun e w' => e = .returned (.bool true) ∧ Below w.heap.size w w' := by
  have B0 : Below w.heap.size w (w.alloc (.cells #[.int .u8 x.op, .int .u8 x.rd, .int .u8 x.rs1, .int .u8 x.rs2, .int .i64 x.imm] 24)) := (Below.refl _ _).alloc (Nat.le_refl _) _
  have R0 := rowG_new #[.int .u8 x.op, .int .u8 x.rd, .int .u8 x.rs1, .int .u8 x.rs2, .int .i64 x.imm] 24 w
  have T0 := h.of B0
  have kE := encn x hx ox
  have kV := dec_isnt hv hy
  go_enter Tryd.func5, Tryd.ntmps5
  go_wp2_with (first | (go_at_call 15; first | ((with_reducible refine (kE _ T0).mono ?_); (rintro e w1 ⟨rfl, b1⟩); have B1 := below_trans' B0 (Nat.le_refl _) b1; have T1 := h.of B1; have R1 := rowG_below R0 b1 R0.2.2; have T2 := T1; have B2 := B1)) | (go_at_call 7; first | ((with_reducible refine (kV _ T2).mono ?_); (rintro e w3 ⟨rfl, b3⟩); have B3 := below_trans' B2 (Nat.le_refl _) (b3.alloc b3.size (.cells #[.int .u8 0, .int .u8 0, .int .u8 0, .int .u8 0, .int .i64 0] 24)); have T3 := h.of B3)) | (go_at_call 11; (with_reducible refine (alive_any _ T3).mono ?_); (rintro e w9 ⟨rfl, b9⟩)))
  go_ret
  exact ⟨rfl, below_trans' B3 (Nat.le_refl _) b9⟩
set_option maxRecDepth 100000 in
set_option maxHeartbeats 2000000 in
theorem walk_01 (x y : In) (v : Nat) (hx : x.wf) (ox : x.ok = false) (hv : v < 4294967296) (hy : isW v y) (hyw : y.wf) (w : World) (h : Tb w) :
    Calls Tryd.prog 5 #[.agg #[.int .u8 x.op, .int .u8 x.rd, .int .u8 x.rs1, .int .u8 x.rs2, .int .i64 x.imm], .int .u32 v] w fun e w' => e = .returned (.bool true) ∧ Below w.heap.size w w' := by
  have B0 : Below w.heap.size w (w.alloc (.cells #[.int .u8 x.op, .int .u8 x.rd, .int .u8 x.rs1, .int .u8 x.rs2, .int .i64 x.imm] 24)) := (Below.refl _ _).alloc (Nat.le_refl _) _
  have R0 := rowG_new #[.int .u8 x.op, .int .u8 x.rd, .int .u8 x.rs1, .int .u8 x.rs2, .int .i64 x.imm] 24 w
  have T0 := h.of B0
  have kE := encn x hx ox
  have kV := dec_is hv hy
  have kY := ency y hyw hy.1
  have hw : y.word = v := hy.2
  rw [hw] at kY
  go_enter Tryd.func5, Tryd.ntmps5
  go_wp2_with (first | (go_at_call 15; first | ((with_reducible refine (kE _ T0).mono ?_); (rintro e w1 ⟨rfl, b1⟩); have B1 := below_trans' B0 (Nat.le_refl _) b1; have T1 := h.of B1; have R1 := rowG_below R0 b1 R0.2.2; have T2 := T1; have B2 := B1) | ((with_reducible refine (kY _ T3).mono ?_); (rintro e w4 ⟨rfl, b4⟩); have B4 := below_trans' B3 (Nat.le_refl _) b4; have T4 := h.of B4)) | (go_at_call 7; first | ((with_reducible refine (kV _ T2).mono ?_); (rintro e w3 ⟨rfl, b3⟩); have B3 := below_trans' B2 (Nat.le_refl _) (b3.alloc b3.size (.cells #[.int .u8 y.op, .int .u8 y.rd, .int .u8 y.rs1, .int .u8 y.rs2, .int .i64 y.imm] 24)); have T3 := h.of B3)) | (go_at_call 11; (with_reducible refine (alive_any _ T4).mono ?_); (rintro e w9 ⟨rfl, b9⟩)))
  go_ret
  exact ⟨rfl, below_trans' B4 (Nat.le_refl _) b9⟩
set_option maxRecDepth 100000 in
set_option maxHeartbeats 2000000 in
theorem walk_10 (x : In) (v : Nat) (hx : x.wf) (ox : x.ok = true) (hv : v < 4294967296) (hy : decN v = none) (w : World) (h : Tb w) :
    Calls Tryd.prog 5 #[.agg #[.int .u8 x.op, .int .u8 x.rd, .int .u8 x.rs1, .int .u8 x.rs2, .int .i64 x.imm], .int .u32 v] w fun e w' => e = .returned (.bool true) ∧ Below w.heap.size w w' := by
  have B0 : Below w.heap.size w (w.alloc (.cells #[.int .u8 x.op, .int .u8 x.rd, .int .u8 x.rs1, .int .u8 x.rs2, .int .i64 x.imm] 24)) := (Below.refl _ _).alloc (Nat.le_refl _) _
  have R0 := rowG_new #[.int .u8 x.op, .int .u8 x.rd, .int .u8 x.rs1, .int .u8 x.rs2, .int .i64 x.imm] 24 w
  have T0 := h.of B0
  have kE := ency x hx ox
  have hxw : x.word < 4294967296 := wordN_lt _ _ _ _ _
  have kD := dec_is hxw ⟨ox, rfl⟩
  have kV := dec_isnt hv hy
  go_enter Tryd.func5, Tryd.ntmps5
  go_wp2_with (first | (go_at_call 15; first | ((with_reducible refine (kE _ T0).mono ?_); (rintro e w1 ⟨rfl, b1⟩); have B1 := below_trans' B0 (Nat.le_refl _) b1; have T1 := h.of B1; have R1 := rowG_below R0 b1 R0.2.2)) | (go_at_call 7; first | ((with_reducible refine (kD _ T1).mono ?_); (rintro e w2 ⟨rfl, b2⟩); have hw2 := b2.size; have B2 := below_trans' B1 (Nat.le_refl _) (b2.alloc b2.size (.cells #[.int .u8 x.op, .int .u8 x.rd, .int .u8 x.rs1, .int .u8 x.rs2, .int .i64 x.imm] 24)); have T2 := h.of B2; have R2 := rowG_below R1 b2 R1.2.2; have g2 := R2.2.2; have f0 : w2.cell? ⟨w.heap.size, 0, none⟩ = some (.int .u8 x.op) := R2.1 0 (by simp); have f1 : w2.cell? ⟨w.heap.size, 1, none⟩ = some (.int .u8 x.rd) := R2.1 1 (by simp); have f2 : w2.cell? ⟨w.heap.size, 2, none⟩ = some (.int .u8 x.rs1) := R2.1 2 (by simp); have f3 : w2.cell? ⟨w.heap.size, 3, none⟩ = some (.int .u8 x.rs2) := R2.1 3 (by simp); have f4 : w2.cell? ⟨w.heap.size, 4, none⟩ = some (.int .i64 x.imm) := R2.1 4 (by simp)) | ((with_reducible refine (kV _ T2).mono ?_); (rintro e w3 ⟨rfl, b3⟩); have B3 := below_trans' B2 (Nat.le_refl _) (b3.alloc b3.size (.cells #[.int .u8 0, .int .u8 0, .int .u8 0, .int .u8 0, .int .i64 0] 24)); have T3 := h.of B3)) | (go_at_call 11; (with_reducible refine (alive_any _ T3).mono ?_); (rintro e w9 ⟨rfl, b9⟩)))
  go_ret
  exact ⟨rfl, below_trans' B3 (Nat.le_refl _) b9⟩
set_option maxRecDepth 100000 in
set_option maxHeartbeats 2000000 in
theorem walk_11 (x y : In) (v : Nat) (hx : x.wf) (ox : x.ok = true) (hv : v < 4294967296) (hy : isW v y) (hyw : y.wf) (w : World) (h : Tb w) :
    Calls Tryd.prog 5 #[.agg #[.int .u8 x.op, .int .u8 x.rd, .int .u8 x.rs1, .int .u8 x.rs2, .int .i64 x.imm], .int .u32 v] w fun e w' => e = .returned (.bool true) ∧ Below w.heap.size w w' := by
  have B0 : Below w.heap.size w (w.alloc (.cells #[.int .u8 x.op, .int .u8 x.rd, .int .u8 x.rs1, .int .u8 x.rs2, .int .i64 x.imm] 24)) := (Below.refl _ _).alloc (Nat.le_refl _) _
  have R0 := rowG_new #[.int .u8 x.op, .int .u8 x.rd, .int .u8 x.rs1, .int .u8 x.rs2, .int .i64 x.imm] 24 w
  have T0 := h.of B0
  have kE := ency x hx ox
  have hxw : x.word < 4294967296 := wordN_lt _ _ _ _ _
  have kD := dec_is hxw ⟨ox, rfl⟩
  have kV := dec_is hv hy
  have kY := ency y hyw hy.1
  have hw : y.word = v := hy.2
  rw [hw] at kY
  go_enter Tryd.func5, Tryd.ntmps5
  go_wp2_with (first | (go_at_call 15; first | ((with_reducible refine (kE _ T0).mono ?_); (rintro e w1 ⟨rfl, b1⟩); have B1 := below_trans' B0 (Nat.le_refl _) b1; have T1 := h.of B1; have R1 := rowG_below R0 b1 R0.2.2) | ((with_reducible refine (kY _ T3).mono ?_); (rintro e w4 ⟨rfl, b4⟩); have B4 := below_trans' B3 (Nat.le_refl _) b4; have T4 := h.of B4)) | (go_at_call 7; first | ((with_reducible refine (kD _ T1).mono ?_); (rintro e w2 ⟨rfl, b2⟩); have hw2 := b2.size; have B2 := below_trans' B1 (Nat.le_refl _) (b2.alloc b2.size (.cells #[.int .u8 x.op, .int .u8 x.rd, .int .u8 x.rs1, .int .u8 x.rs2, .int .i64 x.imm] 24)); have T2 := h.of B2; have R2 := rowG_below R1 b2 R1.2.2; have g2 := R2.2.2; have f0 : w2.cell? ⟨w.heap.size, 0, none⟩ = some (.int .u8 x.op) := R2.1 0 (by simp); have f1 : w2.cell? ⟨w.heap.size, 1, none⟩ = some (.int .u8 x.rd) := R2.1 1 (by simp); have f2 : w2.cell? ⟨w.heap.size, 2, none⟩ = some (.int .u8 x.rs1) := R2.1 2 (by simp); have f3 : w2.cell? ⟨w.heap.size, 3, none⟩ = some (.int .u8 x.rs2) := R2.1 3 (by simp); have f4 : w2.cell? ⟨w.heap.size, 4, none⟩ = some (.int .i64 x.imm) := R2.1 4 (by simp)) | ((with_reducible refine (kV _ T2).mono ?_); (rintro e w3 ⟨rfl, b3⟩); have B3 := below_trans' B2 (Nat.le_refl _) (b3.alloc b3.size (.cells #[.int .u8 y.op, .int .u8 y.rd, .int .u8 y.rs1, .int .u8 y.rs2, .int .i64 y.imm] 24)); have T3 := h.of B3)) | (go_at_call 11; (with_reducible refine (alive_any _ T4).mono ?_); (rintro e w9 ⟨rfl, b9⟩)))
  go_ret
  exact ⟨rfl, below_trans' B4 (Nat.le_refl _) b9⟩
theorem dec_wf {v : Nat} (hv : v < 4294967296) {y : In} (h : isW v y) : y.wf := by
  rw [← back_w h]
  exact fldF_wf _ _ _ hv (by have := op_of h.1; omega)
theorem walkI (n0 n1 n2 n3 n4 : Int) (w0 : (Lit.int .u8 n0).wf = true) (w1 : (Lit.int .u8 n1).wf = true) (w2 : (Lit.int .u8 n2).wf = true) (w3 : (Lit.int .u8 n3).wf = true) (w4 : (Lit.int .i64 n4).wf = true) (m : Int) (wm : (Lit.int .u32 m).wf = true) (w : World) (h : Tb w) :
    Calls Tryd.prog 5 #[.agg #[.int .u8 n0, .int .u8 n1, .int .u8 n2, .int .u8 n3, .int .i64 n4], .int .u32 m] w fun e w' => e = .returned (.bool true) ∧ Below w.heap.size w w' := by
  obtain ⟨x, hx, rfl, rfl, rfl, rfl, rfl⟩ := to_in w0 w1 w2 w3 w4
  have bm := bounds_u32 wm
  obtain ⟨v, rfl⟩ := Int.eq_ofNat_of_zero_le bm.1
  have hv : v < 4294967296 := by omega
  cases ox : x.ok
  · cases hd : decN v with
    | none => exact walk_00 x v hx ox hv hd w h
    | some y => exact walk_01 x y v hx ox hv (decN_is hd) (dec_wf hv (decN_is hd)) w h
  · cases hd : decN v with
    | none => exact walk_10 x v hx ox hv hd w h
    | some y => exact walk_11 x y v hx ox hv (decN_is hd) (dec_wf hv (decN_is hd)) w h
theorem own : ownKnob Tryd.prog.godebug = none := by kernel_rfl
set_option maxRecDepth 100000 in
theorem lifted (os : Os) (started : os.Started) (H : Type) (enc : TypeId × Value → H) :
    ReturnsInHanded {} Tryd.checked os 5 .any (fun w args => (Rows.disasBackSpec.pre enc Tryd.prog Tryd.f5 [] false w args ∧ laidMetH Tryd.prog laidAll w) ∧ sizedMet enc Tryd.prog Tryd.f5 (OpenSpec.ofChange Rows.disasBackSpec) false w args)
      (Rows.disasBackSpec.post enc Tryd.prog Tryd.f5 false true false false) := by
  refine returnsInHanded_of_change_and (C := Tryd.checked) (X := fun w _ => laidMetH Tryd.prog laidAll w) (fun _ _ _ hh h => h.of_heap hh) own started (by kernel_rfl) Tryd.func5
    (ChangeSpec.witness_shaped (enc := enc) (C := Tryd.checked) (os := os) (X := fun w _ => laidMetH Tryd.prog laidAll w) false (World.doorLaid Tryd.prog 400 os) #[.agg #[.int .u8 0, .int .u8 0, .int .u8 0, .int .u8 0, .int .i64 0], .int .u32 0] 8 rfl (World.shaped_of_RefB (by kernel_rfl) (by kernel_rfl)) (by kernel_rfl) (by kernel_rfl) (by kernel_rfl) (door_met os _)) ?_
  intro W base args ds gs before hval0 hW _ _ hL _
  have hval : ∀ (j : Nat) t v, Tryd.f5.params[j]? = some t → args[j]? = some v → Value.okWide Tryd.prog W .any base t v := hval0
  have hW' := hW
  obtain ⟨p, q, hA0, hV, rfl, hfz, hnd⟩ := hW
  have hA : DataW.TrodAll enc Tryd.prog W 0 (fun _ => true) true Tryd.f5.params.toList args.toList ds p := hA0
  rw [Tryd.params5] at hA hval
  obtain ⟨v0, vs0, d0, ds0, p0, q0, hargs, rfl, rfl, h0, r0⟩ := trodAll_cons hA
  obtain ⟨v1, vs1, d1, ds1, p1, q1, rfl, rfl, rfl, h1, r1⟩ := trodAll_cons r0
  obtain ⟨rfl, rfl, rfl⟩ := trodAll_nil r1
  obtain rfl : args = #[v0, v1] := by cases args; simp_all
  obtain ⟨rfl, rfl⟩ := trodVars_none hV
  obtain ⟨m00, m01, m02, m03, m04, rfl, rfl, rfl, y00, y01, y02, y03, y04⟩ := open_insn (hval 0 24 v0 rfl rfl) h0
  obtain ⟨m1, rfl, rfl, rfl, y1⟩ := open_int Tryd.underlying22 (hval 1 22 v1 rfl rfl) h1
  clear hA0 hval0
  simp only [List.append_nil] at hW'
  refine (walkI m00 m01 m02 m03 m04 y00 y01 y02 y03 y04 m1 y1 W (tb_of_laid hL)).mono fun e W' ⟨he, hg⟩ => ?_
  subst he
  exact ⟨_, rfl, _, _, _, [], _, [], hW', trodAll_mk1 (shut_bool Tryd.underlying4 _), (trodAll_cons_mk (shut_insn y00 y01 y02 y03 y04) (trodAll_cons_mk (shut_int Tryd.underlying22 y1) trodAll_mk0)), rfl, hg.frame _, fun h => by cases h⟩
theorem over : Rows.DisasBackSaid :=
  OpenClaim.holds_of_wide 5 Tryd.f5 rfl rfl rfl rfl rfl rfl rfl ⟨rfl, rfl, rfl, rfl, rfl⟩ rfl rfl rfl rfl rfl (by kernel_rfl) Tryd.func5 (by kernel_rfl)
    (of_decide_eq_true (by kernel_rfl)) (by unfold Func.isWrapper; first | (rw [if_pos (by decide +kernel)]; kernel_rfl) | (rw [if_neg (by decide +kernel)]; exact ⟨rfl, rfl⟩))
    (fun os started H enc _ => lifted os started H enc)
/-- The card: the row, its listed tables tied to the text of the program. -/
theorem proved : Rows.DisasBackCardSaid :=
  Claim7.holds_tied_plain_at .later [] [.data, .data, .data, .data, .data, .data, .data] true Rows.disasBackCard.stood.harness Rows.disasBackCard.stood.looks
    over (fun _ h => by cases h) (by kernel_rfl) (fun _ h => by cases h) disasBack_row_tie rfl ⟨rfl, rfl⟩ (by kernel_rfl) rfl
    (fun f fn hf hfn => by
      obtain rfl : f = 5 := Option.some.inj ((show Tryd.prog.funcNamed "sacristy/sacristylaw03.DisasBack" = some 5 by kernel_rfl).symm.trans hf) |>.symm
      obtain rfl : fn = Tryd.f5 := (Option.some.inj (Tryd.func5.symm.trans hfn)).symm
      exact ⟨by kernel_rfl, fun j t ht => by
        rw [Tryd.params5] at ht
        have hm : t ∈ [24, 22] := by simpa using Array.mem_of_getElem? ht
        have hall : ([24, 22].all fun u => !Tryd.prog.wantsStandIn u) = true := by kernel_rfl
        exact (show Tryd.prog.wantsStandIn t = false by simpa using List.all_eq_true.1 hall t hm)⟩)
    (by kernel_rfl)
end Go.Proofs.YtjkagpmepokihaaDoor.disasBack
