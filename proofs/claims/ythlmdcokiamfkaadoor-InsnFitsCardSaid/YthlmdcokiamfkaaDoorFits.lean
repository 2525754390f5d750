/- What is proved: InsnFits returns true for any registers and any number (its own card). Conditions: none beyond the row's own; the two laid tables are tied to the program's text. -/
import Derived.Test.YthlmdcokiamfkaaDoorOpn
import Derived.Test.YthlmdcokiamfkaaDoorCards
import Derived.Test.YthlmdcokiamfkaaDoorTie
import Derived.SevenTiedAt
namespace Go.Proofs.YthlmdcokiamfkaaDoor.insnFits
open Go.ChangeShapes Go.WideShapes Go.ChangeAt Go.RowKit
set_option linter.unusedVariables false
theorem encAny (x : In) (h : x.wf) (w : World) (hT : Tb w) :
    Calls Tryd.prog 8 #[.agg #[.int .u8 x.op, .int .u8 x.rd, .int .u8 x.rs1, .int .u8 x.rs2, .int .i64 x.imm]] w fun e w' => e = .returned (.tuple #[.int .u32 (encW x.op x.rd x.rs1 x.rs2 x.imm : Nat), .int .i64 (encE x.op x.rd x.rs1 x.rs2 x.imm)]) ∧ Below w.heap.size w w' :=
  enc_any x.op x.rd x.rs1 x.rs2 x.imm h.1 h.2.1 h.2.2.1 h.2.2.2.1 h.2.2.2.2.1 h.2.2.2.2.2 w hT.1 hT.2
theorem fin {w w1 w2 w3 w4 w5 w6 : World} (h1 : Below w.heap.size w w1) (h2 : Below w1.heap.size w1 w2) (h3 : Below w2.heap.size w2 w3) (h4 : Below w3.heap.size w3 w4) (h5 : Below w4.heap.size w4 w5) (h6 : Below w5.heap.size w5 w6) : Below w.heap.size w w6 := by
  have e1 := h1.size
  have e2 := Nat.le_trans e1 h2.size
  have e3 := Nat.le_trans e2 h3.size
  have e4 := Nat.le_trans e3 h4.size
  have e5 := Nat.le_trans e4 h5.size
  exact h1.trans ((h2.mono e1).trans ((h3.mono e2).trans ((h4.mono e3).trans ((h5.mono e4).trans (h6.mono e5)))))
theorem err_ok (op rd rs1 rs2 : Nat) (v : Int) (p : Bool) (h : okB op rd rs1 rs2 v = p) : (encE op rd rs1 rs2 v == 0) = p := by
  subst h; unfold encE; cases okB op rd rs1 rs2 v <;> rfl
theorem k1 (A B : Nat) (v : Int) (hA : A < 32) (hB : B < 32) (h0 : -9223372036854775808 ≤ v) (h1 : v < 9223372036854775808) (w : World) (hT : Tb w) :
    Calls Tryd.prog 8 #[.agg #[.int .u8 15, .int .u8 A, .int .u8 B, .int .u8 0, .int .i64 v]] w fun e w' => e = .returned (.tuple #[.int .u32 (encW 15 A B 0 v : Nat), .int .i64 (encE 15 A B 0 v)]) ∧ Below w.heap.size w w' :=
  encAny ⟨15, A, B, 0, v⟩ (by unfold In.wf; simp only; omega) w hT
theorem p1 (A B : Nat) (v : Int) (hA : A < 32) (hB : B < 32) : (encE 15 A B 0 v == 0) = (fitB v 12) := by
  refine err_ok _ _ _ _ _ _ ?_
  unfold okB takesB
  rw [show formT 15 = 2 from rfl]
  have q1 := (reg_t A).2 hA
  have q2 := (reg_t B).2 hB
  have q3 := (reg_f 0).2 rfl
  simp [rdT, rs1T, rs2T, q1, q2, q3, immB]
theorem k2 (A B : Nat) (v : Int) (hA : A < 32) (hB : B < 32) (h0 : -9223372036854775808 ≤ v) (h1 : v < 9223372036854775808) (w : World) (hT : Tb w) :
    Calls Tryd.prog 8 #[.agg #[.int .u8 23, .int .u8 A, .int .u8 0, .int .u8 0, .int .i64 v]] w fun e w' => e = .returned (.tuple #[.int .u32 (encW 23 A 0 0 v : Nat), .int .i64 (encE 23 A 0 0 v)]) ∧ Below w.heap.size w w' :=
  encAny ⟨23, A, 0, 0, v⟩ (by unfold In.wf; simp only; omega) w hT
theorem p2 (A B : Nat) (v : Int) (hA : A < 32) (hB : B < 32) : (encE 23 A 0 0 v == 0) = (fitB v 32 && decide (v % 4096 = 0)) := by
  refine err_ok _ _ _ _ _ _ ?_
  unfold okB takesB
  rw [show formT 23 = 4 from rfl]
  have q1 := (reg_t A).2 hA
  have q3 := (reg_f 0).2 rfl
  simp [rdT, rs1T, rs2T, q1, q3, immB]
theorem k3 (A B : Nat) (v : Int) (hA : A < 32) (hB : B < 32) (h0 : -9223372036854775808 ≤ v) (h1 : v < 9223372036854775808) (w : World) (hT : Tb w) :
    Calls Tryd.prog 8 #[.agg #[.int .u8 28, .int .u8 0, .int .u8 A, .int .u8 B, .int .i64 v]] w fun e w' => e = .returned (.tuple #[.int .u32 (encW 28 0 A B v : Nat), .int .i64 (encE 28 0 A B v)]) ∧ Below w.heap.size w w' :=
  encAny ⟨28, 0, A, B, v⟩ (by unfold In.wf; simp only; omega) w hT
theorem p3 (A B : Nat) (v : Int) (hA : A < 32) (hB : B < 32) : (encE 28 0 A B v == 0) = (fitB v 13 && decide (v % 2 = 0)) := by
  refine err_ok _ _ _ _ _ _ ?_
  unfold okB takesB
  rw [show formT 28 = 6 from rfl]
  have q1 := (reg_t A).2 hA
  have q2 := (reg_t B).2 hB
  have q3 := (reg_f 0).2 rfl
  simp [rdT, rs1T, rs2T, q1, q2, q3, immB]
theorem k4 (A B : Nat) (v : Int) (hA : A < 32) (hB : B < 32) (h0 : -9223372036854775808 ≤ v) (h1 : v < 9223372036854775808) (w : World) (hT : Tb w) :
    Calls Tryd.prog 8 #[.agg #[.int .u8 32, .int .u8 A, .int .u8 0, .int .u8 0, .int .i64 v]] w fun e w' => e = .returned (.tuple #[.int .u32 (encW 32 A 0 0 v : Nat), .int .i64 (encE 32 A 0 0 v)]) ∧ Below w.heap.size w w' :=
  encAny ⟨32, A, 0, 0, v⟩ (by unfold In.wf; simp only; omega) w hT
theorem p4 (A B : Nat) (v : Int) (hA : A < 32) (hB : B < 32) : (encE 32 A 0 0 v == 0) = (fitB v 21 && decide (v % 2 = 0)) := by
  refine err_ok _ _ _ _ _ _ ?_
  unfold okB takesB
  rw [show formT 32 = 7 from rfl]
  have q1 := (reg_t A).2 hA
  have q3 := (reg_f 0).2 rfl
  simp [rdT, rs1T, rs2T, q1, q3, immB]
theorem k5 (A B : Nat) (v : Int) (hA : A < 32) (hB : B < 32) (h0 : -9223372036854775808 ≤ v) (h1 : v < 9223372036854775808) (w : World) (hT : Tb w) :
    Calls Tryd.prog 8 #[.agg #[.int .u8 20, .int .u8 A, .int .u8 B, .int .u8 0, .int .i64 v]] w fun e w' => e = .returned (.tuple #[.int .u32 (encW 20 A B 0 v : Nat), .int .i64 (encE 20 A B 0 v)]) ∧ Below w.heap.size w w' :=
  encAny ⟨20, A, B, 0, v⟩ (by unfold In.wf; simp only; omega) w hT
theorem p5 (A B : Nat) (v : Int) (hA : A < 32) (hB : B < 32) : (encE 20 A B 0 v == 0) = (decide (0 ≤ v ∧ v < 64)) := by
  refine err_ok _ _ _ _ _ _ ?_
  unfold okB takesB
  rw [show formT 20 = 3 from rfl]
  have q1 := (reg_t A).2 hA
  have q2 := (reg_t B).2 hB
  have q3 := (reg_f 0).2 rfl
  simp [rdT, rs1T, rs2T, q1, q2, q3, immB]
set_option maxHeartbeats 4000000 in
set_option maxRecDepth 100000 in
theorem walk (a b : Nat) (v : Int) (ha : a < 256) (hb : b < 256) (h0 : -9223372036854775808 ≤ v) (h1 : v < 9223372036854775808) (w : World) (h : Tb w) :
    Calls Tryd.prog 7 #[.int .u8 a, .int .u8 b, .int .i64 v] w fun e w' => e = .returned (.bool true) ∧ Below w.heap.size w w' := by
  go_enter Tryd.func7, Tryd.ntmps7
  go_wp2_with fail
  obtain ⟨A, hA, hA2⟩ : ∃ A : Nat, (a : Int) % 32 = (A : Int) ∧ A < 32 := ⟨a % 32, by omega, by omega⟩
  obtain ⟨B, hB, hB2⟩ : ∃ B : Nat, (b : Int) % 32 = (B : Int) ∧ B < 32 := ⟨b % 32, by omega, by omega⟩
  rw [hA, hB]
  clear hA hB
  have x1 := p1 A B v hA2 hB2
  have x2 := p2 A B v hA2 hB2
  have x3 := p3 A B v hA2 hB2
  have x4 := p4 A B v hA2 hB2
  have x5 := p5 A B v hA2 hB2
  have z1 := tmod_zero v 4096
  have z2 := tmod_zero v 2
  go_wp2_with (first | (go_at_call 8; first | ((with_reducible refine (k1 A B v hA2 hB2 h0 h1 _ h).mono ?_); (rintro e w1 ⟨rfl, hb1⟩); have t1 := h.of hb1) | ((with_reducible refine (k2 A B v hA2 hB2 h0 h1 _ t1).mono ?_); (rintro e w2 ⟨rfl, hb2⟩); have t2 := t1.of hb2) | ((with_reducible refine (k3 A B v hA2 hB2 h0 h1 _ t2).mono ?_); (rintro e w3 ⟨rfl, hb3⟩); have t3 := t2.of hb3) | ((with_reducible refine (k4 A B v hA2 hB2 h0 h1 _ t3).mono ?_); (rintro e w4 ⟨rfl, hb4⟩); have t4 := t3.of hb4) | ((with_reducible refine (k5 A B v hA2 hB2 h0 h1 _ t4).mono ?_); (rintro e w5 ⟨rfl, hb5⟩); have t5 := t4.of hb5)) | (go_at_call 13; first | ((with_reducible refine (fits12 v h0 h1 _).mono ?_); rintro e w' ⟨rfl, rfl⟩) | ((with_reducible refine (fits13 v h0 h1 _).mono ?_); rintro e w' ⟨rfl, rfl⟩) | ((with_reducible refine (fits21 v h0 h1 _).mono ?_); rintro e w' ⟨rfl, rfl⟩) | ((with_reducible refine (fits32 v h0 h1 _).mono ?_); rintro e w' ⟨rfl, rfl⟩)) | (go_at_call 10; (with_reducible refine (alive_any _ t5).mono ?_); rintro e w6 ⟨rfl, hb6⟩))
  all_goals
    go_ret
    exact ⟨rfl, fin hb1 hb2 hb3 hb4 hb5 hb6⟩
theorem walkI (m0 : Int) (y0 : (Lit.int .u8 m0).wf = true) (m1 : Int) (y1 : (Lit.int .u8 m1).wf = true) (m2 : Int) (y2 : (Lit.int .i64 m2).wf = true) (w : World) (h : Tb w) :
    Calls Tryd.prog 7 #[.int .u8 m0, .int .u8 m1, .int .i64 m2] w fun e w' => e = .returned (.bool true) ∧ Below w.heap.size w w' := by
  have d0 := bounds_u8 y0
  have d1 := bounds_u8 y1
  have d2 := bounds_i64 y2
  obtain ⟨a, rfl⟩ := Int.eq_ofNat_of_zero_le d0.1
  obtain ⟨b, rfl⟩ := Int.eq_ofNat_of_zero_le d1.1
  exact walk a b m2 (by omega) (by omega) (by omega) (by omega) w h
theorem own : ownKnob Tryd.prog.godebug = none := by kernel_rfl
set_option maxRecDepth 100000 in
theorem lifted (os : Os) (started : os.Started) (H : Type) (enc : TypeId × Value → H) :
    ReturnsInHanded {} Tryd.checked os 7 .any (fun w args => (Rows.insnFitsSpec.pre enc Tryd.prog Tryd.f7 [] false w args ∧ laidMetH Tryd.prog laidAll w) ∧ sizedMet enc Tryd.prog Tryd.f7 (OpenSpec.ofChange Rows.insnFitsSpec) false w args)
      (Rows.insnFitsSpec.post enc Tryd.prog Tryd.f7 false true false false) := by
  refine returnsInHanded_of_change_and (C := Tryd.checked) (X := fun w _ => laidMetH Tryd.prog laidAll w) (fun _ _ _ hh h => h.of_heap hh) own started (by kernel_rfl) Tryd.func7
    (ChangeSpec.witness_shaped (enc := enc) (C := Tryd.checked) (os := os) (X := fun w _ => laidMetH Tryd.prog laidAll w) false (World.doorLaid Tryd.prog 400 os) #[.int .u8 0, .int .u8 0, .int .i64 0] 8 rfl (World.shaped_of_RefB (by kernel_rfl) (by kernel_rfl)) (by kernel_rfl) (by kernel_rfl) (by kernel_rfl) (door_met os _)) ?_
  intro W base args ds gs before hval0 hW _ _ hL _
  have hval : ∀ (j : Nat) t v, Tryd.f7.params[j]? = some t → args[j]? = some v → Value.okWide Tryd.prog W .any base t v := hval0
  have hW' := hW
  obtain ⟨p, q, hA0, hV, rfl, hfz, hnd⟩ := hW
  have hA : DataW.TrodAll enc Tryd.prog W 0 (fun _ => true) true Tryd.f7.params.toList args.toList ds p := hA0
  rw [Tryd.params7] at hA hval
  obtain ⟨v0, vs0, d0, ds0, p0, q0, hargs, rfl, rfl, h0, r0⟩ := trodAll_cons hA
  obtain ⟨v1, vs1, d1, ds1, p1, q1, rfl, rfl, rfl, h1, r1⟩ := trodAll_cons r0
  obtain ⟨v2, vs2, d2, ds2, p2, q2, rfl, rfl, rfl, h2, r2⟩ := trodAll_cons r1
  obtain ⟨rfl, rfl, rfl⟩ := trodAll_nil r2
  obtain rfl : args = #[v0, v1, v2] := by cases args; simp_all
  obtain ⟨rfl, rfl⟩ := trodVars_none hV
  obtain ⟨m0, rfl, rfl, rfl, y0⟩ := open_int Tryd.underlying5 (hval 0 5 v0 rfl rfl) h0
  obtain ⟨m1, rfl, rfl, rfl, y1⟩ := open_int Tryd.underlying5 (hval 1 5 v1 rfl rfl) h1
  obtain ⟨m2, rfl, rfl, rfl, y2⟩ := open_int Tryd.underlying2 (hval 2 2 v2 rfl rfl) h2
  clear hA0 hval0
  simp only [List.append_nil] at hW'
  refine (walkI m0 y0 m1 y1 m2 y2 W (tb_of_laid hL)).mono fun e W' ⟨he, hg⟩ => ?_
  subst he
  exact ⟨_, rfl, _, _, _, [], _, [], hW', trodAll_mk1 (shut_bool Tryd.underlying4 _), (trodAll_cons_mk (shut_int Tryd.underlying5 y0) (trodAll_cons_mk (shut_int Tryd.underlying5 y1) (trodAll_cons_mk (shut_int Tryd.underlying2 y2) trodAll_mk0))), rfl, hg.frame _, fun h => by cases h⟩
theorem over : Rows.InsnFitsSaid :=
  OpenClaim.holds_of_wide 7 Tryd.f7 rfl rfl rfl rfl rfl rfl rfl ⟨rfl, rfl, rfl, rfl, rfl⟩ rfl rfl rfl rfl rfl (by kernel_rfl) Tryd.func7 (by kernel_rfl)
    (of_decide_eq_true (by kernel_rfl)) (by unfold Func.isWrapper; first | (rw [if_pos (by decide +kernel)]; kernel_rfl) | (rw [if_neg (by decide +kernel)]; exact ⟨rfl, rfl⟩))
    (fun os started H enc _ => lifted os started H enc)
/-- The card: the row, its listed tables tied to the text of the program. -/
theorem proved : Rows.InsnFitsCardSaid :=
  Claim7.holds_tied_plain_at .later [] [.data, .data] true Rows.insnFitsCard.stood.harness Rows.insnFitsCard.stood.looks
    over (fun _ h => by cases h) (by kernel_rfl) (fun _ h => by cases h) insnFits_row_tie rfl ⟨rfl, rfl⟩ (by kernel_rfl) rfl
    (fun f fn hf hfn => by
      obtain rfl : f = 7 := Option.some.inj ((show Tryd.prog.funcNamed "sacristy/sacristylaw02.InsnFits" = some 7 by kernel_rfl).symm.trans hf) |>.symm
      obtain rfl : fn = Tryd.f7 := (Option.some.inj (Tryd.func7.symm.trans hfn)).symm
      exact ⟨by kernel_rfl, fun j t ht => by
        rw [Tryd.params7] at ht
        have hm : t ∈ [5, 5, 2] := by simpa using Array.mem_of_getElem? ht
        have hall : ([5, 5, 2].all fun u => !Tryd.prog.wantsStandIn u) = true := by kernel_rfl
        exact (show Tryd.prog.wantsStandIn t = false by simpa using List.all_eq_true.1 hall t hm)⟩)
    (by kernel_rfl)
end Go.Proofs.YthlmdcokiamfkaaDoor.insnFits
