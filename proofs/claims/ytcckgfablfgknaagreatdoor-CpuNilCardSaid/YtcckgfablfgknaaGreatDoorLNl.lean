/- What is proved: CpuNil returns true for any numbers, which stay as they were (its own card). Conditions: none beyond the row's own; the laid tables are tied to the program's text. -/
import Derived.Test.YtcckgfablfgknaaGreatDoorRc
import Derived.Test.YtcckgfablfgknaaGreatDoorCards
import Derived.Test.YtcckgfablfgknaaGreatDoorTie
import Derived.SevenTiedAt
namespace Go.Proofs.YtcckgfablfgknaaGreatDoor.cpuNil
open Go.Proofs.YtcckgfablfgknaaGreatDoor.m4
open Go.ChangeShapes Go.WideShapes Go.ChangeAt Go.RowKit
set_option linter.unusedVariables false
theorem built0' (w : World) : Calls Tryz.prog 10 #[.agg #[.slice none 0 0, .slice none 0 0, .slice none 0 0]] w (BxP w 0 (su none 0 []).ms) :=
  built_cx (su none 0 []) ⟨by show 0 ≤ 200; omega, by show 0 ≤ 100; omega, by show 0 ≤ 600; omega⟩ w (su_in (fun i hi => absurd hi (Nat.not_lt_zero _)) (fun i => In0_wf))
theorem built0 : ∃ s, ∀ w, Calls Tryz.prog 10 #[.agg #[.slice none 0 0, .slice none 0 0, .slice none 0 0]] w (BxP w 0 s) := ⟨_, built0'⟩
set_option maxRecDepth 100000 in
set_option maxHeartbeats 4000000 in
theorem walk_low (i : Int) (h : i < 0) (v : Nat) (hv : v < 18446744073709551616) (f : Int) (w : World) (hT : Tb w) : Calls Tryz.prog 7 #[.int .i64 i, .int .u64 v, .int .i64 f] w fun e w' => e = .returned (.bool true) ∧ Below w.heap.size w w' := by
  obtain ⟨s, built0⟩ := built0
  have hi : ¬ (0 ≤ i ∧ i < 32) := by omega
  go_enter Tryz.func7, Tryz.ntmps7
  go_wp2_with (first
    | (go_at_call 27; (with_reducible refine (reg_nil _ _).mono ?_); (rintro e w1 ⟨rfl, hb1⟩))
    | (go_at_call 15; (with_reducible refine (over_nil _).mono ?_); (rintro e w2 ⟨rfl, rfl⟩))
    | (go_at_call 30; (with_reducible refine (setreg_nil _ _ _ _).mono ?_); (rintro e w2 ⟨rfl, rfl⟩))
    | (go_at_call 12; (with_reducible refine (step_nil _).mono ?_); (rintro e w3 ⟨rfl, hb3⟩); have hB3 := below_trans' hb1 (Nat.le_refl _) hb3)
    | (go_at_call 16; (with_reducible refine (run_nil _ _).mono ?_); (rintro e w2 ⟨rfl, rfl⟩))
    | (go_at_call 18; (with_reducible refine (pc_nil _).mono ?_); (rintro e w2 ⟨rfl, rfl⟩))
    | (go_at_call 22; (with_reducible refine (told_nil _).mono ?_); (rintro e w2 ⟨rfl, rfl⟩))
    | (go_at_call 20; (with_reducible refine (trace_nil _).mono ?_); (rintro e w2 ⟨rfl, rfl⟩))
    | (go_at_call 31; (with_reducible refine (new_arg v _).mono ?_); (rintro e w2 ⟨rfl, rfl⟩))
    | (go_at_call 10; (with_reducible refine (built0 _).mono ?_); (rintro e w4 ⟨M, rfl, hl, hC, hA⟩); have hB4 := below_trans' hB3 (Nat.le_refl _) hC.b; have hSr := setreg_bad M.cb i v true hi w4; have hRg := reg_bad M.cb i hi w4)
    | (go_at_call 30; (with_reducible refine (hSr).mono ?_); (rintro e w5 ⟨rfl, rfl⟩); have hB5 := hB4)
    | (go_at_call 27; (with_reducible refine (hRg).mono ?_); (rintro e w6 ⟨rfl, hb6⟩); have hB6 := below_trans' hB5 (Nat.le_refl _) hb6; have hAl := alive_any _ (hT.of hB6))
    | (go_at_call 9; (with_reducible refine (hAl).mono ?_); (rintro e w7 ⟨rfl, hb7⟩)))
  go_ret
  exact ⟨rfl, below_trans' hB6 (Nat.le_refl _) hb7⟩
set_option maxRecDepth 100000 in
set_option maxHeartbeats 4000000 in
theorem walk_high (i : Int) (h : 31 < i) (v : Nat) (hv : v < 18446744073709551616) (f : Int) (w : World) (hT : Tb w) : Calls Tryz.prog 7 #[.int .i64 i, .int .u64 v, .int .i64 f] w fun e w' => e = .returned (.bool true) ∧ Below w.heap.size w w' := by
  obtain ⟨s, built0⟩ := built0
  have hi : ¬ (0 ≤ i ∧ i < 32) := by omega
  have h1 : ¬ i < 0 := by omega
  go_enter Tryz.func7, Tryz.ntmps7
  go_wp2_with (first
    | (go_at_call 27; (with_reducible refine (reg_nil _ _).mono ?_); (rintro e w1 ⟨rfl, hb1⟩))
    | (go_at_call 15; (with_reducible refine (over_nil _).mono ?_); (rintro e w2 ⟨rfl, rfl⟩))
    | (go_at_call 30; (with_reducible refine (setreg_nil _ _ _ _).mono ?_); (rintro e w2 ⟨rfl, rfl⟩))
    | (go_at_call 12; (with_reducible refine (step_nil _).mono ?_); (rintro e w3 ⟨rfl, hb3⟩); have hB3 := below_trans' hb1 (Nat.le_refl _) hb3)
    | (go_at_call 16; (with_reducible refine (run_nil _ _).mono ?_); (rintro e w2 ⟨rfl, rfl⟩))
    | (go_at_call 18; (with_reducible refine (pc_nil _).mono ?_); (rintro e w2 ⟨rfl, rfl⟩))
    | (go_at_call 22; (with_reducible refine (told_nil _).mono ?_); (rintro e w2 ⟨rfl, rfl⟩))
    | (go_at_call 20; (with_reducible refine (trace_nil _).mono ?_); (rintro e w2 ⟨rfl, rfl⟩))
    | (go_at_call 31; (with_reducible refine (new_arg v _).mono ?_); (rintro e w2 ⟨rfl, rfl⟩))
    | (go_at_call 10; (with_reducible refine (built0 _).mono ?_); (rintro e w4 ⟨M, rfl, hl, hC, hA⟩); have hB4 := below_trans' hB3 (Nat.le_refl _) hC.b; have hSr := setreg_bad M.cb i v true hi w4; have hRg := reg_bad M.cb i hi w4)
    | (go_at_call 30; (with_reducible refine (hSr).mono ?_); (rintro e w5 ⟨rfl, rfl⟩); have hB5 := hB4)
    | (go_at_call 27; (with_reducible refine (hRg).mono ?_); (rintro e w6 ⟨rfl, hb6⟩); have hB6 := below_trans' hB5 (Nat.le_refl _) hb6; have hAl := alive_any _ (hT.of hB6))
    | (go_at_call 9; (with_reducible refine (hAl).mono ?_); (rintro e w7 ⟨rfl, hb7⟩)))
  go_ret
  exact ⟨rfl, below_trans' hB6 (Nat.le_refl _) hb7⟩
set_option maxRecDepth 100000 in
set_option maxHeartbeats 4000000 in
theorem walk_in (n : Nat) (hn : n < 32) (h0 : n ≠ 0) (v : Nat) (hv : v < 18446744073709551616) (f : Int) (w : World) (hT : Tb w) : Calls Tryz.prog 7 #[.int .i64 n, .int .u64 v, .int .i64 f] w fun e w' => e = .returned (.bool true) ∧ Below w.heap.size w w' := by
  obtain ⟨s, built0⟩ := built0
  have h1 : ¬ (n : Int) < 0 := by omega
  have h2 : ¬ 31 < (n : Int) := by omega
  have h3 : 0 < (n : Int) := by omega
  have h4 : ¬ (n : Int) = 0 := by omega
  go_enter Tryz.func7, Tryz.ntmps7
  go_wp2_with (first
    | (go_at_call 27; (with_reducible refine (reg_nil _ _).mono ?_); (rintro e w1 ⟨rfl, hb1⟩))
    | (go_at_call 15; (with_reducible refine (over_nil _).mono ?_); (rintro e w2 ⟨rfl, rfl⟩))
    | (go_at_call 30; (with_reducible refine (setreg_nil _ _ _ _).mono ?_); (rintro e w2 ⟨rfl, rfl⟩))
    | (go_at_call 12; (with_reducible refine (step_nil _).mono ?_); (rintro e w3 ⟨rfl, hb3⟩); have hB3 := below_trans' hb1 (Nat.le_refl _) hb3)
    | (go_at_call 16; (with_reducible refine (run_nil _ _).mono ?_); (rintro e w2 ⟨rfl, rfl⟩))
    | (go_at_call 18; (with_reducible refine (pc_nil _).mono ?_); (rintro e w2 ⟨rfl, rfl⟩))
    | (go_at_call 22; (with_reducible refine (told_nil _).mono ?_); (rintro e w2 ⟨rfl, rfl⟩))
    | (go_at_call 20; (with_reducible refine (trace_nil _).mono ?_); (rintro e w2 ⟨rfl, rfl⟩))
    | (go_at_call 31; (with_reducible refine (new_arg v _).mono ?_); (rintro e w2 ⟨rfl, rfl⟩))
    | (go_at_call 10; (with_reducible refine (built0 _).mono ?_); (rintro e w4 ⟨M, rfl, hl, hC, hA⟩); have hB4 := below_trans' hB3 (Nat.le_refl _) hC.b; have hSr := setreg_cx hC n v true hn hv)
    | (go_at_call 30; (with_reducible refine (hSr).mono ?_); (rintro e w5 ⟨rfl, hC5, hO5⟩); have hB5 := hB4.trans (hO5.below (fun j hj => Nat.le_trans hB3.size (hC.o j hj)) hB4.size); have hRg := reg_any hC5.c n hn; rw [show (s.lay n v true).rv n = v from (by show lyV s.rv n v n = v; unfold lyV; rw [if_neg h0]; exact up1_at _ _ _), show (s.lay n v true).rt n = true from (by show lyT s.rt n true n = true; unfold lyT; rw [if_neg h0]; exact up1_at _ _ _)] at hRg)
    | (go_at_call 27; (with_reducible refine (hRg).mono ?_); (rintro e w6 ⟨rfl, hb6⟩); have hB6 := below_trans' hB5 (Nat.le_refl _) hb6; have hAl := alive_any _ (hT.of hB6))
    | (go_at_call 9; (with_reducible refine (hAl).mono ?_); (rintro e w7 ⟨rfl, hb7⟩)))
  go_ret
  exact ⟨rfl, below_trans' hB6 (Nat.le_refl _) hb7⟩
set_option maxRecDepth 100000 in
set_option maxHeartbeats 4000000 in
theorem walk_0  (v : Nat) (hv : v < 18446744073709551616) (f : Int) (w : World) (hT : Tb w) : Calls Tryz.prog 7 #[.int .i64 0, .int .u64 v, .int .i64 f] w fun e w' => e = .returned (.bool true) ∧ Below w.heap.size w w' := by
  obtain ⟨s, built0⟩ := built0
  go_enter Tryz.func7, Tryz.ntmps7
  go_wp2_with (first
    | (go_at_call 27; (with_reducible refine (reg_nil _ _).mono ?_); (rintro e w1 ⟨rfl, hb1⟩))
    | (go_at_call 15; (with_reducible refine (over_nil _).mono ?_); (rintro e w2 ⟨rfl, rfl⟩))
    | (go_at_call 30; (with_reducible refine (setreg_nil _ _ _ _).mono ?_); (rintro e w2 ⟨rfl, rfl⟩))
    | (go_at_call 12; (with_reducible refine (step_nil _).mono ?_); (rintro e w3 ⟨rfl, hb3⟩); have hB3 := below_trans' hb1 (Nat.le_refl _) hb3)
    | (go_at_call 16; (with_reducible refine (run_nil _ _).mono ?_); (rintro e w2 ⟨rfl, rfl⟩))
    | (go_at_call 18; (with_reducible refine (pc_nil _).mono ?_); (rintro e w2 ⟨rfl, rfl⟩))
    | (go_at_call 22; (with_reducible refine (told_nil _).mono ?_); (rintro e w2 ⟨rfl, rfl⟩))
    | (go_at_call 20; (with_reducible refine (trace_nil _).mono ?_); (rintro e w2 ⟨rfl, rfl⟩))
    | (go_at_call 31; (with_reducible refine (new_arg v _).mono ?_); (rintro e w2 ⟨rfl, rfl⟩))
    | (go_at_call 10; (with_reducible refine (built0 _).mono ?_); (rintro e w4 ⟨M, rfl, hl, hC, hA⟩); have hB4 := below_trans' hB3 (Nat.le_refl _) hC.b; have hSr := setreg_cx hC 0 v true (by omega) hv; rw [show ((0 : Nat) : Int) = 0 from rfl] at hSr)
    | (go_at_call 30; (with_reducible refine (hSr).mono ?_); (rintro e w5 ⟨rfl, hC5, hO5⟩); have hB5 := hB4.trans (hO5.below (fun j hj => Nat.le_trans hB3.size (hC.o j hj)) hB4.size); have hRg := reg_any hC5.c 0 (by omega); rw [hC5.c.ok.v0, hC5.c.ok.t0, show ((0 : Nat) : Int) = 0 from rfl] at hRg)
    | (go_at_call 27; (with_reducible refine (hRg).mono ?_); (rintro e w6 ⟨rfl, hb6⟩); have hB6 := below_trans' hB5 (Nat.le_refl _) hb6; have hAl := alive_any _ (hT.of hB6))
    | (go_at_call 9; (with_reducible refine (hAl).mono ?_); (rintro e w7 ⟨rfl, hb7⟩)))
  go_ret
  exact ⟨rfl, below_trans' hB6 (Nat.le_refl _) hb7⟩
theorem walkI (m0 : Int) (y0 : (Lit.int .i64 m0).wf = true) (m1 : Int) (y1 : (Lit.int .u64 m1).wf = true) (m2 : Int) (y2 : (Lit.int .i64 m2).wf = true) (w : World) (h : Tb w) :
    Calls Tryz.prog 7 #[.int .i64 m0, .int .u64 m1, .int .i64 m2] w fun e w' => e = .returned (.bool true) ∧ Below w.heap.size w w' := by
  have b1 := bounds_u64 y1
  obtain ⟨v, rfl⟩ := Int.eq_ofNat_of_zero_le b1.1
  have hv : v < 18446744073709551616 := by omega
  by_cases c1 : m0 < 0
  · exact walk_low m0 c1 v hv m2 w h
  by_cases c2 : 31 < m0
  · exact walk_high m0 c2 v hv m2 w h
  obtain ⟨n, rfl⟩ : ∃ n : Nat, m0 = n := ⟨m0.toNat, by omega⟩
  by_cases c3 : n = 0
  · subst c3; exact walk_0 v hv m2 w h
  · exact walk_in n (by omega) c3 v hv m2 w h
theorem own : ownKnob Tryz.prog.godebug = none := by kernel_rfl
set_option maxRecDepth 100000 in
theorem lifted (os : Os) (started : os.Started) (H : Type) (enc : TypeId × Value → H) :
    ReturnsInHanded {} Tryz.checked os 7 .any (fun w args => (Rows.cpuNilSpec.pre enc Tryz.prog Tryz.f7 [] false w args ∧ laidMetH Tryz.prog laidAll w) ∧ sizedMet enc Tryz.prog Tryz.f7 (OpenSpec.ofChange Rows.cpuNilSpec) false w args)
      (Rows.cpuNilSpec.post enc Tryz.prog Tryz.f7 false true false false) := by
  refine returnsInHanded_of_change_and (C := Tryz.checked) (X := fun w _ => laidMetH Tryz.prog laidAll w) (fun _ _ _ hh h => h.of_heap hh) own started (by kernel_rfl) Tryz.func7
    (ChangeSpec.witness_shaped (enc := enc) (C := Tryz.checked) (os := os) (X := fun w _ => laidMetH Tryz.prog laidAll w) false (World.doorLaid Tryz.prog 400 os) #[.int .i64 0, .int .u64 0, .int .i64 0] 8 rfl (World.shaped_of_RefB (by kernel_rfl) (by kernel_rfl)) (by kernel_rfl) (by kernel_rfl) (by kernel_rfl) (door_met os _)) ?_
  intro W base args ds gs before hval0 hW _ _ hL _
  have hval : ∀ (j : Nat) t v, Tryz.f7.params[j]? = some t → args[j]? = some v → Value.okWide Tryz.prog W .any base t v := hval0
  have hW' := hW
  obtain ⟨p, q, hA0, hV, rfl, hfz, hnd⟩ := hW
  have hA : DataW.TrodAll enc Tryz.prog W 0 (fun _ => true) true Tryz.f7.params.toList args.toList ds p := hA0
  rw [Tryz.params7] at hA hval
  obtain ⟨v0, vs0, d0, ds0, p0, q0, hargs, rfl, rfl, h0, r0⟩ := trodAll_cons hA
  obtain ⟨v1, vs1, d1, ds1, p1, q1, rfl, rfl, rfl, h1, r1⟩ := trodAll_cons r0
  obtain ⟨v2, vs2, d2, ds2, p2, q2, rfl, rfl, rfl, h2, r2⟩ := trodAll_cons r1
  obtain ⟨rfl, rfl, rfl⟩ := trodAll_nil r2
  obtain rfl : args = #[v0, v1, v2] := by cases args; simp_all
  obtain ⟨rfl, rfl⟩ := trodVars_none hV
  obtain ⟨m0, rfl, rfl, rfl, y0⟩ := open_int Tryz.underlying3 (hval 0 3 v0 rfl rfl) h0
  obtain ⟨m1, rfl, rfl, rfl, y1⟩ := open_int Tryz.underlying39 (hval 1 39 v1 rfl rfl) h1
  obtain ⟨m2, rfl, rfl, rfl, y2⟩ := open_int Tryz.underlying3 (hval 2 3 v2 rfl rfl) h2
  clear hA0 hval0
  simp only [List.append_nil] at hW'
  refine (walkI m0 y0 m1 y1 m2 y2 W (tb_of_laid hL)).mono fun e W' ⟨he, hg⟩ => ?_
  subst he
  exact ⟨_, rfl, _, _, _, [], _, [], hW', trodAll_mk1 (shut_bool Tryz.underlying4 _), (trodAll_cons_mk (shut_int Tryz.underlying3 y0) (trodAll_cons_mk (shut_int Tryz.underlying39 y1) (trodAll_cons_mk (shut_int Tryz.underlying3 y2) trodAll_mk0))), rfl, hg.frame _, fun h => by cases h⟩
theorem over : Rows.CpuNilSaid :=
  OpenClaim.holds_of_wide 7 Tryz.f7 rfl rfl rfl rfl rfl rfl rfl ⟨rfl, rfl, rfl, rfl, rfl⟩ rfl rfl rfl rfl rfl (by kernel_rfl) Tryz.func7 (by kernel_rfl)
    (of_decide_eq_true (by kernel_rfl)) (by unfold Func.isWrapper; first | (rw [if_pos (by decide +kernel)]; kernel_rfl) | (rw [if_neg (by decide +kernel)]; exact ⟨rfl, rfl⟩))
    (fun os started H enc _ => lifted os started H enc)
/-- The card: the row, its listed tables tied to the text of the program. -/
theorem proved : Rows.CpuNilCardSaid :=
  Claim7.holds_tied_plain_at .later [] [.data, .data, .data] true Rows.cpuNilCard.stood.harness Rows.cpuNilCard.stood.looks
    over (fun _ h => by cases h) (by kernel_rfl) (fun _ h => by cases h) cpuNil_row_tie rfl ⟨rfl, rfl⟩ (by kernel_rfl) rfl
    (fun f fn hf hfn => by
      obtain rfl : f = 7 := Option.some.inj ((show Tryz.prog.funcNamed "sacristy/sacristylaw05.CpuNil" = some 7 by kernel_rfl).symm.trans hf) |>.symm
      obtain rfl : fn = Tryz.f7 := (Option.some.inj (Tryz.func7.symm.trans hfn)).symm
      exact ⟨by kernel_rfl, fun j t ht => by
        rw [Tryz.params7] at ht
        have hm : t ∈ [3, 39, 3] := by simpa using Array.mem_of_getElem? ht
        have hall : ([3, 39, 3].all fun u => !Tryz.prog.wantsStandIn u) = true := by kernel_rfl
        exact (show Tryz.prog.wantsStandIn t = false by simpa using List.all_eq_true.1 hall t hm)⟩)
    (by kernel_rfl)
end Go.Proofs.YtcckgfablfgknaaGreatDoor.cpuNil
