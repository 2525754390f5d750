/- What is proved: CpuApart returns true for any setup and any numbers, which stay as they were (its own card). Conditions: none beyond the row's own; the laid tables are tied to the program's text. -/
import Derived.Test.YtcckgfablfgknaaGreatDoorLAw
import Derived.Test.YtcckgfablfgknaaGreatDoorSx
import Derived.Test.YtcckgfablfgknaaGreatDoorCards
import Derived.Test.YtcckgfablfgknaaGreatDoorTie
import Derived.SevenTiedAt
namespace Go.Proofs.YtcckgfablfgknaaGreatDoor.cpuApart
open Go.Proofs.YtcckgfablfgknaaGreatDoor.m4
open Go.ChangeShapes Go.WideShapes Go.ChangeAt Go.RowKit
set_option linter.unusedVariables false
set_option maxRecDepth 100000 in
set_option maxHeartbeats 4000000 in
theorem walk_heavy (x : Su) (hx : ¬ x.small) (b st : Nat) (w : World) (hT : Tb w) : Calls Tryz.prog 5 #[x.val, .int .u64 (b : Nat), .int .u16 (st : Nat)] w fun e w' => e = .returned (.bool true) ∧ Below w.heap.size w w' := by
  have hHv := heavy_yes x hx
  unfold Su.val at hHv ⊢
  have hB0 := aBelow (Below.refl w.heap.size w) (.cells #[.slice x.a1 x.l1.length x.c1, .slice x.a2 x.l2.length x.c2, .slice x.a3 x.l3.length x.c3] 25)
  go_enter Tryz.func5, Tryz.ntmps5
  go_wp2_with (first
    | (go_at_call 8; (with_reducible refine (hHv _).mono ?_); (rintro e w1 ⟨rfl, hb1⟩); have hB1 := below_trans' hB0 (Nat.le_refl _) hb1; have hAl := alive_any _ (hT.of hB1))
    | (go_at_call 9; (with_reducible refine hAl.mono ?_); (rintro e w2 ⟨rfl, hb2⟩)))
  go_ret
  exact ⟨rfl, below_trans' hB1 (Nat.le_refl _) hb2⟩
theorem walkI (x : Su) (m1 : Int) (y1 : (Lit.int .u64 m1).wf = true) (m2 : Int) (y2 : (Lit.int .u16 m2).wf = true) (w : World) (hS : SuIn w x) (h : Tb w) :
    Calls Tryz.prog 5 #[x.val, .int .u64 m1, .int .u16 m2] w fun e w' => e = .returned (.bool true) ∧ Below w.heap.size w w' := by
  have b1 := bounds_u64 y1
  have b2 := bounds_u16 y2
  obtain ⟨b, rfl⟩ := Int.eq_ofNat_of_zero_le b1.1
  obtain ⟨st, rfl⟩ := Int.eq_ofNat_of_zero_le b2.1
  by_cases hx : x.small
  · exact apart_walk x hx b (by omega) st (by omega) w h hS
  · exact walk_heavy x hx b st w h
theorem own : ownKnob Tryz.prog.godebug = none := by kernel_rfl
set_option maxRecDepth 100000 in
set_option maxHeartbeats 1000000 in
theorem lifted (os : Os) (started : os.Started) (H : Type) (enc : TypeId × Value → H) :
    ReturnsInHanded {} Tryz.checked os 5 .any (fun w args => (Rows.cpuApartSpec.pre enc Tryz.prog Tryz.f5 [] false w args ∧ laidMetH Tryz.prog laidAll w) ∧ sizedMet enc Tryz.prog Tryz.f5 (OpenSpec.ofChange Rows.cpuApartSpec) false w args)
      (Rows.cpuApartSpec.post enc Tryz.prog Tryz.f5 false true false false) := by
  refine returnsInHanded_of_change_and (C := Tryz.checked) (X := fun w _ => laidMetH Tryz.prog laidAll w) (fun _ _ _ hh h => h.of_heap hh) own started (by kernel_rfl) Tryz.func5
    (ChangeSpec.witness_shaped (enc := enc) (C := Tryz.checked) (os := os) (X := fun w _ => laidMetH Tryz.prog laidAll w) false (World.doorLaid Tryz.prog 400 os) #[.agg #[.slice none 0 0, .slice none 0 0, .slice none 0 0], .int .u64 0, .int .u16 0] 8 rfl (World.shaped_of_RefB (by kernel_rfl) (by kernel_rfl)) (by kernel_rfl) (by kernel_rfl) (by kernel_rfl) (door_met os _)) ?_
  intro W base args ds gs before hval0 hW _ _ hL _
  have hval : ∀ (j : Nat) t v, Tryz.f5.params[j]? = some t → args[j]? = some v → Value.okWide Tryz.prog W .any base t v := hval0
  have hW' := hW
  obtain ⟨p, q, hA0, hV, rfl, hfz, hnd⟩ := hW
  have hA : DataW.TrodAll enc Tryz.prog W 0 (fun _ => true) true Tryz.f5.params.toList args.toList ds p := hA0
  rw [Tryz.params5] at hA hval
  obtain ⟨v0, vs0, d0, ds0, p0, q0, hargs, rfl, rfl, h0, r0⟩ := trodAll_cons hA
  obtain ⟨v1, vs1, d1, ds1, p1, q1, rfl, rfl, rfl, h1, r1⟩ := trodAll_cons r0
  obtain ⟨v2, vs2, d2, ds2, p2, q2, rfl, rfl, rfl, h2, r2⟩ := trodAll_cons r1
  obtain ⟨rfl, rfl, rfl⟩ := trodAll_nil r2
  obtain rfl : args = #[v0, v1, v2] := by cases args; simp_all
  obtain ⟨rfl, rfl⟩ := trodVars_none hV
  obtain ⟨x, rfl, hS⟩ := open_su (hval 0 25 v0 rfl rfl) h0
  obtain ⟨m1, rfl, rfl, rfl, y1⟩ := open_int Tryz.underlying39 (hval 1 39 v1 rfl rfl) h1
  obtain ⟨m2, rfl, rfl, rfl, y2⟩ := open_int Tryz.underlying26 (hval 2 26 v2 rfl rfl) h2
  clear hA0 hval0
  simp only [List.append_nil] at hW'
  have hlt : ∀ z ∈ p0, z.block < W.heap.size := fun z hz => by simpa using hW'.lt z hz
  refine (walkI x m1 y1 m2 y2 W hS (tb_of_laid hL)).mono fun e W' ⟨he, hg⟩ => ?_
  subst he
  have hk := trodAll_cons_mk (Below.trod laidOut5 (by kernel_rfl) (of_decide_eq_true (by kernel_rfl)) h0 hg hlt) (trodAll_cons_mk (shut_int Tryz.underlying39 y1) (trodAll_cons_mk (shut_int Tryz.underlying26 y2) trodAll_mk0))
  simp only [List.append_nil] at hk
  exact ⟨_, rfl, _, _, _, [], p0, [], hW', trodAll_mk1 (shut_bool Tryz.underlying4 _), hk, rfl, hg.frame _, fun h => by cases h⟩
theorem over : Rows.CpuApartSaid :=
  OpenClaim.holds_of_wide 5 Tryz.f5 rfl rfl rfl rfl rfl rfl rfl ⟨rfl, rfl, rfl, rfl, rfl⟩ rfl rfl rfl rfl rfl (by kernel_rfl) Tryz.func5 (by kernel_rfl)
    (of_decide_eq_true (by kernel_rfl)) (by unfold Func.isWrapper; first | (rw [if_pos (by decide +kernel)]; kernel_rfl) | (rw [if_neg (by decide +kernel)]; exact ⟨rfl, rfl⟩))
    (fun os started H enc _ => lifted os started H enc)
/-- The card: the row, its listed tables tied to the text of the program. -/
theorem proved : Rows.CpuApartCardSaid :=
  Claim7.holds_tied_plain_at .later [] [.data, .data, .data] true Rows.cpuApartCard.stood.harness Rows.cpuApartCard.stood.looks
    over (fun _ h => by cases h) (by kernel_rfl) (fun _ h => by cases h) cpuApart_row_tie rfl ⟨rfl, rfl⟩ (by kernel_rfl) rfl
    (fun f fn hf hfn => by
      obtain rfl : f = 5 := Option.some.inj ((show Tryz.prog.funcNamed "sacristy/sacristylaw05.CpuApart" = some 5 by kernel_rfl).symm.trans hf) |>.symm
      obtain rfl : fn = Tryz.f5 := (Option.some.inj (Tryz.func5.symm.trans hfn)).symm
      exact ⟨by kernel_rfl, fun j t ht => by
        rw [Tryz.params5] at ht
        have hm : t ∈ [25, 39, 26] := by simpa using Array.mem_of_getElem? ht
        have hall : ([25, 39, 26].all fun u => !Tryz.prog.wantsStandIn u) = true := by kernel_rfl
        exact (show Tryz.prog.wantsStandIn t = false by simpa using List.all_eq_true.1 hall t hm)⟩)
    (by kernel_rfl)
end Go.Proofs.YtcckgfablfgknaaGreatDoor.cpuApart
