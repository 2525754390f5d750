/- What is proved: CpuPlays returns true for any setup and any number of steps, which stay as they were (its own card): what a machine has, and what was seen of it, step by step, is what the document's own machine has. Conditions: none beyond the row's own; the laid tables are tied to the program's text. -/
import Derived.Test.YtfaacmcnefbgcaaGreatDoorDf
import Derived.Test.YtfaacmcnefbgcaaGreatDoorDg
import Derived.Test.YtfaacmcnefbgcaaGreatDoorDh
import Derived.Test.YtfaacmcnefbgcaaGreatDoorSx
import Derived.Test.YtfaacmcnefbgcaaGreatDoorCards
import Derived.Test.YtfaacmcnefbgcaaGreatDoorTie
import Derived.SevenTiedAt
namespace Go.Proofs.YtfaacmcnefbgcaaGreatDoor.cpuPlays
open Go.Proofs.YtfaacmcnefbgcaaGreatDoor.m4
open Go.ChangeShapes Go.WideShapes Go.ChangeAt Go.RowKit
set_option linter.unusedVariables false
/-- Both machines, apart. -/
structure Bo (W w : World) (M : Mc) (D : Dc) (s : Ms) (n : Nat) : Prop where
  t : Two5 W w M D s n
  x : ∀ j, M.all j → ¬ D.all j
  o : ∀ j, D.own j → W.heap.size ≤ j
theorem Bo.of {W w w' : World} {M : Mc} {D : Dc} {s : Ms} {n : Nat} (h : Bo W w M D s n) (hb : Below w.heap.size w w') : Bo W w' M D s n := ⟨h.t.of hb, h.x, h.o⟩
/-- Behind a step of the program's and one of the document's. -/
theorem bo_step {W w w1 w2 : World} {M M' : Mc} {D D' : Dc} {s s' : Ms} {n : Nat} (h : Bo W w M D s n) (hn : Mc.nxt w M M') (hc : Cx W w1 M' s') (ho : Only M.own w w1) (dn : Dc.nxt w1 D D') (hd : IsD w2 D' s') (od : Only D.own w1 w2) : Bo W w2 M' D' s' n := by
  have hlt : ∀ j, D.all j → j < w.heap.size := fun j hj => h.t.d.all_lt hj
  have hx1 : ∀ j, M'.all j → ¬ D.all j := fun j hj hd => by
    rcases nxt_all hn hj with h1 | h1
    · exact h.x j h1 hd
    · have := hlt j hd; omega
  have hx2 : ∀ j, M'.all j → ¬ D'.all j := fun j hj hd => by
    rcases dnxt_all dn hd with h1 | h1
    · exact hx1 j hj h1
    · have := hc.c.all_lt hj; omega
  refine ⟨⟨hc.only od (fun j hj hj2 => hx1 j hj (.inl hj2)) h.o, hd, by rw [hn.2.1]; exact h.t.lM, by rw [dn.2.1]; exact h.t.lD⟩, hx2, fun j hj => ?_⟩
  rcases dn.2.2 j hj with h1 | h1
  · exact h.o j h1
  · have := hc.b.size; omega
theorem sm5 {W w : World} {M : Mc} {D : Dc} {s : Ms} {n cb mb db : Nat} (hn : n ≤ 200) (h : Bo W w M D s n) (h1 : M.cb = cb) (h2 : M.x.mb = mb) (h3 : D.db = db) :
    Calls Tryz.prog 10 #[.pointer (some ⟨cb, 0, none⟩), .pointer (some ⟨mb, 0, none⟩), .pointer (some ⟨db, 0, none⟩)] w fun e w' => e = .returned (.bool true) ∧ Below w.heap.size w w' := by
  subst h1 h2 h3; exact same5 hn h.t
theorem stD_of {w : World} {D : Dc} {s : Ms} (h : IsD w D s) (hk : s.tk) : Calls Tryz.prog 9 #[.pointer (some ⟨D.db, 0, none⟩)] w (StD w D (stF D.y.l s)) := by
  have hto : s.told.length ≤ 1048576 := by have := h.ok.n; unfold Ms.tk at hk; omega
  unfold stF
  cases ho : s.ov with
  | true => rw [if_pos rfl]; exact rs_over h ho
  | false =>
    rw [if_neg (by decide)]
    by_cases hf : s.tr.length = 1048576
    · rw [if_pos hf]; exact rs_full h ho hf
    rw [if_neg hf]
    unfold doF
    obtain ⟨fv, fe, hfe⟩ : ∃ fv fe, feF D.y.l s.bv s.pc = (fv, fe) := ⟨_, _, rfl⟩
    rw [hfe]
    simp only
    by_cases hz : fe = 0
    · rw [if_pos hz]
      cases hd : decN fv with
      | none => exact step_form h ho hf hfe hz hd
      | some x =>
        simp only
        unfold exE
        by_cases hre : (exF D.y.l s x).e = 0
        · rw [if_pos hre]; exact step_ok h hto ho hf hfe hz hd hre
        · rw [if_neg hre]; exact step_err h hto ho hf hfe hz hd hre
    · rw [if_neg hz]; exact step_fault h ho hf hfe hz
set_option maxRecDepth 100000 in
set_option maxHeartbeats 4000000 in
theorem walk_heavy (x : Su) (m : Int) (hx : ¬ x.small) (w : World) (hT : Tb w) : Calls Tryz.prog 3 #[x.val, .int .u16 m] w fun e w' => e = .returned (.bool true) ∧ Below w.heap.size w w' := by
  have hHv := heavy_yes x hx
  unfold Su.val at hHv ⊢
  have hB0 := aBelow (Below.refl w.heap.size w) (.cells #[.slice x.a1 x.l1.length x.c1, .slice x.a2 x.l2.length x.c2, .slice x.a3 x.l3.length x.c3] 25)
  go_enter Tryz.func3, Tryz.ntmps3
  go_wp2_with (first
    | (go_at_call 4; (with_reducible refine (hHv _).mono ?_); (rintro e w1 ⟨rfl, hb1⟩); have hB1 := below_trans' hB0 (Nat.le_refl _) hb1; have hAl := alive_any _ (hT.of hB1))
    | (go_at_call 5; (with_reducible refine hAl.mono ?_); (rintro e w2 ⟨rfl, hb2⟩)))
  go_ret
  exact ⟨rfl, below_trans' hB1 (Nat.le_refl _) hb2⟩
set_option maxRecDepth 100000 in
set_option maxHeartbeats 8000000 in
theorem walk_small (x : Su) (m : Nat) (hm : m < 65536) (hx : x.small) (w : World) (hS : SuIn w x) (hT : Tb w) : Calls Tryz.prog 3 #[x.val, .int .u16 (m : Int)] w fun e w' => e = .returned (.bool true) ∧ Below w.heap.size w w' := by
  have hHv := heavy_no x hx
  have hBt := fun w' (h : SuIn w' x) => built_cx x hx w' h
  have hRb := fun w' (h : SuIn w' x) => rbuilt_any x hx w' h
  obtain ⟨n, hn⟩ : ∃ n, x.l1.length = n := ⟨_, rfl⟩
  have hn2 : n ≤ 200 := by rw [← hn]; exact hx.1
  unfold RbP BxP at *
  rw [hn] at hBt
  simp only [hn] at hRb
  obtain ⟨s0, hs0⟩ : ∃ s, x.ms = s := ⟨_, rfl⟩
  rw [hs0] at hBt hRb
  obtain ⟨wb, hwb⟩ : ∃ wb, w.alloc (.cells #[.slice x.a1 x.l1.length x.c1, .slice x.a2 x.l2.length x.c2, .slice x.a3 x.l3.length x.c3] 25) = wb := ⟨_, rfl⟩
  have hB0 : Below w.heap.size w wb := by rw [← hwb]; exact aBelow (Below.refl _ _) _
  have hS0 := hS.of hB0
  have g0 : wb.cell? ⟨w.heap.size, 0, none⟩ = some (.slice x.a1 x.l1.length x.c1) := by rw [← hwb]; exact nwc _ _ _ _
  have g1 : wb.cell? ⟨w.heap.size, 1, none⟩ = some (.slice x.a2 x.l2.length x.c2) := by rw [← hwb]; exact nwc _ _ _ _
  have g2 : wb.cell? ⟨w.heap.size, 2, none⟩ = some (.slice x.a3 x.l3.length x.c3) := by rw [← hwb]; exact nwc _ _ _ _
  have hwbl : w.heap.size < wb.heap.size := by rw [← hwb]; simp
  unfold Su.val at hHv hBt hRb ⊢
  rw [hn] at g0 hHv
  rw [hn] at hwb
  simp only [hn] at hBt hRb ⊢
  obtain ⟨mm, hmm⟩ : ∃ k, m % 300 = k := ⟨_, rfl⟩
  have em : (m : Int).tmod 300 = (mm : Int) := by rw [Int.tmod_eq_emod_of_nonneg (by omega)]; omega
  have em2 : (m : Int) % 300 = (mm : Int) := by omega
  have hm3 : mm < 300 := by omega
  have ew : IntKind.i64.wrap (mm : Int) = (mm : Int) := by rw [IntKind.wrap_i64]; omega
  clear hn hs0
  go_enter Tryz.func3, Tryz.ntmps3
  go_wp2_with (first
    | (go_at_call 4; (with_reducible refine (hHv _).mono ?_); (rintro e w1 ⟨rfl, hb1⟩); have hB1 := below_trans' hB0 (Nat.le_refl _) hb1; have k0 := stay hb1 g0; have k1 := stay hb1 g1; have k2 := stay hb1 g2; have kl := Nat.lt_of_lt_of_le hwbl hb1.size; have hS1 := hS0.of hb1)
    | (go_at_call 6; (with_reducible refine (hBt _ hS1).mono ?_); (rintro e w2 ⟨M0, rfl, lM, hC2, hM2⟩); have hB2 := below_trans' hB1 (Nat.le_refl _) hC2.b; have j0 := stay hC2.b k0; have j1 := stay hC2.b k1; have j2 := stay hC2.b k2; have jl := Nat.lt_of_lt_of_le kl hC2.b.size; have hS2 := hS1.of hC2.b)
    | (go_at_call 7; (with_reducible refine (hRb _ hS2).mono ?_); (rintro e w3 ⟨⟨D0, rfl, lD, hD3, hD4⟩, hb3⟩)))
  have hBo : Bo w1 w3 M0 D0 s0 n := ⟨⟨hC2.of hb3, hD3, lM, lD⟩, fun j h1 h2 => by have := hC2.c.all_lt h1; have := hD4 j h2; omega, fun j hj => Nat.le_trans hC2.b.size (hD4 j (.inl hj))⟩
  have hT1 := hT.of hB1
  obtain ⟨cb, hcb⟩ : ∃ c, M0.cb = c := ⟨_, rfl⟩
  obtain ⟨mb, hmb⟩ : ∃ c, M0.x.mb = c := ⟨_, rfl⟩
  obtain ⟨db, hdb⟩ : ∃ c, D0.db = c := ⟨_, rfl⟩
  rw [hcb, hmb, hdb]
  go_loopw [8] (fun i wr => ∃ (k : Nat) (M : Mc) (D : Dc) (s : Ms), i = .int .i64 k ∧ k ≤ mm ∧ Bo w1 wr M D s n ∧ M.cb = cb ∧ M.x.mb = mb ∧ D.db = db) (fun i _ => mm - (intOf i).toNat)
  case atStart => exact ⟨0, M0, D0, s0, rfl, Nat.zero_le _, hBo, hcb, hmb, hdb⟩
  case round =>
    obtain ⟨k, M, D, s, rfl, hk, hBr, rfl, rfl, rfl⟩ := hrel
    have hCs := step_cx hT1 hBr.t.c
    rw [hBr.t.lM] at hCs
    have hDs : ∀ w', IsD w' D s → Calls Tryz.prog 9 #[.pointer (some ⟨D.db, 0, none⟩)] w' (StD w' D (stF (rgs n) s)) := fun w' hd => by
      have := stD_of hd hBr.t.c.k
      rw [hBr.t.lD] at this
      exact this
    obtain ⟨r, hr⟩ : ∃ r, stF (rgs n) s = r := ⟨_, rfl⟩
    rw [hr] at hCs hDs
    clear hr
    obtain ⟨rk, rs⟩ := r
    have hHB := Lib.hid hBr
    by_cases hlt : k < mm
    · have i0 : (0 : Int) ≤ (k : Int) := by omega
      have hlt' : (k : Int) < (mm : Int) := by omega
      obtain ⟨b16, h16⟩ : ∃ b, decide (k % 16 = 0) = b := ⟨_, rfl⟩
      have t16 : ((k : Int).tmod 16 == 0) = b16 := by rw [Int.tmod_eq_emod_of_nonneg (by omega), ← h16]; by_cases h9 : k % 16 = 0 <;> simp [h9] <;> omega
      have u16 : ((k : Int) % 16 == 0) = b16 := by rw [← h16]; by_cases h9 : k % 16 = 0 <;> simp [h9] <;> omega
      have v16 : decide ((k : Int) % 16 = 0) = b16 := by rw [← h16]; by_cases h9 : k % 16 = 0 <;> simp [h9] <;> omega
      clear h16
      obtain ⟨ov, hov⟩ : ∃ b, rs.ov = b := ⟨_, rfl⟩
      cases b16 <;> cases ov
      all_goals go_wp2_with (first | (go_at_call 8; (with_reducible refine hCs.mono ?_); (rintro e w4 ⟨M', hn', rfl, hC4, hO4⟩); have hd4 : IsD w4 D s := hHB.out.t.d.only hO4 (fun j hj hj2 => hHB.out.x j (.inl hj2) hj)) | (go_at_call 9; (with_reducible refine (hDs w4 hd4).mono ?_); (rintro e w5 ⟨D', dn, rfl, hd5, od⟩); have hB5 : Bo w1 w5 M' D' rs n := bo_step hHB.out hn' hC4 hO4 dn hd5 od; have hcb' : M'.cb = M.cb := hn'.1; have hmb' : M'.x.mb = M.x.mb := (by rw [hn'.2.1]); have hdb' : D'.db = D.db := dn.1; have v66 := hB5.t.d.e66; have l66 := hB5.t.d.lt; rw [hdb', hov] at v66; rw [hdb'] at l66) | (go_at_call 10; (first | ((have hcall := sm5 hn2 hB6 hcb' hmb' hdb'); (with_reducible refine hcall.mono ?_); (clear hcall); (rintro e w7 ⟨rfl, hb7⟩); have hB7 := hB6.of hb7) | ((have hcall := sm5 hn2 hB5 hcb' hmb' hdb'); (with_reducible refine hcall.mono ?_); (clear hcall); (rintro e w6 ⟨rfl, hb6⟩); have hB6 := hB5.of hb6; have v66b := stay hb6 v66; have l66b := Nat.lt_of_lt_of_le l66 hb6.size))) | (go_at_call 5; (first | ((have hcall := alive_any _ (hT1.of hB7.t.c.b)); (with_reducible refine hcall.mono ?_); (clear hcall); (rintro e wz ⟨rfl, hbz⟩)) | ((have hcall := alive_any _ (hT1.of hB6.t.c.b)); (with_reducible refine hcall.mono ?_); (clear hcall); (rintro e wz ⟨rfl, hbz⟩)))))
      all_goals first
        | (go_ret
           exact ⟨rfl, below_trans' hB1 (Nat.le_refl _) (below_trans' hB6.t.c.b (Nat.le_refl _) hbz)⟩)
        | (go_ret
           exact ⟨rfl, below_trans' hB1 (Nat.le_refl _) (below_trans' hB7.t.c.b (Nat.le_refl _) hbz)⟩)
        | (go_roundw
           case rel => first | exact ⟨k + 1, M', D', rs, by go_num, by omega, hB6, hcb', hmb', hdb'⟩ | exact ⟨k + 1, M', D', rs, by go_num, by omega, hB5, hcb', hmb', hdb'⟩
           case measure => first | (simp [intOf]; done) | (simp [intOf]; omega))
    · obtain rfl : k = mm := by omega
      have hsx := sm5 hn2 hBr rfl rfl rfl
      go_wp2_with (first | (go_at_call 10; (with_reducible refine hsx.mono ?_); (rintro e w6 ⟨rfl, hb6⟩); have hB6 := hBr.of hb6) | (go_at_call 5; (have hcall := alive_any _ (hT1.of hB6.t.c.b)); (with_reducible refine hcall.mono ?_); (clear hcall); (rintro e wz ⟨rfl, hbz⟩)))
      go_ret
      exact ⟨rfl, below_trans' hB1 (Nat.le_refl _) (below_trans' hB6.t.c.b (Nat.le_refl _) hbz)⟩
theorem walkI (x : Su) (m1 : Int) (y1 : (Lit.int .u16 m1).wf = true) (w : World) (hS : SuIn w x) (h : Tb w) :
    Calls Tryz.prog 3 #[x.val, .int .u16 m1] w fun e w' => e = .returned (.bool true) ∧ Below w.heap.size w w' := by
  by_cases hx : x.small
  · have hb := bounds_u16 y1
    obtain ⟨m, rfl⟩ : ∃ m : Nat, m1 = (m : Int) := ⟨m1.toNat, by omega⟩
    exact walk_small x m (by omega) hx w hS h
  · exact walk_heavy x m1 hx w h
theorem own : ownKnob Tryz.prog.godebug = none := by kernel_rfl
set_option maxRecDepth 100000 in
set_option maxHeartbeats 1000000 in
theorem lifted (os : Os) (started : os.Started) (H : Type) (enc : TypeId × Value → H) :
    ReturnsInHanded {} Tryz.checked os 3 .any (fun w args => (Rows.cpuPlaysSpec.pre enc Tryz.prog Tryz.f3 [] false w args ∧ laidMetH Tryz.prog laidAll w) ∧ sizedMet enc Tryz.prog Tryz.f3 (OpenSpec.ofChange Rows.cpuPlaysSpec) false w args)
      (Rows.cpuPlaysSpec.post enc Tryz.prog Tryz.f3 false true false false) := by
  refine returnsInHanded_of_change_and (C := Tryz.checked) (X := fun w _ => laidMetH Tryz.prog laidAll w) (fun _ _ _ hh h => h.of_heap hh) own started (by kernel_rfl) Tryz.func3
    (ChangeSpec.witness_shaped (enc := enc) (C := Tryz.checked) (os := os) (X := fun w _ => laidMetH Tryz.prog laidAll w) false (World.doorLaid Tryz.prog 400 os) #[.agg #[.slice none 0 0, .slice none 0 0, .slice none 0 0], .int .u16 0] 8 rfl (World.shaped_of_RefB (by kernel_rfl) (by kernel_rfl)) (by kernel_rfl) (by kernel_rfl) (by kernel_rfl) (door_met os _)) ?_
  intro W base args ds gs before hval0 hW _ _ hL _
  have hval : ∀ (j : Nat) t v, Tryz.f3.params[j]? = some t → args[j]? = some v → Value.okWide Tryz.prog W .any base t v := hval0
  have hW' := hW
  obtain ⟨p, q, hA0, hV, rfl, hfz, hnd⟩ := hW
  have hA : DataW.TrodAll enc Tryz.prog W 0 (fun _ => true) true Tryz.f3.params.toList args.toList ds p := hA0
  rw [Tryz.params3] at hA hval
  obtain ⟨v0, vs0, d0, ds0, p0, q0, hargs, rfl, rfl, h0, r0⟩ := trodAll_cons hA
  obtain ⟨v1, vs1, d1, ds1, p1, q1, rfl, rfl, rfl, h1, r1⟩ := trodAll_cons r0
  obtain ⟨rfl, rfl, rfl⟩ := trodAll_nil r1
  obtain rfl : args = #[v0, v1] := by cases args; simp_all
  obtain ⟨rfl, rfl⟩ := trodVars_none hV
  obtain ⟨x, rfl, hS⟩ := open_su (hval 0 25 v0 rfl rfl) h0
  obtain ⟨m1, rfl, rfl, rfl, y1⟩ := open_int Tryz.underlying26 (hval 1 26 v1 rfl rfl) h1
  clear hA0 hval0
  simp only [List.append_nil] at hW'
  have hlt : ∀ z ∈ p0, z.block < W.heap.size := fun z hz => by simpa using hW'.lt z hz
  refine (walkI x m1 y1 W hS (tb_of_laid hL)).mono fun e W' ⟨he, hg⟩ => ?_
  subst he
  have hk := trodAll_cons_mk (Below.trod laidOut5 (by kernel_rfl) (of_decide_eq_true (by kernel_rfl)) h0 hg hlt) (trodAll_cons_mk (shut_int Tryz.underlying26 y1) trodAll_mk0)
  simp only [List.append_nil] at hk
  exact ⟨_, rfl, _, _, _, [], p0, [], hW', trodAll_mk1 (shut_bool Tryz.underlying4 _), hk, rfl, hg.frame _, fun h => by cases h⟩
theorem over : Rows.CpuPlaysSaid :=
  OpenClaim.holds_of_wide 3 Tryz.f3 rfl rfl rfl rfl rfl rfl rfl ⟨rfl, rfl, rfl, rfl, rfl⟩ rfl rfl rfl rfl rfl (by kernel_rfl) Tryz.func3 (by kernel_rfl)
    (of_decide_eq_true (by kernel_rfl)) (by unfold Func.isWrapper; first | (rw [if_pos (by decide +kernel)]; kernel_rfl) | (rw [if_neg (by decide +kernel)]; exact ⟨rfl, rfl⟩))
    (fun os started H enc _ => lifted os started H enc)
/-- The card: the row, its listed tables tied to the text of the program. -/
theorem proved : Rows.CpuPlaysCardSaid :=
  Claim7.holds_tied_plain_at .later [] [.data, .data, .data] true Rows.cpuPlaysCard.stood.harness Rows.cpuPlaysCard.stood.looks
    over (fun _ h => by cases h) (by kernel_rfl) (fun _ h => by cases h) cpuPlays_row_tie rfl ⟨rfl, rfl⟩ (by kernel_rfl) rfl
    (fun f fn hf hfn => by
      obtain rfl : f = 3 := Option.some.inj ((show Tryz.prog.funcNamed "sacristy/sacristylaw05.CpuPlays" = some 3 by kernel_rfl).symm.trans hf) |>.symm
      obtain rfl : fn = Tryz.f3 := (Option.some.inj (Tryz.func3.symm.trans hfn)).symm
      exact ⟨by kernel_rfl, fun j t ht => by
        rw [Tryz.params3] at ht
        have hm : t ∈ [25, 26] := by simpa using Array.mem_of_getElem? ht
        have hall : ([25, 26].all fun u => !Tryz.prog.wantsStandIn u) = true := by kernel_rfl
        exact (show Tryz.prog.wantsStandIn t = false by simpa using List.all_eq_true.1 hall t hm)⟩)
    (by kernel_rfl)

end Go.Proofs.YtfaacmcnefbgcaaGreatDoor.cpuPlays
