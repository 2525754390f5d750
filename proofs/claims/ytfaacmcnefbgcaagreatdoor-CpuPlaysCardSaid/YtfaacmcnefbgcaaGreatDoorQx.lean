/- Contracts of Cpu.Run, Reg, SetReg, Pc, Over, Told, Trace, New: of a machine, and of none. -/
import Derived.Test.YtfaacmcnefbgcaaGreatDoorQw
import Derived.Test.YtfaacmcnefbgcaaGreatDoorQg
namespace Go.Proofs.YtfaacmcnefbgcaaGreatDoor.m4
open Go.ChangeShapes Go.WideShapes Go.ChangeAt Go.RowKit
set_option linter.unusedVariables false
/-- A machine that a call has made: it lies behind what was there. -/
structure Cx (W w : World) (M : Mc) (s : Ms) : Prop where
  c : IsC w M s
  b : Below W.heap.size W w
  o : ∀ j, M.own j → W.heap.size ≤ j
  k : s.tk
theorem Cx.of {W w w' : World} {M : Mc} {s : Ms} (h : Cx W w M s) (hb : Below w.heap.size w w') : Cx W w' M s := ⟨h.c.of hb, below_trans' h.b (Nat.le_refl _) hb, h.o, h.k⟩
theorem Cx.only {W w w' : World} {M : Mc} {s : Ms} {S : Nat → Prop} (h : Cx W w M s) (ho : Only S w w') (h1 : ∀ j, M.all j → ¬ S j) (h2 : ∀ j, S j → W.heap.size ≤ j) : Cx W w' M s := ⟨h.c.only ho h1, h.b.trans (ho.below h2 h.b.size), h.o, h.k⟩
theorem nxt_trans {w w1 : World} {M M1 M2 : Mc} (hs : w.heap.size ≤ w1.heap.size) (h : Mc.nxt w M M1) (k : Mc.nxt w1 M1 M2) : Mc.nxt w M M2 :=
  ⟨k.1.trans h.1, k.2.1.trans h.2.1, fun j hj => by
    rcases k.2.2 j hj with h1 | h1
    · exact h.2.2 j h1
    · exact .inr (Nat.le_trans hs h1)⟩
theorem only_trans {w w1 w2 : World} {M M1 : Mc} (h : Only M.own w w1) (hn : Mc.nxt w M M1) (k : Only M1.own w1 w2) : Only M.own w w2 :=
  ⟨k.os.trans h.os, k.tape.trans h.tape, k.output.trans h.output, Nat.le_trans h.size k.size, fun j hj hs => (k.block j (Nat.lt_of_lt_of_le hj h.size) (fun hh => by
    rcases hn.2.2 j hh with h1 | h1
    · exact hs h1
    · omega)).trans (h.block j hj hs)⟩
/-- What a step, or a run, leaves of such a machine. -/
def CxP (W w : World) (M : Mc) (r : Int × Ms) (e : Ending) (w' : World) : Prop := ∃ M', Mc.nxt w M M' ∧ e = .returned (.int .i64 r.1) ∧ Cx W w' M' r.2 ∧ Only M.own w w'
theorem step_cx {W w : World} {M : Mc} {s : Ms} (hW : Tb W) (h : Cx W w M s) : Calls Tryz.prog 8 #[.pointer (some ⟨M.cb, 0, none⟩)] w (CxP W w M (stF M.x.l s)) :=
  (step_any h.c (hW.of h.b) h.k).mono fun e w' ⟨M', hn, he, hc, ho⟩ => ⟨M', hn, he, ⟨hc, h.b.trans (ho.below h.o h.b.size), fun j hj => by
    rcases hn.2.2 j hj with h1 | h1
    · exact h.o j h1
    · have := h.b.size; omega, stF_tk h.k⟩, ho⟩
/-- Steps, as many as there is fuel. -/
def rnF (l : List Rg) : Nat → Ms → Int × Ms
  | 0, s => (52, s)
  | f + 1, s => if (stF l s).1 ≠ 0 ∨ (stF l s).2.ov = true then stF l s else rnF l f (stF l s).2
def runF (l : List Rg) (s : Ms) (fuel : Int) : Int × Ms := if s.ov = true then (50, s) else if fuel < 0 ∨ 1048576 < fuel then (2, s) else rnF l fuel.toNat s
theorem rnF_stop {l : List Rg} {f : Nat} {s : Ms} (h : (stF l s).1 ≠ 0 ∨ (stF l s).2.ov = true) : rnF l (f + 1) s = stF l s := if_pos h
theorem rnF_go {l : List Rg} {f : Nat} {s : Ms} (h : ¬ ((stF l s).1 ≠ 0 ∨ (stF l s).2.ov = true)) : rnF l (f + 1) s = rnF l f (stF l s).2 := if_neg h
set_option maxHeartbeats 1000000 in
theorem run_any {W w : World} {M : Mc} {s : Ms} (hW : Tb W) (h : Cx W w M s) (fuel : Int) : Calls Tryz.prog 11 #[.pointer (some ⟨M.cb, 0, none⟩), .int .i64 fuel] w (CxP W w M (runF M.x.l s fuel)) := by
  have c68 := h.c.c68
  unfold runF
  by_cases ho : s.ov = true
  · rw [if_pos ho]
    rw [ho] at c68
    have hE : CxP W w M (50, s) (.returned (.int .i64 50)) w := ⟨M, Mc.nxt_refl _ _, rfl, h, Only.refl _ _⟩
    go_enter Tryz.func11, Tryz.ntmps11
    go_wp2
    go_ret
    exact hE
  rw [if_neg ho]
  have ho' : s.ov = false := by simpa using ho
  rw [ho'] at c68
  by_cases hf : fuel < 0 ∨ 1048576 < fuel
  · rw [if_pos hf]
    have hE : CxP W w M (2, s) (.returned (.int .i64 2)) w := ⟨M, Mc.nxt_refl _ _, rfl, h, Only.refl _ _⟩
    by_cases h1 : fuel < 0
    · clear hf
      go_enter Tryz.func11, Tryz.ntmps11
      go_wp2
      go_ret
      exact hE
    · have h2 : 1048576 < fuel := by omega
      clear hf
      go_enter Tryz.func11, Tryz.ntmps11
      go_wp2
      go_ret
      exact hE
  rw [if_neg hf]
  obtain ⟨n, rfl⟩ : ∃ n : Nat, fuel = n := ⟨fuel.toNat, by omega⟩
  have hn : n ≤ 1048576 := by omega
  rw [Int.toNat_natCast]
  clear hf ho
  go_enter Tryz.func11, Tryz.ntmps11
  go_wp2
  go_loopw [19] (fun i wr => ∃ (k : Nat) (M' : Mc) (s' : Ms), i = .int .i64 k ∧ k ≤ n ∧ Mc.nxt w M M' ∧ Cx W wr M' s' ∧ Only M.own w wr ∧ rnF M.x.l n s = rnF M.x.l (n - k) s') (fun i _ => n - (intOf i).toNat)
  case atStart => exact ⟨0, M, s, rfl, Nat.zero_le _, Mc.nxt_refl _ _, h, Only.refl _ _, rfl⟩
  case round =>
    obtain ⟨k, M', s', rfl, hk, hN, hC, hO, hR⟩ := hrel
    obtain ⟨hcb, hxx, _⟩ := hN
    by_cases hlt : k < n
    · have hS := step_cx hW hC
      rw [hcb, hxx] at hS
      obtain ⟨m, hm⟩ : ∃ m, n - k = m + 1 := ⟨n - k - 1, by omega⟩
      rw [hm] at hR
      obtain ⟨e1, s1, hr⟩ : ∃ e1 s1, stF M.x.l s' = (e1, s1) := ⟨_, _, rfl⟩
      have hst := fun h => rnF_stop (l := M.x.l) (f := m) (s := s') h
      have hgo := fun h => rnF_go (l := M.x.l) (f := m) (s := s') h
      rw [hr] at hS hst hgo
      simp only at hst hgo
      by_cases he : e1 = 0
      · subst he
        by_cases hv : s1.ov = true
        · rw [hst (.inr hv)] at hR
          clear hst hgo hr
          go_wp2_with (go_at_call 8; (with_reducible refine hS.mono ?_); (rintro e w2 ⟨M2, hN2, rfl, hC2, hO2⟩); have d68 := hC2.c.c68; simp only at d68; rw [hv, hN2.1, hcb] at d68)
          go_ret
          rw [hR]
          exact ⟨M2, nxt_trans hO.size ⟨hcb, hxx, ‹_›⟩ hN2, rfl, hC2, only_trans hO ⟨hcb, hxx, ‹_›⟩ hO2⟩
        · have hv' : s1.ov = false := by simpa using hv
          rw [hgo (by rintro (h | h); exact h rfl; exact hv h)] at hR
          clear hst hgo hr
          go_wp2_with (go_at_call 8; (with_reducible refine hS.mono ?_); (rintro e w2 ⟨M2, hN2, rfl, hC2, hO2⟩); have d68 := hC2.c.c68; simp only at d68; rw [hv', hN2.1, hcb] at d68)
          go_roundw
          case rel => exact ⟨k + 1, M2, s1, by go_num, by omega, nxt_trans hO.size ⟨hcb, hxx, ‹_›⟩ hN2, hC2, only_trans hO ⟨hcb, hxx, ‹_›⟩ hO2, by rw [hR]; congr 1; omega⟩
          case measure => first | (simp [intOf]; done) | (simp [intOf]; omega)
      · rw [hst (.inl he)] at hR
        clear hst hgo hr
        go_wp2_with (go_at_call 8; (with_reducible refine hS.mono ?_); (rintro e w2 ⟨M2, hN2, rfl, hC2, hO2⟩))
        go_ret
        rw [hR]
        exact ⟨M2, nxt_trans hO.size ⟨hcb, hxx, ‹_›⟩ hN2, rfl, hC2, only_trans hO ⟨hcb, hxx, ‹_›⟩ hO2⟩
    · obtain rfl : k = n := by omega
      rw [show k - k = 0 by omega] at hR
      go_wp2
      go_ret
      rw [hR]
      exact ⟨M', ⟨hcb, hxx, ‹_›⟩, rfl, hC, hO⟩
end Go.Proofs.YtfaacmcnefbgcaaGreatDoor.m4

/- Contracts of Cpu.Reg, SetReg, Pc, Over, Told, Trace, New: of a machine, and of none. -/
namespace Go.Proofs.YtfaacmcnefbgcaaGreatDoor.m4
open Go.ChangeShapes Go.WideShapes Go.ChangeAt Go.RowKit
set_option linter.unusedVariables false
theorem has_ok (cb : Nat) (i : Int) (h : 0 ≤ i ∧ i < 32) (w : World) : Calls Tryz.prog 47 #[.pointer (some ⟨cb, 0, none⟩), .int .i64 i] w fun e w' => e = .returned (.int .i64 0) ∧ w = w' := by
  go_enter Tryz.func47, Tryz.ntmps47
  go_wp2
  go_ret
  exact ⟨rfl, rfl⟩
theorem has_bad (cb : Nat) (i : Int) (h : ¬ (0 ≤ i ∧ i < 32)) (w : World) : Calls Tryz.prog 47 #[.pointer (some ⟨cb, 0, none⟩), .int .i64 i] w fun e w' => e = .returned (.int .i64 2) ∧ w = w' := by
  by_cases h1 : i < 0
  · clear h
    go_enter Tryz.func47, Tryz.ntmps47
    go_wp2
    go_ret
    exact ⟨rfl, rfl⟩
  · have h2 : 32 ≤ i := by omega
    clear h
    go_enter Tryz.func47, Tryz.ntmps47
    go_wp2
    go_ret
    exact ⟨rfl, rfl⟩
theorem has_nil (i : Int) (w : World) : Calls Tryz.prog 47 #[.pointer none, .int .i64 i] w fun e w' => e = .returned (.int .i64 1) ∧ w = w' := by
  go_enter Tryz.func47, Tryz.ntmps47
  go_wp2
  go_ret
  exact ⟨rfl, rfl⟩
theorem reg_nil (i : Int) (w : World) : Calls Tryz.prog 32 #[.pointer none, .int .i64 i] w fun e w' => e = .returned (.tuple #[.int .u64 0, .bool false, .int .i64 1]) ∧ Below w.heap.size w w' := by
  have hh := has_nil i w
  go_enter Tryz.func32, Tryz.ntmps32
  go_wp2_with (go_at_call 47; (with_reducible refine hh.mono ?_); (rintro e w1 ⟨rfl, rfl⟩))
  go_ret3
  exact ⟨rfl, Below.refl _ _⟩
theorem reg_bad (cb : Nat) (i : Int) (h : ¬ (0 ≤ i ∧ i < 32)) (w : World) : Calls Tryz.prog 32 #[.pointer (some ⟨cb, 0, none⟩), .int .i64 i] w fun e w' => e = .returned (.tuple #[.int .u64 0, .bool false, .int .i64 2]) ∧ Below w.heap.size w w' := by
  have hh := has_bad cb i h w
  clear h
  go_enter Tryz.func32, Tryz.ntmps32
  go_wp2_with (go_at_call 47; (with_reducible refine hh.mono ?_); (rintro e w1 ⟨rfl, rfl⟩))
  go_ret3
  exact ⟨rfl, Below.refl _ _⟩
theorem reg_any {w : World} {M : Mc} {s : Ms} (h : IsC w M s) (i : Nat) (hi : i < 32) : Calls Tryz.prog 32 #[.pointer (some ⟨M.cb, 0, none⟩), .int .i64 i] w fun e w' => e = .returned (.tuple #[.int .u64 (s.rv i : Nat), .bool (s.rt i), .int .i64 0]) ∧ Below w.heap.size w w' := by
  have hh := has_ok M.cb i (by omega) w
  have r1 := h.rv i hi
  have r2 := h.rt i hi
  have i0 : (0 : Int) ≤ (i : Int) := by omega
  have i1 : (i : Int) < 32 := by omega
  go_enter Tryz.func32, Tryz.ntmps32
  go_wp2_with (go_at_call 47; (with_reducible refine hh.mono ?_); (rintro e w1 ⟨rfl, rfl⟩))
  go_quiet (fail)
  go_wp2
  go_ret3
  exact ⟨rfl, bdN (Below.refl _ _) _⟩
theorem setreg_nil (i : Int) (v : Nat) (t : Bool) (w : World) : Calls Tryz.prog 21 #[.pointer none, .int .i64 i, .int .u64 v, .bool t] w fun e w' => e = .returned (.int .i64 1) ∧ w = w' := by
  have hh := has_nil i w
  go_enter Tryz.func21, Tryz.ntmps21
  go_wp2_with (go_at_call 47; (with_reducible refine hh.mono ?_); (rintro e w1 ⟨rfl, rfl⟩))
  go_ret
  exact ⟨rfl, rfl⟩
theorem setreg_bad (cb : Nat) (i : Int) (v : Nat) (t : Bool) (h : ¬ (0 ≤ i ∧ i < 32)) (w : World) : Calls Tryz.prog 21 #[.pointer (some ⟨cb, 0, none⟩), .int .i64 i, .int .u64 v, .bool t] w fun e w' => e = .returned (.int .i64 2) ∧ w = w' := by
  have hh := has_bad cb i h w
  clear h
  go_enter Tryz.func21, Tryz.ntmps21
  go_wp2_with (go_at_call 47; (with_reducible refine hh.mono ?_); (rintro e w1 ⟨rfl, rfl⟩))
  go_ret
  exact ⟨rfl, rfl⟩
theorem setreg_any {w : World} {M : Mc} {s : Ms} (h : IsC w M s) (i v : Nat) (t : Bool) (hi : i < 32) (hv : v < 18446744073709551616) : Calls Tryz.prog 21 #[.pointer (some ⟨M.cb, 0, none⟩), .int .i64 i, .int .u64 v, .bool t] w fun e w' => e = .returned (.int .i64 0) ∧ IsC w' M (s.lay i v t) ∧ Only (fun j => j = M.cb) w w' := by
  have hh := has_ok M.cb i (by omega) w
  have hL := clay_any h i v t hi hv
  go_enter Tryz.func21, Tryz.ntmps21
  go_wp2_with (first | (go_at_call 47; (with_reducible refine hh.mono ?_); (rintro e w1 ⟨rfl, rfl⟩)) | (go_at_call 48; (with_reducible refine hL.mono ?_); (rintro e w2 ⟨rfl, hc, ho⟩)))
  go_ret
  exact ⟨rfl, hc, ho⟩
theorem setreg_cx {W w : World} {M : Mc} {s : Ms} (h : Cx W w M s) (i v : Nat) (t : Bool) (hi : i < 32) (hv : v < 18446744073709551616) : Calls Tryz.prog 21 #[.pointer (some ⟨M.cb, 0, none⟩), .int .i64 i, .int .u64 v, .bool t] w fun e w' => e = .returned (.int .i64 0) ∧ Cx W w' M (s.lay i v t) ∧ Only M.own w w' :=
  (setreg_any h.c i v t hi hv).mono fun e w' ⟨he, hc, ho⟩ => ⟨he, ⟨hc, h.b.trans (ho.below (fun j hj => h.o j (.inl hj)) h.b.size), h.o, h.k⟩, ho.mono fun j hj => .inl hj⟩
theorem pc_nil (w : World) : Calls Tryz.prog 33 #[.pointer none] w fun e w' => e = .returned (.int .u64 0) ∧ w = w' := by
  go_enter Tryz.func33, Tryz.ntmps33
  go_wp2
  go_ret
  exact ⟨rfl, rfl⟩
theorem pc_any {w : World} {M : Mc} {s : Ms} (h : IsC w M s) : Calls Tryz.prog 33 #[.pointer (some ⟨M.cb, 0, none⟩)] w fun e w' => e = .returned (.int .u64 (s.pc : Nat)) ∧ w = w' := by
  have c := h.c65
  go_enter Tryz.func33, Tryz.ntmps33
  go_wp2
  go_ret
  exact ⟨rfl, rfl⟩
theorem over_nil (w : World) : Calls Tryz.prog 12 #[.pointer none] w fun e w' => e = .returned (.tuple #[.bool false, .int .u8 0, .int .i64 0]) ∧ w = w' := by
  go_enter Tryz.func12, Tryz.ntmps12
  go_wp2
  go_ret3
  exact ⟨rfl, rfl⟩
theorem over_any {w : World} {M : Mc} {s : Ms} (h : IsC w M s) : Calls Tryz.prog 12 #[.pointer (some ⟨M.cb, 0, none⟩)] w fun e w' => e = .returned (.tuple #[.bool s.ov, .int .u8 (s.cd : Nat), .int .i64 s.wr]) ∧ Below w.heap.size w w' := by
  have c68 := h.c68
  have c69 := h.c69
  have c70 := h.c70
  go_enter Tryz.func12, Tryz.ntmps12
  go_wp2
  go_quiet (fail)
  go_wp2
  go_ret3
  exact ⟨rfl, bdN (Below.refl _ _) _⟩
theorem run_nil (fuel : Int) (w : World) : Calls Tryz.prog 11 #[.pointer none, .int .i64 fuel] w fun e w' => e = .returned (.int .i64 1) ∧ w = w' := by
  go_enter Tryz.func11, Tryz.ntmps11
  go_wp2
  go_ret
  exact ⟨rfl, rfl⟩
theorem step_nil (w : World) : Calls Tryz.prog 8 #[.pointer none] w fun e w' => e = .returned (.int .i64 1) ∧ Below w.heap.size w w' := by
  go_enter_defers Tryz.func8, Tryz.ntmps8
  go_wp2
  have hs : w.heap.size + 1 = (w.alloc (.cells #[.pointer none] 29)).heap.size := by rw [World.size_alloc]
  have hB : Below w.heap.size w ((w.alloc (.cells #[.pointer none] 29)).alloc (.cells #[.int .i64 1] 35)) := (aBelow (Below.refl _ _) _).trans ((aBelow (Below.refl _ _) _).mono (by omega))
  refine (show Leaves Tryz.prog Tryz.f8 _ (fun e w' => e = .returned (.int .i64 1) ∧ Below w.heap.size w w') [] .returning _ from ⟨.int .i64 1, ?_, rfl, hB⟩)
  simp [results, Tryz.results8, go_sem]
theorem told_nil (w : World) : Calls Tryz.prog 13 #[.pointer none] w fun e w' => e = .returned (.slice none 0 0) ∧ w = w' := by
  go_enter Tryz.func13, Tryz.ntmps13
  go_wp2
  go_ret
  exact ⟨rfl, rfl⟩
set_option maxRecDepth 100000 in
set_option maxHeartbeats 1000000 in
theorem told_clone {w : World} {v : Value} {n : Nat} {xs : List Value} (h : w.ownsRow 0 54 2 v n xs) (h1 : ∀ u ∈ xs, u.oneCell' = true) (hn : n ≤ 1048577) :
    Calls Tryz.prog 38 #[v] w fun e w' => (∃ v', e = .returned v' ∧ w'.ownsRow w.heap.size 54 2 v' n xs) ∧ Below w.heap.size w w' := by
  obtain ⟨i0, hi, hz0, hz1, hz2⟩ := info_parts infoTa
  have q49 : ∀ (w : World) (a : Option Addr) (n c n' c' : Nat), (binOp .eql 42 (.slice a n c) (.slice none n' c')).run Tryz.prog w = .ok (.bool a.isNone) w := fun w a n c n' c' => Lib.run_eql_slice_nil w _ _ a n c n' c' Tryz.underlying42
  have hx := h.1
  rcases h.2 with ⟨rfl, rfl⟩ | ⟨g, cap, cur, rfl, hb, hg, hr⟩
  · have hxs : xs = [] := List.eq_nil_of_length_eq_zero (by omega)
    subst hxs
    go_enter Tryz.func38, Tryz.ntmps38
    go_wp2
    go_ret
    exact ⟨⟨_, rfl, World.ownsRow_nil _ _ _ _⟩, Below.refl _ _⟩
  · have hcell : ∀ (j : Nat) (u : Value), xs[j]? = some u → w.cell? ((⟨g, 0, none⟩ : Addr).add j) = some u := fun j u hu => h.cells (g := g) rfl j u hu
    go_enter Tryz.func38, Tryz.ntmps38
    go_wp2_with (at_builtin; refine wpList_append_own _ rfl _ _ 42 rfl w.heap.size 54 i0 (.agg #[.int .u64 0, .bool false]) 2 16 Tryz.underlying42 hi hz0 hz1 hz2 rfl (by decide) _ _ _ rfl (World.ownsRow_made w #[] 0 (Nat.le_refl _) (Nat.zero_le _) rfl) ⟨g, 0, none⟩ n cap xs rfl hx ?qc2 h1 ?qc4 ?qc5 ?qc6 ?_)
    case qc2 => exact fun j u hj => stay (aBelow (Below.refl _ _) _) (hcell j u hj)
    case qc4 => unfold maxLen; omega
    case qc5 => omega
    case qc6 => simp
    intro v' w1 hown hgrow hnil
    go_wp2
    go_ret
    refine ⟨⟨v', rfl, by simpa using hown⟩, ((Below.refl _ w).alloc (Nat.le_refl _) _).grown hgrow (by simp) (by intro k hk; simp [Value.ownBlock] at hk; omega)⟩
theorem told_any {w : World} {M : Mc} {s : Ms} (h : IsC w M s) (hk : s.tk) : Calls Tryz.prog 13 #[.pointer (some ⟨M.cb, 0, none⟩)] w fun e w' => (∃ v', e = .returned v' ∧ w'.ownsRow w.heap.size 54 2 v' s.told.length (tlL s.told)) ∧ Below w.heap.size w w' := by
  have hC := told_clone h.rowT (tlL_one _) (Nat.le_trans hk (Nat.le_trans h.ok.n (by omega)))
  have c := h.c66
  go_enter Tryz.func13, Tryz.ntmps13
  go_wp2_with (go_at_call 38; (with_reducible refine hC.mono ?_); (rintro e w1 ⟨⟨v', rfl, hown⟩, hb⟩))
  go_ret
  exact ⟨⟨v', rfl, hown⟩, hb⟩
theorem trace_nil (w : World) : Calls Tryz.prog 14 #[.pointer none] w fun e w' => e = .returned (.slice none 0 0) ∧ w = w' := by
  go_enter Tryz.func14, Tryz.ntmps14
  go_wp2
  go_ret
  exact ⟨rfl, rfl⟩
set_option maxRecDepth 100000 in
set_option maxHeartbeats 1000000 in
theorem trace_clone {w : World} {v : Value} {n : Nat} {xs : List Value} (h : w.ownsRow 0 82 5 v n xs) (h1 : ∀ u ∈ xs, u.oneCell' = true) (hn : n ≤ 1048577) :
    Calls Tryz.prog 39 #[v] w fun e w' => (∃ v', e = .returned v' ∧ w'.ownsRow w.heap.size 82 5 v' n xs) ∧ Below w.heap.size w w' := by
  obtain ⟨i0, hi, hz0, hz1, hz2⟩ := info_parts infoSn
  have q49 : ∀ (w : World) (a : Option Addr) (n c n' c' : Nat), (binOp .eql 43 (.slice a n c) (.slice none n' c')).run Tryz.prog w = .ok (.bool a.isNone) w := fun w a n c n' c' => Lib.run_eql_slice_nil w _ _ a n c n' c' Tryz.underlying43
  have hx := h.1
  rcases h.2 with ⟨rfl, rfl⟩ | ⟨g, cap, cur, rfl, hb, hg, hr⟩
  · have hxs : xs = [] := List.eq_nil_of_length_eq_zero (by omega)
    subst hxs
    go_enter Tryz.func39, Tryz.ntmps39
    go_wp2
    go_ret
    exact ⟨⟨_, rfl, World.ownsRow_nil _ _ _ _⟩, Below.refl _ _⟩
  · have hcell : ∀ (j : Nat) (u : Value), xs[j]? = some u → w.cell? ((⟨g, 0, none⟩ : Addr).add j) = some u := fun j u hu => h.cells (g := g) rfl j u hu
    go_enter Tryz.func39, Tryz.ntmps39
    go_wp2_with (at_builtin; refine wpList_append_own _ rfl _ _ 43 rfl w.heap.size 82 i0 (.agg #[.int .u64 0, .int .u8 0, .int .u64 0, .int .u64 0, .bool false]) 5 40 Tryz.underlying43 hi hz0 hz1 hz2 rfl (by decide) _ _ _ rfl (World.ownsRow_made w #[] 0 (Nat.le_refl _) (Nat.zero_le _) rfl) ⟨g, 0, none⟩ n cap xs rfl hx ?qc2 h1 ?qc4 ?qc5 ?qc6 ?_)
    case qc2 => exact fun j u hj => stay (aBelow (Below.refl _ _) _) (hcell j u hj)
    case qc4 => unfold maxLen; omega
    case qc5 => omega
    case qc6 => simp
    intro v' w1 hown hgrow hnil
    go_wp2
    go_ret
    refine ⟨⟨v', rfl, by simpa using hown⟩, ((Below.refl _ w).alloc (Nat.le_refl _) _).grown hgrow (by simp) (by intro k hk; simp [Value.ownBlock] at hk; omega)⟩
theorem trace_any {w : World} {M : Mc} {s : Ms} (h : IsC w M s) : Calls Tryz.prog 14 #[.pointer (some ⟨M.cb, 0, none⟩)] w fun e w' => (∃ v', e = .returned v' ∧ w'.ownsRow w.heap.size 82 5 v' s.tr.length (snL s.tr)) ∧ Below w.heap.size w w' := by
  have hC := trace_clone h.rowR (snL_one _) (Nat.le_trans h.ok.n (by omega))
  have c := h.c67
  go_enter Tryz.func14, Tryz.ntmps14
  go_wp2_with (go_at_call 39; (with_reducible refine hC.mono ?_); (rintro e w1 ⟨⟨v', rfl, hown⟩, hb⟩))
  go_ret
  exact ⟨⟨v', rfl, hown⟩, hb⟩
end Go.Proofs.YtfaacmcnefbgcaaGreatDoor.m4
