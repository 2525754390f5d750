/- Contracts of step.load, store and its kin. -/
import Derived.Test.YtcckgfablfgknaaGreatDoorQk
import Derived.Test.YtcckgfablfgknaaGreatDoorQl
import Derived.Laws.BitsAllLaws
namespace Go.Proofs.YtcckgfablfgknaaGreatDoor.m4
open Go.ChangeShapes Go.WideShapes Go.ChangeAt Go.RowKit
set_option linter.unusedVariables false

/-- A step that goes wrong: nothing of the machine has changed. -/
def Bd (w0 : World) (M : Mc) (s : Ms) (sb : Nat) (k : Int) (e : Ending) (w' : World) : Prop := e = pnc k ∧ IsC w' M s ∧ Only (fun j => M.own j ∨ j = sb) w0 w'
/-- What a part of a step leaves, with that error. -/
def Rs (w0 : World) (M : Mc) (s0 : Ms) (k : Int) (s : Ms) (sb : Nat) (x : In) (a : Nat) (ta : Bool) (b : Nat) (tb : Bool) (n : Sn) (nx : Nat) (e : Ending) (w' : World) : Prop := (k = 0 → Ok w0 M s sb x a ta b tb n nx e w') ∧ (k ≠ 0 → Bd w0 M s0 sb k e w')
theorem Rs.no {w0 w1 w' : World} {M : Mc} {s0 s : Ms} {k : Int} {sb a b nx : Nat} {x : In} {ta tb : Bool} {n n1 : Sn} (hk : k ≠ 0) (hm : Mid w1 M s0 sb x a ta b tb n1 nx) (ho : Only (fun j => M.own j ∨ j = sb) w0 w1) (hb : Below w1.heap.size w1 w') : Rs w0 M s0 k s sb x a ta b tb n nx (pnc k) w' :=
  ⟨fun h => absurd h hk, fun _ => ⟨rfl, hm.c.of hb, ho.trans (only_below hb)⟩⟩
theorem Rs.yes {w0 w1 w' : World} {M : Mc} {s0 s : Ms} {sb a b nx : Nat} {x : In} {ta tb : Bool} {n : Sn} {e : Ending} (ho : Only (fun j => M.own j ∨ j = sb) w0 w1) (h : Ok w1 M s sb x a ta b tb n nx e w') : Rs w0 M s0 0 s sb x a ta b tb n nx e w' :=
  ⟨fun _ => Ok.orO ho h, fun h => absurd rfl h⟩
set_option maxRecDepth 100000 in
set_option maxHeartbeats 2000000 in
theorem sload_any {w : World} {M : Mc} {s : Ms} {sb a b nx : Nat} {x : In} {ta tb : Bool} {n : Sn} (h : Mid w M s sb x a ta b tb n nx) (q : Int) (lv : Nat) (lt : Bool) (le : Int) (hlv : lv < 18446744073709551616) (hF : ldF M.x.l s.bv s.tv (sm a (uw x.imm)) q = (lv, lt, le)) (hi : x.rd < 32) :
    Calls Tryz.prog 128 #[.pointer (some ⟨sb, 0, none⟩), .int .i64 q] w (Rs w M s le (s.lay x.rd lv (lt || ta)) sb x a ta b tb ⟨n.pc, 2, sm a (uw x.imm), n.b, ta⟩ nx) := by
  have hK : Calls Tryz.prog 151 #[.pointer (some ⟨sb, 0, none⟩), .int .u8 2] w (Ok w M s sb x a ta b tb ⟨n.pc, 2, sm a (uw x.imm), n.b, ta⟩ nx) := asks_any h 2
  have hLd : ∀ w', IsM w' M.x s.bv s.tv → Calls Tryz.prog 152 #[.pointer (some ⟨M.x.mb, 0, none⟩), .int .u64 (sm a (uw x.imm) : Nat), .int .i64 q] w' fun e w'' => e = .returned (.tuple #[.int .u64 (lv : Nat), .bool lt, .int .i64 le]) ∧ Below w'.heap.size w' w'' := fun w' hI => by
    have := load_any (sm a (uw x.imm)) q (sm_lt _ _) w' hI
    rw [hF] at this
    exact this
  go_enter Tryz.func128, Tryz.ntmps128
  go_wp2_with (go_at_call 151; (with_reducible refine hK.mono ?_); (rintro e wa ⟨rfl, hm, ho⟩))
  have d0 := hm.p.d0
  have d5 := hm.p.d5
  have d6 := hm.p.d6
  have c0 := hm.c.c0
  refine region_below (by kernel_rfl) (by kernel_rfl) ?_
  repeat (first
    | go_big_quiet_skip
    | (refine BigFrame.wpQuiet_want (by kernel_rfl) fun K hK => ?_
       apply Exists.intro
       refine ⟨fun w' hb' => ?_, ?_⟩
       · have s0 := stay hb' d0
         have s1 := stay hb' c0
         go_simp
         first
           | exact rfl
           | exact ⟨rfl, hb'⟩
           | (go_at_call 133
              exact (place_cells (stay hb' d5) (stay hb' d6)).mono fun e w'' ⟨he, m, hm2⟩ => ⟨he, by rw [hm2]; exact bdN hb' m⟩)
           | (go_at_call 152
              exact (hLd w' (hm.c.mem.of hb')).mono fun e w'' ⟨he, hb2⟩ => ⟨he, below_trans' hb' (Nat.le_refl _) hb2⟩)
       go_simp
       refine hK _ ?_
       clear hK K))
  refine wpQuiet_nil ?_
  intro w1 hb1
  have hm1 := hm.of hb1
  clear d0 d5 d6 c0
  have d7 := hm1.p.d7
  have ho1 : Only (fun j => M.own j ∨ j = sb) w w1 := obl ho hb1
  by_cases hk : le = 0
  · subst hk
    have hL := slay_any hm1 lv (lt || ta) hi hlv
    cases lt
    all_goals
      simp only [Bool.true_or, Bool.false_or] at hL ⊢
      go_wp2_with (first | (go_at_call 65; (with_reducible refine (must_ok _).mono ?_); (rintro e w3 ⟨rfl, rfl⟩)) | (go_at_call 126; (with_reducible refine hL.mono ?_); (rintro e w2 ⟨rfl, hm2, ho2⟩)))
      go_end0
      exact Rs.yes ho1 ⟨rfl, hm2, ho2⟩
  · have hM : ∀ w', Calls Tryz.prog 65 #[.int .i64 le] w' fun e w'' => e = .panicked [{ v := .iface 35 (.int .i64 le), recovered := false }] ∧ w' = w'' := fun w' => must_no le hk w'
    go_wp2_with (go_at_call 65; (with_reducible refine (hM _).mono ?_); (rintro e w3 ⟨rfl, rfl⟩))
    exact ⟨rfl, Rs.no hk hm1 ho1 (Below.refl _ _)⟩
set_option maxRecDepth 100000 in
set_option maxHeartbeats 2000000 in
theorem sstore_any {w : World} {M : Mc} {s : Ms} {sb a b nx : Nat} {x : In} {ta tb : Bool} {n : Sn} (h : Mid w M s sb x a ta b tb n nx) (q : Int) (o : Option Nat) (le : Int) (hO : stO M.x.l (sm a (uw x.imm)) q = o) (hE : stE M.x.l (sm a (uw x.imm)) q = le) (hno : le ≠ 0 → o = none) (hv : b < 18446744073709551616) :
    Calls Tryz.prog 129 #[.pointer (some ⟨sb, 0, none⟩), .int .i64 q] w (Rs w M s le (s.put o q.toNat b (ta || tb)) sb x a ta b tb ⟨n.pc, 3, sm a (uw x.imm), n.b, ta⟩ nx) := by
  have hK : Calls Tryz.prog 151 #[.pointer (some ⟨sb, 0, none⟩), .int .u8 3] w (Ok w M s sb x a ta b tb ⟨n.pc, 3, sm a (uw x.imm), n.b, ta⟩ nx) := asks_any h 3
  have hLd : ∀ w', IsM w' M.x s.bv s.tv → Calls Tryz.prog 153 #[.pointer (some ⟨M.x.mb, 0, none⟩), .int .u64 (sm a (uw x.imm) : Nat), .int .i64 q, .int .u64 b, .bool (ta || tb)] w' fun e w'' => e = .returned (.int .i64 le) ∧ Wrt M.x (upO o s.bv q.toNat (wb b)) (upO o s.tv q.toNat fun _ => (ta || tb)) w' w'' := fun w' hI => by
    have := store_any (sm a (uw x.imm)) q b (ta || tb) (sm_lt _ _) hv w' hI
    rw [hO, hE] at this
    exact this
  go_enter Tryz.func129, Tryz.ntmps129
  go_wp2_with (go_at_call 151; (with_reducible refine hK.mono ?_); (rintro e wa ⟨rfl, hm, ho⟩))
  have d0 := hm.p.d0
  have d5 := hm.p.d5
  have d6 := hm.p.d6
  have d7 := hm.p.d7
  have d8 := hm.p.d8
  have d9 := hm.p.d9
  have c0 := hm.c.c0
  have hM : le ≠ 0 → ∀ w', Calls Tryz.prog 65 #[.int .i64 le] w' fun e w'' => e = .panicked [{ v := .iface 35 (.int .i64 le), recovered := false }] ∧ w' = w'' := fun hk w' => must_no le hk w'
  have hS : ∀ w', Below wa.heap.size wa w' → Calls Tryz.prog 153 #[.pointer (some ⟨M.x.mb, 0, none⟩), .int .u64 (sm a (uw x.imm) : Nat), .int .i64 q, .int .u64 b, .bool (ta || tb)] w' fun e w'' => e = .returned (.int .i64 le) ∧ Wrt M.x (upO o s.bv q.toNat (wb b)) (upO o s.tv q.toNat fun _ => (ta || tb)) w' w'' := fun w' hb => hLd _ (hm.c.mem.of hb)
  clear hLd
  cases ta
  all_goals
    simp only [Bool.true_or, Bool.false_or] at hS ⊢
    refine region_belowT 27 (by kernel_rfl) (by kernel_rfl) (by kernel_rfl) ?_
    simp only [List.take_succ_cons, List.take_zero, List.drop_succ_cons, List.drop_zero]
    repeat (first
      | go_big_quiet_skip
      | (refine BigFrame.wpQuiet_want (by kernel_rfl) fun K hK => ?_
         apply Exists.intro
         refine ⟨fun w' hb' => ?_, ?_⟩
         · have s0 := stay hb' d0
           have s1 := stay hb' d6
           have s2 := stay hb' d7
           have s3 := stay hb' d8
           have s4 := stay hb' d9
           have s5 := stay hb' c0
           go_simp
           first
             | exact rfl
             | exact ⟨rfl, hb'⟩
             | (go_at_call 133
                exact (place_cells (stay hb' d5) (stay hb' d6)).mono fun e w'' ⟨he, m, hm2⟩ => ⟨he, by rw [hm2]; exact bdN hb' m⟩)
         go_simp
         refine hK _ ?_
         clear hK K))
    refine wpQuiet_nil ?_
    intro w1 hb1
    have hm1 := hm.of hb1
    have ho1 : Only (fun j => M.own j ∨ j = sb) w w1 := obl ho hb1
    have hS1 := hS _ hb1
    clear d0 d5 d6 d7 d8 d9 c0 hS hm ho hb1
    by_cases hk : le = 0
    · subst hk
      go_wp2_with (first | (go_at_call 153; (with_reducible refine hS1.mono ?_); (rintro e w3 ⟨rfl, hW⟩)) | (go_at_call 65; (with_reducible refine (must_ok _).mono ?_); (rintro e w4 ⟨rfl, rfl⟩)))
      go_end0
      have hO : Only M.own w1 w3 := hW.2.mono fun j hj => .inr (.inl hj)
      exact Rs.yes (w1 := w1) ho1 ⟨rfl, hm1.write (hm1.c.wrt hW) hO, hO.mono fun j hj => .inl hj⟩
    · have hM := hM hk
      obtain rfl := hno hk
      go_wp2_with (first | (go_at_call 153; (with_reducible refine hS1.mono ?_); (rintro e w3 ⟨rfl, hW⟩)) | (go_at_call 65; (with_reducible refine (hM _).mono ?_); (rintro e w4 ⟨rfl, rfl⟩)))
      have hO : Only M.own w1 w3 := hW.2.mono fun j hj => .inr (.inl hj)
      exact ⟨rfl, Rs.no hk (hm1.write (hm1.c.wrt hW) hO) (ho1.trans (hO.mono fun j hj => .inl hj)) (Below.refl _ _)⟩
end Go.Proofs.YtcckgfablfgknaaGreatDoor.m4

/- Contracts of step.lbu, ld, sb, sd, branch and its kin, jump, jal, jalr. -/
namespace Go.Proofs.YtcckgfablfgknaaGreatDoor.m4
open Go.ChangeShapes Go.WideShapes Go.ChangeAt Go.RowKit
set_option linter.unusedVariables false

theorem lbu_any {w : World} {M : Mc} {s : Ms} {sb a b nx : Nat} {x : In} {ta tb : Bool} {n : Sn} (h : Mid w M s sb x a ta b tb n nx) (lv : Nat) (lt : Bool) (le : Int) (hlv : lv < 18446744073709551616) (hF : ldF M.x.l s.bv s.tv (sm a (uw x.imm)) 1 = (lv, lt, le)) (hi : x.rd < 32) :
    Calls Tryz.prog 78 #[.pointer (some ⟨sb, 0, none⟩)] w (Rs w M s le (s.lay x.rd lv (lt || ta)) sb x a ta b tb ⟨n.pc, 2, sm a (uw x.imm), n.b, ta⟩ nx) := by
  have hC : Calls Tryz.prog 128 #[.pointer (some ⟨sb, 0, none⟩), .int .i64 1] w _ := sload_any h 1 lv lt le hlv hF hi
  by_cases hk : le = 0
  · have hC' := hC.mono (R' := fun e w' => e = .returned (.tuple #[]) ∧ Ok w M (s.lay x.rd lv (lt || ta)) sb x a ta b tb ⟨n.pc, 2, sm a (uw x.imm), n.b, ta⟩ nx e w') fun e w' hr => ⟨(hr.1 hk).1, hr.1 hk⟩
    clear hC
    go_enter Tryz.func78, Tryz.ntmps78
    go_wp2_with (go_at_call 128; (with_reducible refine hC'.mono ?_); (rintro e w2 ⟨rfl, hr⟩))
    go_end0
    exact ⟨fun _ => hr, fun h => absurd hk h⟩
  · have hC' := hC.mono (R' := fun e w' => e = .panicked [{ v := .iface 35 (.int .i64 le), recovered := false }] ∧ Bd w M s sb le (pnc le) w') fun e w' hr => ⟨(hr.2 hk).1, rfl, (hr.2 hk).2⟩
    clear hC
    go_enter Tryz.func78, Tryz.ntmps78
    go_wp2_with (go_at_call 128; (with_reducible refine hC'.mono ?_); (rintro e w2 ⟨rfl, hr⟩))
    exact ⟨rfl, fun h => absurd h hk, fun _ => hr⟩
theorem ld_any {w : World} {M : Mc} {s : Ms} {sb a b nx : Nat} {x : In} {ta tb : Bool} {n : Sn} (h : Mid w M s sb x a ta b tb n nx) (lv : Nat) (lt : Bool) (le : Int) (hlv : lv < 18446744073709551616) (hF : ldF M.x.l s.bv s.tv (sm a (uw x.imm)) 8 = (lv, lt, le)) (hi : x.rd < 32) :
    Calls Tryz.prog 79 #[.pointer (some ⟨sb, 0, none⟩)] w (Rs w M s le (s.lay x.rd lv (lt || ta)) sb x a ta b tb ⟨n.pc, 2, sm a (uw x.imm), n.b, ta⟩ nx) := by
  have hC : Calls Tryz.prog 128 #[.pointer (some ⟨sb, 0, none⟩), .int .i64 8] w _ := sload_any h 8 lv lt le hlv hF hi
  by_cases hk : le = 0
  · have hC' := hC.mono (R' := fun e w' => e = .returned (.tuple #[]) ∧ Ok w M (s.lay x.rd lv (lt || ta)) sb x a ta b tb ⟨n.pc, 2, sm a (uw x.imm), n.b, ta⟩ nx e w') fun e w' hr => ⟨(hr.1 hk).1, hr.1 hk⟩
    clear hC
    go_enter Tryz.func79, Tryz.ntmps79
    go_wp2_with (go_at_call 128; (with_reducible refine hC'.mono ?_); (rintro e w2 ⟨rfl, hr⟩))
    go_end0
    exact ⟨fun _ => hr, fun h => absurd hk h⟩
  · have hC' := hC.mono (R' := fun e w' => e = .panicked [{ v := .iface 35 (.int .i64 le), recovered := false }] ∧ Bd w M s sb le (pnc le) w') fun e w' hr => ⟨(hr.2 hk).1, rfl, (hr.2 hk).2⟩
    clear hC
    go_enter Tryz.func79, Tryz.ntmps79
    go_wp2_with (go_at_call 128; (with_reducible refine hC'.mono ?_); (rintro e w2 ⟨rfl, hr⟩))
    exact ⟨rfl, fun h => absurd h hk, fun _ => hr⟩
theorem sb_any {w : World} {M : Mc} {s : Ms} {sb a b nx : Nat} {x : In} {ta tb : Bool} {n : Sn} (h : Mid w M s sb x a ta b tb n nx) (o : Option Nat) (le : Int) (hO : stO M.x.l (sm a (uw x.imm)) 1 = o) (hE : stE M.x.l (sm a (uw x.imm)) 1 = le) (hno : le ≠ 0 → o = none) (hv : b < 18446744073709551616) :
    Calls Tryz.prog 80 #[.pointer (some ⟨sb, 0, none⟩)] w (Rs w M s le (s.put o 1 b (ta || tb)) sb x a ta b tb ⟨n.pc, 3, sm a (uw x.imm), n.b, ta⟩ nx) := by
  have hC : Calls Tryz.prog 129 #[.pointer (some ⟨sb, 0, none⟩), .int .i64 1] w (Rs w M s le (s.put o 1 b (ta || tb)) sb x a ta b tb ⟨n.pc, 3, sm a (uw x.imm), n.b, ta⟩ nx) := sstore_any h 1 o le hO hE hno hv
  by_cases hk : le = 0
  · have hC' := hC.mono (R' := fun e w' => e = .returned (.tuple #[]) ∧ Ok w M (s.put o 1 b (ta || tb)) sb x a ta b tb ⟨n.pc, 3, sm a (uw x.imm), n.b, ta⟩ nx e w') fun e w' hr => ⟨(hr.1 hk).1, hr.1 hk⟩
    clear hC
    go_enter Tryz.func80, Tryz.ntmps80
    go_wp2_with (go_at_call 129; (with_reducible refine hC'.mono ?_); (rintro e w2 ⟨rfl, hr⟩))
    go_end0
    exact ⟨fun _ => hr, fun h => absurd hk h⟩
  · have hC' := hC.mono (R' := fun e w' => e = .panicked [{ v := .iface 35 (.int .i64 le), recovered := false }] ∧ Bd w M s sb le (pnc le) w') fun e w' hr => ⟨(hr.2 hk).1, rfl, (hr.2 hk).2⟩
    clear hC
    go_enter Tryz.func80, Tryz.ntmps80
    go_wp2_with (go_at_call 129; (with_reducible refine hC'.mono ?_); (rintro e w2 ⟨rfl, hr⟩))
    exact ⟨rfl, fun h => absurd h hk, fun _ => hr⟩
theorem sd_any {w : World} {M : Mc} {s : Ms} {sb a b nx : Nat} {x : In} {ta tb : Bool} {n : Sn} (h : Mid w M s sb x a ta b tb n nx) (o : Option Nat) (le : Int) (hO : stO M.x.l (sm a (uw x.imm)) 8 = o) (hE : stE M.x.l (sm a (uw x.imm)) 8 = le) (hno : le ≠ 0 → o = none) (hv : b < 18446744073709551616) :
    Calls Tryz.prog 81 #[.pointer (some ⟨sb, 0, none⟩)] w (Rs w M s le (s.put o 8 b (ta || tb)) sb x a ta b tb ⟨n.pc, 3, sm a (uw x.imm), n.b, ta⟩ nx) := by
  have hC : Calls Tryz.prog 129 #[.pointer (some ⟨sb, 0, none⟩), .int .i64 8] w (Rs w M s le (s.put o 8 b (ta || tb)) sb x a ta b tb ⟨n.pc, 3, sm a (uw x.imm), n.b, ta⟩ nx) := sstore_any h 8 o le hO hE hno hv
  by_cases hk : le = 0
  · have hC' := hC.mono (R' := fun e w' => e = .returned (.tuple #[]) ∧ Ok w M (s.put o 8 b (ta || tb)) sb x a ta b tb ⟨n.pc, 3, sm a (uw x.imm), n.b, ta⟩ nx e w') fun e w' hr => ⟨(hr.1 hk).1, hr.1 hk⟩
    clear hC
    go_enter Tryz.func81, Tryz.ntmps81
    go_wp2_with (go_at_call 129; (with_reducible refine hC'.mono ?_); (rintro e w2 ⟨rfl, hr⟩))
    go_end0
    exact ⟨fun _ => hr, fun h => absurd hk h⟩
  · have hC' := hC.mono (R' := fun e w' => e = .panicked [{ v := .iface 35 (.int .i64 le), recovered := false }] ∧ Bd w M s sb le (pnc le) w') fun e w' hr => ⟨(hr.2 hk).1, rfl, (hr.2 hk).2⟩
    clear hC
    go_enter Tryz.func81, Tryz.ntmps81
    go_wp2_with (go_at_call 129; (with_reducible refine hC'.mono ?_); (rintro e w2 ⟨rfl, hr⟩))
    exact ⟨rfl, fun h => absurd h hk, fun _ => hr⟩
theorem ev_and (p : Nat) (hp : p < 18446744073709551616) : p &&& 18446744073709551614 = p / 2 * 2 := by
  have h1 : (p &&& 18446744073709551614) / 2 = p / 2 := by
    rw [show (p &&& 18446744073709551614) / 2 = p / 2 &&& 18446744073709551614 / 2 from by simpa using Nat.and_div_two_pow (n := 1) (a := p) (b := 18446744073709551614)]
    rw [show 18446744073709551614 / 2 = 2 ^ 63 - 1 from rfl, Nat.and_two_pow_sub_one_eq_mod]
    omega
  have h2 : (p &&& 18446744073709551614) % 2 = 0 := by
    rw [show (p &&& 18446744073709551614) % 2 = (p % 2) &&& (18446744073709551614 % 2) from by simpa using Nat.and_mod_two_pow (n := 1) (a := p) (b := 18446744073709551614)]
    simp
  omega
theorem ev_bits (p : Nat) (hp : p < 18446744073709551616) : bits .andNot .u64 (p : Int) 1 = (ev p : Nat) := by
  have := u64_andNot_nat p 1 hp (by omega)
  rw [show 18446744073709551615 - 1 = 18446744073709551614 from rfl, ev_and p hp] at this
  exact this
set_option maxRecDepth 100000 in
theorem branch_any {w : World} {M : Mc} {s : Ms} {sb a b nx : Nat} {x : In} {ta tb : Bool} {n : Sn} (h : Mid w M s sb x a ta b tb n nx) (g : Bool) :
    Calls Tryz.prog 130 #[.pointer (some ⟨sb, 0, none⟩), .bool g] w (Ok w M s sb x a ta b tb ⟨n.pc, n.k, n.a, n.b, ta || tb⟩ (if g then sm s.pc (uw x.imm) else nx)) := by
  have d7 := h.p.d7
  have d9 := h.p.d9
  have d14 := h.p.d14
  have f14 := h.p.fz 14
  have h4 := h.setT (ta || tb)
  have o4 : Only (fun j => M.own j ∨ j = sb) w (w.setCell ⟨sb, 14, none⟩ (.bool (ta || tb))) := osb (Only.refl _ _)
  have hY := way_any h4
  have h5 : ∀ m, Mid ((w.setCell ⟨sb, 14, none⟩ (.bool (ta || tb))).drewN m) M s sb x a ta b tb _ nx := fun m => h4.of (bdN (Below.refl _ _) m)
  have d15 := fun m => (h5 m).p.d15
  have f15 := fun m => (h5 m).p.fz 15
  have hE : ∀ m, Ok w M s sb x a ta b tb ⟨n.pc, n.k, n.a, n.b, ta || tb⟩ (sm s.pc (uw x.imm)) (.returned (.tuple #[])) (((w.setCell ⟨sb, 14, none⟩ (.bool (ta || tb))).drewN m).setCell ⟨sb, 15, none⟩ (.int .u64 (sm s.pc (uw x.imm) : Nat))) := fun m => Ok.of2 ((h5 m).setN _) (osb (obl o4 (bdN (Below.refl _ _) m))) (Below.refl _ _)
  have hE0 : Ok w M s sb x a ta b tb ⟨n.pc, n.k, n.a, n.b, ta || tb⟩ nx (.returned (.tuple #[])) (w.setCell ⟨sb, 14, none⟩ (.bool (ta || tb))) := Ok.of2 h4 o4 (Below.refl _ _)
  clear h5
  cases ta
  all_goals
    simp only [Bool.true_or, Bool.false_or] at hY h4 o4 d15 f15 hE hE0 ⊢
    cases g
    · go_enter Tryz.func130, Tryz.ntmps130
      go_wp2
      go_end0
      exact hE0
    · go_enter Tryz.func130, Tryz.ntmps130
      go_wp2_with (go_at_call 132; (with_reducible refine hY.mono ?_); (rintro e w2 ⟨rfl, mm, rfl⟩))
      go_end0
      exact hE _
set_option maxRecDepth 100000 in
theorem beq_any {w : World} {M : Mc} {s : Ms} {sb a b nx : Nat} {x : In} {ta tb : Bool} {n : Sn} (h : Mid w M s sb x a ta b tb n nx) :
    Calls Tryz.prog 82 #[.pointer (some ⟨sb, 0, none⟩)] w (Ok w M s sb x a ta b tb ⟨n.pc, n.k, n.a, n.b, ta || tb⟩ (if decide (a = b) then sm s.pc (uw x.imm) else nx)) := by
  have hb0 : Below w.heap.size w w.drew := bd1 (Below.refl _ _)
  obtain ⟨N, hN⟩ : ∃ N, (if decide (a = b) then sm s.pc (uw x.imm) else nx) = N := ⟨_, rfl⟩
  rw [hN]
  have hg : ((a : Int) == (b : Int)) = decide (a = b) := by first | rfl | (rw [Bool.eq_iff_iff]; simp <;> omega)
  have hC := branch_any (h.of hb0) (decide (a = b))
  rw [hN, ← hg] at hC
  clear hN hg
  have d6 := h.p.d6
  have d8 := h.p.d8
  go_enter Tryz.func82, Tryz.ntmps82
  go_still_tail 12, (by kernel_rfl)
  change wpList _ _ _ _ _ w.drew
  go_wp2_with (go_at_call 130; (with_reducible refine hC.mono ?_); (rintro e w2 ⟨rfl, hm2, ho⟩))
  go_end0
  exact Ok.pre hb0 ⟨rfl, hm2, ho⟩
set_option maxRecDepth 100000 in
theorem bne_any {w : World} {M : Mc} {s : Ms} {sb a b nx : Nat} {x : In} {ta tb : Bool} {n : Sn} (h : Mid w M s sb x a ta b tb n nx) :
    Calls Tryz.prog 83 #[.pointer (some ⟨sb, 0, none⟩)] w (Ok w M s sb x a ta b tb ⟨n.pc, n.k, n.a, n.b, ta || tb⟩ (if decide (a ≠ b) then sm s.pc (uw x.imm) else nx)) := by
  have hb0 : Below w.heap.size w w.drew := bd1 (Below.refl _ _)
  obtain ⟨N, hN⟩ : ∃ N, (if decide (a ≠ b) then sm s.pc (uw x.imm) else nx) = N := ⟨_, rfl⟩
  rw [hN]
  have hg : ((a : Int) != (b : Int)) = decide (a ≠ b) := by first | rfl | (rw [Bool.eq_iff_iff]; simp <;> omega)
  have hC := branch_any (h.of hb0) (decide (a ≠ b))
  rw [hN, ← hg] at hC
  clear hN hg
  have d6 := h.p.d6
  have d8 := h.p.d8
  go_enter Tryz.func83, Tryz.ntmps83
  go_still_tail 12, (by kernel_rfl)
  change wpList _ _ _ _ _ w.drew
  go_wp2_with (go_at_call 130; (with_reducible refine hC.mono ?_); (rintro e w2 ⟨rfl, hm2, ho⟩))
  go_end0
  exact Ok.pre hb0 ⟨rfl, hm2, ho⟩
set_option maxRecDepth 100000 in
theorem bltu_any {w : World} {M : Mc} {s : Ms} {sb a b nx : Nat} {x : In} {ta tb : Bool} {n : Sn} (h : Mid w M s sb x a ta b tb n nx) :
    Calls Tryz.prog 84 #[.pointer (some ⟨sb, 0, none⟩)] w (Ok w M s sb x a ta b tb ⟨n.pc, n.k, n.a, n.b, ta || tb⟩ (if decide (a < b) then sm s.pc (uw x.imm) else nx)) := by
  have hb0 : Below w.heap.size w w.drew := bd1 (Below.refl _ _)
  obtain ⟨N, hN⟩ : ∃ N, (if decide (a < b) then sm s.pc (uw x.imm) else nx) = N := ⟨_, rfl⟩
  rw [hN]
  have hg : decide (a < b) = decide (a < b) := by first | rfl | (rw [Bool.eq_iff_iff]; simp <;> omega)
  have hC := branch_any (h.of hb0) (decide (a < b))
  rw [hN, ← hg] at hC
  clear hN hg
  have d6 := h.p.d6
  have d8 := h.p.d8
  go_enter Tryz.func84, Tryz.ntmps84
  go_still_tail 12, (by kernel_rfl)
  change wpList _ _ _ _ _ w.drew
  go_wp2_with (go_at_call 130; (with_reducible refine hC.mono ?_); (rintro e w2 ⟨rfl, hm2, ho⟩))
  go_end0
  exact Ok.pre hb0 ⟨rfl, hm2, ho⟩
set_option maxRecDepth 100000 in
theorem bgeu_any {w : World} {M : Mc} {s : Ms} {sb a b nx : Nat} {x : In} {ta tb : Bool} {n : Sn} (h : Mid w M s sb x a ta b tb n nx) :
    Calls Tryz.prog 85 #[.pointer (some ⟨sb, 0, none⟩)] w (Ok w M s sb x a ta b tb ⟨n.pc, n.k, n.a, n.b, ta || tb⟩ (if decide (b ≤ a) then sm s.pc (uw x.imm) else nx)) := by
  have hb0 : Below w.heap.size w w.drew := bd1 (Below.refl _ _)
  obtain ⟨N, hN⟩ : ∃ N, (if decide (b ≤ a) then sm s.pc (uw x.imm) else nx) = N := ⟨_, rfl⟩
  rw [hN]
  have hg : decide (b ≤ a) = decide (b ≤ a) := by first | rfl | (rw [Bool.eq_iff_iff]; simp <;> omega)
  have hC := branch_any (h.of hb0) (decide (b ≤ a))
  rw [hN, ← hg] at hC
  clear hN hg
  have d6 := h.p.d6
  have d8 := h.p.d8
  go_enter Tryz.func85, Tryz.ntmps85
  go_still_tail 12, (by kernel_rfl)
  change wpList _ _ _ _ _ w.drew
  go_wp2_with (go_at_call 130; (with_reducible refine hC.mono ?_); (rintro e w2 ⟨rfl, hm2, ho⟩))
  go_end0
  exact Ok.pre hb0 ⟨rfl, hm2, ho⟩
set_option maxRecDepth 100000 in
theorem jump_any {w : World} {M : Mc} {s : Ms} {sb a b nx : Nat} {x : In} {ta tb : Bool} {n : Sn} (h : Mid w M s sb x a ta b tb n nx) (p : Nat) (hi : x.rd < 32) (hx : nx < 18446744073709551616) :
    Calls Tryz.prog 131 #[.pointer (some ⟨sb, 0, none⟩), .int .u64 p] w (Ok w M (s.lay x.rd nx false) sb x a ta b tb n p) := by
  have hC := slay_any h nx false hi hx
  have d15 := h.p.d15
  go_enter Tryz.func131, Tryz.ntmps131
  go_wp2_with (go_at_call 126; (with_reducible refine hC.mono ?_); (rintro e w2 ⟨rfl, hm2, ho⟩); have e15 := hm2.p.d15; have f15 := hm2.p.fz 15)
  go_end0
  exact Ok.of2 (hm2.setN p) (osb ho) (Below.refl _ _)
set_option maxRecDepth 100000 in
theorem jal_any {w : World} {M : Mc} {s : Ms} {sb a b nx : Nat} {x : In} {ta tb : Bool} {n : Sn} (h : Mid w M s sb x a ta b tb n nx) (hi : x.rd < 32) (hx : nx < 18446744073709551616) :
    Calls Tryz.prog 86 #[.pointer (some ⟨sb, 0, none⟩)] w (Ok w M (s.lay x.rd nx false) sb x a ta b tb n (sm s.pc (uw x.imm))) := by
  have hY := way_any h
  have hC := fun m => jump_any (h.of (bdN (Below.refl _ _) m)) (sm s.pc (uw x.imm)) hi hx
  go_enter Tryz.func86, Tryz.ntmps86
  go_wp2_with (first | (go_at_call 132; (with_reducible refine hY.mono ?_); (rintro e w2 ⟨rfl, mm, rfl⟩)) | (go_at_call 131; (with_reducible refine (hC _).mono ?_); (rintro e w3 ⟨rfl, hm2, ho⟩)))
  go_end0
  exact Ok.pre (bdN (Below.refl _ _) _) ⟨rfl, hm2, ho⟩
set_option maxRecDepth 100000 in
theorem jalr_any {w : World} {M : Mc} {s : Ms} {sb a b nx : Nat} {x : In} {ta tb : Bool} {n : Sn} (h : Mid w M s sb x a ta b tb n nx) (hi : x.rd < 32) (hx : nx < 18446744073709551616) :
    Calls Tryz.prog 87 #[.pointer (some ⟨sb, 0, none⟩)] w (Ok w M (s.lay x.rd nx false) sb x a ta b tb ⟨n.pc, n.k, n.a, n.b, ta⟩ (ev (sm a (uw x.imm)))) := by
  have d7 := h.p.d7
  have d14 := h.p.d14
  have f14 := h.p.fz 14
  have h4 := h.setT ta
  have o4 : Only (fun j => M.own j ∨ j = sb) w (w.setCell ⟨sb, 14, none⟩ (.bool ta)) := osb (Only.refl _ _)
  have hY := place_cells h4.p.d5 h4.p.d6
  have hC := fun m p => jump_any (h4.of (bdN (Below.refl _ _) m)) p hi hx
  go_enter Tryz.func87, Tryz.ntmps87
  have hev := ev_bits (sm a (uw x.imm)) (sm_lt _ _)
  go_wp2_with (first | (go_at_call 133; (with_reducible refine hY.mono ?_); (rintro e w2 ⟨rfl, mm, rfl⟩)) | (go_at_call 131; (with_reducible refine (hC _ _).mono ?_); (rintro e w3 ⟨rfl, hm2, ho⟩)))
  go_end0
  exact Ok.orO (obl o4 (bdN (Below.refl _ _) _)) ⟨rfl, hm2, ho⟩
end Go.Proofs.YtcckgfablfgknaaGreatDoor.m4
