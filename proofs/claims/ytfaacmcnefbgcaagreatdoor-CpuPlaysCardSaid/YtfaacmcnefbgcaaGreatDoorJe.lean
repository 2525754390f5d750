/- Contracts of step.load, store and its kin. -/
import Derived.Test.YtfaacmcnefbgcaaGreatDoorQk
import Derived.Test.YtfaacmcnefbgcaaGreatDoorQl
import Derived.Laws.BitsAllLaws
import Derived.Deep.AppendLies
import Derived.Deep.RegionLaw
namespace Go.Proofs.YtfaacmcnefbgcaaGreatDoor.m4
open Go.ChangeShapes Go.WideShapes Go.ChangeAt Go.RowKit
set_option linter.unusedVariables false

/-- A step that goes wrong: nothing of the machine has changed. -/
def Bd (w0 : World) (M : Mc) (s : Ms) (sb : Nat) (k : Int) (e : Ending) (w' : World) : Prop := e = pnc k ∧ IsC w' M s ∧ Only (fun j => M.own j ∨ j = sb) w0 w'
/-- What a part of a step leaves, with that error. -/
def Rs (w0 : World) (M : Mc) (s0 : Ms) (k : Int) (s : Ms) (sb : Nat) (x : In) (a : Nat) (ta : Bool) (b : Nat) (tb : Bool) (n : Sn) (nx : Nat) (e : Ending) (w' : World) : Prop := (k = 0 → Ok w0 M s sb x a ta b tb n nx e w') ∧ (k ≠ 0 → Bd w0 M s0 sb k e w')
theorem Rs.no {w0 w1 w' : World} {M : Mc} {s0 s : Ms} {k : Int} {sb a b nx : Nat} {x : In} {ta tb : Bool} {n n1 : Sn} (hk : k ≠ 0) (hm : Mid w1 M s0 sb x a ta b tb n1 nx) (ho : Only (fun j => M.own j ∨ j = sb) w0 w1) (hb : Below w1.heap.size w1 w') : Rs w0 M s0 k s sb x a ta b tb n nx (pnc k) w' :=
  ⟨fun h => absurd h hk, fun _ => ⟨rfl, hm.c.of hb, ho.trans (only_below hb)⟩⟩
theorem Rs.yes {w0 w1 w' : World} {M : Mc} {s0 s : Ms} {sb a b nx : Nat} {x : In} {ta tb : Bool} {n : Sn} {e : Ending} (ho : Only (fun j => M.own j ∨ j = sb) w0 w1) (h : Ok w1 M s sb x a ta b tb n nx e w') : Rs w0 M s0 0 s sb x a ta b tb n nx e w' :=
  ⟨fun _ => Ok.orO ho h, fun h => absurd rfl h⟩
set_option maxRecDepth 100000 in
set_option maxHeartbeats 2000000 in
theorem sload_any {w : World} {M : Mc} {s : Ms} {sb a b nx : Nat} {x : In} {ta tb : Bool} {n : Sn} (h : Mid w M s sb x a ta b tb n nx) (q : Int) (lv : Nat) (lt : Bool) (le : Int) (hlv : lv < 18446744073709551616) (hF : ldF M.x.l s.bv s.tv (sm a (uw x.imm)) q = (lv, lt, le)) (hi : x.rd < 32) :
    Calls Tryz.prog 96 #[.pointer (some ⟨sb, 0, none⟩), .int .i64 q] w (Rs w M s le (s.lay x.rd lv (lt || ta)) sb x a ta b tb ⟨n.pc, 2, sm a (uw x.imm), n.b, ta⟩ nx) := by
  have hK : Calls Tryz.prog 120 #[.pointer (some ⟨sb, 0, none⟩), .int .u8 2] w (Ok w M s sb x a ta b tb ⟨n.pc, 2, sm a (uw x.imm), n.b, ta⟩ nx) := asks_any h 2
  have hLd : ∀ w', IsM w' M.x s.bv s.tv → Calls Tryz.prog 121 #[.pointer (some ⟨M.x.mb, 0, none⟩), .int .u64 (sm a (uw x.imm) : Nat), .int .i64 q] w' fun e w'' => e = .returned (.tuple #[.int .u64 (lv : Nat), .bool lt, .int .i64 le]) ∧ Below w'.heap.size w' w'' := fun w' hI => by
    have := load_any (sm a (uw x.imm)) q (sm_lt _ _) w' hI
    rw [hF] at this
    exact this
  go_enter Tryz.func96, Tryz.ntmps96
  go_wp2_with (go_at_call 120; (with_reducible refine hK.mono ?_); (rintro e wa ⟨rfl, hm, ho⟩))
  have d0 := hm.p.d0
  have d5 := hm.p.d5
  have d6 := hm.p.d6
  have c0 := hm.c.c0
  refine region_below (by kernel_rfl) (by kernel_rfl) ?_
  repeat (first
    | go_big_quiet_skip
    | (refine BigFrame.wpQuiet_want (by kernel_rfl) fun K hK => ?_
       apply Exists.intro
       refine ⟨fun w' hb' => ?_, ?_⟩
       · have s0 := stay hb' d0
         have s1 := stay hb' c0
         go_simp
         first
           | exact rfl
           | exact ⟨rfl, hb'⟩
           | (go_at_call 101
              exact (place_cells (stay hb' d5) (stay hb' d6)).mono fun e w'' ⟨he, m, hm2⟩ => ⟨he, by rw [hm2]; exact bdN hb' m⟩)
           | (go_at_call 121
              exact (hLd w' (hm.c.mem.of hb')).mono fun e w'' ⟨he, hb2⟩ => ⟨he, below_trans' hb' (Nat.le_refl _) hb2⟩)
       go_simp
       refine hK _ ?_
       clear hK K))
  refine wpQuiet_nil ?_
  intro w1 hb1
  have hm1 := hm.of hb1
  clear d0 d5 d6 c0
  have d7 := hm1.p.d7
  have ho1 : Only (fun j => M.own j ∨ j = sb) w w1 := obl ho hb1
  by_cases hk : le = 0
  · subst hk
    have hL := slay_any hm1 lv (lt || ta) hi hlv
    cases lt
    all_goals
      simp only [Bool.true_or, Bool.false_or] at hL ⊢
      go_wp2_with (first | (go_at_call 52; (with_reducible refine (must_ok _).mono ?_); (rintro e w3 ⟨rfl, rfl⟩)) | (go_at_call 94; (with_reducible refine hL.mono ?_); (rintro e w2 ⟨rfl, hm2, ho2⟩)))
      go_end0
      exact Rs.yes ho1 ⟨rfl, hm2, ho2⟩
  · have hM : ∀ w', Calls Tryz.prog 52 #[.int .i64 le] w' fun e w'' => e = .panicked [{ v := .iface 35 (.int .i64 le), recovered := false }] ∧ w' = w'' := fun w' => must_no le hk w'
    go_wp2_with (go_at_call 52; (with_reducible refine (hM _).mono ?_); (rintro e w3 ⟨rfl, rfl⟩))
    exact ⟨rfl, Rs.no hk hm1 ho1 (Below.refl _ _)⟩
set_option maxRecDepth 100000 in
set_option maxHeartbeats 2000000 in
theorem sstore_any {w : World} {M : Mc} {s : Ms} {sb a b nx : Nat} {x : In} {ta tb : Bool} {n : Sn} (h : Mid w M s sb x a ta b tb n nx) (q : Int) (o : Option Nat) (le : Int) (hO : stO M.x.l (sm a (uw x.imm)) q = o) (hE : stE M.x.l (sm a (uw x.imm)) q = le) (hno : le ≠ 0 → o = none) (hv : b < 18446744073709551616) :
    Calls Tryz.prog 97 #[.pointer (some ⟨sb, 0, none⟩), .int .i64 q] w (Rs w M s le (s.put o q.toNat b (ta || tb)) sb x a ta b tb ⟨n.pc, 3, sm a (uw x.imm), n.b, ta⟩ nx) := by
  have hK : Calls Tryz.prog 120 #[.pointer (some ⟨sb, 0, none⟩), .int .u8 3] w (Ok w M s sb x a ta b tb ⟨n.pc, 3, sm a (uw x.imm), n.b, ta⟩ nx) := asks_any h 3
  have hLd : ∀ w', IsM w' M.x s.bv s.tv → Calls Tryz.prog 122 #[.pointer (some ⟨M.x.mb, 0, none⟩), .int .u64 (sm a (uw x.imm) : Nat), .int .i64 q, .int .u64 b, .bool (ta || tb)] w' fun e w'' => e = .returned (.int .i64 le) ∧ Wrt M.x (upO o s.bv q.toNat (wb b)) (upO o s.tv q.toNat fun _ => (ta || tb)) w' w'' := fun w' hI => by
    have := store_any (sm a (uw x.imm)) q b (ta || tb) (sm_lt _ _) hv w' hI
    rw [hO, hE] at this
    exact this
  go_enter Tryz.func97, Tryz.ntmps97
  go_wp2_with (go_at_call 120; (with_reducible refine hK.mono ?_); (rintro e wa ⟨rfl, hm, ho⟩))
  have d0 := hm.p.d0
  have d5 := hm.p.d5
  have d6 := hm.p.d6
  have d7 := hm.p.d7
  have d8 := hm.p.d8
  have d9 := hm.p.d9
  have c0 := hm.c.c0
  have hM : le ≠ 0 → ∀ w', Calls Tryz.prog 52 #[.int .i64 le] w' fun e w'' => e = .panicked [{ v := .iface 35 (.int .i64 le), recovered := false }] ∧ w' = w'' := fun hk w' => must_no le hk w'
  have hS : ∀ w', Below wa.heap.size wa w' → Calls Tryz.prog 122 #[.pointer (some ⟨M.x.mb, 0, none⟩), .int .u64 (sm a (uw x.imm) : Nat), .int .i64 q, .int .u64 b, .bool (ta || tb)] w' fun e w'' => e = .returned (.int .i64 le) ∧ Wrt M.x (upO o s.bv q.toNat (wb b)) (upO o s.tv q.toNat fun _ => (ta || tb)) w' w'' := fun w' hb => hLd _ (hm.c.mem.of hb)
  clear hLd
  cases ta
  all_goals
    simp only [Bool.true_or, Bool.false_or] at hS ⊢
    refine region_belowT 27 (by kernel_rfl) (by kernel_rfl) (by kernel_rfl) ?_
    simp only [List.take_succ_cons, List.take_zero, List.drop_succ_cons, List.drop_zero]
    repeat (first
      | go_big_quiet_skip
      | (refine BigFrame.wpQuiet_want (by kernel_rfl) fun K hK => ?_
         apply Exists.intro
         refine ⟨fun w' hb' => ?_, ?_⟩
         · have s0 := stay hb' d0
           have s1 := stay hb' d6
           have s2 := stay hb' d7
           have s3 := stay hb' d8
           have s4 := stay hb' d9
           have s5 := stay hb' c0
           go_simp
           first
             | exact rfl
             | exact ⟨rfl, hb'⟩
             | (go_at_call 101
                exact (place_cells (stay hb' d5) (stay hb' d6)).mono fun e w'' ⟨he, m, hm2⟩ => ⟨he, by rw [hm2]; exact bdN hb' m⟩)
         go_simp
         refine hK _ ?_
         clear hK K))
    refine wpQuiet_nil ?_
    intro w1 hb1
    have hm1 := hm.of hb1
    have ho1 : Only (fun j => M.own j ∨ j = sb) w w1 := obl ho hb1
    have hS1 := hS _ hb1
    clear d0 d5 d6 d7 d8 d9 c0 hS hm ho hb1
    by_cases hk : le = 0
    · subst hk
      go_wp2_with (first | (go_at_call 122; (with_reducible refine hS1.mono ?_); (rintro e w3 ⟨rfl, hW⟩)) | (go_at_call 52; (with_reducible refine (must_ok _).mono ?_); (rintro e w4 ⟨rfl, rfl⟩)))
      go_end0
      have hO : Only M.own w1 w3 := hW.2.mono fun j hj => .inr (.inl hj)
      exact Rs.yes (w1 := w1) ho1 ⟨rfl, hm1.write (hm1.c.wrt hW) hO, hO.mono fun j hj => .inl hj⟩
    · have hM := hM hk
      obtain rfl := hno hk
      go_wp2_with (first | (go_at_call 122; (with_reducible refine hS1.mono ?_); (rintro e w3 ⟨rfl, hW⟩)) | (go_at_call 52; (with_reducible refine (hM _).mono ?_); (rintro e w4 ⟨rfl, rfl⟩)))
      have hO : Only M.own w1 w3 := hW.2.mono fun j hj => .inr (.inl hj)
      exact ⟨rfl, Rs.no hk (hm1.write (hm1.c.wrt hW) hO) (ho1.trans (hO.mono fun j hj => .inl hj)) (Below.refl _ _)⟩
end Go.Proofs.YtfaacmcnefbgcaaGreatDoor.m4

/- Contracts of step.lbu, ld, sb, sd, branch and its kin, jump, jal, jalr. -/
namespace Go.Proofs.YtfaacmcnefbgcaaGreatDoor.m4
open Go.ChangeShapes Go.WideShapes Go.ChangeAt Go.RowKit
set_option linter.unusedVariables false

theorem lbu_any {w : World} {M : Mc} {s : Ms} {sb a b nx : Nat} {x : In} {ta tb : Bool} {n : Sn} (h : Mid w M s sb x a ta b tb n nx) (lv : Nat) (lt : Bool) (le : Int) (hlv : lv < 18446744073709551616) (hF : ldF M.x.l s.bv s.tv (sm a (uw x.imm)) 1 = (lv, lt, le)) (hi : x.rd < 32) :
    Calls Tryz.prog 65 #[.pointer (some ⟨sb, 0, none⟩)] w (Rs w M s le (s.lay x.rd lv (lt || ta)) sb x a ta b tb ⟨n.pc, 2, sm a (uw x.imm), n.b, ta⟩ nx) := by
  have hC : Calls Tryz.prog 96 #[.pointer (some ⟨sb, 0, none⟩), .int .i64 1] w _ := sload_any h 1 lv lt le hlv hF hi
  by_cases hk : le = 0
  · have hC' := hC.mono (R' := fun e w' => e = .returned (.tuple #[]) ∧ Ok w M (s.lay x.rd lv (lt || ta)) sb x a ta b tb ⟨n.pc, 2, sm a (uw x.imm), n.b, ta⟩ nx e w') fun e w' hr => ⟨(hr.1 hk).1, hr.1 hk⟩
    clear hC
    go_enter Tryz.func65, Tryz.ntmps65
    go_wp2_with (go_at_call 96; (with_reducible refine hC'.mono ?_); (rintro e w2 ⟨rfl, hr⟩))
    go_end0
    exact ⟨fun _ => hr, fun h => absurd hk h⟩
  · have hC' := hC.mono (R' := fun e w' => e = .panicked [{ v := .iface 35 (.int .i64 le), recovered := false }] ∧ Bd w M s sb le (pnc le) w') fun e w' hr => ⟨(hr.2 hk).1, rfl, (hr.2 hk).2⟩
    clear hC
    go_enter Tryz.func65, Tryz.ntmps65
    go_wp2_with (go_at_call 96; (with_reducible refine hC'.mono ?_); (rintro e w2 ⟨rfl, hr⟩))
    exact ⟨rfl, fun h => absurd h hk, fun _ => hr⟩
theorem ld_any {w : World} {M : Mc} {s : Ms} {sb a b nx : Nat} {x : In} {ta tb : Bool} {n : Sn} (h : Mid w M s sb x a ta b tb n nx) (lv : Nat) (lt : Bool) (le : Int) (hlv : lv < 18446744073709551616) (hF : ldF M.x.l s.bv s.tv (sm a (uw x.imm)) 8 = (lv, lt, le)) (hi : x.rd < 32) :
    Calls Tryz.prog 66 #[.pointer (some ⟨sb, 0, none⟩)] w (Rs w M s le (s.lay x.rd lv (lt || ta)) sb x a ta b tb ⟨n.pc, 2, sm a (uw x.imm), n.b, ta⟩ nx) := by
  have hC : Calls Tryz.prog 96 #[.pointer (some ⟨sb, 0, none⟩), .int .i64 8] w _ := sload_any h 8 lv lt le hlv hF hi
  by_cases hk : le = 0
  · have hC' := hC.mono (R' := fun e w' => e = .returned (.tuple #[]) ∧ Ok w M (s.lay x.rd lv (lt || ta)) sb x a ta b tb ⟨n.pc, 2, sm a (uw x.imm), n.b, ta⟩ nx e w') fun e w' hr => ⟨(hr.1 hk).1, hr.1 hk⟩
    clear hC
    go_enter Tryz.func66, Tryz.ntmps66
    go_wp2_with (go_at_call 96; (with_reducible refine hC'.mono ?_); (rintro e w2 ⟨rfl, hr⟩))
    go_end0
    exact ⟨fun _ => hr, fun h => absurd hk h⟩
  · have hC' := hC.mono (R' := fun e w' => e = .panicked [{ v := .iface 35 (.int .i64 le), recovered := false }] ∧ Bd w M s sb le (pnc le) w') fun e w' hr => ⟨(hr.2 hk).1, rfl, (hr.2 hk).2⟩
    clear hC
    go_enter Tryz.func66, Tryz.ntmps66
    go_wp2_with (go_at_call 96; (with_reducible refine hC'.mono ?_); (rintro e w2 ⟨rfl, hr⟩))
    exact ⟨rfl, fun h => absurd h hk, fun _ => hr⟩
theorem sb_any {w : World} {M : Mc} {s : Ms} {sb a b nx : Nat} {x : In} {ta tb : Bool} {n : Sn} (h : Mid w M s sb x a ta b tb n nx) (o : Option Nat) (le : Int) (hO : stO M.x.l (sm a (uw x.imm)) 1 = o) (hE : stE M.x.l (sm a (uw x.imm)) 1 = le) (hno : le ≠ 0 → o = none) (hv : b < 18446744073709551616) :
    Calls Tryz.prog 67 #[.pointer (some ⟨sb, 0, none⟩)] w (Rs w M s le (s.put o 1 b (ta || tb)) sb x a ta b tb ⟨n.pc, 3, sm a (uw x.imm), n.b, ta⟩ nx) := by
  have hC : Calls Tryz.prog 97 #[.pointer (some ⟨sb, 0, none⟩), .int .i64 1] w (Rs w M s le (s.put o 1 b (ta || tb)) sb x a ta b tb ⟨n.pc, 3, sm a (uw x.imm), n.b, ta⟩ nx) := sstore_any h 1 o le hO hE hno hv
  by_cases hk : le = 0
  · have hC' := hC.mono (R' := fun e w' => e = .returned (.tuple #[]) ∧ Ok w M (s.put o 1 b (ta || tb)) sb x a ta b tb ⟨n.pc, 3, sm a (uw x.imm), n.b, ta⟩ nx e w') fun e w' hr => ⟨(hr.1 hk).1, hr.1 hk⟩
    clear hC
    go_enter Tryz.func67, Tryz.ntmps67
    go_wp2_with (go_at_call 97; (with_reducible refine hC'.mono ?_); (rintro e w2 ⟨rfl, hr⟩))
    go_end0
    exact ⟨fun _ => hr, fun h => absurd hk h⟩
  · have hC' := hC.mono (R' := fun e w' => e = .panicked [{ v := .iface 35 (.int .i64 le), recovered := false }] ∧ Bd w M s sb le (pnc le) w') fun e w' hr => ⟨(hr.2 hk).1, rfl, (hr.2 hk).2⟩
    clear hC
    go_enter Tryz.func67, Tryz.ntmps67
    go_wp2_with (go_at_call 97; (with_reducible refine hC'.mono ?_); (rintro e w2 ⟨rfl, hr⟩))
    exact ⟨rfl, fun h => absurd h hk, fun _ => hr⟩
theorem sd_any {w : World} {M : Mc} {s : Ms} {sb a b nx : Nat} {x : In} {ta tb : Bool} {n : Sn} (h : Mid w M s sb x a ta b tb n nx) (o : Option Nat) (le : Int) (hO : stO M.x.l (sm a (uw x.imm)) 8 = o) (hE : stE M.x.l (sm a (uw x.imm)) 8 = le) (hno : le ≠ 0 → o = none) (hv : b < 18446744073709551616) :
    Calls Tryz.prog 68 #[.pointer (some ⟨sb, 0, none⟩)] w (Rs w M s le (s.put o 8 b (ta || tb)) sb x a ta b tb ⟨n.pc, 3, sm a (uw x.imm), n.b, ta⟩ nx) := by
  have hC : Calls Tryz.prog 97 #[.pointer (some ⟨sb, 0, none⟩), .int .i64 8] w (Rs w M s le (s.put o 8 b (ta || tb)) sb x a ta b tb ⟨n.pc, 3, sm a (uw x.imm), n.b, ta⟩ nx) := sstore_any h 8 o le hO hE hno hv
  by_cases hk : le = 0
  · have hC' := hC.mono (R' := fun e w' => e = .returned (.tuple #[]) ∧ Ok w M (s.put o 8 b (ta || tb)) sb x a ta b tb ⟨n.pc, 3, sm a (uw x.imm), n.b, ta⟩ nx e w') fun e w' hr => ⟨(hr.1 hk).1, hr.1 hk⟩
    clear hC
    go_enter Tryz.func68, Tryz.ntmps68
    go_wp2_with (go_at_call 97; (with_reducible refine hC'.mono ?_); (rintro e w2 ⟨rfl, hr⟩))
    go_end0
    exact ⟨fun _ => hr, fun h => absurd hk h⟩
  · have hC' := hC.mono (R' := fun e w' => e = .panicked [{ v := .iface 35 (.int .i64 le), recovered := false }] ∧ Bd w M s sb le (pnc le) w') fun e w' hr => ⟨(hr.2 hk).1, rfl, (hr.2 hk).2⟩
    clear hC
    go_enter Tryz.func68, Tryz.ntmps68
    go_wp2_with (go_at_call 97; (with_reducible refine hC'.mono ?_); (rintro e w2 ⟨rfl, hr⟩))
    exact ⟨rfl, fun h => absurd h hk, fun _ => hr⟩
theorem ev_and (p : Nat) (hp : p < 18446744073709551616) : p &&& 18446744073709551614 = p / 2 * 2 := by
  have h1 : (p &&& 18446744073709551614) / 2 = p / 2 := by
    rw [show (p &&& 18446744073709551614) / 2 = p / 2 &&& 18446744073709551614 / 2 from by simpa using Nat.and_div_two_pow (n := 1) (a := p) (b := 18446744073709551614)]
    rw [show 18446744073709551614 / 2 = 2 ^ 63 - 1 from rfl, Nat.and_two_pow_sub_one_eq_mod]
    omega
  have h2 : (p &&& 18446744073709551614) % 2 = 0 := by
    rw [show (p &&& 18446744073709551614) % 2 = (p % 2) &&& (18446744073709551614 % 2) from by simpa using Nat.and_mod_two_pow (n := 1) (a := p) (b := 18446744073709551614)]
    simp
  omega
theorem ev_bits (p : Nat) (hp : p < 18446744073709551616) : bits .andNot .u64 (p : Int) 1 = (ev p : Nat) := by
  have := u64_andNot_nat p 1 hp (by omega)
  rw [show 18446744073709551615 - 1 = 18446744073709551614 from rfl, ev_and p hp] at this
  exact this
set_option maxRecDepth 100000 in
theorem branch_any {w : World} {M : Mc} {s : Ms} {sb a b nx : Nat} {x : In} {ta tb : Bool} {n : Sn} (h : Mid w M s sb x a ta b tb n nx) (g : Bool) :
    Calls Tryz.prog 98 #[.pointer (some ⟨sb, 0, none⟩), .bool g] w (Ok w M s sb x a ta b tb ⟨n.pc, n.k, n.a, n.b, ta || tb⟩ (if g then sm s.pc (uw x.imm) else nx)) := by
  have d7 := h.p.d7
  have d9 := h.p.d9
  have d14 := h.p.d14
  have f14 := h.p.fz 14
  have h4 := h.setT (ta || tb)
  have o4 : Only (fun j => M.own j ∨ j = sb) w (w.setCell ⟨sb, 14, none⟩ (.bool (ta || tb))) := osb (Only.refl _ _)
  have hY := way_any h4
  have h5 : ∀ m, Mid ((w.setCell ⟨sb, 14, none⟩ (.bool (ta || tb))).drewN m) M s sb x a ta b tb _ nx := fun m => h4.of (bdN (Below.refl _ _) m)
  have d15 := fun m => (h5 m).p.d15
  have f15 := fun m => (h5 m).p.fz 15
  have hE : ∀ m, Ok w M s sb x a ta b tb ⟨n.pc, n.k, n.a, n.b, ta || tb⟩ (sm s.pc (uw x.imm)) (.returned (.tuple #[])) (((w.setCell ⟨sb, 14, none⟩ (.bool (ta || tb))).drewN m).setCell ⟨sb, 15, none⟩ (.int .u64 (sm s.pc (uw x.imm) : Nat))) := fun m => Ok.of2 ((h5 m).setN _) (osb (obl o4 (bdN (Below.refl _ _) m))) (Below.refl _ _)
  have hE0 : Ok w M s sb x a ta b tb ⟨n.pc, n.k, n.a, n.b, ta || tb⟩ nx (.returned (.tuple #[])) (w.setCell ⟨sb, 14, none⟩ (.bool (ta || tb))) := Ok.of2 h4 o4 (Below.refl _ _)
  clear h5
  cases ta
  all_goals
    simp only [Bool.true_or, Bool.false_or] at hY h4 o4 d15 f15 hE hE0 ⊢
    cases g
    · go_enter Tryz.func98, Tryz.ntmps98
      go_wp2
      go_end0
      exact hE0
    · go_enter Tryz.func98, Tryz.ntmps98
      go_wp2_with (go_at_call 100; (with_reducible refine hY.mono ?_); (rintro e w2 ⟨rfl, mm, rfl⟩))
      go_end0
      exact hE _
set_option maxRecDepth 100000 in
theorem beq_any {w : World} {M : Mc} {s : Ms} {sb a b nx : Nat} {x : In} {ta tb : Bool} {n : Sn} (h : Mid w M s sb x a ta b tb n nx) :
    Calls Tryz.prog 69 #[.pointer (some ⟨sb, 0, none⟩)] w (Ok w M s sb x a ta b tb ⟨n.pc, n.k, n.a, n.b, ta || tb⟩ (if decide (a = b) then sm s.pc (uw x.imm) else nx)) := by
  have hb0 : Below w.heap.size w w.drew := bd1 (Below.refl _ _)
  obtain ⟨N, hN⟩ : ∃ N, (if decide (a = b) then sm s.pc (uw x.imm) else nx) = N := ⟨_, rfl⟩
  rw [hN]
  have hg : ((a : Int) == (b : Int)) = decide (a = b) := by first | rfl | (rw [Bool.eq_iff_iff]; simp <;> omega)
  have hC := branch_any (h.of hb0) (decide (a = b))
  rw [hN, ← hg] at hC
  clear hN hg
  have d6 := h.p.d6
  have d8 := h.p.d8
  go_enter Tryz.func69, Tryz.ntmps69
  go_still_tail 12, (by kernel_rfl)
  change wpList _ _ _ _ _ w.drew
  go_wp2_with (go_at_call 98; (with_reducible refine hC.mono ?_); (rintro e w2 ⟨rfl, hm2, ho⟩))
  go_end0
  exact Ok.pre hb0 ⟨rfl, hm2, ho⟩
set_option maxRecDepth 100000 in
theorem bne_any {w : World} {M : Mc} {s : Ms} {sb a b nx : Nat} {x : In} {ta tb : Bool} {n : Sn} (h : Mid w M s sb x a ta b tb n nx) :
    Calls Tryz.prog 70 #[.pointer (some ⟨sb, 0, none⟩)] w (Ok w M s sb x a ta b tb ⟨n.pc, n.k, n.a, n.b, ta || tb⟩ (if decide (a ≠ b) then sm s.pc (uw x.imm) else nx)) := by
  have hb0 : Below w.heap.size w w.drew := bd1 (Below.refl _ _)
  obtain ⟨N, hN⟩ : ∃ N, (if decide (a ≠ b) then sm s.pc (uw x.imm) else nx) = N := ⟨_, rfl⟩
  rw [hN]
  have hg : ((a : Int) != (b : Int)) = decide (a ≠ b) := by first | rfl | (rw [Bool.eq_iff_iff]; simp <;> omega)
  have hC := branch_any (h.of hb0) (decide (a ≠ b))
  rw [hN, ← hg] at hC
  clear hN hg
  have d6 := h.p.d6
  have d8 := h.p.d8
  go_enter Tryz.func70, Tryz.ntmps70
  go_still_tail 12, (by kernel_rfl)
  change wpList _ _ _ _ _ w.drew
  go_wp2_with (go_at_call 98; (with_reducible refine hC.mono ?_); (rintro e w2 ⟨rfl, hm2, ho⟩))
  go_end0
  exact Ok.pre hb0 ⟨rfl, hm2, ho⟩
set_option maxRecDepth 100000 in
theorem bltu_any {w : World} {M : Mc} {s : Ms} {sb a b nx : Nat} {x : In} {ta tb : Bool} {n : Sn} (h : Mid w M s sb x a ta b tb n nx) :
    Calls Tryz.prog 71 #[.pointer (some ⟨sb, 0, none⟩)] w (Ok w M s sb x a ta b tb ⟨n.pc, n.k, n.a, n.b, ta || tb⟩ (if decide (a < b) then sm s.pc (uw x.imm) else nx)) := by
  have hb0 : Below w.heap.size w w.drew := bd1 (Below.refl _ _)
  obtain ⟨N, hN⟩ : ∃ N, (if decide (a < b) then sm s.pc (uw x.imm) else nx) = N := ⟨_, rfl⟩
  rw [hN]
  have hg : decide (a < b) = decide (a < b) := by first | rfl | (rw [Bool.eq_iff_iff]; simp <;> omega)
  have hC := branch_any (h.of hb0) (decide (a < b))
  rw [hN, ← hg] at hC
  clear hN hg
  have d6 := h.p.d6
  have d8 := h.p.d8
  go_enter Tryz.func71, Tryz.ntmps71
  go_still_tail 12, (by kernel_rfl)
  change wpList _ _ _ _ _ w.drew
  go_wp2_with (go_at_call 98; (with_reducible refine hC.mono ?_); (rintro e w2 ⟨rfl, hm2, ho⟩))
  go_end0
  exact Ok.pre hb0 ⟨rfl, hm2, ho⟩
set_option maxRecDepth 100000 in
theorem bgeu_any {w : World} {M : Mc} {s : Ms} {sb a b nx : Nat} {x : In} {ta tb : Bool} {n : Sn} (h : Mid w M s sb x a ta b tb n nx) :
    Calls Tryz.prog 72 #[.pointer (some ⟨sb, 0, none⟩)] w (Ok w M s sb x a ta b tb ⟨n.pc, n.k, n.a, n.b, ta || tb⟩ (if decide (b ≤ a) then sm s.pc (uw x.imm) else nx)) := by
  have hb0 : Below w.heap.size w w.drew := bd1 (Below.refl _ _)
  obtain ⟨N, hN⟩ : ∃ N, (if decide (b ≤ a) then sm s.pc (uw x.imm) else nx) = N := ⟨_, rfl⟩
  rw [hN]
  have hg : decide (b ≤ a) = decide (b ≤ a) := by first | rfl | (rw [Bool.eq_iff_iff]; simp <;> omega)
  have hC := branch_any (h.of hb0) (decide (b ≤ a))
  rw [hN, ← hg] at hC
  clear hN hg
  have d6 := h.p.d6
  have d8 := h.p.d8
  go_enter Tryz.func72, Tryz.ntmps72
  go_still_tail 12, (by kernel_rfl)
  change wpList _ _ _ _ _ w.drew
  go_wp2_with (go_at_call 98; (with_reducible refine hC.mono ?_); (rintro e w2 ⟨rfl, hm2, ho⟩))
  go_end0
  exact Ok.pre hb0 ⟨rfl, hm2, ho⟩
set_option maxRecDepth 100000 in
theorem jump_any {w : World} {M : Mc} {s : Ms} {sb a b nx : Nat} {x : In} {ta tb : Bool} {n : Sn} (h : Mid w M s sb x a ta b tb n nx) (p : Nat) (hi : x.rd < 32) (hx : nx < 18446744073709551616) :
    Calls Tryz.prog 99 #[.pointer (some ⟨sb, 0, none⟩), .int .u64 p] w (Ok w M (s.lay x.rd nx false) sb x a ta b tb n p) := by
  have hC := slay_any h nx false hi hx
  have d15 := h.p.d15
  go_enter Tryz.func99, Tryz.ntmps99
  go_wp2_with (go_at_call 94; (with_reducible refine hC.mono ?_); (rintro e w2 ⟨rfl, hm2, ho⟩); have e15 := hm2.p.d15; have f15 := hm2.p.fz 15)
  go_end0
  exact Ok.of2 (hm2.setN p) (osb ho) (Below.refl _ _)
set_option maxRecDepth 100000 in
theorem jal_any {w : World} {M : Mc} {s : Ms} {sb a b nx : Nat} {x : In} {ta tb : Bool} {n : Sn} (h : Mid w M s sb x a ta b tb n nx) (hi : x.rd < 32) (hx : nx < 18446744073709551616) :
    Calls Tryz.prog 73 #[.pointer (some ⟨sb, 0, none⟩)] w (Ok w M (s.lay x.rd nx false) sb x a ta b tb n (sm s.pc (uw x.imm))) := by
  have hY := way_any h
  have hC := fun m => jump_any (h.of (bdN (Below.refl _ _) m)) (sm s.pc (uw x.imm)) hi hx
  go_enter Tryz.func73, Tryz.ntmps73
  go_wp2_with (first | (go_at_call 100; (with_reducible refine hY.mono ?_); (rintro e w2 ⟨rfl, mm, rfl⟩)) | (go_at_call 99; (with_reducible refine (hC _).mono ?_); (rintro e w3 ⟨rfl, hm2, ho⟩)))
  go_end0
  exact Ok.pre (bdN (Below.refl _ _) _) ⟨rfl, hm2, ho⟩
set_option maxRecDepth 100000 in
theorem jalr_any {w : World} {M : Mc} {s : Ms} {sb a b nx : Nat} {x : In} {ta tb : Bool} {n : Sn} (h : Mid w M s sb x a ta b tb n nx) (hi : x.rd < 32) (hx : nx < 18446744073709551616) :
    Calls Tryz.prog 74 #[.pointer (some ⟨sb, 0, none⟩)] w (Ok w M (s.lay x.rd nx false) sb x a ta b tb ⟨n.pc, n.k, n.a, n.b, ta⟩ (ev (sm a (uw x.imm)))) := by
  have d7 := h.p.d7
  have d14 := h.p.d14
  have f14 := h.p.fz 14
  have h4 := h.setT ta
  have o4 : Only (fun j => M.own j ∨ j = sb) w (w.setCell ⟨sb, 14, none⟩ (.bool ta)) := osb (Only.refl _ _)
  have hY := place_cells h4.p.d5 h4.p.d6
  have hC := fun m p => jump_any (h4.of (bdN (Below.refl _ _) m)) p hi hx
  go_enter Tryz.func74, Tryz.ntmps74
  have hev := ev_bits (sm a (uw x.imm)) (sm_lt _ _)
  go_wp2_with (first | (go_at_call 101; (with_reducible refine hY.mono ?_); (rintro e w2 ⟨rfl, mm, rfl⟩)) | (go_at_call 99; (with_reducible refine (hC _ _).mono ?_); (rintro e w3 ⟨rfl, hm2, ho⟩)))
  go_end0
  exact Ok.orO (obl o4 (bdN (Below.refl _ _) _)) ⟨rfl, hm2, ho⟩
end Go.Proofs.YtfaacmcnefbgcaaGreatDoor.m4

/- Contracts of step.tell and ecall. -/
namespace Go.Proofs.YtfaacmcnefbgcaaGreatDoor.m4
open Go.ChangeShapes Go.WideShapes Go.ChangeAt Go.RowKit
set_option linter.unusedVariables false
theorem infoTa : (Tryz.prog.info? 54).map (fun i => (i.zero, i.size, i.bytes)) = some (some (.agg #[.int .u64 0, .bool false]), 2, 16) := by kernel_rfl
theorem infoSn : (Tryz.prog.info? 82).map (fun i => (i.zero, i.size, i.bytes)) = some (some (.agg #[.int .u64 0, .int .u8 0, .int .u64 0, .int .u64 0, .bool false]), 5, 40) := by kernel_rfl
theorem tlL_one (l : List (Nat × Bool)) : ∀ u ∈ tlL l, u.oneCell' = true := by
  intro u hu
  unfold tlL at hu
  obtain ⟨p, _, hp⟩ := List.mem_flatMap.1 hu
  unfold tlC at hp
  simp only [List.mem_cons, List.not_mem_nil, or_false] at hp
  rcases hp with rfl | rfl <;> rfl
theorem snL_one (l : List Sn) : ∀ u ∈ snL l, u.oneCell' = true := by
  intro u hu
  unfold snL at hu
  obtain ⟨p, _, hp⟩ := List.mem_flatMap.1 hu
  unfold snC at hp
  simp only [List.mem_cons, List.not_mem_nil, or_false] at hp
  rcases hp with rfl | rfl | rfl | rfl | rfl <;> rfl
theorem only_grown {w w' : World} {row : Option Nat} (h : w.grownBy w' row) : Only (fun j => some j = row) w w' := ⟨h.os, h.tape, h.output, h.size, h.block⟩
/-- A machine that follows another one: the same, but for its rows. -/
def Mc.nxt (w0 : World) (M M' : Mc) : Prop := M'.cb = M.cb ∧ M'.x = M.x ∧ ∀ j, M'.own j → M.own j ∨ w0.heap.size ≤ j
theorem Mc.nxt_refl (w0 : World) (M : Mc) : Mc.nxt w0 M M := ⟨rfl, rfl, fun j h => .inl h⟩
/-- The told row has grown. -/
theorem IsC.growT {w w5 : World} {M : Mc} {s : Ms} (h : IsC w M s) {v' : Value} {t' : List (Nat × Bool)} (hg : w.grownBy w5 M.vt.ownBlock) (ho : w5.ownsRow 0 54 2 v' t'.length (tlL t')) (hb : ∀ j, v'.ownBlock = some j → M.vt.ownBlock = some j ∨ w.heap.size ≤ j) :
    IsC (w5.setCell ⟨M.cb, 66, none⟩ v') ⟨M.cb, M.x, v', M.vr⟩ { s with told := t' } := by
  have O := only_grown hg
  have ncb : ¬ some M.cb = M.vt.ownBlock := fun e => (h.n2 _ e.symm).1 rfl
  have c66 := O.cell (a := ⟨M.cb, 66, none⟩) ncb h.c66
  have O2 := only_one w5 M.cb 66 v'
  have hl : ∀ j, M.all j → j < w.heap.size := fun j hj => h.all_lt hj
  have hn : ∀ j, v'.ownBlock = some j → j ≠ M.cb ∧ j ≠ M.x.mb ∧ j ≠ M.x.ab ∧ j ≠ M.x.vb ∧ j ≠ M.x.tb := fun j hj => by
    rcases hb j hj with h1 | h1
    · exact h.n2 j h1
    · have a1 := hl M.cb (.inl (.inl rfl))
      have a2 := hl M.x.mb (.inr (.inl rfl))
      have a3 := hl M.x.ab (.inr (.inr rfl))
      have a4 := hl M.x.vb (.inl (.inr (.inl (.inl rfl))))
      have a5 := hl M.x.tb (.inl (.inr (.inl (.inr rfl))))
      exact ⟨by omega, by omega, by omega, by omega, by omega⟩
  have rR : w5.ownsRow 0 82 5 M.vr s.tr.length (snL s.tr) := own_only h.rowR O (fun j hj e => h.n4 j e.symm hj)
  have me : IsM w5 M.x s.bv s.tv := h.mem.only O (fun e => (h.n2 _ e.symm).2.1 rfl) (fun e => (h.n2 _ e.symm).2.2.1 rfl) (fun e => (h.n2 _ e.symm).2.2.2.1 rfl) (fun e => (h.n2 _ e.symm).2.2.2.2 rfl)
  exact {
    c0 := cset _ c66 (by omega) (O.cell (a := ⟨M.cb, 0, none⟩) ncb h.c0)
    rv := fun i hi => cset _ c66 (by omega) (O.cell (a := ⟨M.cb, 1 + i * 2, none⟩) ncb (h.rv i hi))
    rt := fun i hi => cset _ c66 (by omega) (O.cell (a := ⟨M.cb, 1 + i * 2 + 1, none⟩) ncb (h.rt i hi))
    c65 := cset _ c66 (by omega) (O.cell (a := ⟨M.cb, 65, none⟩) ncb h.c65)
    c66 := cset_same _ c66
    c67 := cset _ c66 (by omega) (O.cell (a := ⟨M.cb, 67, none⟩) ncb h.c67)
    c68 := cset _ c66 (by omega) (O.cell (a := ⟨M.cb, 68, none⟩) ncb h.c68)
    c69 := cset _ c66 (by omega) (O.cell (a := ⟨M.cb, 69, none⟩) ncb h.c69)
    c70 := cset _ c66 (by omega) (O.cell (a := ⟨M.cb, 70, none⟩) ncb h.c70)
    fz := fun k => by rw [World.frozen?_setCell]; exact (O.frozen (by exact h.lt) ncb).trans (h.fz k)
    lt := by rw [World.size_setCell]; exact Nat.lt_of_lt_of_le h.lt O.size
    rowT := own_only ho O2 (fun j hj => (hn j hj).1)
    rowR := own_only rR O2 (fun j hj => (h.n3 j hj).1)
    mem := me.only O2 (fun e => h.n1.1 e.symm) (fun e => h.n1.2.1 e.symm) (fun e => h.n1.2.2.1 e.symm) (fun e => h.n1.2.2.2 e.symm)
    n1 := h.n1
    n2 := hn
    n3 := h.n3
    n4 := fun j hj e => by
      rcases hb j hj with h1 | h1
      · exact h.n4 j h1 e
      · have := own_lt h.rowR e; omega
    ok := { h.ok with } }
theorem nxtT {w0 w : World} {M : Mc} {v' : Value} (hs : w0.heap.size ≤ w.heap.size) (hb : ∀ j, v'.ownBlock = some j → M.vt.ownBlock = some j ∨ w.heap.size ≤ j) : Mc.nxt w0 M ⟨M.cb, M.x, v', M.vr⟩ :=
  ⟨rfl, rfl, fun j hj => by
    rcases hj with e | e | e | e
    · exact .inl (.inl e)
    · exact .inl (.inr (.inl e))
    · rcases hb j e with h1 | h1
      · exact .inl (.inr (.inr (.inl h1)))
      · exact .inr (Nat.le_trans hs h1)
    · exact .inl (.inr (.inr (.inr e)))⟩
/-- The row of what was seen has grown. -/
theorem IsC.growR {w w5 : World} {M : Mc} {s : Ms} (h : IsC w M s) {v' : Value} {t' : List Sn} (hg : w.grownBy w5 M.vr.ownBlock) (ho : w5.ownsRow 0 82 5 v' t'.length (snL t')) (hn1 : t'.length ≤ 1048576) (hb : ∀ j, v'.ownBlock = some j → M.vr.ownBlock = some j ∨ w.heap.size ≤ j) :
    IsC (w5.setCell ⟨M.cb, 67, none⟩ v') ⟨M.cb, M.x, M.vt, v'⟩ { s with tr := t' } := by
  have O := only_grown hg
  have ncb : ¬ some M.cb = M.vr.ownBlock := fun e => (h.n3 _ e.symm).1 rfl
  have c67 := O.cell (a := ⟨M.cb, 67, none⟩) ncb h.c67
  have O2 := only_one w5 M.cb 67 v'
  have hl : ∀ j, M.all j → j < w.heap.size := fun j hj => h.all_lt hj
  have hn : ∀ j, v'.ownBlock = some j → j ≠ M.cb ∧ j ≠ M.x.mb ∧ j ≠ M.x.ab ∧ j ≠ M.x.vb ∧ j ≠ M.x.tb := fun j hj => by
    rcases hb j hj with h1 | h1
    · exact h.n3 j h1
    · have a1 := hl M.cb (.inl (.inl rfl))
      have a2 := hl M.x.mb (.inr (.inl rfl))
      have a3 := hl M.x.ab (.inr (.inr rfl))
      have a4 := hl M.x.vb (.inl (.inr (.inl (.inl rfl))))
      have a5 := hl M.x.tb (.inl (.inr (.inl (.inr rfl))))
      exact ⟨by omega, by omega, by omega, by omega, by omega⟩
  have rT : w5.ownsRow 0 54 2 M.vt s.told.length (tlL s.told) := own_only h.rowT O (fun j hj e => h.n4 j hj e.symm)
  have me : IsM w5 M.x s.bv s.tv := h.mem.only O (fun e => (h.n3 _ e.symm).2.1 rfl) (fun e => (h.n3 _ e.symm).2.2.1 rfl) (fun e => (h.n3 _ e.symm).2.2.2.1 rfl) (fun e => (h.n3 _ e.symm).2.2.2.2 rfl)
  exact {
    c0 := cset _ c67 (by omega) (O.cell (a := ⟨M.cb, 0, none⟩) ncb h.c0)
    rv := fun i hi => cset _ c67 (by omega) (O.cell (a := ⟨M.cb, 1 + i * 2, none⟩) ncb (h.rv i hi))
    rt := fun i hi => cset _ c67 (by omega) (O.cell (a := ⟨M.cb, 1 + i * 2 + 1, none⟩) ncb (h.rt i hi))
    c65 := cset _ c67 (by omega) (O.cell (a := ⟨M.cb, 65, none⟩) ncb h.c65)
    c66 := cset _ c67 (by omega) (O.cell (a := ⟨M.cb, 66, none⟩) ncb h.c66)
    c67 := cset_same _ c67
    c68 := cset _ c67 (by omega) (O.cell (a := ⟨M.cb, 68, none⟩) ncb h.c68)
    c69 := cset _ c67 (by omega) (O.cell (a := ⟨M.cb, 69, none⟩) ncb h.c69)
    c70 := cset _ c67 (by omega) (O.cell (a := ⟨M.cb, 70, none⟩) ncb h.c70)
    fz := fun k => by rw [World.frozen?_setCell]; exact (O.frozen (by exact h.lt) ncb).trans (h.fz k)
    lt := by rw [World.size_setCell]; exact Nat.lt_of_lt_of_le h.lt O.size
    rowT := own_only rT O2 (fun j hj => (h.n2 j hj).1)
    rowR := own_only ho O2 (fun j hj => (hn j hj).1)
    mem := me.only O2 (fun e => h.n1.1 e.symm) (fun e => h.n1.2.1 e.symm) (fun e => h.n1.2.2.1 e.symm) (fun e => h.n1.2.2.2 e.symm)
    n1 := h.n1
    n2 := h.n2
    n3 := hn
    n4 := fun j hj e => by
      rcases hb j e with h1 | h1
      · exact h.n4 j hj h1
      · have := own_lt h.rowT hj; omega
    ok := { h.ok with n := hn1 } }
theorem nxtR {w0 w : World} {M : Mc} {v' : Value} (hs : w0.heap.size ≤ w.heap.size) (hb : ∀ j, v'.ownBlock = some j → M.vr.ownBlock = some j ∨ w.heap.size ≤ j) : Mc.nxt w0 M ⟨M.cb, M.x, M.vt, v'⟩ :=
  ⟨rfl, rfl, fun j hj => by
    rcases hj with e | e | e | e
    · exact .inl (.inl e)
    · exact .inl (.inr (.inl e))
    · exact .inl (.inr (.inr (.inl e)))
    · rcases hb j e with h1 | h1
      · exact .inl (.inr (.inr (.inr h1)))
      · exact .inr (Nat.le_trans hs h1)⟩
/-- What a part of a step leaves that may tell. -/
def OkM (w0 : World) (M : Mc) (s : Ms) (sb : Nat) (x : In) (a : Nat) (ta : Bool) (b : Nat) (tb : Bool) (n : Sn) (nx : Nat) (e : Ending) (w' : World) : Prop := ∃ M', Mc.nxt w0 M M' ∧ e = .returned (.tuple #[]) ∧ Mid w' M' s sb x a ta b tb n nx ∧ Only (fun j => M.own j ∨ j = sb) w0 w'
theorem OkM.of {w0 w' : World} {M : Mc} {s : Ms} {sb a b nx : Nat} {x : In} {ta tb : Bool} {n : Sn} {e : Ending} (h : Ok w0 M s sb x a ta b tb n nx e w') : OkM w0 M s sb x a ta b tb n nx e w' := ⟨M, Mc.nxt_refl _ _, h⟩
theorem news2 (w : World) (c : Array Value) (t : TypeId) : ∀ j u, c.toList[j]? = some u → (w.alloc (.cells c t)).drew.cell? ((⟨w.heap.size, 0, none⟩ : Addr).add j) = some u := fun j u hu => by
  rw [addp, Nat.zero_add]
  show (w.alloc (.cells c t)).cell? _ = _
  rw [nwc]
  simpa using hu
theorem Mid.at5 {w W w5 : World} {M : Mc} {s : Ms} {sb a b nx : Nat} {x : In} {ta tb : Bool} {n : Sn} {v : Value} (h0 : Mid w M s sb x a ta b tb n nx) (hB : Below w.heap.size w W) (hg : W.grownBy w5 v.ownBlock) (hv : v = M.vt ∨ v = M.vr) :
    Mid W M s sb x a ta b tb n nx ∧ IsS w5 sb M.cb x a ta b tb n nx ∧ (w5.cell? ⟨M.cb, 66, none⟩ = some M.vt ∧ w5.cell? ⟨M.cb, 67, none⟩ = some M.vr ∧ w5.cell? ⟨M.cb, 65, none⟩ = some (.int .u64 (s.pc : Nat))) ∧ ∀ k, w5.frozen? ⟨M.cb, k, none⟩ = false := by
  have h := h0.of hB
  have O := only_grown hg
  have hsb : ¬ some sb = v.ownBlock := fun e => h.ne (by rcases hv with rfl | rfl; exact .inl (.inr (.inr (.inl e.symm))); exact .inl (.inr (.inr (.inr e.symm))))
  have hcb : ¬ some M.cb = v.ownBlock := fun e => by rcases hv with rfl | rfl; exact (h.c.n2 _ e.symm).1 rfl; exact (h.c.n3 _ e.symm).1 rfl
  exact ⟨h, h.p.only O hsb, ⟨O.cell (a := ⟨M.cb, 66, none⟩) hcb h.c.c66, O.cell (a := ⟨M.cb, 67, none⟩) hcb h.c.c67, O.cell (a := ⟨M.cb, 65, none⟩) hcb h.c.c65⟩, fun k => (O.frozen (by exact h.c.lt) hcb).trans (h.c.fz k)⟩
theorem own_blk' {g n c : Nat} {v : Value} {H : Nat} (h : v.ownBlock = some g ∨ g = H) : ∀ j, (Value.slice (some ⟨g, 0, none⟩) n c).ownBlock = some j → v.ownBlock = some j ∨ H ≤ j := fun j hj => by
  simp only [Value.ownBlock, Option.some.injEq] at hj
  subst hj
  rcases h with h | h
  · exact .inl h
  · exact .inr (Nat.le_of_eq h.symm)
set_option maxRecDepth 100000 in
set_option maxHeartbeats 4000000 in
theorem tell_any {w : World} {M : Mc} {s : Ms} {sb a b nx : Nat} {x : In} {ta tb : Bool} {n : Sn} (h : Mid w M s sb x a ta b tb n nx) (hk : s.told.length ≤ 1048576) :
    Calls Tryz.prog 102 #[.pointer (some ⟨sb, 0, none⟩)] w (OkM w M s.tell sb x a ta b tb n nx) := by
  obtain ⟨iT, hiT, zT0, zT1, zT2⟩ := info_parts infoTa
  have d0 := h.p.d0
  have c66 := h.c.c66
  have r10 : w.cell? ⟨M.cb, 21, none⟩ = some (.int .u64 (s.rv 10 : Nat)) := h.c.rv 10 (by omega)
  have t10 : w.cell? ⟨M.cb, 22, none⟩ = some (.bool (s.rt 10)) := h.c.rt 10 (by omega)
  have f66 := h.c.fz 66
  have f22 := h.c.fz 22
  have i0 : (0 : Int) ≤ 10 := by omega
  have hBW : Below w.heap.size w (w.alloc (.cells #[.int .u64 (s.rv 10 : Nat), .bool (s.rt 10)] 54)).drew := bd1 (aBelow (Below.refl _ _) _)
  have owT := own_of h.c.rowT hBW
  have nT := news2 w #[.int .u64 (s.rv 10 : Nat), .bool (s.rt 10)] 54
  have hF0 : (fun w' : World => w'.cell? ⟨sb, 0, none⟩ = some (.pointer (some ⟨M.cb, 0, none⟩)) ∧ w'.cell? ⟨M.cb, 66, none⟩ = some M.vt ∧ w'.cell? ⟨M.cb, 21, none⟩ = some (.int .u64 (s.rv 10 : Nat)) ∧ w'.cell? ⟨M.cb, 22, none⟩ = some (.bool (s.rt 10))) w.drew := ⟨d0, c66, r10, t10⟩
  have hF1 : (fun w' : World => w'.cell? ⟨sb, 0, none⟩ = some (.pointer (some ⟨M.cb, 0, none⟩)) ∧ w'.cell? ⟨M.cb, 66, none⟩ = some M.vt ∧ w'.cell? ⟨M.cb, 21, none⟩ = some (.int .u64 (s.rv 10 : Nat)) ∧ w'.cell? ⟨M.cb, 22, none⟩ = some (.bool (s.rt 10))) (w.alloc (.cells #[.int .u64 (s.rv 10 : Nat), .bool (s.rt 10)] 54)).drew := ⟨stay hBW d0, stay hBW c66, stay hBW r10, stay hBW t10⟩
  go_enter Tryz.func102, Tryz.ntmps102
  go_wp2
  refine region_F (fun w' : World => w'.cell? ⟨sb, 0, none⟩ = some (.pointer (some ⟨M.cb, 0, none⟩)) ∧ w'.cell? ⟨M.cb, 66, none⟩ = some M.vt ∧ w'.cell? ⟨M.cb, 21, none⟩ = some (.int .u64 (s.rv 10 : Nat)) ∧ w'.cell? ⟨M.cb, 22, none⟩ = some (.bool (s.rt 10))) 24 (by kernel_rfl) ?_
  refine wpAnyF_take (i := 0) rfl (by kernel_rfl) (by kernel_rfl) (by kernel_rfl) (by kernel_rfl) (by kernel_rfl) (fun _ _ _ _ h => h) hF0 (fun K hK => ?_)
  apply Exists.intro
  refine ⟨Or.inl ⟨by kernel_rfl, fun w' hf => ?_⟩, ?_⟩
  · obtain ⟨s0, s66, s21, s22⟩ := hf
    go_simp
    try exact rfl
  go_simp
  refine hK _ ?_
  clear hK K
  refine wpAnyF_take (i := 1) rfl (by kernel_rfl) (by kernel_rfl) (by kernel_rfl) (by kernel_rfl) (by kernel_rfl) (fun _ _ _ _ h => h) hF0 (fun K hK => ?_)
  apply Exists.intro
  refine ⟨Or.inl ⟨by kernel_rfl, fun w' hf => ?_⟩, ?_⟩
  · obtain ⟨s0, s66, s21, s22⟩ := hf
    go_simp
    try exact rfl
  go_simp
  refine hK _ ?_
  clear hK K
  refine wpAnyF_take (i := 2) rfl (by kernel_rfl) (by kernel_rfl) (by kernel_rfl) (by kernel_rfl) (by kernel_rfl) (fun _ _ _ _ h => h) hF0 (fun K hK => ?_)
  apply Exists.intro
  refine ⟨Or.inl ⟨by kernel_rfl, fun w' hf => ?_⟩, ?_⟩
  · obtain ⟨s0, s66, s21, s22⟩ := hf
    go_simp
    try exact rfl
  go_simp
  refine hK _ ?_
  clear hK K
  refine wpAnyF_take (i := 3) rfl (by kernel_rfl) (by kernel_rfl) (by kernel_rfl) (by kernel_rfl) (by kernel_rfl) (fun _ _ _ _ h => h) hF0 (fun K hK => ?_)
  apply Exists.intro
  refine ⟨Or.inl ⟨by kernel_rfl, fun w' hf => ?_⟩, ?_⟩
  · obtain ⟨s0, s66, s21, s22⟩ := hf
    go_simp
    try exact rfl
  go_simp
  refine hK _ ?_
  clear hK K
  refine wpAnyF_take (i := 4) rfl (by kernel_rfl) (by kernel_rfl) (by kernel_rfl) (by kernel_rfl) (by kernel_rfl) (fun _ _ _ _ h => h) hF0 (fun K hK => ?_)
  apply Exists.intro
  refine ⟨Or.inl ⟨by kernel_rfl, fun w' hf => ?_⟩, ?_⟩
  · obtain ⟨s0, s66, s21, s22⟩ := hf
    go_simp
    try exact rfl
  go_simp
  refine hK _ ?_
  clear hK K
  refine wpAnyF_take (i := 5) rfl (by kernel_rfl) (by kernel_rfl) (by kernel_rfl) (by kernel_rfl) (by kernel_rfl) (fun _ _ _ _ h => h) hF0 (fun K hK => ?_)
  apply Exists.intro
  refine ⟨Or.inl ⟨by kernel_rfl, fun w' hf => ?_⟩, ?_⟩
  · obtain ⟨s0, s66, s21, s22⟩ := hf
    go_simp
    try exact rfl
  go_simp
  refine hK _ ?_
  clear hK K
  refine wpAnyF_take (i := 6) rfl (by kernel_rfl) (by kernel_rfl) (by kernel_rfl) (by kernel_rfl) (by kernel_rfl) (fun _ _ _ _ h => h) hF0 (fun K hK => ?_)
  apply Exists.intro
  refine ⟨Or.inl ⟨by kernel_rfl, fun w' hf => ?_⟩, ?_⟩
  · obtain ⟨s0, s66, s21, s22⟩ := hf
    go_simp
    try exact rfl
  go_simp
  refine hK _ ?_
  clear hK K
  refine wpAnyF_take (i := 7) rfl (by kernel_rfl) (by kernel_rfl) (by kernel_rfl) (by kernel_rfl) (by kernel_rfl) (fun _ _ _ _ h => h) hF0 (fun K hK => ?_)
  apply Exists.intro
  refine ⟨Or.inl ⟨by kernel_rfl, fun w' hf => ?_⟩, ?_⟩
  · obtain ⟨s0, s66, s21, s22⟩ := hf
    go_simp
    try exact rfl
  go_simp
  refine hK _ ?_
  clear hK K
  refine wpAnyF_take (i := 8) rfl (by kernel_rfl) (by kernel_rfl) (by kernel_rfl) (by kernel_rfl) (by kernel_rfl) (fun _ _ _ _ h => h) hF0 (fun K hK => ?_)
  apply Exists.intro
  refine ⟨Or.inl ⟨by kernel_rfl, fun w' hf => ?_⟩, ?_⟩
  · obtain ⟨s0, s66, s21, s22⟩ := hf
    go_simp
    try exact rfl
  go_simp
  refine hK _ ?_
  clear hK K
  refine wpAnyF_take (i := 9) rfl (by kernel_rfl) (by kernel_rfl) (by kernel_rfl) (by kernel_rfl) (by kernel_rfl) (fun _ _ _ _ h => h) hF0 (fun K hK => ?_)
  apply Exists.intro
  refine ⟨Or.inl ⟨by kernel_rfl, fun w' hf => ?_⟩, ?_⟩
  · obtain ⟨s0, s66, s21, s22⟩ := hf
    go_simp
    try exact rfl
  go_simp
  refine hK _ ?_
  clear hK K
  refine wpAnyF_take (i := 10) rfl (by kernel_rfl) (by kernel_rfl) (by kernel_rfl) (by kernel_rfl) (by kernel_rfl) (fun _ _ _ _ h => h) hF0 (fun K hK => ?_)
  apply Exists.intro
  refine ⟨Or.inl ⟨by kernel_rfl, fun w' hf => ?_⟩, ?_⟩
  · obtain ⟨s0, s66, s21, s22⟩ := hf
    go_simp
    try exact rfl
  go_simp
  refine hK _ ?_
  clear hK K
  refine wpAnyF_take (i := 11) rfl (by kernel_rfl) (by kernel_rfl) (by kernel_rfl) (by kernel_rfl) (by kernel_rfl) (fun _ _ _ _ h => h) hF0 (fun K hK => ?_)
  apply Exists.intro
  refine ⟨Or.inl ⟨by kernel_rfl, fun w' hf => ?_⟩, ?_⟩
  · obtain ⟨s0, s66, s21, s22⟩ := hf
    go_simp
    try exact rfl
  go_simp
  refine hK _ ?_
  clear hK K
  refine wpAnyF_take (i := 12) rfl (by kernel_rfl) (by kernel_rfl) (by kernel_rfl) (by kernel_rfl) (by kernel_rfl) (fun _ _ _ _ h => h) hF0 (fun K hK => ?_)
  apply Exists.intro
  refine ⟨Or.inl ⟨by kernel_rfl, fun w' hf => ?_⟩, ?_⟩
  · obtain ⟨s0, s66, s21, s22⟩ := hf
    go_simp
    try exact rfl
  go_simp
  refine hK _ ?_
  clear hK K
  refine wpAnyF_take (i := 13) rfl (by kernel_rfl) (by kernel_rfl) (by kernel_rfl) (by kernel_rfl) (by kernel_rfl) (fun _ _ _ _ h => h) hF0 (fun K hK => ?_)
  apply Exists.intro
  refine ⟨Or.inl ⟨by kernel_rfl, fun w' hf => ?_⟩, ?_⟩
  · obtain ⟨s0, s66, s21, s22⟩ := hf
    go_simp
    try exact rfl
  go_simp
  refine hK _ ?_
  clear hK K
  refine wpAnyF_take (i := 14) rfl (by kernel_rfl) (by kernel_rfl) (by kernel_rfl) (by kernel_rfl) (by kernel_rfl) (fun _ _ _ _ h => h) hF0 (fun K hK => ?_)
  apply Exists.intro
  refine ⟨Or.inl ⟨by kernel_rfl, fun w' hf => ?_⟩, ?_⟩
  · obtain ⟨s0, s66, s21, s22⟩ := hf
    go_simp
    try exact rfl
  go_simp
  refine hK _ ?_
  clear hK K
  refine wpAnyF_take (i := 15) rfl (by kernel_rfl) (by kernel_rfl) (by kernel_rfl) (by kernel_rfl) (by kernel_rfl) (fun _ _ _ _ h => h) hF0 (fun K hK => ?_)
  apply Exists.intro
  refine ⟨Or.inl ⟨by kernel_rfl, fun w' hf => ?_⟩, ?_⟩
  · obtain ⟨s0, s66, s21, s22⟩ := hf
    go_simp
    try exact rfl
  go_simp
  refine hK _ ?_
  clear hK K
  refine wpAnyF_take (i := 16) rfl (by kernel_rfl) (by kernel_rfl) (by kernel_rfl) (by kernel_rfl) (by kernel_rfl) (fun _ _ _ _ h => h) hF0 (fun K hK => ?_)
  apply Exists.intro
  refine ⟨Or.inl ⟨by kernel_rfl, fun w' hf => ?_⟩, ?_⟩
  · obtain ⟨s0, s66, s21, s22⟩ := hf
    go_simp
    try exact rfl
  go_simp
  refine hK _ ?_
  clear hK K
  refine wpAnyF_take (i := 17) rfl (by kernel_rfl) (by kernel_rfl) (by kernel_rfl) (by kernel_rfl) (by kernel_rfl) (fun _ _ _ _ h => h) hF0 (fun K hK => ?_)
  apply Exists.intro
  refine ⟨Or.inl ⟨by kernel_rfl, fun w' hf => ?_⟩, ?_⟩
  · obtain ⟨s0, s66, s21, s22⟩ := hf
    go_simp
    try exact rfl
  go_simp
  refine hK _ ?_
  clear hK K
  refine wpAnyF_take (i := 18) rfl (by kernel_rfl) (by kernel_rfl) (by kernel_rfl) (by kernel_rfl) (by kernel_rfl) (fun _ _ _ _ h => h) hF0 (fun K hK => ?_)
  apply Exists.intro
  refine ⟨Or.inl ⟨by kernel_rfl, fun w' hf => ?_⟩, ?_⟩
  · obtain ⟨s0, s66, s21, s22⟩ := hf
    go_simp
    try exact rfl
  go_simp
  refine hK _ ?_
  clear hK K
  refine wpAnyF_take (i := 19) rfl (by kernel_rfl) (by kernel_rfl) (by kernel_rfl) (by kernel_rfl) (by kernel_rfl) (fun _ _ _ _ h => h) hF0 (fun K hK => ?_)
  apply Exists.intro
  refine ⟨Or.inl ⟨by kernel_rfl, fun w' hf => ?_⟩, ?_⟩
  · obtain ⟨s0, s66, s21, s22⟩ := hf
    go_simp
    try exact rfl
  go_simp
  refine hK _ ?_
  clear hK K
  refine wpAnyF_one (k := 20) (by kernel_rfl) ?_
  refine wpOp_step rfl (fun K hK => ?_)
  go_simp
  refine hK _ _ ⟨fun _ => hF1, ?_⟩
  clear hK K
  refine wpAnyF_one (k := 21) (by kernel_rfl) ?_
  refine wpOp_step rfl (fun K hK => ?_)
  refine step_append_lies _ rfl (.tmp 20) (.tmp 30) 42 rfl 0 54 iT _ 2 16 Tryz.underlying42 hiT zT0 zT1 zT2 rfl (by decide) M.vt s.told.length (tlL s.told) rfl owT ⟨w.heap.size, 0, none⟩ 1 1 [.int .u64 (s.rv 10 : Nat), .bool (s.rt 10)] rfl rfl nT (by intro u hu; simp at hu; rcases hu with rfl | rfl <;> rfl) (by decide) (by unfold maxLen; omega) (by omega) (Nat.zero_le _) _ rfl ?_
  intro g cap w5 hown5 hgrow hat hlt5
  obtain ⟨q0, q1, ⟨q2, q3, q4⟩, q5⟩ := h.at5 hBW hgrow (.inl rfl)
  have q6 := q1.d0
  have q7 := q5 66
  have hF5 : (fun w' : World => w'.cell? ⟨sb, 0, none⟩ = some (.pointer (some ⟨M.cb, 0, none⟩)) ∧ w'.cell? ⟨M.cb, 66, none⟩ = some M.vt ∧ w'.cell? ⟨M.cb, 21, none⟩ = some (.int .u64 (s.rv 10 : Nat)) ∧ w'.cell? ⟨M.cb, 22, none⟩ = some (.bool (s.rt 10))) w5 := ⟨q6, q2, (hgrow.cell_far ⟨M.cb, 21, none⟩ (Nat.lt_of_lt_of_le h.c.lt hBW.size) (fun e => (h.c.n2 _ e.symm).1 rfl)).trans (stay hBW r10), (hgrow.cell_far ⟨M.cb, 22, none⟩ (Nat.lt_of_lt_of_le h.c.lt hBW.size) (fun e => (h.c.n2 _ e.symm).1 rfl)).trans (stay hBW t10)⟩
  go_simp
  refine hK _ _ ⟨fun _ => hF5, ?_⟩
  clear hK K
  refine wpAnyF_one (k := 22) (by kernel_rfl) ?_
  refine wpOp_step rfl (fun K hK => ?_)
  go_simp
  refine hK _ _ ⟨fun _ => hF5, ?_⟩
  clear hK K
  refine wpAnyF_one (k := 23) (by kernel_rfl) ?_
  refine wpOp_step rfl (fun K hK => ?_)
  go_simp
  refine hK _ _ ⟨fun _ => hF5, ?_⟩
  clear hK K
  refine wpAnyF_one (k := 24) (by kernel_rfl) ?_
  refine wpOp_step rfl (fun K hK => ?_)
  go_simp
  refine hK _ _ ⟨fun h => (Bool.false_ne_true (h.symm.trans (by kernel_rfl))).elim, ?_⟩
  clear hK K
  refine wpAnyF_done (by kernel_rfl) ?_
  have hG := (q0.c.growT (t' := s.told ++ [(s.rv 10, s.rt 10)]) hgrow (by rw [List.length_append, tlL_snoc]; exact hown5) (own_blk' hat)).setT (i := 10) (t := false) (by omega) (by omega)
  have hN := nxtT (w0 := w) (M := M) (v' := .slice (some ⟨g, 0, none⟩) (s.told.length + 1) cap) (Nat.le_refl _) (by intro j hj; rcases own_blk' hat j hj with e | e; exact .inl e; exact .inr (Nat.le_trans hBW.size e))
  have hO : Only M.own w w5 := (only_below hBW).trans ((only_grown hgrow).mono fun j hj => .inr (.inr (.inl hj.symm)))
  have c22 : (w5.setCell ⟨M.cb, 66, none⟩ (.slice (some ⟨g, 0, none⟩) (s.told.length + 1) cap)).cell? ⟨M.cb, 22, none⟩ = some (.bool (s.rt 10)) := cset _ q2 (by omega) hF5.2.2.2
  have z22 : (w5.setCell ⟨M.cb, 66, none⟩ (.slice (some ⟨g, 0, none⟩) (s.told.length + 1) cap)).frozen? ⟨M.cb, 22, none⟩ = false := by rw [World.frozen?_setCell]; exact q5 22
  have hO2 : Only M.own w ((w5.setCell ⟨M.cb, 66, none⟩ (.slice (some ⟨g, 0, none⟩) (s.told.length + 1) cap)).setCell ⟨M.cb, 22, none⟩ (.bool false)) := (hO.setCell (.inl rfl)).setCell (.inl rfl)
  have hS : IsS ((w5.setCell ⟨M.cb, 66, none⟩ (.slice (some ⟨g, 0, none⟩) (s.told.length + 1) cap)).setCell ⟨M.cb, 22, none⟩ (.bool false)) sb M.cb x a ta b tb n nx := h.p.only hO2 (fun e => h.ne (.inl e))
  have hE : OkM w M s.tell sb x a ta b tb n nx (.returned (.tuple #[])) ((w5.setCell ⟨M.cb, 66, none⟩ (.slice (some ⟨g, 0, none⟩) (s.told.length + 1) cap)).setCell ⟨M.cb, 22, none⟩ (.bool false)) :=
    ⟨_, hN, rfl, ⟨hG, hS, fun e => by
      rcases e with (e | e | e | e) | e
      · exact h.ne (.inl (.inl e))
      · exact h.ne (.inl (.inr (.inl e)))
      · rcases own_blk' hat _ e with e' | e'
        · exact h.ne (.inl (.inr (.inr (.inl e'))))
        · have := h.p.lt; have := hBW.size; omega
      · exact h.ne (.inl (.inr (.inr (.inr e))))
      · exact h.ne (.inr e)⟩, hO2.mono fun j hj => .inl hj⟩
  clear hG hN hS q0 q1 hF5 hown5 hgrow hO hO2
  go_wp2
  go_end0
  exact hE
/-- What ecall leaves. -/
def RsM (w0 : World) (M : Mc) (s0 : Ms) (k : Int) (s : Ms) (sb : Nat) (x : In) (a : Nat) (ta : Bool) (b : Nat) (tb : Bool) (n : Sn) (nx : Nat) (e : Ending) (w' : World) : Prop := (k = 0 → OkM w0 M s sb x a ta b tb n nx e w') ∧ (k ≠ 0 → Bd w0 M s0 sb k e w')
theorem RsM.yes {w0 w1 w' : World} {M : Mc} {s0 s : Ms} {sb a b nx : Nat} {x : In} {ta tb : Bool} {n : Sn} {e : Ending} (ho : Only (fun j => M.own j ∨ j = sb) w0 w1) (h : OkM w1 M s sb x a ta b tb n nx e w') : RsM w0 M s0 0 s sb x a ta b tb n nx e w' :=
  ⟨fun _ => by
    obtain ⟨M', hN, he, hm, ho1⟩ := h
    exact ⟨M', ⟨hN.1, hN.2.1, fun j hj => (hN.2.2 j hj).imp id (Nat.le_trans ho.size)⟩, he, hm, ho.trans ho1⟩, fun h => absurd rfl h⟩
theorem ec_over {w : World} {M : Mc} {s : Ms} {sb a b nx : Nat} {x : In} {ta tb : Bool} {n : Sn} (h : Mid w M s sb x a ta b tb n nx) (hr : 5 < s.rv 17) (s' : Ms) (n' : Sn) (nx' : Nat) :
    Calls Tryz.prog 75 #[.pointer (some ⟨sb, 0, none⟩)] w (RsM w M s 51 s' sb x a ta b tb n' nx') := by
  have d0 := h.p.d0
  have r17 : w.cell? ⟨M.cb, 35, none⟩ = some (.int .u64 (s.rv 17 : Nat)) := h.c.rv 17 (by omega)
  have t17 : w.cell? ⟨M.cb, 36, none⟩ = some (.bool (s.rt 17)) := h.c.rt 17 (by omega)
  have hlt := h.c.ok.v 17
  have hM : ∀ w', Calls Tryz.prog 52 #[.int .i64 51] w' fun e w'' => e = .panicked [{ v := .iface 35 (.int .i64 51), recovered := false }] ∧ w' = w'' := fun w' => must_no 51 (by decide) w'
  have hB : Below w.heap.size w (w.alloc (.cells #[.int .u64 (s.rv 17 : Nat), .bool (s.rt 17)] 73)) := aBelow (Below.refl _ _) _
  have hE : Bd w M s sb 51 (pnc 51) (w.alloc (.cells #[.int .u64 (s.rv 17 : Nat), .bool (s.rt 17)] 73)) := ⟨rfl, h.c.of hB, only_below hB⟩
  go_enter Tryz.func75, Tryz.ntmps75
  go_wp2_with (go_at_call 52; (with_reducible refine (hM _).mono ?_); (rintro e w3 ⟨rfl, rfl⟩))
  exact ⟨rfl, fun h => absurd h (by decide), fun _ => hE⟩
set_option maxRecDepth 100000 in
set_option maxHeartbeats 4000000 in
theorem ec_any {w : World} {M : Mc} {s : Ms} {sb a b nx : Nat} {x : In} {ta tb : Bool} {n : Sn} (h : Mid w M s sb x a ta b tb n nx) (hk : s.told.length ≤ 1048576) (hr : ¬ 5 < s.rv 17) :
    Calls Tryz.prog 75 #[.pointer (some ⟨sb, 0, none⟩)] w (RsM w M s 0 (if s.rv 17 < 4 then s.halt else if s.rv 17 = 4 then s.tell else s) sb x a ta b tb ⟨n.pc, 5, s.rv 17, n.b, s.rt 17⟩ (if s.rv 17 < 4 then s.pc else nx)) := by
  have d0 := h.p.d0
  have r17 : w.cell? ⟨M.cb, 35, none⟩ = some (.int .u64 (s.rv 17 : Nat)) := h.c.rv 17 (by omega)
  have t17 : w.cell? ⟨M.cb, 36, none⟩ = some (.bool (s.rt 17)) := h.c.rt 17 (by omega)
  have hlt := h.c.ok.v 17
  obtain ⟨wa, hwa⟩ : ∃ wa, w.alloc (.cells #[.int .u64 (s.rv 17 : Nat), .bool (s.rt 17)] 73) = wa := ⟨_, rfl⟩
  have hB : Below w.heap.size w wa := by rw [← hwa]; exact aBelow (Below.refl _ _) _
  have q0 : wa.cell? ⟨w.heap.size, 0, none⟩ = some (.int .u64 (s.rv 17 : Nat)) := by rw [← hwa]; exact nwc _ _ _ _
  have q1 : wa.cell? ⟨w.heap.size, 1, none⟩ = some (.bool (s.rt 17)) := by rw [← hwa]; exact nwc _ _ _ _
  have hl := h.p.lt
  have hm := h.of hB
  obtain ⟨wX, hwX⟩ : ∃ wX, (((wa.setCell ⟨sb, 11, none⟩ (.int .u8 5)).setCell ⟨sb, 12, none⟩ (.int .u64 (s.rv 17 : Nat))).setCell ⟨sb, 14, none⟩ (.bool (s.rt 17))).drew = wX := ⟨_, rfl⟩
  have h3 : Mid wX M s sb x a ta b tb ⟨n.pc, 5, s.rv 17, n.b, s.rt 17⟩ nx := by rw [← hwX]; exact (((hm.setK 5).setA (s.rv 17)).setT (s.rt 17)).of (bd1 (Below.refl _ _))
  have o3 : Only (fun j => M.own j ∨ j = sb) w wX := by rw [← hwX]; exact obl (osb (osb (osb (only_below hB)))) (bd1 (Below.refl _ _))
  have b3 : Only (fun j => j = sb) wa wX := by rw [← hwX]; exact obl (((Only.refl (fun j => j = sb) wa).setCell (b := sb) rfl).setCell (b := sb) rfl |>.setCell (b := sb) rfl) (bd1 (Below.refl _ _))
  have p0 : wX.cell? ⟨w.heap.size, 0, none⟩ = some (.int .u64 (s.rv 17 : Nat)) := b3.cell (by simp only; omega) q0
  have d11 := hm.p.d11
  have d12 := hm.p.d12
  have d14 := hm.p.d14
  have f11 := hm.p.fz 11
  have f12 := hm.p.fz 12
  have f14 := hm.p.fz 14
  by_cases h4 : s.rv 17 < 4
  · rw [if_pos h4, if_pos h4]
    go_enter Tryz.func75, Tryz.ntmps75
    go_wp2
    try rw [hwa]
    go_region
    try rw [hwX]
    clear hwX hwa d11 d12 d14 f11 f12 f14 q0 q1 b3 hm d0 r17 t17
    have d0 := h3.p.d0
    have c65 := h3.c.c65
    have c68 := h3.c.c68
    have c69 := h3.c.c69
    have d15 := h3.p.d15
    have f68 := h3.c.fz 68
    have f69 := h3.c.fz 69
    have f15 := h3.p.fz 15
    have hne := h.necb
    have hne' := Ne.symm hne
    have hw8 : IntKind.u8.wrap (s.rv 17 : Nat) = (s.rv 17 : Nat) := by rw [IntKind.wrap_u8]; omega
    have hS : IsC ((wX.setCell ⟨M.cb, 68, none⟩ (.bool true)).setCell ⟨M.cb, 69, none⟩ (.int .u8 (s.rv 17 : Nat))) M s.halt := h3.c.setOv.setCd (v := s.rv 17) (by omega)
    have hO : Only M.own wX ((wX.setCell ⟨M.cb, 68, none⟩ (.bool true)).setCell ⟨M.cb, 69, none⟩ (.int .u8 (s.rv 17 : Nat))) := ((Only.refl _ _).setCell (.inl rfl)).setCell (.inl rfl)
    have hE : Ok w M s.halt sb x a ta b tb ⟨n.pc, 5, s.rv 17, n.b, s.rt 17⟩ s.pc (.returned (.tuple #[])) ((((wX.setCell ⟨M.cb, 68, none⟩ (.bool true)).setCell ⟨M.cb, 69, none⟩ (.int .u8 (s.rv 17 : Nat))).setCell ⟨sb, 15, none⟩ (.int .u64 (s.pc : Nat))).drew) := Ok.of2 ((h3.write hS hO).setN s.pc) (osb (o3.trans (hO.mono fun j hj => .inl hj))) (bd1 (Below.refl _ _))
    go_wp2
    go_region
    go_wp2
    go_end0
    exact RsM.yes (Only.refl _ _) (OkM.of hE)
  · rw [if_neg h4, if_neg h4]
    have h4' : ¬ ((s.rv 17 : Nat) : Int) < 4 := by omega
    by_cases h5 : s.rv 17 = 4
    · rw [if_pos h5]
      have hT := tell_any h3 hk
      have hh : PLift (s.rv 17 = 4) := ⟨h5⟩
      clear h5
      go_enter Tryz.func75, Tryz.ntmps75
      go_wp2
      try rw [hwa]
      go_region
      try rw [hwX]
      clear hwX hwa d11 d12 d14 f11 f12 f14 q0 q1 b3 hm d0 r17 t17
      have h5 := hh.down
      rw [h5] at p0
      go_wp2_with (go_at_call 102; (with_reducible refine hT.mono ?_); (rintro e w3 ⟨M', hN, rfl, hm2, ho2⟩))
      go_end0
      exact RsM.yes o3 ⟨M', hN, rfl, hm2, ho2⟩
    · rw [if_neg h5]
      have h5' : ¬ ((s.rv 17 : Nat) : Int) = 4 := by omega
      go_enter Tryz.func75, Tryz.ntmps75
      go_wp2
      try rw [hwa]
      go_region
      try rw [hwX]
      clear hwX hwa d11 d12 d14 f11 f12 f14 q0 q1 b3 hm d0 r17 t17
      go_wp2
      go_end0
      exact RsM.yes (Only.refl _ _) (OkM.of (Ok.of2 h3 o3 (Below.refl _ _)))
end Go.Proofs.YtfaacmcnefbgcaaGreatDoor.m4
