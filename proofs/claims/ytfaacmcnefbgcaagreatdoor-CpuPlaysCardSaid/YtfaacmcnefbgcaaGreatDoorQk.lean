/- Contracts of cpu.must, Cpu.lay, step.lay. -/
import Derived.Test.YtfaacmcnefbgcaaGreatDoorQj
import Derived.WalkLawsBesides
import Derived.StillTailTactics
import Derived.BigQuiet
import Derived.Deep.QuietTactic
import Derived.RegionTactic
import Derived.BigRegion
import Derived.Test.YtfaacmcnefbgcaaGreatDoorQn
import Derived.Deep.RegionHeld3
import Derived.Deep.RegionWith
namespace Go.Proofs.YtfaacmcnefbgcaaGreatDoor.m4
open Go.ChangeShapes Go.WideShapes Go.ChangeAt Go.RowKit
set_option linter.unusedVariables false
/-- A step's panic. -/
def pnc (e : Int) : Ending := .panicked [{ v := .iface 35 (.int .i64 e), recovered := false }]
theorem must_ok (w : World) : Calls Tryz.prog 52 #[.int .i64 0] w fun e w' => e = .returned (.tuple #[]) ∧ w = w' := by
  go_enter Tryz.func52, Tryz.ntmps52
  go_wp2
  go_end0
  exact ⟨rfl, rfl⟩
theorem must_no (k : Int) (hk : k ≠ 0) (w : World) : Calls Tryz.prog 52 #[.int .i64 k] w fun e w' => e = pnc k ∧ w = w' := by
  go_enter Tryz.func52, Tryz.ntmps52
  go_wp2
  exact ⟨rfl, rfl, rfl⟩
theorem clay_any {w : World} {M : Mc} {s : Ms} (h : IsC w M s) (i v : Nat) (t : Bool) (hi : i < 32) (hv : v < 18446744073709551616) :
    Calls Tryz.prog 48 #[.pointer (some ⟨M.cb, 0, none⟩), .int .i64 i, .agg #[.int .u64 v, .bool t]] w fun e w' => e = .returned (.tuple #[]) ∧ IsC w' M (s.lay i v t) ∧ Only (fun j => j = M.cb) w w' := by
  have hb : ∀ o, Below w.heap.size w (w.alloc o) := fun o => aBelow (Below.refl _ _) _
  by_cases h0 : i = 0
  · subst h0
    go_enter Tryz.func48, Tryz.ntmps48
    go_wp2
    go_end0
    exact ⟨rfl, by unfold Ms.lay lyV lyT; rw [if_pos rfl, if_pos rfl]; exact h.of (hb _), only_below (hb _)⟩
  · have hI := h.of (hb (.cells #[.int .u64 v, .bool t] 73))
    have f0 := hI.fz (1 + i * 2)
    have f1 := hI.fz (1 + i * 2 + 1)
    have r0 := hI.rv i hi
    have r1 := hI.rt i hi
    have hl := hI.lay hi h0 hv (t := t)
    have ho : Only (fun j => j = M.cb) w (((w.alloc (.cells #[.int .u64 v, .bool t] 73)).setCell ⟨M.cb, 1 + i * 2, none⟩ (.int .u64 (v : Nat))).setCell ⟨M.cb, 1 + i * 2 + 1, none⟩ (.bool t)).drew := (((only_below (S := fun j => j = M.cb) (hb _)).setCell (b := M.cb) rfl).setCell (b := M.cb) rfl).trans (only_below (bd1 (Below.refl _ _)))
    have i0 : (0 : Int) ≤ (i : Int) := by omega
    have i1 : (i : Int) < 32 := by omega
    go_enter Tryz.func48, Tryz.ntmps48
    go_wp2
    go_region
    go_end0
    exact ⟨rfl, hl.of (bd1 (Below.refl _ _)), ho⟩
/-- A machine, in the midst of a step. -/
structure Mid (w : World) (M : Mc) (s : Ms) (sb : Nat) (x : In) (a : Nat) (ta : Bool) (b : Nat) (tb : Bool) (n : Sn) (nx : Nat) : Prop where
  c : IsC w M s
  p : IsS w sb M.cb x a ta b tb n nx
  ne : ¬ M.all sb
theorem Mid.of {w w' : World} {M : Mc} {s : Ms} {sb a b nx : Nat} {x : In} {ta tb : Bool} {n : Sn} (h : Mid w M s sb x a ta b tb n nx) (hb : Below w.heap.size w w') : Mid w' M s sb x a ta b tb n nx := ⟨h.c.of hb, h.p.of hb, h.ne⟩
theorem Mid.necb {w : World} {M : Mc} {s : Ms} {sb a b nx : Nat} {x : In} {ta tb : Bool} {n : Sn} (h : Mid w M s sb x a ta b tb n nx) : sb ≠ M.cb := fun e => h.ne (.inl (.inl e))
/-- The machine's own blocks change, the step's does not. -/
theorem Mid.write {w w' : World} {M : Mc} {s s' : Ms} {sb a b nx : Nat} {x : In} {ta tb : Bool} {n : Sn} (h : Mid w M s sb x a ta b tb n nx) (hc : IsC w' M s') (ho : Only M.own w w') : Mid w' M s' sb x a ta b tb n nx := ⟨hc, h.p.only ho (fun e => h.ne (.inl e)), h.ne⟩
/-- What a part of a step leaves. -/
def Ok (w0 : World) (M : Mc) (s : Ms) (sb : Nat) (x : In) (a : Nat) (ta : Bool) (b : Nat) (tb : Bool) (n : Sn) (nx : Nat) (e : Ending) (w' : World) : Prop := e = .returned (.tuple #[]) ∧ Mid w' M s sb x a ta b tb n nx ∧ Only (fun j => M.own j ∨ j = sb) w0 w'
set_option maxRecDepth 100000 in
theorem slay_any {w : World} {M : Mc} {s : Ms} {sb a b nx : Nat} {x : In} {ta tb : Bool} {n : Sn} (h : Mid w M s sb x a ta b tb n nx) (v : Nat) (t : Bool) (hi : x.rd < 32) (hv : v < 18446744073709551616) :
    Calls Tryz.prog 94 #[.pointer (some ⟨sb, 0, none⟩), .int .u64 v, .bool t] w (Ok w M (s.lay x.rd v t) sb x a ta b tb n nx) := by
  have h' := h.of (bd1 (Below.refl _ _))
  have hC := clay_any h'.c x.rd v t hi hv
  have d0 := h.p.d0
  have d2 := h.p.d2
  go_enter Tryz.func94, Tryz.ntmps94
  go_still_tail 13, (by kernel_rfl)
  change wpList _ _ _ _ _ w.drew
  go_wp2_with (go_at_call 48; (with_reducible refine hC.mono ?_); (rintro e w1 ⟨rfl, hc, ho⟩))
  go_end0
  have ho' : Only M.own w.drew w1 := ho.mono (fun j hj => .inl hj)
  exact ⟨rfl, h'.write hc ho', (only_below (bd1 (Below.refl _ _))).trans (ho'.mono (fun j hj => .inl hj))⟩
end Go.Proofs.YtfaacmcnefbgcaaGreatDoor.m4

/- Contracts of step.made, two, number and its kin, divide. -/
namespace Go.Proofs.YtfaacmcnefbgcaaGreatDoor.m4
open Go.ChangeShapes Go.WideShapes Go.ChangeAt Go.RowKit
set_option linter.unusedVariables false

theorem Ok.pre {w0 w1 w' : World} {M : Mc} {s : Ms} {sb a b nx : Nat} {x : In} {ta tb : Bool} {n : Sn} {e : Ending} (hb : Below w0.heap.size w0 w1) (h : Ok w1 M s sb x a ta b tb n nx e w') : Ok w0 M s sb x a ta b tb n nx e w' := ⟨h.1, h.2.1, (only_below hb).trans h.2.2⟩
theorem Ok.preO {w0 w1 w' : World} {M : Mc} {s : Ms} {sb a b nx : Nat} {x : In} {ta tb : Bool} {n : Sn} {e : Ending} (hb : Only (fun j => M.own j ∨ j = sb) w0 w1) (h : Ok w1 M s sb x a ta b tb n nx e w') : Ok w0 M s sb x a ta b tb n nx e w' := ⟨h.1, h.2.1, hb.trans h.2.2⟩
set_option maxRecDepth 100000 in
set_option maxHeartbeats 1000000 in
theorem made_any {w : World} {M : Mc} {s : Ms} {sb a b nx : Nat} {x : In} {ta tb : Bool} {n : Sn} (h : Mid w M s sb x a ta b tb n nx) (k v : Nat) (t : Bool) (hk : 1 ≤ k ∧ k ≤ 14) (hi : x.rd < 32) (ha : a < 18446744073709551616) (hv : v < 18446744073709551616) :
    Calls Tryz.prog 92 #[.pointer (some ⟨sb, 0, none⟩), .int .u8 k, .agg #[.int .u64 v, .bool t]] w (Ok w M (s.lay x.rd (opv k a v) (ta || t)) sb x a ta b tb n nx) := by
  have hop := fun w' => (wop_any k a v (by omega) ha hv w').mono (R' := fun e w'' => e = .returned (.tuple #[.int .u64 (opv k a v : Nat), .int .i64 0]) ∧ Below w'.heap.size w' w'') fun e w'' ⟨he, hb⟩ => ⟨by rw [he, show ope k = 0 from if_pos hk]; rfl, hb⟩
  obtain ⟨wa, hwa⟩ : ∃ wa, w.alloc (.cells #[.int .u64 v, .bool t] 73) = wa := ⟨_, rfl⟩
  have hB : Below w.heap.size w wa := by rw [← hwa]; exact aBelow (Below.refl _ _) _
  have q0 : wa.cell? ⟨w.heap.size, 0, none⟩ = some (.int .u64 v) := by rw [← hwa]; exact nwc _ _ _ _
  have q1 : wa.cell? ⟨w.heap.size, 1, none⟩ = some (.bool t) := by rw [← hwa]; exact nwc _ _ _ _
  have hm := h.of hB
  have d6 := hm.p.d6
  have hlt := opv_lt k a v ha hv
  go_enter Tryz.func92, Tryz.ntmps92
  go_wp2
  try rw [hwa]
  refine region_below (by kernel_rfl) (by kernel_rfl) ?_
  repeat (first
    | go_big_quiet_skip
    | (refine BigFrame.wpQuiet_want (by kernel_rfl) fun K hK => ?_
       apply Exists.intro
       refine ⟨fun w' hb' => ?_, ?_⟩
       · have s0 := stay hb' d6
         have s1 := stay hb' q0
         go_simp
         first
           | exact rfl
           | exact ⟨rfl, hb'⟩
           | (go_at_call 119
              exact (hop w').mono fun e w'' ⟨he, hb2⟩ => ⟨he, below_trans' hb' (Nat.le_refl _) hb2⟩)
       go_simp
       refine hK _ ?_
       clear hK K))
  refine wpQuiet_nil ?_
  intro w1 hb1
  clear hwa
  have hm1 := hm.of hb1
  have d7 := hm1.p.d7
  have q1 := stay hb1 q1
  have hB1 := below_trans' hB (Nat.le_refl _) hb1
  have hL := slay_any hm1 (opv k a v) (ta || t) hi hlt
  cases ta
  all_goals
    simp only [Bool.true_or, Bool.false_or] at hL ⊢
    go_wp2_with (go_at_call 94; (with_reducible refine hL.mono ?_); (rintro e w2 ⟨rfl, hm2, ho⟩))
    go_end0
    exact Ok.pre hB1 ⟨rfl, hm2, ho⟩
set_option maxRecDepth 100000 in
theorem two_any {w : World} {M : Mc} {s : Ms} {sb a b nx : Nat} {x : In} {ta tb : Bool} {n : Sn} (h : Mid w M s sb x a ta b tb n nx) (hk : 1 ≤ x.op ∧ x.op ≤ 14) (hi : x.rd < 32) (ha : a < 18446744073709551616) (hv : b < 18446744073709551616) :
    Calls Tryz.prog 54 #[.pointer (some ⟨sb, 0, none⟩)] w (Ok w M (s.lay x.rd (opv x.op a b) (ta || tb)) sb x a ta b tb n nx) := by
  have hb0 : Below w.heap.size w w.drew := bd1 (Below.refl _ _)
  have hC := made_any (h.of hb0) x.op b tb hk hi ha hv
  have d1 := h.p.d1
  have d8 := h.p.d8
  have d9 := h.p.d9
  go_enter Tryz.func54, Tryz.ntmps54
  go_still_tail 10, (by kernel_rfl)
  change wpList _ _ _ _ _ w.drew
  go_wp2_with (go_at_call 92; (with_reducible refine hC.mono ?_); (rintro e w2 ⟨rfl, hm2, ho⟩))
  go_end0
  exact Ok.pre hb0 ⟨rfl, hm2, ho⟩
theorem imm_any {w : World} {M : Mc} {s : Ms} {sb a b nx : Nat} {x : In} {ta tb : Bool} {n : Sn} (h : Mid w M s sb x a ta b tb n nx) : Calls Tryz.prog 95 #[.pointer (some ⟨sb, 0, none⟩)] w fun e w' => e = .returned (.int .u64 (uw x.imm : Nat)) ∧ w = w' := by
  have d5 := h.p.d5
  have e1 := uw_wrap x.imm
  go_enter Tryz.func95, Tryz.ntmps95
  go_wp2
  go_ret
  exact ⟨rfl, rfl⟩
set_option maxRecDepth 100000 in
theorem number_any {w : World} {M : Mc} {s : Ms} {sb a b nx : Nat} {x : In} {ta tb : Bool} {n : Sn} (h : Mid w M s sb x a ta b tb n nx) (k : Nat) (hk : 1 ≤ k ∧ k ≤ 14) (hi : x.rd < 32) (ha : a < 18446744073709551616) :
    Calls Tryz.prog 93 #[.pointer (some ⟨sb, 0, none⟩), .int .u8 k] w (Ok w M (s.lay x.rd (opv k a (uw x.imm)) ta) sb x a ta b tb n nx) := by
  have hC := made_any h k (uw x.imm) false hk hi ha (uw_lt _)
  rw [Bool.or_false] at hC
  have hI := imm_any h
  go_enter Tryz.func93, Tryz.ntmps93
  go_wp2_with (first | (go_at_call 95; (with_reducible refine hI.mono ?_); (rintro e w2 ⟨rfl, rfl⟩)) | (go_at_call 92; (with_reducible refine hC.mono ?_); (rintro e w2 ⟨rfl, hm2, ho⟩)))
  go_end0
  exact ⟨rfl, hm2, ho⟩
theorem addi_any {w : World} {M : Mc} {s : Ms} {sb a b nx : Nat} {x : In} {ta tb : Bool} {n : Sn} (h : Mid w M s sb x a ta b tb n nx) (hi : x.rd < 32) (ha : a < 18446744073709551616) :
    Calls Tryz.prog 56 #[.pointer (some ⟨sb, 0, none⟩)] w (Ok w M (s.lay x.rd (opv 1 a (uw x.imm)) ta) sb x a ta b tb n nx) := by
  have hC : Calls Tryz.prog 93 #[.pointer (some ⟨sb, 0, none⟩), .int .u8 1] w (Ok w M (s.lay x.rd (opv 1 a (uw x.imm)) ta) sb x a ta b tb n nx) := number_any h 1 (by omega) hi ha
  go_enter Tryz.func56, Tryz.ntmps56
  go_wp2_with (go_at_call 93; (with_reducible refine hC.mono ?_); (rintro e w2 ⟨rfl, hm2, ho⟩))
  go_end0
  exact ⟨rfl, hm2, ho⟩
theorem sltiu_any {w : World} {M : Mc} {s : Ms} {sb a b nx : Nat} {x : In} {ta tb : Bool} {n : Sn} (h : Mid w M s sb x a ta b tb n nx) (hi : x.rd < 32) (ha : a < 18446744073709551616) :
    Calls Tryz.prog 57 #[.pointer (some ⟨sb, 0, none⟩)] w (Ok w M (s.lay x.rd (opv 5 a (uw x.imm)) ta) sb x a ta b tb n nx) := by
  have hC : Calls Tryz.prog 93 #[.pointer (some ⟨sb, 0, none⟩), .int .u8 5] w (Ok w M (s.lay x.rd (opv 5 a (uw x.imm)) ta) sb x a ta b tb n nx) := number_any h 5 (by omega) hi ha
  go_enter Tryz.func57, Tryz.ntmps57
  go_wp2_with (go_at_call 93; (with_reducible refine hC.mono ?_); (rintro e w2 ⟨rfl, hm2, ho⟩))
  go_end0
  exact ⟨rfl, hm2, ho⟩
theorem xori_any {w : World} {M : Mc} {s : Ms} {sb a b nx : Nat} {x : In} {ta tb : Bool} {n : Sn} (h : Mid w M s sb x a ta b tb n nx) (hi : x.rd < 32) (ha : a < 18446744073709551616) :
    Calls Tryz.prog 58 #[.pointer (some ⟨sb, 0, none⟩)] w (Ok w M (s.lay x.rd (opv 6 a (uw x.imm)) ta) sb x a ta b tb n nx) := by
  have hC : Calls Tryz.prog 93 #[.pointer (some ⟨sb, 0, none⟩), .int .u8 6] w (Ok w M (s.lay x.rd (opv 6 a (uw x.imm)) ta) sb x a ta b tb n nx) := number_any h 6 (by omega) hi ha
  go_enter Tryz.func58, Tryz.ntmps58
  go_wp2_with (go_at_call 93; (with_reducible refine hC.mono ?_); (rintro e w2 ⟨rfl, hm2, ho⟩))
  go_end0
  exact ⟨rfl, hm2, ho⟩
theorem ori_any {w : World} {M : Mc} {s : Ms} {sb a b nx : Nat} {x : In} {ta tb : Bool} {n : Sn} (h : Mid w M s sb x a ta b tb n nx) (hi : x.rd < 32) (ha : a < 18446744073709551616) :
    Calls Tryz.prog 59 #[.pointer (some ⟨sb, 0, none⟩)] w (Ok w M (s.lay x.rd (opv 9 a (uw x.imm)) ta) sb x a ta b tb n nx) := by
  have hC : Calls Tryz.prog 93 #[.pointer (some ⟨sb, 0, none⟩), .int .u8 9] w (Ok w M (s.lay x.rd (opv 9 a (uw x.imm)) ta) sb x a ta b tb n nx) := number_any h 9 (by omega) hi ha
  go_enter Tryz.func59, Tryz.ntmps59
  go_wp2_with (go_at_call 93; (with_reducible refine hC.mono ?_); (rintro e w2 ⟨rfl, hm2, ho⟩))
  go_end0
  exact ⟨rfl, hm2, ho⟩
theorem andi_any {w : World} {M : Mc} {s : Ms} {sb a b nx : Nat} {x : In} {ta tb : Bool} {n : Sn} (h : Mid w M s sb x a ta b tb n nx) (hi : x.rd < 32) (ha : a < 18446744073709551616) :
    Calls Tryz.prog 60 #[.pointer (some ⟨sb, 0, none⟩)] w (Ok w M (s.lay x.rd (opv 10 a (uw x.imm)) ta) sb x a ta b tb n nx) := by
  have hC : Calls Tryz.prog 93 #[.pointer (some ⟨sb, 0, none⟩), .int .u8 10] w (Ok w M (s.lay x.rd (opv 10 a (uw x.imm)) ta) sb x a ta b tb n nx) := number_any h 10 (by omega) hi ha
  go_enter Tryz.func60, Tryz.ntmps60
  go_wp2_with (go_at_call 93; (with_reducible refine hC.mono ?_); (rintro e w2 ⟨rfl, hm2, ho⟩))
  go_end0
  exact ⟨rfl, hm2, ho⟩
theorem slli_any {w : World} {M : Mc} {s : Ms} {sb a b nx : Nat} {x : In} {ta tb : Bool} {n : Sn} (h : Mid w M s sb x a ta b tb n nx) (hi : x.rd < 32) (ha : a < 18446744073709551616) :
    Calls Tryz.prog 61 #[.pointer (some ⟨sb, 0, none⟩)] w (Ok w M (s.lay x.rd (opv 3 a (uw x.imm)) ta) sb x a ta b tb n nx) := by
  have hC : Calls Tryz.prog 93 #[.pointer (some ⟨sb, 0, none⟩), .int .u8 3] w (Ok w M (s.lay x.rd (opv 3 a (uw x.imm)) ta) sb x a ta b tb n nx) := number_any h 3 (by omega) hi ha
  go_enter Tryz.func61, Tryz.ntmps61
  go_wp2_with (go_at_call 93; (with_reducible refine hC.mono ?_); (rintro e w2 ⟨rfl, hm2, ho⟩))
  go_end0
  exact ⟨rfl, hm2, ho⟩
theorem srli_any {w : World} {M : Mc} {s : Ms} {sb a b nx : Nat} {x : In} {ta tb : Bool} {n : Sn} (h : Mid w M s sb x a ta b tb n nx) (hi : x.rd < 32) (ha : a < 18446744073709551616) :
    Calls Tryz.prog 62 #[.pointer (some ⟨sb, 0, none⟩)] w (Ok w M (s.lay x.rd (opv 7 a (uw x.imm)) ta) sb x a ta b tb n nx) := by
  have hC : Calls Tryz.prog 93 #[.pointer (some ⟨sb, 0, none⟩), .int .u8 7] w (Ok w M (s.lay x.rd (opv 7 a (uw x.imm)) ta) sb x a ta b tb n nx) := number_any h 7 (by omega) hi ha
  go_enter Tryz.func62, Tryz.ntmps62
  go_wp2_with (go_at_call 93; (with_reducible refine hC.mono ?_); (rintro e w2 ⟨rfl, hm2, ho⟩))
  go_end0
  exact ⟨rfl, hm2, ho⟩
theorem srai_any {w : World} {M : Mc} {s : Ms} {sb a b nx : Nat} {x : In} {ta tb : Bool} {n : Sn} (h : Mid w M s sb x a ta b tb n nx) (hi : x.rd < 32) (ha : a < 18446744073709551616) :
    Calls Tryz.prog 63 #[.pointer (some ⟨sb, 0, none⟩)] w (Ok w M (s.lay x.rd (opv 8 a (uw x.imm)) ta) sb x a ta b tb n nx) := by
  have hC : Calls Tryz.prog 93 #[.pointer (some ⟨sb, 0, none⟩), .int .u8 8] w (Ok w M (s.lay x.rd (opv 8 a (uw x.imm)) ta) sb x a ta b tb n nx) := number_any h 8 (by omega) hi ha
  go_enter Tryz.func63, Tryz.ntmps63
  go_wp2_with (go_at_call 93; (with_reducible refine hC.mono ?_); (rintro e w2 ⟨rfl, hm2, ho⟩))
  go_end0
  exact ⟨rfl, hm2, ho⟩
set_option maxRecDepth 100000 in
theorem lui_any {w : World} {M : Mc} {s : Ms} {sb a b nx : Nat} {x : In} {ta tb : Bool} {n : Sn} (h : Mid w M s sb x a ta b tb n nx) (hi : x.rd < 32) :
    Calls Tryz.prog 64 #[.pointer (some ⟨sb, 0, none⟩)] w (Ok w M (s.lay x.rd (uw x.imm) false) sb x a ta b tb n nx) := by
  have hC := slay_any h (uw x.imm) false hi (uw_lt _)
  have hI := imm_any h
  go_enter Tryz.func64, Tryz.ntmps64
  go_wp2_with (first | (go_at_call 95; (with_reducible refine hI.mono ?_); (rintro e w2 ⟨rfl, rfl⟩)) | (go_at_call 94; (with_reducible refine hC.mono ?_); (rintro e w2 ⟨rfl, hm2, ho⟩)))
  go_end0
  exact ⟨rfl, hm2, ho⟩
end Go.Proofs.YtfaacmcnefbgcaaGreatDoor.m4

/- Contracts of step.divide, asks, load, store and its kin, branch, jump and its kin. -/
namespace Go.Proofs.YtfaacmcnefbgcaaGreatDoor.m4
open Go.ChangeShapes Go.WideShapes Go.ChangeAt Go.RowKit
set_option linter.unusedVariables false

theorem Mid.setK {w : World} {M : Mc} {s : Ms} {sb a b nx : Nat} {x : In} {ta tb : Bool} {n : Sn} (h : Mid w M s sb x a ta b tb n nx) (v : Nat) : Mid (w.setCell ⟨sb, 11, none⟩ (.int .u8 (v : Nat))) M s sb x a ta b tb ({ n with k := v }) nx :=
  ⟨h.c.only (only_one w sb 11 (.int .u8 (v : Nat))) (fun j hj e => h.ne (by rw [← e]; exact hj)), { d0 := cset _ h.p.d11 (by omega) h.p.d0, d1 := cset _ h.p.d11 (by omega) h.p.d1, d2 := cset _ h.p.d11 (by omega) h.p.d2, d3 := cset _ h.p.d11 (by omega) h.p.d3, d4 := cset _ h.p.d11 (by omega) h.p.d4, d5 := cset _ h.p.d11 (by omega) h.p.d5, d6 := cset _ h.p.d11 (by omega) h.p.d6, d7 := cset _ h.p.d11 (by omega) h.p.d7, d8 := cset _ h.p.d11 (by omega) h.p.d8, d9 := cset _ h.p.d11 (by omega) h.p.d9, d10 := cset _ h.p.d11 (by omega) h.p.d10, d11 := cset_same _ h.p.d11, d12 := cset _ h.p.d11 (by omega) h.p.d12, d13 := cset _ h.p.d11 (by omega) h.p.d13, d14 := cset _ h.p.d11 (by omega) h.p.d14, d15 := cset _ h.p.d11 (by omega) h.p.d15, fz := (fun k => (World.frozen?_setCell ..).trans (h.p.fz k)), lt := (by rw [World.size_setCell]; exact h.p.lt) }, h.ne⟩
theorem Mid.setA {w : World} {M : Mc} {s : Ms} {sb a b nx : Nat} {x : In} {ta tb : Bool} {n : Sn} (h : Mid w M s sb x a ta b tb n nx) (v : Nat) : Mid (w.setCell ⟨sb, 12, none⟩ (.int .u64 (v : Nat))) M s sb x a ta b tb ({ n with a := v }) nx :=
  ⟨h.c.only (only_one w sb 12 (.int .u64 (v : Nat))) (fun j hj e => h.ne (by rw [← e]; exact hj)), { d0 := cset _ h.p.d12 (by omega) h.p.d0, d1 := cset _ h.p.d12 (by omega) h.p.d1, d2 := cset _ h.p.d12 (by omega) h.p.d2, d3 := cset _ h.p.d12 (by omega) h.p.d3, d4 := cset _ h.p.d12 (by omega) h.p.d4, d5 := cset _ h.p.d12 (by omega) h.p.d5, d6 := cset _ h.p.d12 (by omega) h.p.d6, d7 := cset _ h.p.d12 (by omega) h.p.d7, d8 := cset _ h.p.d12 (by omega) h.p.d8, d9 := cset _ h.p.d12 (by omega) h.p.d9, d10 := cset _ h.p.d12 (by omega) h.p.d10, d11 := cset _ h.p.d12 (by omega) h.p.d11, d12 := cset_same _ h.p.d12, d13 := cset _ h.p.d12 (by omega) h.p.d13, d14 := cset _ h.p.d12 (by omega) h.p.d14, d15 := cset _ h.p.d12 (by omega) h.p.d15, fz := (fun k => (World.frozen?_setCell ..).trans (h.p.fz k)), lt := (by rw [World.size_setCell]; exact h.p.lt) }, h.ne⟩
theorem Mid.setB {w : World} {M : Mc} {s : Ms} {sb a b nx : Nat} {x : In} {ta tb : Bool} {n : Sn} (h : Mid w M s sb x a ta b tb n nx) (v : Nat) : Mid (w.setCell ⟨sb, 13, none⟩ (.int .u64 (v : Nat))) M s sb x a ta b tb ({ n with b := v }) nx :=
  ⟨h.c.only (only_one w sb 13 (.int .u64 (v : Nat))) (fun j hj e => h.ne (by rw [← e]; exact hj)), { d0 := cset _ h.p.d13 (by omega) h.p.d0, d1 := cset _ h.p.d13 (by omega) h.p.d1, d2 := cset _ h.p.d13 (by omega) h.p.d2, d3 := cset _ h.p.d13 (by omega) h.p.d3, d4 := cset _ h.p.d13 (by omega) h.p.d4, d5 := cset _ h.p.d13 (by omega) h.p.d5, d6 := cset _ h.p.d13 (by omega) h.p.d6, d7 := cset _ h.p.d13 (by omega) h.p.d7, d8 := cset _ h.p.d13 (by omega) h.p.d8, d9 := cset _ h.p.d13 (by omega) h.p.d9, d10 := cset _ h.p.d13 (by omega) h.p.d10, d11 := cset _ h.p.d13 (by omega) h.p.d11, d12 := cset _ h.p.d13 (by omega) h.p.d12, d13 := cset_same _ h.p.d13, d14 := cset _ h.p.d13 (by omega) h.p.d14, d15 := cset _ h.p.d13 (by omega) h.p.d15, fz := (fun k => (World.frozen?_setCell ..).trans (h.p.fz k)), lt := (by rw [World.size_setCell]; exact h.p.lt) }, h.ne⟩
theorem Mid.setT {w : World} {M : Mc} {s : Ms} {sb a b nx : Nat} {x : In} {ta tb : Bool} {n : Sn} (h : Mid w M s sb x a ta b tb n nx) (v : Bool) : Mid (w.setCell ⟨sb, 14, none⟩ (.bool v)) M s sb x a ta b tb ({ n with t := v }) nx :=
  ⟨h.c.only (only_one w sb 14 (.bool v)) (fun j hj e => h.ne (by rw [← e]; exact hj)), { d0 := cset _ h.p.d14 (by omega) h.p.d0, d1 := cset _ h.p.d14 (by omega) h.p.d1, d2 := cset _ h.p.d14 (by omega) h.p.d2, d3 := cset _ h.p.d14 (by omega) h.p.d3, d4 := cset _ h.p.d14 (by omega) h.p.d4, d5 := cset _ h.p.d14 (by omega) h.p.d5, d6 := cset _ h.p.d14 (by omega) h.p.d6, d7 := cset _ h.p.d14 (by omega) h.p.d7, d8 := cset _ h.p.d14 (by omega) h.p.d8, d9 := cset _ h.p.d14 (by omega) h.p.d9, d10 := cset _ h.p.d14 (by omega) h.p.d10, d11 := cset _ h.p.d14 (by omega) h.p.d11, d12 := cset _ h.p.d14 (by omega) h.p.d12, d13 := cset _ h.p.d14 (by omega) h.p.d13, d14 := cset_same _ h.p.d14, d15 := cset _ h.p.d14 (by omega) h.p.d15, fz := (fun k => (World.frozen?_setCell ..).trans (h.p.fz k)), lt := (by rw [World.size_setCell]; exact h.p.lt) }, h.ne⟩
theorem Mid.setN {w : World} {M : Mc} {s : Ms} {sb a b nx : Nat} {x : In} {ta tb : Bool} {n : Sn} (h : Mid w M s sb x a ta b tb n nx) (v : Nat) : Mid (w.setCell ⟨sb, 15, none⟩ (.int .u64 (v : Nat))) M s sb x a ta b tb (n) v :=
  ⟨h.c.only (only_one w sb 15 (.int .u64 (v : Nat))) (fun j hj e => h.ne (by rw [← e]; exact hj)), { d0 := cset _ h.p.d15 (by omega) h.p.d0, d1 := cset _ h.p.d15 (by omega) h.p.d1, d2 := cset _ h.p.d15 (by omega) h.p.d2, d3 := cset _ h.p.d15 (by omega) h.p.d3, d4 := cset _ h.p.d15 (by omega) h.p.d4, d5 := cset _ h.p.d15 (by omega) h.p.d5, d6 := cset _ h.p.d15 (by omega) h.p.d6, d7 := cset _ h.p.d15 (by omega) h.p.d7, d8 := cset _ h.p.d15 (by omega) h.p.d8, d9 := cset _ h.p.d15 (by omega) h.p.d9, d10 := cset _ h.p.d15 (by omega) h.p.d10, d11 := cset _ h.p.d15 (by omega) h.p.d11, d12 := cset _ h.p.d15 (by omega) h.p.d12, d13 := cset _ h.p.d15 (by omega) h.p.d13, d14 := cset _ h.p.d15 (by omega) h.p.d14, d15 := cset_same _ h.p.d15, fz := (fun k => (World.frozen?_setCell ..).trans (h.p.fz k)), lt := (by rw [World.size_setCell]; exact h.p.lt) }, h.ne⟩
theorem Ok.of2 {w0 w1 w' : World} {M : Mc} {s : Ms} {sb a b nx : Nat} {x : In} {ta tb : Bool} {n : Sn} (hm : Mid w1 M s sb x a ta b tb n nx) (ho : Only (fun j => M.own j ∨ j = sb) w0 w1) (hb : Below w1.heap.size w1 w') : Ok w0 M s sb x a ta b tb n nx (.returned (.tuple #[])) w' := ⟨rfl, hm.of hb, ho.trans (only_below hb)⟩
theorem osb {w0 w1 : World} {M : Mc} {sb o : Nat} {v : Value} (ho : Only (fun j => M.own j ∨ j = sb) w0 w1) : Only (fun j => M.own j ∨ j = sb) w0 (w1.setCell ⟨sb, o, none⟩ v) := ho.setCell (Or.inr rfl)
theorem obl {S : Nat → Prop} {w0 w1 w2 : World} (ho : Only S w0 w1) (hb : Below w1.heap.size w1 w2) : Only S w0 w2 := ho.trans (only_below hb)
theorem Ok.orO {w0 w1 w' : World} {M : Mc} {s : Ms} {sb a b nx : Nat} {x : In} {ta tb : Bool} {n : Sn} {e : Ending} (ho : Only (fun j => M.own j ∨ j = sb) w0 w1) (h : Ok w1 M s sb x a ta b tb n nx e w') : Ok w0 M s sb x a ta b tb n nx e w' := ⟨h.1, h.2.1, ho.trans h.2.2⟩
set_option maxRecDepth 100000 in
set_option maxHeartbeats 1000000 in
theorem divide_any {w : World} {M : Mc} {s : Ms} {sb a b nx : Nat} {x : In} {ta tb : Bool} {n : Sn} (h : Mid w M s sb x a ta b tb n nx) (hk : 1 ≤ x.op ∧ x.op ≤ 14) (hi : x.rd < 32) (ha : a < 18446744073709551616) (hv : b < 18446744073709551616) :
    Calls Tryz.prog 55 #[.pointer (some ⟨sb, 0, none⟩)] w (Ok w M (s.lay x.rd (opv x.op a b) (ta || tb)) sb x a ta b tb ⟨n.pc, 4, a, b, ta || tb⟩ nx) := by
  obtain ⟨wX, hwX⟩ : ∃ wX, (((w.setCell ⟨sb, 11, none⟩ (.int .u8 4)).setCell ⟨sb, 12, none⟩ (.int .u64 (a : Nat))).setCell ⟨sb, 13, none⟩ (.int .u64 (b : Nat))).drew = wX := ⟨_, rfl⟩
  have h3 : Mid wX M s sb x a ta b tb ⟨n.pc, 4, a, b, n.t⟩ nx := by rw [← hwX]; exact (((h.setK 4).setA a).setB b).of (bd1 (Below.refl _ _))
  have o3 : Only (fun j => M.own j ∨ j = sb) w wX := by rw [← hwX]; exact obl (osb (osb (osb (Only.refl _ _)))) (bd1 (Below.refl _ _))
  have d6 := h.p.d6
  have d8 := h.p.d8
  have d11 := h.p.d11
  have d12 := h.p.d12
  have d13 := h.p.d13
  have f11 := h.p.fz 11
  have f12 := h.p.fz 12
  have f13 := h.p.fz 13
  go_enter Tryz.func55, Tryz.ntmps55
  go_wp2
  go_region
  try rw [hwX]
  clear hwX d6 d8 d11 d12 d13 f11 f12 f13
  have d7 := h3.p.d7
  have d9 := h3.p.d9
  have d14 := h3.p.d14
  have f14 := h3.p.fz 14
  have h4 := h3.setT (ta || tb)
  have o4 : Only (fun j => M.own j ∨ j = sb) w (wX.setCell ⟨sb, 14, none⟩ (.bool (ta || tb))) := osb o3
  have hC := two_any h4 hk hi ha hv
  cases ta
  all_goals
    simp only [Bool.true_or, Bool.false_or] at hC h4 o4 ⊢
    go_wp2_with (go_at_call 54; (with_reducible refine hC.mono ?_); (rintro e w2 ⟨rfl, hm2, ho⟩))
    go_end0
    exact Ok.orO o4 ⟨rfl, hm2, ho⟩
theorem imm_q {w : World} {sb : Nat} {v : Int} (d5 : w.cell? ⟨sb, 5, none⟩ = some (.int .i64 v)) :
    Calls Tryz.prog 95 #[.pointer (some ⟨sb, 0, none⟩)] w fun e w' => e = .returned (.int .u64 (uw v : Nat)) ∧ w' = w := by
  have e1 := uw_wrap v
  go_enter Tryz.func95, Tryz.ntmps95
  go_wp2
  go_ret
  exact ⟨rfl, rfl⟩
theorem place_cells {w : World} {sb a : Nat} {v : Int} (d5 : w.cell? ⟨sb, 5, none⟩ = some (.int .i64 v)) (d6 : w.cell? ⟨sb, 6, none⟩ = some (.int .u64 (a : Nat))) :
    Calls Tryz.prog 101 #[.pointer (some ⟨sb, 0, none⟩)] w fun e w' => e = .returned (.int .u64 (sm a (uw v) : Nat)) ∧ ∃ m, w' = w.drewN m := by
  have e2 := sm_wrap a (uw v)
  go_enter Tryz.func101, Tryz.ntmps101
  go_wp2
  go_quiet ((go_at_call 95; exact Calls.quiet_of_same (imm_q d5)))
  go_wp2
  go_ret
  exact ⟨rfl, _, rfl⟩
theorem way_any {w : World} {M : Mc} {s : Ms} {sb a b nx : Nat} {x : In} {ta tb : Bool} {n : Sn} (h : Mid w M s sb x a ta b tb n nx) : Calls Tryz.prog 100 #[.pointer (some ⟨sb, 0, none⟩)] w fun e w' => e = .returned (.int .u64 (sm s.pc (uw x.imm) : Nat)) ∧ ∃ m, w' = w.drewN m := by
  have d0 := h.p.d0
  have d5 := h.p.d5
  have c65 := h.c.c65
  have e2 := sm_wrap s.pc (uw x.imm)
  go_enter Tryz.func100, Tryz.ntmps100
  go_wp2
  go_quiet ((go_at_call 95; exact Calls.quiet_of_same (imm_q d5)))
  go_wp2
  go_ret
  exact ⟨rfl, _, rfl⟩
set_option maxRecDepth 100000 in
set_option maxHeartbeats 2000000 in
theorem asks_any {w : World} {M : Mc} {s : Ms} {sb a b nx : Nat} {x : In} {ta tb : Bool} {n : Sn} (h : Mid w M s sb x a ta b tb n nx) (k : Nat) :
    Calls Tryz.prog 120 #[.pointer (some ⟨sb, 0, none⟩), .int .u8 k] w (Ok w M s sb x a ta b tb ⟨n.pc, k, sm a (uw x.imm), n.b, ta⟩ nx) := by
  have hP : ∀ w', w'.cell? ⟨sb, 5, none⟩ = some (.int .i64 x.imm) → w'.cell? ⟨sb, 6, none⟩ = some (.int .u64 (a : Nat)) → Calls Tryz.prog 101 #[.pointer (some ⟨sb, 0, none⟩)] w' fun e w'' => e = .returned (.int .u64 (sm a (uw x.imm) : Nat)) ∧ ∃ m, w'' = w'.drewN m := fun w' h5 h6 => place_cells h5 h6
  have hE : ∀ m, Ok w M s sb x a ta b tb ⟨n.pc, k, sm a (uw x.imm), n.b, ta⟩ nx (.returned (.tuple #[])) ((((w.drewN m).setCell ⟨sb, 11, none⟩ (.int .u8 (k : Nat))).setCell ⟨sb, 12, none⟩ (.int .u64 (sm a (uw x.imm) : Nat))).setCell ⟨sb, 14, none⟩ (.bool ta)) := fun m => Ok.of2 ((((h.of (bdN (Below.refl _ _) m)).setK k).setA (sm a (uw x.imm))).setT ta) (osb (osb (osb (only_below (bdN (Below.refl _ _) m))))) (Below.refl _ _)
  have d5 := h.p.d5
  have d6 := h.p.d6
  have d7 := h.p.d7
  have d11 := h.p.d11
  have d12 := h.p.d12
  have d14 := h.p.d14
  have f11 := h.p.fz 11
  have f12 := h.p.fz 12
  have f14 := h.p.fz 14
  go_enter Tryz.func120, Tryz.ntmps120
  go_region_with (go_at_call 101; refine (hP _ (by go_simp) (by go_simp)).mono ?_; (rintro e w2 ⟨rfl, mm, rfl⟩))
  all_goals (go_end0; exact hE _)
end Go.Proofs.YtfaacmcnefbgcaaGreatDoor.m4
