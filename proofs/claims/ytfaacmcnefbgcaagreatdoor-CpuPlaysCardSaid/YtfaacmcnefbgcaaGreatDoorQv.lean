/- Contracts of cpu.does and Cpu.begin: which step it is, and what stands in it. -/
import Derived.Test.YtfaacmcnefbgcaaGreatDoorJe
import Derived.Test.YtfaacmcnefbgcaaGreatDoorDec
import Derived.Laws.EntriesVeiled
namespace Go.Proofs.YtfaacmcnefbgcaaGreatDoor.m4
open Go.ChangeShapes Go.WideShapes Go.ChangeAt Go.RowKit
set_option linter.unusedVariables false
/-- The method that does an Op. -/
def tgN (k : Nat) : Nat := [0, 54, 54, 54, 54, 54, 54, 54, 54, 54, 54, 54, 54, 55, 55, 56, 57, 58, 59, 60, 61, 62, 63, 64, 65, 66, 67, 68, 69, 70, 71, 72, 73, 74, 75].getD k 0
set_option maxRecDepth 100000 in
theorem ixd (k : Nat) (h : 1 ≤ k ∧ k ≤ 34) : ∀ w : World, (Instr.index 130 (.agg #[.nilFunc, .func (.func 54) #[] #[], .func (.func 54) #[] #[], .func (.func 54) #[] #[], .func (.func 54) #[] #[], .func (.func 54) #[] #[], .func (.func 54) #[] #[], .func (.func 54) #[] #[], .func (.func 54) #[] #[], .func (.func 54) #[] #[], .func (.func 54) #[] #[], .func (.func 54) #[] #[], .func (.func 54) #[] #[], .func (.func 55) #[] #[], .func (.func 55) #[] #[], .func (.func 56) #[] #[], .func (.func 57) #[] #[], .func (.func 58) #[] #[], .func (.func 59) #[] #[], .func (.func 60) #[] #[], .func (.func 61) #[] #[], .func (.func 62) #[] #[], .func (.func 63) #[] #[], .func (.func 64) #[] #[], .func (.func 65) #[] #[], .func (.func 66) #[] #[], .func (.func 67) #[] #[], .func (.func 68) #[] #[], .func (.func 69) #[] #[], .func (.func 70) #[] #[], .func (.func 71) #[] #[], .func (.func 72) #[] #[], .func (.func 73) #[] #[], .func (.func 74) #[] #[], .func (.func 75) #[] #[]]) (.int .u8 k)).run Tryz.prog w = .ok (.func (.func (tgN k)) #[] #[]) w := by
  have hc : k = 1 ∨ k = 2 ∨ k = 3 ∨ k = 4 ∨ k = 5 ∨ k = 6 ∨ k = 7 ∨ k = 8 ∨ k = 9 ∨ k = 10 ∨ k = 11 ∨ k = 12 ∨ k = 13 ∨ k = 14 ∨ k = 15 ∨ k = 16 ∨ k = 17 ∨ k = 18 ∨ k = 19 ∨ k = 20 ∨ k = 21 ∨ k = 22 ∨ k = 23 ∨ k = 24 ∨ k = 25 ∨ k = 26 ∨ k = 27 ∨ k = 28 ∨ k = 29 ∨ k = 30 ∨ k = 31 ∨ k = 32 ∨ k = 33 ∨ k = 34 := by omega
  rcases hc with rfl | rfl | rfl | rfl | rfl | rfl | rfl | rfl | rfl | rfl | rfl | rfl | rfl | rfl | rfl | rfl | rfl | rfl | rfl | rfl | rfl | rfl | rfl | rfl | rfl | rfl | rfl | rfl | rfl | rfl | rfl | rfl | rfl | rfl <;> exact fun _ => by kernel_rfl
theorem does_any5 (k : Nat) (h : 1 ≤ k ∧ k ≤ 34) (w : World) : Calls Tryz.prog 27 #[.int .u8 k] w fun e w' => e = .returned (.func (.func (tgN k)) #[] #[]) ∧ w = w' := by
  have hi := ixd k h
  go_enter Tryz.func27, Tryz.ntmps27
  go_wp2
  go_ret
  exact ⟨rfl, rfl⟩
theorem feF_lt {l : List Rg} {bv : Nat → Nat} {p : Nat} (hb : ∀ k, bv k < 256) : (feF l bv p).1 < 4294967296 := by
  unfold feF; split
  · exact (by decide)
  · split
    · exact (by decide)
    · split
      · have := ldv_lt hb 4 (pos l ‹_› p 4)
        have e : (256 : Nat) ^ 4 = 4294967296 := rfl
        show ldv bv _ 4 < _
        rw [e] at this
        exact this
      · exact (by decide)
theorem reg_lt {n : Bool} {r : Nat} (h : regB n r = true) : r < 32 := by
  unfold regB at h
  cases n
  · simp at h; omega
  · simpa using h
theorem dec_regs {v : Nat} {x : In} (h : decN v = some x) : (1 ≤ x.op ∧ x.op ≤ 34) ∧ x.rd < 32 ∧ x.rs1 < 32 ∧ x.rs2 < 32 := by
  have hx := decN_is h
  obtain ⟨_, _, h3, h4, h5, _⟩ := ok_parts hx.1
  exact ⟨op_of hx.1, reg_lt h3, reg_lt h4, reg_lt h5⟩
/-- What begin leaves, where there is a step. -/
def BgP (w0 : World) (M : Mc) (s : Ms) (x : In) (e : Ending) (w' : World) : Prop := ∃ sb, e = .returned (.pointer (some ⟨sb, 0, none⟩)) ∧ w0.heap.size ≤ sb ∧ IsS w' sb M.cb x (s.rv x.rs1) (s.rt x.rs1) (s.rv x.rs2) (s.rt x.rs2) s.sn s.nx ∧ Below w0.heap.size w0 w'

set_option maxRecDepth 100000 in
set_option maxHeartbeats 2000000 in
theorem begin_fault {w : World} {M : Mc} {s : Ms} (h : IsC w M s) (hf : (feF M.x.l s.bv s.pc).2 ≠ 0) :
    Calls Tryz.prog 26 #[.pointer (some ⟨M.cb, 0, none⟩)] w fun e w' => e = pnc (feF M.x.l s.bv s.pc).2 ∧ Below w.heap.size w w' := by
  obtain ⟨fv, fe, hfe⟩ : ∃ fv fe, feF M.x.l s.bv s.pc = (fv, fe) := ⟨_, _, rfl⟩
  have hFe : ∀ w', IsM w' M.x s.bv s.tv → Calls Tryz.prog 51 #[.pointer (some ⟨M.x.mb, 0, none⟩), .int .u64 (s.pc : Nat)] w' fun e w'' => e = .returned (.tuple #[.int .u32 (fv : Nat), .int .i64 fe]) ∧ Below w'.heap.size w' w'' := fun w' hI => by
    have := fetch_any s.pc h.ok.p w' hI
    rw [hfe] at this
    exact this
  rw [hfe] at hf ⊢
  simp only at hf ⊢
  have c0 := h.c0
  have c65 := h.c65
  have hM : ∀ w', Calls Tryz.prog 52 #[.int .i64 fe] w' fun e w'' => e = .panicked [{ v := .iface 35 (.int .i64 fe), recovered := false }] ∧ w' = w'' := fun w' => must_no fe hf w'
  go_enter Tryz.func26, Tryz.ntmps26
  go_wp2
  refine region_below (by kernel_rfl) (by kernel_rfl) ?_
  repeat (first
    | go_big_quiet_skip
    | (refine BigFrame.wpQuiet_want (by kernel_rfl) fun K hK => ?_
       apply Exists.intro
       refine ⟨fun w' hb' => ?_, ?_⟩
       · have s0 := stay hb' c0
         have s1 := stay hb' c65
         go_simp
         first
           | exact rfl
           | exact ⟨rfl, hb'⟩
           | (go_at_call 51
              exact (hFe w' (h.mem.of hb')).mono fun e w'' ⟨he, hb2⟩ => ⟨he, below_trans' hb' (Nat.le_refl _) hb2⟩)
       go_simp
       refine hK _ ?_
       clear hK K))
  refine wpQuiet_nil ?_
  intro w1 hb1
  go_wp2_with (go_at_call 52; (with_reducible refine (hM _).mono ?_); (rintro e w3 ⟨rfl, rfl⟩))
  exact ⟨rfl, rfl, hb1⟩
set_option maxRecDepth 100000 in
set_option maxHeartbeats 2000000 in
theorem begin_form {w : World} {M : Mc} {s : Ms} (h : IsC w M s) (hT : Tb w) (hf : (feF M.x.l s.bv s.pc).2 = 0) (hd : decN (feF M.x.l s.bv s.pc).1 = none) :
    Calls Tryz.prog 26 #[.pointer (some ⟨M.cb, 0, none⟩)] w fun e w' => e = pnc 7 ∧ Below w.heap.size w w' := by
  have hv := feF_lt (l := M.x.l) (p := s.pc) h.ok.b
  obtain ⟨fv, fe, hfe⟩ : ∃ fv fe, feF M.x.l s.bv s.pc = (fv, fe) := ⟨_, _, rfl⟩
  have hFe : ∀ w', IsM w' M.x s.bv s.tv → Calls Tryz.prog 51 #[.pointer (some ⟨M.x.mb, 0, none⟩), .int .u64 (s.pc : Nat)] w' fun e w'' => e = .returned (.tuple #[.int .u32 (fv : Nat), .int .i64 0]) ∧ Below w'.heap.size w' w'' := fun w' hI => by
    have := fetch_any s.pc h.ok.p w' hI
    rw [hfe] at this hf
    simp only at this hf
    rw [hf] at this
    exact this
  rw [hfe] at hd hv
  simp only at hd hv
  have hD : ∀ w', Tb w' → Calls Tryz.prog 53 #[.int .u32 (fv : Nat)] w' fun e w'' => e = .returned (.tuple #[.agg #[.int .u8 0, .int .u8 0, .int .u8 0, .int .u8 0, .int .i64 0], .int .i64 7]) ∧ Below w'.heap.size w' w'' := fun w' hT' => by
    have := dec_any fv hv w' hT'
    unfold decA decE at this
    rw [hd] at this
    exact this
  clear hf hfe
  have c0 := h.c0
  have c65 := h.c65
  have hM : ∀ w', Calls Tryz.prog 52 #[.int .i64 7] w' fun e w'' => e = .panicked [{ v := .iface 35 (.int .i64 7), recovered := false }] ∧ w' = w'' := fun w' => must_no 7 (by decide) w'
  go_enter Tryz.func26, Tryz.ntmps26
  go_wp2
  refine region_below (by kernel_rfl) (by kernel_rfl) ?_
  repeat (first
    | go_big_quiet_skip
    | (refine BigFrame.wpQuiet_want (by kernel_rfl) fun K hK => ?_
       apply Exists.intro
       refine ⟨fun w' hb' => ?_, ?_⟩
       · have s0 := stay hb' c0
         have s1 := stay hb' c65
         go_simp
         first
           | exact rfl
           | exact ⟨rfl, hb'⟩
           | (go_at_call 51
              exact (hFe w' (h.mem.of hb')).mono fun e w'' ⟨he, hb2⟩ => ⟨he, below_trans' hb' (Nat.le_refl _) hb2⟩)
       go_simp
       refine hK _ ?_
       clear hK K))
  refine wpQuiet_nil ?_
  intro w1 hb1
  have hD1 := hD w1 (hT.of hb1)
  go_wp2_with (first | (go_at_call 52; (with_reducible refine (must_ok _).mono ?_); (rintro e w3 ⟨rfl, rfl⟩)) | (go_at_call 52; (with_reducible refine (hM _).mono ?_); (rintro e w3 ⟨rfl, rfl⟩)) | (go_at_call 53; (with_reducible refine hD1.mono ?_); (rintro e w2 ⟨rfl, hb2⟩); have hB2 := below_trans' hb1 (Nat.le_refl _) hb2))
  exact ⟨rfl, rfl, hB2.alloc hB2.size _⟩
set_option maxRecDepth 100000 in
set_option maxHeartbeats 4000000 in
theorem begin_yes {w : World} {M : Mc} {s : Ms} (h : IsC w M s) (hT : Tb w) (hf : (feF M.x.l s.bv s.pc).2 = 0) {x : In} (hd : decN (feF M.x.l s.bv s.pc).1 = some x) :
    Calls Tryz.prog 26 #[.pointer (some ⟨M.cb, 0, none⟩)] w (BgP w M s x) := by
  have hv := feF_lt (l := M.x.l) (p := s.pc) h.ok.b
  obtain ⟨fv, fe, hfe⟩ : ∃ fv fe, feF M.x.l s.bv s.pc = (fv, fe) := ⟨_, _, rfl⟩
  have hFe : ∀ w', IsM w' M.x s.bv s.tv → Calls Tryz.prog 51 #[.pointer (some ⟨M.x.mb, 0, none⟩), .int .u64 (s.pc : Nat)] w' fun e w'' => e = .returned (.tuple #[.int .u32 (fv : Nat), .int .i64 0]) ∧ Below w'.heap.size w' w'' := fun w' hI => by
    have := fetch_any s.pc h.ok.p w' hI
    rw [hfe] at this hf
    simp only at this hf
    rw [hf] at this
    exact this
  rw [hfe] at hd hv
  simp only at hd hv
  obtain ⟨_, _, hr1, hr2⟩ := dec_regs hd
  have hD : ∀ w', Tb w' → Calls Tryz.prog 53 #[.int .u32 (fv : Nat)] w' fun e w'' => e = .returned (.tuple #[.agg #[.int .u8 x.op, .int .u8 x.rd, .int .u8 x.rs1, .int .u8 x.rs2, .int .i64 x.imm], .int .i64 0]) ∧ Below w'.heap.size w' w'' := fun w' hT' => by
    have := dec_any fv hv w' hT'
    unfold decA decE at this
    rw [hd] at this
    exact this
  clear hf hfe hd hv
  have c0 := h.c0
  have c65 := h.c65
  go_enter Tryz.func26, Tryz.ntmps26
  go_wp2
  refine region_below (by kernel_rfl) (by kernel_rfl) ?_
  repeat (first
    | go_big_quiet_skip
    | (refine BigFrame.wpQuiet_want (by kernel_rfl) fun K hK => ?_
       apply Exists.intro
       refine ⟨fun w' hb' => ?_, ?_⟩
       · have s0 := stay hb' c0
         have s1 := stay hb' c65
         go_simp
         first
           | exact rfl
           | exact ⟨rfl, hb'⟩
           | (go_at_call 51
              exact (hFe w' (h.mem.of hb')).mono fun e w'' ⟨he, hb2⟩ => ⟨he, below_trans' hb' (Nat.le_refl _) hb2⟩)
       go_simp
       refine hK _ ?_
       clear hK K))
  refine wpQuiet_nil ?_
  intro w1 hb1
  have hD1 := hD w1 (hT.of hb1)
  clear hFe hD c0 c65
  go_wp2_with (first | (go_at_call 52; (with_reducible refine (must_ok _).mono ?_); (rintro e w3 ⟨rfl, rfl⟩)) | (go_at_call 53; (with_reducible refine hD1.mono ?_); (rintro e w2 ⟨rfl, hb2⟩); have hB2 := below_trans' hb1 (Nat.le_refl _) hb2))
  obtain ⟨wb, hwb⟩ : ∃ wb, w2.alloc (.cells #[.int .u8 x.op, .int .u8 x.rd, .int .u8 x.rs1, .int .u8 x.rs2, .int .i64 x.imm] 48) = wb := ⟨_, rfl⟩
  have hBb : Below w.heap.size w wb := by rw [← hwb]; exact hB2.alloc hB2.size _
  have x0 : wb.cell? ⟨w2.heap.size, 0, none⟩ = some (.int .u8 x.op) := by rw [← hwb]; exact nwc _ _ _ _
  have x1 : wb.cell? ⟨w2.heap.size, 1, none⟩ = some (.int .u8 x.rd) := by rw [← hwb]; exact nwc _ _ _ _
  have x2 : wb.cell? ⟨w2.heap.size, 2, none⟩ = some (.int .u8 x.rs1) := by rw [← hwb]; exact nwc _ _ _ _
  have x3 : wb.cell? ⟨w2.heap.size, 3, none⟩ = some (.int .u8 x.rs2) := by rw [← hwb]; exact nwc _ _ _ _
  have x4 : wb.cell? ⟨w2.heap.size, 4, none⟩ = some (.int .i64 x.imm) := by rw [← hwb]; exact nwc _ _ _ _
  have hC := h.of hBb
  have c65 := hC.c65
  have a1 := hC.rv _ hr1
  have a2 := hC.rt _ hr1
  have b1 := hC.rv _ hr2
  have b2 := hC.rt _ hr2
  have i0 : (0 : Int) ≤ (x.rs1 : Int) := by omega
  have i1 : (x.rs1 : Int) < 32 := by omega
  have j0 : (0 : Int) ≤ (x.rs2 : Int) := by omega
  have j1 : (x.rs2 : Int) < 32 := by omega
  have e4 : IntKind.u64.wrap ((s.pc : Int) + 4) = (sm s.pc 4 : Int) := sm_wrap s.pc 4
  try rw [hwb]
  clear hwb hb1 hb2 hB2 hD1 hT
  have hE : BgP w M s x (.returned (.pointer (some ⟨wb.heap.size, 0, none⟩))) ((wb.alloc (.cells #[.pointer (some ⟨M.cb, 0, none⟩), .int .u8 x.op, .int .u8 x.rd, .int .u8 x.rs1, .int .u8 x.rs2, .int .i64 x.imm, .int .u64 (s.rv x.rs1 : Nat), .bool (s.rt x.rs1), .int .u64 (s.rv x.rs2 : Nat), .bool (s.rt x.rs2), .int .u64 (s.pc : Nat), .int .u8 1, .int .u64 0, .int .u64 0, .bool false, .int .u64 (sm s.pc 4 : Nat)] 84)).drew) := by
    refine ⟨wb.heap.size, rfl, hBb.size, ?_, bd1 (hBb.alloc hBb.size _)⟩
    have key : ∀ o, _ := fun o => nwc wb #[.pointer (some ⟨M.cb, 0, none⟩), .int .u8 x.op, .int .u8 x.rd, .int .u8 x.rs1, .int .u8 x.rs2, .int .i64 x.imm, .int .u64 (s.rv x.rs1 : Nat), .bool (s.rt x.rs1), .int .u64 (s.rv x.rs2 : Nat), .bool (s.rt x.rs2), .int .u64 (s.pc : Nat), .int .u8 1, .int .u64 0, .int .u64 0, .bool false, .int .u64 (sm s.pc 4 : Nat)] 84 o
    exact { d0 := key 0, d1 := key 1, d2 := key 2, d3 := key 3, d4 := key 4, d5 := key 5, d6 := key 6, d7 := key 7, d8 := key 8, d9 := key 9, d10 := key 10, d11 := key 11, d12 := key 12, d13 := key 13, d14 := key 14, d15 := key 15, fz := fun k => nwf _ _ _ _, lt := by show wb.heap.size < (wb.alloc _).heap.size; rw [World.size_alloc]; exact Nat.lt_succ_self _ }
  go_still_tail 27, (by kernel_rfl)
  change wpList _ _ _ _ _ wb.drew
  go_wp2
  go_ret
  exact hE
end Go.Proofs.YtfaacmcnefbgcaaGreatDoor.m4

/- What each Op's method does is what the machine in plain numbers does. -/
namespace Go.Proofs.YtfaacmcnefbgcaaGreatDoor.m4
open Go.ChangeShapes Go.WideShapes Go.ChangeAt Go.RowKit
set_option linter.unusedVariables false
/-- What the method of an Op leaves: the machine's next state (its pc, and what was seen, are laid by Step), or an error. -/
def MtP (w : World) (M : Mc) (s : Ms) (sb : Nat) (x : In) (r : Ex) (e : Ending) (w' : World) : Prop :=
  (r.e = 0 → OkM w M (r.s.go s.pc) sb x (s.rv x.rs1) (s.rt x.rs1) (s.rv x.rs2) (s.rt x.rs2) r.n r.s.pc e w') ∧ (r.e ≠ 0 → Bd w M s sb r.e e w')
theorem MtP.ok {w w' : World} {M : Mc} {s : Ms} {sb : Nat} {x : In} {r : Ex} {e : Ending} {s' : Ms} {n : Sn} {nx : Nat} (h : Ok w M s' sb x (s.rv x.rs1) (s.rt x.rs1) (s.rv x.rs2) (s.rt x.rs2) n nx e w') (h0 : r.e = 0) (hs : r.s.go s.pc = s') (hn : r.n = n) (hx : r.s.pc = nx) : MtP w M s sb x r e w' :=
  ⟨fun _ => by rw [hs, hn, hx]; exact OkM.of h, fun h => absurd h0 h⟩
theorem MtP.rs {w w' : World} {M : Mc} {s : Ms} {sb : Nat} {x : In} {r : Ex} {e : Ending} {k : Int} {s' : Ms} {n : Sn} {nx : Nat} (h : Rs w M s k s' sb x (s.rv x.rs1) (s.rt x.rs1) (s.rv x.rs2) (s.rt x.rs2) n nx e w') (h0 : r.e = k) (hs : r.s.go s.pc = s') (hn : r.n = n) (hx : r.s.pc = nx) : MtP w M s sb x r e w' := by
  subst h0
  exact ⟨fun hk => by rw [hs, hn, hx]; exact OkM.of (h.1 hk), fun hk => h.2 hk⟩
theorem MtP.rm {w w' : World} {M : Mc} {s : Ms} {sb : Nat} {x : In} {r : Ex} {e : Ending} {k : Int} {s' : Ms} {n : Sn} {nx : Nat} (h : RsM w M s k s' sb x (s.rv x.rs1) (s.rt x.rs1) (s.rv x.rs2) (s.rt x.rs2) n nx e w') (h0 : r.e = k) (hs : r.s.go s.pc = s') (hn : r.n = n) (hx : r.s.pc = nx) : MtP w M s sb x r e w' := by
  subst h0
  exact ⟨fun hk => by rw [hs, hn, hx]; exact h.1 hk, fun hk => h.2 hk⟩
theorem stO_no {l : List Rg} {p : Nat} {n : Int} (h : stE l p n ≠ 0) : stO l p n = none := by
  unfold stE at h
  split at h
  · unfold stO; rw [if_pos (by assumption)]
  · split at h
    · exact absurd rfl h
    · rename_i hn
      cases ho : stO l p n with
      | none => rfl
      | some q => rw [ho] at hn; exact absurd rfl hn
theorem go_self (s : Ms) : s.go s.pc = s := rfl

theorem mt_1 {w : World} {M : Mc} {s : Ms} {sb : Nat} {x : In} (h : Mid w M s sb x (s.rv x.rs1) (s.rt x.rs1) (s.rv x.rs2) (s.rt x.rs2) s.sn s.nx) (hi : x.rd < 32) (ho : x.op = 1) : Calls Tryz.prog 54 #[.pointer (some ⟨sb, 0, none⟩)] w (MtP w M s sb x (exF M.x.l s x)) := by
  have hx : exF M.x.l s x = exTwo s x := by unfold exF; rw [ho]; rfl
  rw [hx]
  obtain ⟨op, rd, rs1, rs2, imm⟩ := x
  simp only at ho
  subst ho
  exact (two_any h (by show 1 ≤ 1 ∧ 1 ≤ 14; omega) hi (h.c.ok.v _) (h.c.ok.v _)).mono fun e w' hh => MtP.ok hh rfl rfl rfl rfl
theorem mt_2 {w : World} {M : Mc} {s : Ms} {sb : Nat} {x : In} (h : Mid w M s sb x (s.rv x.rs1) (s.rt x.rs1) (s.rv x.rs2) (s.rt x.rs2) s.sn s.nx) (hi : x.rd < 32) (ho : x.op = 2) : Calls Tryz.prog 54 #[.pointer (some ⟨sb, 0, none⟩)] w (MtP w M s sb x (exF M.x.l s x)) := by
  have hx : exF M.x.l s x = exTwo s x := by unfold exF; rw [ho]; rfl
  rw [hx]
  obtain ⟨op, rd, rs1, rs2, imm⟩ := x
  simp only at ho
  subst ho
  exact (two_any h (by show 1 ≤ 2 ∧ 2 ≤ 14; omega) hi (h.c.ok.v _) (h.c.ok.v _)).mono fun e w' hh => MtP.ok hh rfl rfl rfl rfl
theorem mt_3 {w : World} {M : Mc} {s : Ms} {sb : Nat} {x : In} (h : Mid w M s sb x (s.rv x.rs1) (s.rt x.rs1) (s.rv x.rs2) (s.rt x.rs2) s.sn s.nx) (hi : x.rd < 32) (ho : x.op = 3) : Calls Tryz.prog 54 #[.pointer (some ⟨sb, 0, none⟩)] w (MtP w M s sb x (exF M.x.l s x)) := by
  have hx : exF M.x.l s x = exTwo s x := by unfold exF; rw [ho]; rfl
  rw [hx]
  obtain ⟨op, rd, rs1, rs2, imm⟩ := x
  simp only at ho
  subst ho
  exact (two_any h (by show 1 ≤ 3 ∧ 3 ≤ 14; omega) hi (h.c.ok.v _) (h.c.ok.v _)).mono fun e w' hh => MtP.ok hh rfl rfl rfl rfl
theorem mt_4 {w : World} {M : Mc} {s : Ms} {sb : Nat} {x : In} (h : Mid w M s sb x (s.rv x.rs1) (s.rt x.rs1) (s.rv x.rs2) (s.rt x.rs2) s.sn s.nx) (hi : x.rd < 32) (ho : x.op = 4) : Calls Tryz.prog 54 #[.pointer (some ⟨sb, 0, none⟩)] w (MtP w M s sb x (exF M.x.l s x)) := by
  have hx : exF M.x.l s x = exTwo s x := by unfold exF; rw [ho]; rfl
  rw [hx]
  obtain ⟨op, rd, rs1, rs2, imm⟩ := x
  simp only at ho
  subst ho
  exact (two_any h (by show 1 ≤ 4 ∧ 4 ≤ 14; omega) hi (h.c.ok.v _) (h.c.ok.v _)).mono fun e w' hh => MtP.ok hh rfl rfl rfl rfl
theorem mt_5 {w : World} {M : Mc} {s : Ms} {sb : Nat} {x : In} (h : Mid w M s sb x (s.rv x.rs1) (s.rt x.rs1) (s.rv x.rs2) (s.rt x.rs2) s.sn s.nx) (hi : x.rd < 32) (ho : x.op = 5) : Calls Tryz.prog 54 #[.pointer (some ⟨sb, 0, none⟩)] w (MtP w M s sb x (exF M.x.l s x)) := by
  have hx : exF M.x.l s x = exTwo s x := by unfold exF; rw [ho]; rfl
  rw [hx]
  obtain ⟨op, rd, rs1, rs2, imm⟩ := x
  simp only at ho
  subst ho
  exact (two_any h (by show 1 ≤ 5 ∧ 5 ≤ 14; omega) hi (h.c.ok.v _) (h.c.ok.v _)).mono fun e w' hh => MtP.ok hh rfl rfl rfl rfl
theorem mt_6 {w : World} {M : Mc} {s : Ms} {sb : Nat} {x : In} (h : Mid w M s sb x (s.rv x.rs1) (s.rt x.rs1) (s.rv x.rs2) (s.rt x.rs2) s.sn s.nx) (hi : x.rd < 32) (ho : x.op = 6) : Calls Tryz.prog 54 #[.pointer (some ⟨sb, 0, none⟩)] w (MtP w M s sb x (exF M.x.l s x)) := by
  have hx : exF M.x.l s x = exTwo s x := by unfold exF; rw [ho]; rfl
  rw [hx]
  obtain ⟨op, rd, rs1, rs2, imm⟩ := x
  simp only at ho
  subst ho
  exact (two_any h (by show 1 ≤ 6 ∧ 6 ≤ 14; omega) hi (h.c.ok.v _) (h.c.ok.v _)).mono fun e w' hh => MtP.ok hh rfl rfl rfl rfl
theorem mt_7 {w : World} {M : Mc} {s : Ms} {sb : Nat} {x : In} (h : Mid w M s sb x (s.rv x.rs1) (s.rt x.rs1) (s.rv x.rs2) (s.rt x.rs2) s.sn s.nx) (hi : x.rd < 32) (ho : x.op = 7) : Calls Tryz.prog 54 #[.pointer (some ⟨sb, 0, none⟩)] w (MtP w M s sb x (exF M.x.l s x)) := by
  have hx : exF M.x.l s x = exTwo s x := by unfold exF; rw [ho]; rfl
  rw [hx]
  obtain ⟨op, rd, rs1, rs2, imm⟩ := x
  simp only at ho
  subst ho
  exact (two_any h (by show 1 ≤ 7 ∧ 7 ≤ 14; omega) hi (h.c.ok.v _) (h.c.ok.v _)).mono fun e w' hh => MtP.ok hh rfl rfl rfl rfl
theorem mt_8 {w : World} {M : Mc} {s : Ms} {sb : Nat} {x : In} (h : Mid w M s sb x (s.rv x.rs1) (s.rt x.rs1) (s.rv x.rs2) (s.rt x.rs2) s.sn s.nx) (hi : x.rd < 32) (ho : x.op = 8) : Calls Tryz.prog 54 #[.pointer (some ⟨sb, 0, none⟩)] w (MtP w M s sb x (exF M.x.l s x)) := by
  have hx : exF M.x.l s x = exTwo s x := by unfold exF; rw [ho]; rfl
  rw [hx]
  obtain ⟨op, rd, rs1, rs2, imm⟩ := x
  simp only at ho
  subst ho
  exact (two_any h (by show 1 ≤ 8 ∧ 8 ≤ 14; omega) hi (h.c.ok.v _) (h.c.ok.v _)).mono fun e w' hh => MtP.ok hh rfl rfl rfl rfl
theorem mt_9 {w : World} {M : Mc} {s : Ms} {sb : Nat} {x : In} (h : Mid w M s sb x (s.rv x.rs1) (s.rt x.rs1) (s.rv x.rs2) (s.rt x.rs2) s.sn s.nx) (hi : x.rd < 32) (ho : x.op = 9) : Calls Tryz.prog 54 #[.pointer (some ⟨sb, 0, none⟩)] w (MtP w M s sb x (exF M.x.l s x)) := by
  have hx : exF M.x.l s x = exTwo s x := by unfold exF; rw [ho]; rfl
  rw [hx]
  obtain ⟨op, rd, rs1, rs2, imm⟩ := x
  simp only at ho
  subst ho
  exact (two_any h (by show 1 ≤ 9 ∧ 9 ≤ 14; omega) hi (h.c.ok.v _) (h.c.ok.v _)).mono fun e w' hh => MtP.ok hh rfl rfl rfl rfl
theorem mt_10 {w : World} {M : Mc} {s : Ms} {sb : Nat} {x : In} (h : Mid w M s sb x (s.rv x.rs1) (s.rt x.rs1) (s.rv x.rs2) (s.rt x.rs2) s.sn s.nx) (hi : x.rd < 32) (ho : x.op = 10) : Calls Tryz.prog 54 #[.pointer (some ⟨sb, 0, none⟩)] w (MtP w M s sb x (exF M.x.l s x)) := by
  have hx : exF M.x.l s x = exTwo s x := by unfold exF; rw [ho]; rfl
  rw [hx]
  obtain ⟨op, rd, rs1, rs2, imm⟩ := x
  simp only at ho
  subst ho
  exact (two_any h (by show 1 ≤ 10 ∧ 10 ≤ 14; omega) hi (h.c.ok.v _) (h.c.ok.v _)).mono fun e w' hh => MtP.ok hh rfl rfl rfl rfl
theorem mt_11 {w : World} {M : Mc} {s : Ms} {sb : Nat} {x : In} (h : Mid w M s sb x (s.rv x.rs1) (s.rt x.rs1) (s.rv x.rs2) (s.rt x.rs2) s.sn s.nx) (hi : x.rd < 32) (ho : x.op = 11) : Calls Tryz.prog 54 #[.pointer (some ⟨sb, 0, none⟩)] w (MtP w M s sb x (exF M.x.l s x)) := by
  have hx : exF M.x.l s x = exTwo s x := by unfold exF; rw [ho]; rfl
  rw [hx]
  obtain ⟨op, rd, rs1, rs2, imm⟩ := x
  simp only at ho
  subst ho
  exact (two_any h (by show 1 ≤ 11 ∧ 11 ≤ 14; omega) hi (h.c.ok.v _) (h.c.ok.v _)).mono fun e w' hh => MtP.ok hh rfl rfl rfl rfl
theorem mt_12 {w : World} {M : Mc} {s : Ms} {sb : Nat} {x : In} (h : Mid w M s sb x (s.rv x.rs1) (s.rt x.rs1) (s.rv x.rs2) (s.rt x.rs2) s.sn s.nx) (hi : x.rd < 32) (ho : x.op = 12) : Calls Tryz.prog 54 #[.pointer (some ⟨sb, 0, none⟩)] w (MtP w M s sb x (exF M.x.l s x)) := by
  have hx : exF M.x.l s x = exTwo s x := by unfold exF; rw [ho]; rfl
  rw [hx]
  obtain ⟨op, rd, rs1, rs2, imm⟩ := x
  simp only at ho
  subst ho
  exact (two_any h (by show 1 ≤ 12 ∧ 12 ≤ 14; omega) hi (h.c.ok.v _) (h.c.ok.v _)).mono fun e w' hh => MtP.ok hh rfl rfl rfl rfl
theorem mt_13 {w : World} {M : Mc} {s : Ms} {sb : Nat} {x : In} (h : Mid w M s sb x (s.rv x.rs1) (s.rt x.rs1) (s.rv x.rs2) (s.rt x.rs2) s.sn s.nx) (hi : x.rd < 32) (ho : x.op = 13) : Calls Tryz.prog 55 #[.pointer (some ⟨sb, 0, none⟩)] w (MtP w M s sb x (exF M.x.l s x)) := by
  have hx : exF M.x.l s x = exDiv s x := by unfold exF; rw [ho]; rfl
  rw [hx]
  obtain ⟨op, rd, rs1, rs2, imm⟩ := x
  simp only at ho
  subst ho
  exact (divide_any h (by show 1 ≤ 13 ∧ 13 ≤ 14; omega) hi (h.c.ok.v _) (h.c.ok.v _)).mono fun e w' hh => MtP.ok hh rfl rfl rfl rfl
theorem mt_14 {w : World} {M : Mc} {s : Ms} {sb : Nat} {x : In} (h : Mid w M s sb x (s.rv x.rs1) (s.rt x.rs1) (s.rv x.rs2) (s.rt x.rs2) s.sn s.nx) (hi : x.rd < 32) (ho : x.op = 14) : Calls Tryz.prog 55 #[.pointer (some ⟨sb, 0, none⟩)] w (MtP w M s sb x (exF M.x.l s x)) := by
  have hx : exF M.x.l s x = exDiv s x := by unfold exF; rw [ho]; rfl
  rw [hx]
  obtain ⟨op, rd, rs1, rs2, imm⟩ := x
  simp only at ho
  subst ho
  exact (divide_any h (by show 1 ≤ 14 ∧ 14 ≤ 14; omega) hi (h.c.ok.v _) (h.c.ok.v _)).mono fun e w' hh => MtP.ok hh rfl rfl rfl rfl
theorem mt_15 {w : World} {M : Mc} {s : Ms} {sb : Nat} {x : In} (h : Mid w M s sb x (s.rv x.rs1) (s.rt x.rs1) (s.rv x.rs2) (s.rt x.rs2) s.sn s.nx) (hi : x.rd < 32) (ho : x.op = 15) : Calls Tryz.prog 56 #[.pointer (some ⟨sb, 0, none⟩)] w (MtP w M s sb x (exF M.x.l s x)) := by
  have hx : exF M.x.l s x = exNum s x := by unfold exF; rw [ho]; rfl
  rw [hx]
  obtain ⟨op, rd, rs1, rs2, imm⟩ := x
  simp only at ho
  subst ho
  exact (addi_any h hi (h.c.ok.v _)).mono fun e w' hh => MtP.ok hh rfl rfl rfl rfl
theorem mt_16 {w : World} {M : Mc} {s : Ms} {sb : Nat} {x : In} (h : Mid w M s sb x (s.rv x.rs1) (s.rt x.rs1) (s.rv x.rs2) (s.rt x.rs2) s.sn s.nx) (hi : x.rd < 32) (ho : x.op = 16) : Calls Tryz.prog 57 #[.pointer (some ⟨sb, 0, none⟩)] w (MtP w M s sb x (exF M.x.l s x)) := by
  have hx : exF M.x.l s x = exNum s x := by unfold exF; rw [ho]; rfl
  rw [hx]
  obtain ⟨op, rd, rs1, rs2, imm⟩ := x
  simp only at ho
  subst ho
  exact (sltiu_any h hi (h.c.ok.v _)).mono fun e w' hh => MtP.ok hh rfl rfl rfl rfl
theorem mt_17 {w : World} {M : Mc} {s : Ms} {sb : Nat} {x : In} (h : Mid w M s sb x (s.rv x.rs1) (s.rt x.rs1) (s.rv x.rs2) (s.rt x.rs2) s.sn s.nx) (hi : x.rd < 32) (ho : x.op = 17) : Calls Tryz.prog 58 #[.pointer (some ⟨sb, 0, none⟩)] w (MtP w M s sb x (exF M.x.l s x)) := by
  have hx : exF M.x.l s x = exNum s x := by unfold exF; rw [ho]; rfl
  rw [hx]
  obtain ⟨op, rd, rs1, rs2, imm⟩ := x
  simp only at ho
  subst ho
  exact (xori_any h hi (h.c.ok.v _)).mono fun e w' hh => MtP.ok hh rfl rfl rfl rfl
theorem mt_18 {w : World} {M : Mc} {s : Ms} {sb : Nat} {x : In} (h : Mid w M s sb x (s.rv x.rs1) (s.rt x.rs1) (s.rv x.rs2) (s.rt x.rs2) s.sn s.nx) (hi : x.rd < 32) (ho : x.op = 18) : Calls Tryz.prog 59 #[.pointer (some ⟨sb, 0, none⟩)] w (MtP w M s sb x (exF M.x.l s x)) := by
  have hx : exF M.x.l s x = exNum s x := by unfold exF; rw [ho]; rfl
  rw [hx]
  obtain ⟨op, rd, rs1, rs2, imm⟩ := x
  simp only at ho
  subst ho
  exact (ori_any h hi (h.c.ok.v _)).mono fun e w' hh => MtP.ok hh rfl rfl rfl rfl
theorem mt_19 {w : World} {M : Mc} {s : Ms} {sb : Nat} {x : In} (h : Mid w M s sb x (s.rv x.rs1) (s.rt x.rs1) (s.rv x.rs2) (s.rt x.rs2) s.sn s.nx) (hi : x.rd < 32) (ho : x.op = 19) : Calls Tryz.prog 60 #[.pointer (some ⟨sb, 0, none⟩)] w (MtP w M s sb x (exF M.x.l s x)) := by
  have hx : exF M.x.l s x = exNum s x := by unfold exF; rw [ho]; rfl
  rw [hx]
  obtain ⟨op, rd, rs1, rs2, imm⟩ := x
  simp only at ho
  subst ho
  exact (andi_any h hi (h.c.ok.v _)).mono fun e w' hh => MtP.ok hh rfl rfl rfl rfl
theorem mt_20 {w : World} {M : Mc} {s : Ms} {sb : Nat} {x : In} (h : Mid w M s sb x (s.rv x.rs1) (s.rt x.rs1) (s.rv x.rs2) (s.rt x.rs2) s.sn s.nx) (hi : x.rd < 32) (ho : x.op = 20) : Calls Tryz.prog 61 #[.pointer (some ⟨sb, 0, none⟩)] w (MtP w M s sb x (exF M.x.l s x)) := by
  have hx : exF M.x.l s x = exNum s x := by unfold exF; rw [ho]; rfl
  rw [hx]
  obtain ⟨op, rd, rs1, rs2, imm⟩ := x
  simp only at ho
  subst ho
  exact (slli_any h hi (h.c.ok.v _)).mono fun e w' hh => MtP.ok hh rfl rfl rfl rfl
theorem mt_21 {w : World} {M : Mc} {s : Ms} {sb : Nat} {x : In} (h : Mid w M s sb x (s.rv x.rs1) (s.rt x.rs1) (s.rv x.rs2) (s.rt x.rs2) s.sn s.nx) (hi : x.rd < 32) (ho : x.op = 21) : Calls Tryz.prog 62 #[.pointer (some ⟨sb, 0, none⟩)] w (MtP w M s sb x (exF M.x.l s x)) := by
  have hx : exF M.x.l s x = exNum s x := by unfold exF; rw [ho]; rfl
  rw [hx]
  obtain ⟨op, rd, rs1, rs2, imm⟩ := x
  simp only at ho
  subst ho
  exact (srli_any h hi (h.c.ok.v _)).mono fun e w' hh => MtP.ok hh rfl rfl rfl rfl
theorem mt_22 {w : World} {M : Mc} {s : Ms} {sb : Nat} {x : In} (h : Mid w M s sb x (s.rv x.rs1) (s.rt x.rs1) (s.rv x.rs2) (s.rt x.rs2) s.sn s.nx) (hi : x.rd < 32) (ho : x.op = 22) : Calls Tryz.prog 63 #[.pointer (some ⟨sb, 0, none⟩)] w (MtP w M s sb x (exF M.x.l s x)) := by
  have hx : exF M.x.l s x = exNum s x := by unfold exF; rw [ho]; rfl
  rw [hx]
  obtain ⟨op, rd, rs1, rs2, imm⟩ := x
  simp only at ho
  subst ho
  exact (srai_any h hi (h.c.ok.v _)).mono fun e w' hh => MtP.ok hh rfl rfl rfl rfl
theorem mt_23 {w : World} {M : Mc} {s : Ms} {sb : Nat} {x : In} (h : Mid w M s sb x (s.rv x.rs1) (s.rt x.rs1) (s.rv x.rs2) (s.rt x.rs2) s.sn s.nx) (hi : x.rd < 32) (ho : x.op = 23) : Calls Tryz.prog 64 #[.pointer (some ⟨sb, 0, none⟩)] w (MtP w M s sb x (exF M.x.l s x)) := by
  have hx : exF M.x.l s x = exLui s x := by unfold exF; rw [ho]; rfl
  rw [hx]
  obtain ⟨op, rd, rs1, rs2, imm⟩ := x
  simp only at ho
  subst ho
  exact (lui_any h hi).mono fun e w' hh => MtP.ok hh rfl rfl rfl rfl
theorem mt_24 {w : World} {M : Mc} {s : Ms} {sb : Nat} {x : In} (h : Mid w M s sb x (s.rv x.rs1) (s.rt x.rs1) (s.rv x.rs2) (s.rt x.rs2) s.sn s.nx) (hi : x.rd < 32) (ho : x.op = 24) : Calls Tryz.prog 65 #[.pointer (some ⟨sb, 0, none⟩)] w (MtP w M s sb x (exF M.x.l s x)) := by
  have hx : exF M.x.l s x = exLoad M.x.l s x 1 := by unfold exF; rw [ho]; rfl
  rw [hx]
  obtain ⟨op, rd, rs1, rs2, imm⟩ := x
  simp only at ho
  subst ho
  exact (lbu_any h _ _ _ (ldF_lt _ _ _ _ h.c.ok.b) rfl hi).mono fun e w' hh => MtP.rs hh rfl rfl rfl rfl
theorem mt_25 {w : World} {M : Mc} {s : Ms} {sb : Nat} {x : In} (h : Mid w M s sb x (s.rv x.rs1) (s.rt x.rs1) (s.rv x.rs2) (s.rt x.rs2) s.sn s.nx) (hi : x.rd < 32) (ho : x.op = 25) : Calls Tryz.prog 66 #[.pointer (some ⟨sb, 0, none⟩)] w (MtP w M s sb x (exF M.x.l s x)) := by
  have hx : exF M.x.l s x = exLoad M.x.l s x 8 := by unfold exF; rw [ho]; rfl
  rw [hx]
  obtain ⟨op, rd, rs1, rs2, imm⟩ := x
  simp only at ho
  subst ho
  exact (ld_any h _ _ _ (ldF_lt _ _ _ _ h.c.ok.b) rfl hi).mono fun e w' hh => MtP.rs hh rfl rfl rfl rfl
theorem mt_26 {w : World} {M : Mc} {s : Ms} {sb : Nat} {x : In} (h : Mid w M s sb x (s.rv x.rs1) (s.rt x.rs1) (s.rv x.rs2) (s.rt x.rs2) s.sn s.nx) (hi : x.rd < 32) (ho : x.op = 26) : Calls Tryz.prog 67 #[.pointer (some ⟨sb, 0, none⟩)] w (MtP w M s sb x (exF M.x.l s x)) := by
  have hx : exF M.x.l s x = exStore M.x.l s x 1 := by unfold exF; rw [ho]; rfl
  rw [hx]
  obtain ⟨op, rd, rs1, rs2, imm⟩ := x
  simp only at ho
  subst ho
  exact (sb_any h _ _ rfl rfl stO_no (h.c.ok.v _)).mono fun e w' hh => MtP.rs hh rfl rfl rfl rfl
theorem mt_27 {w : World} {M : Mc} {s : Ms} {sb : Nat} {x : In} (h : Mid w M s sb x (s.rv x.rs1) (s.rt x.rs1) (s.rv x.rs2) (s.rt x.rs2) s.sn s.nx) (hi : x.rd < 32) (ho : x.op = 27) : Calls Tryz.prog 68 #[.pointer (some ⟨sb, 0, none⟩)] w (MtP w M s sb x (exF M.x.l s x)) := by
  have hx : exF M.x.l s x = exStore M.x.l s x 8 := by unfold exF; rw [ho]; rfl
  rw [hx]
  obtain ⟨op, rd, rs1, rs2, imm⟩ := x
  simp only at ho
  subst ho
  exact (sd_any h _ _ rfl rfl stO_no (h.c.ok.v _)).mono fun e w' hh => MtP.rs hh rfl rfl rfl rfl
theorem mt_28 {w : World} {M : Mc} {s : Ms} {sb : Nat} {x : In} (h : Mid w M s sb x (s.rv x.rs1) (s.rt x.rs1) (s.rv x.rs2) (s.rt x.rs2) s.sn s.nx) (hi : x.rd < 32) (ho : x.op = 28) : Calls Tryz.prog 69 #[.pointer (some ⟨sb, 0, none⟩)] w (MtP w M s sb x (exF M.x.l s x)) := by
  have hx : exF M.x.l s x = exBr s x := by unfold exF; rw [ho]; rfl
  rw [hx]
  obtain ⟨op, rd, rs1, rs2, imm⟩ := x
  simp only at ho
  subst ho
  exact (beq_any h).mono fun e w' hh => MtP.ok hh rfl rfl rfl rfl
theorem mt_29 {w : World} {M : Mc} {s : Ms} {sb : Nat} {x : In} (h : Mid w M s sb x (s.rv x.rs1) (s.rt x.rs1) (s.rv x.rs2) (s.rt x.rs2) s.sn s.nx) (hi : x.rd < 32) (ho : x.op = 29) : Calls Tryz.prog 70 #[.pointer (some ⟨sb, 0, none⟩)] w (MtP w M s sb x (exF M.x.l s x)) := by
  have hx : exF M.x.l s x = exBr s x := by unfold exF; rw [ho]; rfl
  rw [hx]
  obtain ⟨op, rd, rs1, rs2, imm⟩ := x
  simp only at ho
  subst ho
  exact (bne_any h).mono fun e w' hh => MtP.ok hh rfl rfl rfl rfl
theorem mt_30 {w : World} {M : Mc} {s : Ms} {sb : Nat} {x : In} (h : Mid w M s sb x (s.rv x.rs1) (s.rt x.rs1) (s.rv x.rs2) (s.rt x.rs2) s.sn s.nx) (hi : x.rd < 32) (ho : x.op = 30) : Calls Tryz.prog 71 #[.pointer (some ⟨sb, 0, none⟩)] w (MtP w M s sb x (exF M.x.l s x)) := by
  have hx : exF M.x.l s x = exBr s x := by unfold exF; rw [ho]; rfl
  rw [hx]
  obtain ⟨op, rd, rs1, rs2, imm⟩ := x
  simp only at ho
  subst ho
  exact (bltu_any h).mono fun e w' hh => MtP.ok hh rfl rfl rfl rfl
theorem mt_31 {w : World} {M : Mc} {s : Ms} {sb : Nat} {x : In} (h : Mid w M s sb x (s.rv x.rs1) (s.rt x.rs1) (s.rv x.rs2) (s.rt x.rs2) s.sn s.nx) (hi : x.rd < 32) (ho : x.op = 31) : Calls Tryz.prog 72 #[.pointer (some ⟨sb, 0, none⟩)] w (MtP w M s sb x (exF M.x.l s x)) := by
  have hx : exF M.x.l s x = exBr s x := by unfold exF; rw [ho]; rfl
  rw [hx]
  obtain ⟨op, rd, rs1, rs2, imm⟩ := x
  simp only at ho
  subst ho
  exact (bgeu_any h).mono fun e w' hh => MtP.ok hh rfl rfl rfl rfl
theorem mt_32 {w : World} {M : Mc} {s : Ms} {sb : Nat} {x : In} (h : Mid w M s sb x (s.rv x.rs1) (s.rt x.rs1) (s.rv x.rs2) (s.rt x.rs2) s.sn s.nx) (hi : x.rd < 32) (ho : x.op = 32) : Calls Tryz.prog 73 #[.pointer (some ⟨sb, 0, none⟩)] w (MtP w M s sb x (exF M.x.l s x)) := by
  have hx : exF M.x.l s x = exJal s x := by unfold exF; rw [ho]; rfl
  rw [hx]
  obtain ⟨op, rd, rs1, rs2, imm⟩ := x
  simp only at ho
  subst ho
  exact (jal_any h hi (sm_lt _ _)).mono fun e w' hh => MtP.ok hh rfl rfl rfl rfl
theorem mt_33 {w : World} {M : Mc} {s : Ms} {sb : Nat} {x : In} (h : Mid w M s sb x (s.rv x.rs1) (s.rt x.rs1) (s.rv x.rs2) (s.rt x.rs2) s.sn s.nx) (hi : x.rd < 32) (ho : x.op = 33) : Calls Tryz.prog 74 #[.pointer (some ⟨sb, 0, none⟩)] w (MtP w M s sb x (exF M.x.l s x)) := by
  have hx : exF M.x.l s x = exJalr s x := by unfold exF; rw [ho]; rfl
  rw [hx]
  obtain ⟨op, rd, rs1, rs2, imm⟩ := x
  simp only at ho
  subst ho
  exact (jalr_any h hi (sm_lt _ _)).mono fun e w' hh => MtP.ok hh rfl rfl rfl rfl
theorem mt_34 {w : World} {M : Mc} {s : Ms} {sb : Nat} {x : In} (h : Mid w M s sb x (s.rv x.rs1) (s.rt x.rs1) (s.rv x.rs2) (s.rt x.rs2) s.sn s.nx) (hk : s.told.length ≤ 1048576) (ho : x.op = 34) : Calls Tryz.prog 75 #[.pointer (some ⟨sb, 0, none⟩)] w (MtP w M s sb x (exF M.x.l s x)) := by
  have hx : exF M.x.l s x = exCall s := by unfold exF; rw [ho]; rfl
  rw [hx]
  by_cases h5 : 5 < s.rv 17
  · exact (ec_over h h5 ((exCall s).s.go s.pc) (exCall s).n (exCall s).s.pc).mono fun e w' hh => MtP.rm hh (if_pos h5) rfl rfl rfl
  · refine (ec_any h hk h5).mono fun e w' hh => MtP.rm hh (if_neg h5) ?_ rfl ?_
    · unfold exCall
      simp only
      by_cases h4 : s.rv 17 < 4
      · rw [if_pos h4, if_pos h4]; rfl
      · rw [if_neg h4, if_neg h4]
        by_cases h5' : s.rv 17 = 4
        · rw [if_pos h5', if_pos h5']; rfl
        · rw [if_neg h5', if_neg h5']; rfl
    · unfold exCall
      simp only
      by_cases h4 : s.rv 17 < 4
      · rw [if_pos h4, if_pos h4]; rfl
      · rw [if_neg h4, if_neg h4]
        by_cases h5' : s.rv 17 = 4
        · rw [if_pos h5']; rfl
        · rw [if_neg h5']; rfl
set_option maxRecDepth 100000 in
theorem mt_any {w : World} {M : Mc} {s : Ms} {sb : Nat} {x : In} (h : Mid w M s sb x (s.rv x.rs1) (s.rt x.rs1) (s.rv x.rs2) (s.rt x.rs2) s.sn s.nx) (hk : s.told.length ≤ 1048576) (hi : x.rd < 32) (ho : 1 ≤ x.op ∧ x.op ≤ 34) : Calls Tryz.prog (tgN x.op) #[.pointer (some ⟨sb, 0, none⟩)] w (MtP w M s sb x (exF M.x.l s x)) := by
  have hc : x.op = 1 ∨ x.op = 2 ∨ x.op = 3 ∨ x.op = 4 ∨ x.op = 5 ∨ x.op = 6 ∨ x.op = 7 ∨ x.op = 8 ∨ x.op = 9 ∨ x.op = 10 ∨ x.op = 11 ∨ x.op = 12 ∨ x.op = 13 ∨ x.op = 14 ∨ x.op = 15 ∨ x.op = 16 ∨ x.op = 17 ∨ x.op = 18 ∨ x.op = 19 ∨ x.op = 20 ∨ x.op = 21 ∨ x.op = 22 ∨ x.op = 23 ∨ x.op = 24 ∨ x.op = 25 ∨ x.op = 26 ∨ x.op = 27 ∨ x.op = 28 ∨ x.op = 29 ∨ x.op = 30 ∨ x.op = 31 ∨ x.op = 32 ∨ x.op = 33 ∨ x.op = 34 := by omega
  rcases hc with h0 | h0 | h0 | h0 | h0 | h0 | h0 | h0 | h0 | h0 | h0 | h0 | h0 | h0 | h0 | h0 | h0 | h0 | h0 | h0 | h0 | h0 | h0 | h0 | h0 | h0 | h0 | h0 | h0 | h0 | h0 | h0 | h0 | h0
  · rw [h0]; exact mt_1 h hi h0
  · rw [h0]; exact mt_2 h hi h0
  · rw [h0]; exact mt_3 h hi h0
  · rw [h0]; exact mt_4 h hi h0
  · rw [h0]; exact mt_5 h hi h0
  · rw [h0]; exact mt_6 h hi h0
  · rw [h0]; exact mt_7 h hi h0
  · rw [h0]; exact mt_8 h hi h0
  · rw [h0]; exact mt_9 h hi h0
  · rw [h0]; exact mt_10 h hi h0
  · rw [h0]; exact mt_11 h hi h0
  · rw [h0]; exact mt_12 h hi h0
  · rw [h0]; exact mt_13 h hi h0
  · rw [h0]; exact mt_14 h hi h0
  · rw [h0]; exact mt_15 h hi h0
  · rw [h0]; exact mt_16 h hi h0
  · rw [h0]; exact mt_17 h hi h0
  · rw [h0]; exact mt_18 h hi h0
  · rw [h0]; exact mt_19 h hi h0
  · rw [h0]; exact mt_20 h hi h0
  · rw [h0]; exact mt_21 h hi h0
  · rw [h0]; exact mt_22 h hi h0
  · rw [h0]; exact mt_23 h hi h0
  · rw [h0]; exact mt_24 h hi h0
  · rw [h0]; exact mt_25 h hi h0
  · rw [h0]; exact mt_26 h hi h0
  · rw [h0]; exact mt_27 h hi h0
  · rw [h0]; exact mt_28 h hi h0
  · rw [h0]; exact mt_29 h hi h0
  · rw [h0]; exact mt_30 h hi h0
  · rw [h0]; exact mt_31 h hi h0
  · rw [h0]; exact mt_32 h hi h0
  · rw [h0]; exact mt_33 h hi h0
  · rw [h0]; exact mt_34 h hk h0
end Go.Proofs.YtfaacmcnefbgcaaGreatDoor.m4
