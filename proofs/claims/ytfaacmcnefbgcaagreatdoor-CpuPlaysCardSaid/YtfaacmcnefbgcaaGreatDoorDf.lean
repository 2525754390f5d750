/- The document's machine: Step. -/
import Derived.Test.YtfaacmcnefbgcaaGreatDoorDe
import Derived.Test.YtfaacmcnefbgcaaGreatDoorJl
import Derived.Test.YtfaacmcnefbgcaaGreatDoorJi
namespace Go.Proofs.YtfaacmcnefbgcaaGreatDoor.m4
open Go.ChangeShapes Go.WideShapes Go.ChangeAt Go.RowKit
set_option linter.unusedVariables false
/-- What does answers, for any instruction. -/
theorem does_all {w : World} {D : Dc} {s : Ms} (h : IsD w D (s.go s.nx)) (hs : s.ok) (x : In) (ho : 1 ≤ x.op ∧ x.op ≤ 34) (h1 : x.rd < 32) (h2 : x.rs1 < 32) (h3 : x.rs2 < 32) (hk : s.told.length ≤ 1048576) :
    Calls Tryz.prog 31 #[.pointer (some ⟨D.db, 0, none⟩), .agg #[.int .u8 (x.op : Nat), .int .u8 (x.rd : Nat), .int .u8 (x.rs1 : Nat), .int .u8 (x.rs2 : Nat), .int .i64 x.imm], .agg #[.int .u64 (s.pc : Nat), .int .u8 1, .int .u64 0, .int .u64 0, .bool false]] w (DsP w D (s.go s.nx) (exF D.y.l s x).e (exF D.y.l s x).s (exF D.y.l s x).n) := by
  unfold exF
  by_cases c1 : x.op ≤ 12
  · rw [if_pos c1]; exact does_two h x s.pc ⟨ho.1, c1⟩ h1 h2 h3
  rw [if_neg c1]
  by_cases c2 : x.op ≤ 14
  · rw [if_pos c2]
    by_cases c3 : x.op = 13
    · exact does_13 h x s.pc ⟨by omega, by omega⟩ h1 h2 h3
    · exact does_14 h x s.pc ⟨by omega, by omega⟩ h1 h2 h3
  rw [if_neg c2]
  by_cases c4 : x.op ≤ 22
  · rw [if_pos c4]; exact does_num h x s.pc ⟨by omega, c4⟩ h1 h2 h3
  rw [if_neg c4]
  by_cases c5 : x.op = 23
  · rw [if_pos c5]; exact does_lui h x s.pc ⟨by omega, by omega⟩ h1 h2 h3
  rw [if_neg c5]
  by_cases c6 : x.op = 24
  · rw [if_pos c6]; exact does_m24 h x s.pc ⟨by omega, by omega⟩ h1 h2 h3
  rw [if_neg c6]
  by_cases c7 : x.op = 25
  · rw [if_pos c7]; exact does_m25 h x s.pc ⟨by omega, by omega⟩ h1 h2 h3
  rw [if_neg c7]
  by_cases c8 : x.op = 26
  · rw [if_pos c8]; exact does_m26 h x s.pc ⟨by omega, by omega⟩ h1 h2 h3
  rw [if_neg c8]
  by_cases c9 : x.op = 27
  · rw [if_pos c9]; exact does_m27 h x s.pc ⟨by omega, by omega⟩ h1 h2 h3
  rw [if_neg c9]
  by_cases d1 : x.op ≤ 31
  · rw [if_pos d1]
    have := does_br h x s.pc ⟨by omega, d1⟩ h1 h2 h3
    have e : (if goesB x.op ((s.go s.nx).rv x.rs1) ((s.go s.nx).rv x.rs2) = true then (s.go s.nx).go (sm s.pc (uw x.imm)) else s.go s.nx) = (exBr s x).s := by
      show (if goesB x.op (s.rv x.rs1) (s.rv x.rs2) = true then _ else _) = s.go (if goesB x.op (s.rv x.rs1) (s.rv x.rs2) = true then sm s.pc (uw x.imm) else s.nx)
      by_cases g : goesB x.op (s.rv x.rs1) (s.rv x.rs2) = true
      · rw [if_pos g, if_pos g]; rfl
      · rw [if_neg g, if_neg g]
    rw [e] at this
    exact this
  rw [if_neg d1]
  by_cases d2 : x.op = 32
  · rw [if_pos d2]; exact does_jal h x s.pc ⟨by omega, by omega⟩ h1 h2 h3
  rw [if_neg d2]
  by_cases d3 : x.op = 33
  · rw [if_pos d3]; exact does_jalr h x s.pc ⟨by omega, by omega⟩ h1 h2 h3
  rw [if_neg d3]
  have d4 : 34 ≤ x.op ∧ x.op ≤ 34 := by omega
  unfold exCall
  by_cases e1 : 5 < s.rv 17
  · rw [if_pos e1, if_neg (by omega), if_neg (by omega)]; exact does_cw h x s.pc d4 h1 h2 h3 e1
  rw [if_neg e1]
  by_cases e2 : s.rv 17 < 4
  · rw [if_pos e2]; exact does_ch h x s.pc d4 h1 h2 h3 e2 hs.p rfl
  rw [if_neg e2]
  by_cases e3 : s.rv 17 = 4
  · rw [if_pos e3]; exact does_ct h x s.pc d4 h1 h2 h3 e3 hk
  · rw [if_neg e3]; exact does_cs h x s.pc d4 h1 h2 h3 (by show s.rv 17 = 5; omega)
/-- What Step leaves. -/
def StD (w : World) (D : Dc) (r : Int × Ms) (e : Ending) (w' : World) : Prop := ∃ D', Dc.nxt w D D' ∧ e = .returned (.int .i64 r.1) ∧ IsD w' D' r.2 ∧ Only D.own w w'

set_option maxRecDepth 100000 in
set_option maxHeartbeats 8000000 in
theorem rs_over {w : World} {D : Dc} {s : Ms} (h : IsD w D s) (ho : s.ov = true) : Calls Tryz.prog 9 #[.pointer (some ⟨D.db, 0, none⟩)] w (StD w D ((50, s))) := by
  have e66 := h.e66
  rw [ho] at e66
  have hl := h.lt
  go_enter Tryz.func9, Tryz.ntmps9
  go_wp2
  go_ret
  exact ⟨D, Dc.nxt_refl _ _, rfl, h, Only.refl _ _⟩
set_option maxRecDepth 100000 in
set_option maxHeartbeats 8000000 in
theorem rs_full {w : World} {D : Dc} {s : Ms} (h : IsD w D s) (ho : s.ov = false) (hf : s.tr.length = 1048576) : Calls Tryz.prog 9 #[.pointer (some ⟨D.db, 0, none⟩)] w (StD w D ((4, s))) := by
  have e66 := h.e66
  rw [ho] at e66
  have hl := h.lt
  obtain ⟨ar, cr, hvr, _⟩ := sn_of h.rowR
  have e70 := h.e70
  rw [hvr, hf] at e70
  go_enter Tryz.func9, Tryz.ntmps9
  go_wp2
  go_ret
  exact ⟨D, Dc.nxt_refl _ _, rfl, h, Only.refl _ _⟩
set_option maxRecDepth 100000 in
set_option maxHeartbeats 8000000 in
theorem step_fault {w : World} {D : Dc} {s : Ms} (h : IsD w D s) (ho : s.ov = false) (hf : ¬ s.tr.length = 1048576) {fv : Nat} {fe : Int} (hfe : feF D.y.l s.bv s.pc = (fv, fe)) (hne : fe ≠ 0) : Calls Tryz.prog 9 #[.pointer (some ⟨D.db, 0, none⟩)] w (StD w D ((fe, s.bad fe))) := by
  have e66 := h.e66
  rw [ho] at e66
  have hl := h.lt
  obtain ⟨ar, cr, hvr, _⟩ := sn_of h.rowR
  have e70 := h.e70
  rw [hvr] at e70
  obtain ⟨N, hN⟩ : ∃ N, s.tr.length = N := ⟨_, rfl⟩
  rw [hN] at e70 hf
  have hN2 := h.ok.n
  rw [hN] at hN2
  have hge : ¬ (1048576 : Int) ≤ (N : Int) := by omega
  have HN := Lib.hid hN
  have hN3 : N ≤ 1048575 := by omega
  have HN3 := Lib.hid hN3
  clear hN hN3 hN2 hf
  have hFe : ∀ w', IsD w' D s → Calls Tryz.prog 28 #[.pointer (some ⟨D.y.rb, 0, none⟩), .int .u64 (s.pc : Nat)] w' fun e w'' => e = .returned (.tuple #[.int .u32 (fv : Nat), .int .i64 fe]) ∧ Below w'.heap.size w' w'' := fun w' hI => by
    have := rfetch_any s.pc h.ok.p w' hI.mem
    rw [hfe] at this
    exact this
  have e0 := h.e0
  have e1 := h.e1
  have hnb : (fe == 0) = false := by simp [hne]
  go_enter Tryz.func9, Tryz.ntmps9
  go_wp2
  refine region_below (by kernel_rfl) (by kernel_rfl) ?_
  repeat (first
    | go_big_quiet_skip
    | (refine BigFrame.wpQuiet_want (by kernel_rfl) fun K hK => ?_
       apply Exists.intro
       refine ⟨fun w' hb' => ?_, ?_⟩
       · have s0 := stay hb' e0
         have s1 := stay hb' e1
         go_simp
         first
           | exact rfl
           | exact ⟨rfl, hb'⟩
           | (go_at_call 28
              exact (hFe w' (h.of hb')).mono fun e w'' ⟨he, hb2⟩ => ⟨he, below_trans' hb' (Nat.le_refl _) hb2⟩)
       go_simp
       refine hK _ ?_
       clear hK K))
  refine wpQuiet_nil ?_
  intro w1 hb1
  have hD1 := h.of hb1
  clear hge e70 e66 hvr
  go_wp2_with (go_at_call 29; (have hcall := dwrong_any hD1 fe); (with_reducible refine hcall.mono ?_); (clear hcall); (rintro e w2 ⟨rfl, hD2, hO2⟩); skip)
  go_ret
  exact ⟨D, Dc.nxt_refl _ _, rfl, hD2, (only_below hb1).trans (hO2.mono (fun j hj => hj ▸ own_db))⟩
set_option maxRecDepth 100000 in
set_option maxHeartbeats 8000000 in
theorem step_form {w : World} {D : Dc} {s : Ms} (h : IsD w D s) (ho : s.ov = false) (hf : ¬ s.tr.length = 1048576) {fv : Nat} {fe : Int} (hfe : feF D.y.l s.bv s.pc = (fv, fe)) (hz : fe = 0) (hd : decN fv = none) : Calls Tryz.prog 9 #[.pointer (some ⟨D.db, 0, none⟩)] w (StD w D ((7, s.bad 7))) := by
  have hfl : fv < 4294967296 := by have := feF_lt (l := D.y.l) (p := s.pc) h.ok.b; rw [hfe] at this; exact this
  have e66 := h.e66
  rw [ho] at e66
  have hl := h.lt
  obtain ⟨ar, cr, hvr, _⟩ := sn_of h.rowR
  have e70 := h.e70
  rw [hvr] at e70
  obtain ⟨N, hN⟩ : ∃ N, s.tr.length = N := ⟨_, rfl⟩
  rw [hN] at e70 hf
  have hN2 := h.ok.n
  rw [hN] at hN2
  have hge : ¬ (1048576 : Int) ≤ (N : Int) := by omega
  have HN := Lib.hid hN
  have hN3 : N ≤ 1048575 := by omega
  have HN3 := Lib.hid hN3
  clear hN hN3 hN2 hf
  have hFe : ∀ w', IsD w' D s → Calls Tryz.prog 28 #[.pointer (some ⟨D.y.rb, 0, none⟩), .int .u64 (s.pc : Nat)] w' fun e w'' => e = .returned (.tuple #[.int .u32 (fv : Nat), .int .i64 fe]) ∧ Below w'.heap.size w' w'' := fun w' hI => by
    have := rfetch_any s.pc h.ok.p w' hI.mem
    rw [hfe] at this
    exact this
  have e0 := h.e0
  have e1 := h.e1
  subst hz
  have hDc := fun w' => rdec_any fv hfl w'
  have hA : decA fv = ⟨0, 0, 0, 0, 0⟩ := by unfold decA; rw [hd]; rfl
  have hE : decE fv = 7 := by unfold decE; rw [hd]; rfl
  simp only [hA, hE, inC, Int.natCast_zero] at hDc
  go_enter Tryz.func9, Tryz.ntmps9
  go_wp2
  refine region_below (by kernel_rfl) (by kernel_rfl) ?_
  repeat (first
    | go_big_quiet_skip
    | (refine BigFrame.wpQuiet_want (by kernel_rfl) fun K hK => ?_
       apply Exists.intro
       refine ⟨fun w' hb' => ?_, ?_⟩
       · have s0 := stay hb' e0
         have s1 := stay hb' e1
         go_simp
         first
           | exact rfl
           | exact ⟨rfl, hb'⟩
           | (go_at_call 28
              exact (hFe w' (h.of hb')).mono fun e w'' ⟨he, hb2⟩ => ⟨he, below_trans' hb' (Nat.le_refl _) hb2⟩)
       go_simp
       refine hK _ ?_
       clear hK K))
  refine wpQuiet_nil ?_
  intro w1 hb1
  have hD1 := h.of hb1
  clear hge e70 e66 hvr
  go_wp2_with (first | (go_at_call 30; (have hcall := hDc w1); (with_reducible refine hcall.mono ?_); (clear hcall); (rintro e w2 ⟨rfl, hb2⟩); have hB3 := aBelow hb2 (.cells #[.int .u8 0, .int .u8 0, .int .u8 0, .int .u8 0, .int .i64 0] 48); have hD3 := hD1.of hB3) | (go_at_call 29; (have hcall := dwrong_any hD3 7); (with_reducible refine hcall.mono ?_); (clear hcall); (rintro e w4 ⟨rfl, hD4, hO4⟩); skip))
  go_ret
  exact ⟨D, Dc.nxt_refl _ _, rfl, hD4, ((only_below hb1).trans (only_below hB3)).trans (hO4.mono (fun j hj => hj ▸ own_db))⟩
theorem sn_ext {a b : Sn} (h1 : a.pc = b.pc) (h2 : a.k = b.k) (h3 : a.a = b.a) (h4 : a.b = b.b) (h5 : a.t = b.t) : a = b := by
  cases a; cases b; simp only at h1 h2 h3 h4 h5; subst h1 h2 h3 h4 h5; rfl
theorem snC_inj {a b : Sn} (h : [Value.int .u64 (a.pc : Nat), .int .u8 (a.k : Nat), .int .u64 (a.a : Nat), .int .u64 (a.b : Nat), .bool a.t] = snC b) : a = b := by
  unfold snC at h
  simp only [List.cons.injEq, Value.int.injEq, Value.bool.injEq, true_and, and_true] at h
  obtain ⟨g1, g2, g3, g4, g5⟩ := h
  exact sn_ext (by omega) (by omega) (by omega) (by omega) g5
theorem only_old5 {S T : Nat → Prop} {a b c : World} (h : Only T a b) (k : Only S b c) (hs : ∀ j, S j → T j ∨ a.heap.size ≤ j) : Only T a c :=
  ⟨k.os.trans h.os, k.tape.trans h.tape, k.output.trans h.output, Nat.le_trans h.size k.size, fun j hj ht => (k.block j (Nat.lt_of_lt_of_le hj h.size) (fun hh => (hs j hh).elim (fun h1 => ht h1) (fun h1 => absurd hj (by omega)))).trans (h.block j hj ht)⟩
theorem dnxt_trans5 {w : World} {D D1 D2 : Dc} (h : Dc.nxt w D D1) (k : Dc.nxt w D1 D2) : Dc.nxt w D D2 := ⟨k.1.trans h.1, k.2.1.trans h.2.1, fun j hj => by
  rcases k.2.2 j hj with h1 | h1
  · exact h.2.2 j h1
  · exact .inr h1⟩
theorem wrong5 {w : World} {D D5 : Dc} {s : Ms} (hdb : D5.db = D.db) (h : IsD w D5 s) (k : Int) :
    Calls Tryz.prog 29 #[.pointer (some ⟨D.db, 0, none⟩), .int .i64 k] w fun e w' => e = .returned (.int .i64 k) ∧ IsD w' D5 (s.bad k) ∧ Only (fun j => j = D.db) w w' := by
  rw [← hdb]; exact dwrong_any h k
set_option maxRecDepth 100000 in
set_option maxHeartbeats 8000000 in
theorem step_err {w : World} {D : Dc} {s : Ms} (h : IsD w D s) (hk : s.told.length ≤ 1048576) (ho : s.ov = false) (hf : ¬ s.tr.length = 1048576) {fv : Nat} {fe : Int} (hfe : feF D.y.l s.bv s.pc = (fv, fe)) (hz : fe = 0) {x : In} (hd : decN fv = some x) (hre : (exF D.y.l s x).e ≠ 0) : Calls Tryz.prog 9 #[.pointer (some ⟨D.db, 0, none⟩)] w (StD w D (((exF D.y.l s x).e, s.bad (exF D.y.l s x).e))) := by
  have hfl : fv < 4294967296 := by have := feF_lt (l := D.y.l) (p := s.pc) h.ok.b; rw [hfe] at this; exact this
  obtain ⟨ho1, h1, h2, h3⟩ := dec_regs hd
  have e66 := h.e66
  rw [ho] at e66
  have hl := h.lt
  obtain ⟨ar, cr, hvr, _⟩ := sn_of h.rowR
  have e70 := h.e70
  rw [hvr] at e70
  obtain ⟨N, hN⟩ : ∃ N, s.tr.length = N := ⟨_, rfl⟩
  rw [hN] at e70 hf
  have hN2 := h.ok.n
  rw [hN] at hN2
  have hge : ¬ (1048576 : Int) ≤ (N : Int) := by omega
  have HN := Lib.hid hN
  have hN3 : N ≤ 1048575 := by omega
  have HN3 := Lib.hid hN3
  clear hN hN3 hN2 hf
  have hFe : ∀ w', IsD w' D s → Calls Tryz.prog 28 #[.pointer (some ⟨D.y.rb, 0, none⟩), .int .u64 (s.pc : Nat)] w' fun e w'' => e = .returned (.tuple #[.int .u32 (fv : Nat), .int .i64 fe]) ∧ Below w'.heap.size w' w'' := fun w' hI => by
    have := rfetch_any s.pc h.ok.p w' hI.mem
    rw [hfe] at this
    exact this
  have e0 := h.e0
  have e1 := h.e1
  subst hz
  have hDc := fun w' => rdec_any fv hfl w'
  have hA : decA fv = x := by unfold decA; rw [hd]; rfl
  have hE : decE fv = 0 := by unfold decE; rw [hd]; rfl
  simp only [hA, hE, inC] at hDc
  have h4 : IntKind.u64.wrap ((s.pc : Int) + 4) = (s.nx : Nat) := sm_wrap s.pc 4
  have hnl : s.nx < 18446744073709551616 := sm_lt _ _
  obtain ⟨r, hr⟩ : ∃ r, exF D.y.l s x = r := ⟨_, rfl⟩
  obtain ⟨rk, hrk⟩ : ∃ k, r.e = k := ⟨_, rfl⟩
  have hDoes : ∀ w', IsD w' D (s.go s.nx) → Calls Tryz.prog 31 #[.pointer (some ⟨D.db, 0, none⟩), .agg #[.int .u8 (x.op : Nat), .int .u8 (x.rd : Nat), .int .u8 (x.rs1 : Nat), .int .u8 (x.rs2 : Nat), .int .i64 x.imm], .agg #[.int .u64 (s.pc : Nat), .int .u8 1, .int .u64 0, .int .u64 0, .bool false]] w' (DsP w' D (s.go s.nx) r.e r.s r.n) := fun w' hI => by
    have := does_all hI h.ok x ho1 h1 h2 h3 hk
    rw [hr] at this
    exact this
  rw [hr] at hre ⊢
  rw [hrk] at hDoes hre ⊢
  have hrl : r.s.tr.length = N := by rw [← hr, (exF_told D.y.l s x).2]; exact HN.out
  have HRL := Lib.hid hrl
  clear hrl
  clear hr
  have hrb : (rk == 0) = false := by simp [hre]
  go_enter Tryz.func9, Tryz.ntmps9
  go_wp2
  refine region_below (by kernel_rfl) (by kernel_rfl) ?_
  repeat (first
    | go_big_quiet_skip
    | (refine BigFrame.wpQuiet_want (by kernel_rfl) fun K hK => ?_
       apply Exists.intro
       refine ⟨fun w' hb' => ?_, ?_⟩
       · have s0 := stay hb' e0
         have s1 := stay hb' e1
         go_simp
         first
           | exact rfl
           | exact ⟨rfl, hb'⟩
           | (go_at_call 28
              exact (hFe w' (h.of hb')).mono fun e w'' ⟨he, hb2⟩ => ⟨he, below_trans' hb' (Nat.le_refl _) hb2⟩)
       go_simp
       refine hK _ ?_
       clear hK K))
  refine wpQuiet_nil ?_
  intro w1 hb1
  have hD1 := h.of hb1
  clear hge e70 e66 hvr
  go_wp2_with (first | (go_at_call 30; (have hcall := hDc w1); (with_reducible refine hcall.mono ?_); (clear hcall); (rintro e w2 ⟨rfl, hb2⟩); obtain ⟨w3, hw3⟩ : ∃ w3, w2.alloc (.cells #[.int .u8 (x.op : Nat), .int .u8 (x.rd : Nat), .int .u8 (x.rs1 : Nat), .int .u8 (x.rs2 : Nat), .int .i64 x.imm] 48) = w3 := ⟨_, rfl⟩; have hB3 : Below w1.heap.size w1 w3 := (by rw [← hw3]; exact aBelow hb2 _); have hD3 := hD1.of hB3; have bx : rowG #[.int .u8 (x.op : Nat), .int .u8 (x.rd : Nat), .int .u8 (x.rs1 : Nat), .int .u8 (x.rs2 : Nat), .int .i64 x.imm] w3 w2.heap.size := (by rw [← hw3]; exact rowG_at _ _ _ _ rfl); have x0 := bx.1 0 (by simp); have x1 := bx.1 1 (by simp); have x2 := bx.1 2 (by simp); have x3 := bx.1 3 (by simp); have x4 := bx.1 4 (by simp); have xl := bx.2.2; have d1 := hD3.e1; have df := hD3.fz 1; have dl := hD3.lt; have hne3 : w2.heap.size ≠ D.db := (by have := h.lt; have := hb1.size; have := hb2.size; omega); have hlt3 : D.db < w2.heap.size := (by have := h.lt; have := hb1.size; have := hb2.size; omega); have hD4 := hD3.setPc (v := s.nx) hnl; have hS4 : Only D.own w (w3.setCell ⟨D.db, 1, none⟩ (.int .u64 (s.nx : Nat))) := (((only_below hb1).trans (only_below hB3)).trans ((only_one w3 D.db 1 (.int .u64 (s.nx : Nat))).mono (fun j hj => hj ▸ own_db)))) | (go_at_call 31; (have hcall := hDoes _ hD4); (with_reducible refine hcall.mono ?_); (clear hcall); (rintro e w5 ⟨D5, c0, c1, c2, c3, c4, hn5, rfl, ⟨n0, hn0⟩, hp5, hq5, hO5⟩); change [c0, c1, c2, c3, c4] = [.int .u64 (n0.pc : Nat), .int .u8 (n0.k : Nat), .int .u64 (n0.a : Nat), .int .u64 (n0.b : Nat), .bool n0.t] at hn0; simp only [List.cons.injEq, and_true] at hn0; obtain ⟨rfl, rfl, rfl, rfl, rfl⟩ := hn0; obtain ⟨w6, hw6⟩ : ∃ w6, w5.alloc (.cells #[.int .u64 (n0.pc : Nat), .int .u8 (n0.k : Nat), .int .u64 (n0.a : Nat), .int .u64 (n0.b : Nat), .bool n0.t] 82) = w6 := ⟨_, rfl⟩; have hb6 : Below w5.heap.size w5 w6 := (by rw [← hw6]; exact aBelow (Below.refl _ _) _); have bs : rowG #[.int .u64 (n0.pc : Nat), .int .u8 (n0.k : Nat), .int .u64 (n0.a : Nat), .int .u64 (n0.b : Nat), .bool n0.t] w6 w5.heap.size := (by rw [← hw6]; exact rowG_at _ _ _ _ rfl); have hD6 := (hq5 hre).of hb6; have hdb : D5.db = D.db := hn5.1; have k1 := hD6.e1; have kf := hD6.fz 1; have kl := hD6.lt; rw [hdb] at k1 kf kl; have hD7 := hD6.setPc (v := s.pc) h.ok.p; rw [hdb] at hD7; have hS6 := (hS4.trans hO5).trans (only_below hb6)) | (go_at_call 29; (have hcall := wrong5 hdb hD7 rk); (with_reducible refine hcall.mono ?_); (clear hcall); (rintro e w8 ⟨rfl, hD8, hO8⟩); skip))
  go_ret
  have hz3 : w.heap.size ≤ w3.heap.size := Nat.le_trans hb1.size hB3.size
  exact ⟨D5, dnxt_pre hn5 (by rw [World.size_setCell]; exact hz3), rfl, hD8, ((hS6.trans ((only_one w6 D.db 1 (.int .u64 (s.pc : Nat))).mono (fun j hj => hj ▸ own_db))).trans (hO8.mono (fun j hj => hj ▸ own_db)))⟩
set_option maxRecDepth 100000 in
set_option maxHeartbeats 8000000 in
theorem step_ok {w : World} {D : Dc} {s : Ms} (h : IsD w D s) (hk : s.told.length ≤ 1048576) (ho : s.ov = false) (hf : ¬ s.tr.length = 1048576) {fv : Nat} {fe : Int} (hfe : feF D.y.l s.bv s.pc = (fv, fe)) (hz : fe = 0) {x : In} (hd : decN fv = some x) (hre : (exF D.y.l s x).e = 0) : Calls Tryz.prog 9 #[.pointer (some ⟨D.db, 0, none⟩)] w (StD w D ((0, (exF D.y.l s x).s.seen (exF D.y.l s x).n))) := by
  have hfl : fv < 4294967296 := by have := feF_lt (l := D.y.l) (p := s.pc) h.ok.b; rw [hfe] at this; exact this
  obtain ⟨ho1, h1, h2, h3⟩ := dec_regs hd
  have e66 := h.e66
  rw [ho] at e66
  have hl := h.lt
  obtain ⟨ar, cr, hvr, _⟩ := sn_of h.rowR
  have e70 := h.e70
  rw [hvr] at e70
  obtain ⟨N, hN⟩ : ∃ N, s.tr.length = N := ⟨_, rfl⟩
  rw [hN] at e70 hf
  have hN2 := h.ok.n
  rw [hN] at hN2
  have hge : ¬ (1048576 : Int) ≤ (N : Int) := by omega
  have HN := Lib.hid hN
  have hN3 : N ≤ 1048575 := by omega
  have HN3 := Lib.hid hN3
  clear hN hN3 hN2 hf
  have hFe : ∀ w', IsD w' D s → Calls Tryz.prog 28 #[.pointer (some ⟨D.y.rb, 0, none⟩), .int .u64 (s.pc : Nat)] w' fun e w'' => e = .returned (.tuple #[.int .u32 (fv : Nat), .int .i64 fe]) ∧ Below w'.heap.size w' w'' := fun w' hI => by
    have := rfetch_any s.pc h.ok.p w' hI.mem
    rw [hfe] at this
    exact this
  have e0 := h.e0
  have e1 := h.e1
  subst hz
  have hDc := fun w' => rdec_any fv hfl w'
  have hA : decA fv = x := by unfold decA; rw [hd]; rfl
  have hE : decE fv = 0 := by unfold decE; rw [hd]; rfl
  simp only [hA, hE, inC] at hDc
  have h4 : IntKind.u64.wrap ((s.pc : Int) + 4) = (s.nx : Nat) := sm_wrap s.pc 4
  have hnl : s.nx < 18446744073709551616 := sm_lt _ _
  obtain ⟨r, hr⟩ : ∃ r, exF D.y.l s x = r := ⟨_, rfl⟩
  obtain ⟨rk, hrk⟩ : ∃ k, r.e = k := ⟨_, rfl⟩
  have hDoes : ∀ w', IsD w' D (s.go s.nx) → Calls Tryz.prog 31 #[.pointer (some ⟨D.db, 0, none⟩), .agg #[.int .u8 (x.op : Nat), .int .u8 (x.rd : Nat), .int .u8 (x.rs1 : Nat), .int .u8 (x.rs2 : Nat), .int .i64 x.imm], .agg #[.int .u64 (s.pc : Nat), .int .u8 1, .int .u64 0, .int .u64 0, .bool false]] w' (DsP w' D (s.go s.nx) r.e r.s r.n) := fun w' hI => by
    have := does_all hI h.ok x ho1 h1 h2 h3 hk
    rw [hr] at this
    exact this
  rw [hr] at hre ⊢
  rw [hrk] at hDoes hre
  have hrl : r.s.tr.length = N := by rw [← hr, (exF_told D.y.l s x).2]; exact HN.out
  have HRL := Lib.hid hrl
  clear hrl
  clear hr
  have HRK := Lib.hid hre
  subst hre
  go_enter Tryz.func9, Tryz.ntmps9
  go_wp2
  refine region_below (by kernel_rfl) (by kernel_rfl) ?_
  repeat (first
    | go_big_quiet_skip
    | (refine BigFrame.wpQuiet_want (by kernel_rfl) fun K hK => ?_
       apply Exists.intro
       refine ⟨fun w' hb' => ?_, ?_⟩
       · have s0 := stay hb' e0
         have s1 := stay hb' e1
         go_simp
         first
           | exact rfl
           | exact ⟨rfl, hb'⟩
           | (go_at_call 28
              exact (hFe w' (h.of hb')).mono fun e w'' ⟨he, hb2⟩ => ⟨he, below_trans' hb' (Nat.le_refl _) hb2⟩)
       go_simp
       refine hK _ ?_
       clear hK K))
  refine wpQuiet_nil ?_
  intro w1 hb1
  have hD1 := h.of hb1
  clear hge e70 e66 hvr
  go_wp2_with (first | (go_at_call 30; (have hcall := hDc w1); (with_reducible refine hcall.mono ?_); (clear hcall); (rintro e w2 ⟨rfl, hb2⟩); obtain ⟨w3, hw3⟩ : ∃ w3, w2.alloc (.cells #[.int .u8 (x.op : Nat), .int .u8 (x.rd : Nat), .int .u8 (x.rs1 : Nat), .int .u8 (x.rs2 : Nat), .int .i64 x.imm] 48) = w3 := ⟨_, rfl⟩; have hB3 : Below w1.heap.size w1 w3 := (by rw [← hw3]; exact aBelow hb2 _); have hD3 := hD1.of hB3; have bx : rowG #[.int .u8 (x.op : Nat), .int .u8 (x.rd : Nat), .int .u8 (x.rs1 : Nat), .int .u8 (x.rs2 : Nat), .int .i64 x.imm] w3 w2.heap.size := (by rw [← hw3]; exact rowG_at _ _ _ _ rfl); have x0 := bx.1 0 (by simp); have x1 := bx.1 1 (by simp); have x2 := bx.1 2 (by simp); have x3 := bx.1 3 (by simp); have x4 := bx.1 4 (by simp); have xl := bx.2.2; have d1 := hD3.e1; have df := hD3.fz 1; have dl := hD3.lt; have hne3 : w2.heap.size ≠ D.db := (by have := h.lt; have := hb1.size; have := hb2.size; omega); have hlt3 : D.db < w2.heap.size := (by have := h.lt; have := hb1.size; have := hb2.size; omega); have hD4 := hD3.setPc (v := s.nx) hnl; have hS4 : Only D.own w (w3.setCell ⟨D.db, 1, none⟩ (.int .u64 (s.nx : Nat))) := (((only_below hb1).trans (only_below hB3)).trans ((only_one w3 D.db 1 (.int .u64 (s.nx : Nat))).mono (fun j hj => hj ▸ own_db)))) | (go_at_call 31; (have hcall := hDoes _ hD4); (with_reducible refine hcall.mono ?_); (clear hcall); (rintro e w5 ⟨D5, c0, c1, c2, c3, c4, hn5, rfl, ⟨n0, hn0⟩, hp5, hq5, hO5⟩); change [c0, c1, c2, c3, c4] = [.int .u64 (n0.pc : Nat), .int .u8 (n0.k : Nat), .int .u64 (n0.a : Nat), .int .u64 (n0.b : Nat), .bool n0.t] at hn0; simp only [List.cons.injEq, and_true] at hn0; obtain ⟨rfl, rfl, rfl, rfl, rfl⟩ := hn0; obtain ⟨hcs, hD5⟩ := hp5 rfl; clear hp5; have hnn := snC_inj hcs; clear hcs; subst hnn; obtain ⟨w6, hw6⟩ : ∃ w6, w5.alloc (.cells #[.int .u64 (r.n.pc : Nat), .int .u8 (r.n.k : Nat), .int .u64 (r.n.a : Nat), .int .u64 (r.n.b : Nat), .bool r.n.t] 82) = w6 := ⟨_, rfl⟩; have hb6 : Below w5.heap.size w5 w6 := (by rw [← hw6]; exact aBelow (Below.refl _ _) _); have bs : rowG #[.int .u64 (r.n.pc : Nat), .int .u8 (r.n.k : Nat), .int .u64 (r.n.a : Nat), .int .u64 (r.n.b : Nat), .bool r.n.t] w6 w5.heap.size := (by rw [← hw6]; exact rowG_at _ _ _ _ rfl)))
  have hD6 := hD5.of hb6
  have hdb : D5.db = D.db := hn5.1
  have hS6 := (hS4.trans hO5).trans (only_below hb6)
  obtain ⟨iS, hiS, zS0, zS1, zS2⟩ := info_parts infoSn
  have c70 := hD6.e70
  rw [hdb] at c70
  have b0 := bs.1 0 (by simp)
  have b1 := bs.1 1 (by simp)
  have b2 := bs.1 2 (by simp)
  have b3 := bs.1 3 (by simp)
  have b4 := bs.1 4 (by simp)
  obtain ⟨sb, hsb⟩ : ∃ k, w5.heap.size = k := ⟨_, rfl⟩
  rw [hsb] at b0 b1 b2 b3 b4 ⊢
  have hbl := World.block_lt_of_cell? w6 _ b0
  have hNr : r.s.tr.length ≤ 1048575 := by rw [HRL.out]; exact HN3.out
  clear x0 x1 x2 x3 x4 d1 df dl hw6 hw3 hDoes hDc hFe xl bx bs hq5
  have hBW : Below w6.heap.size w6 (w6.alloc (.cells #[.int .u64 (r.n.pc : Nat), .int .u8 (r.n.k : Nat), .int .u64 (r.n.a : Nat), .int .u64 (r.n.b : Nat), .bool r.n.t] 82)).drew := bd1 (aBelow (Below.refl _ _) _)
  have owR := own_of hD6.rowR hBW
  have nS := news2 w6 #[.int .u64 (r.n.pc : Nat), .int .u8 (r.n.k : Nat), .int .u64 (r.n.a : Nat), .int .u64 (r.n.b : Nat), .bool r.n.t] 82
  have hF0 : (fun w' : World => w'.cell? ⟨D.db, 70, none⟩ = some D5.vr ∧ w'.cell? ⟨sb, 0, none⟩ = some (.int .u64 (r.n.pc : Nat)) ∧ w'.cell? ⟨sb, 1, none⟩ = some (.int .u8 (r.n.k : Nat)) ∧ w'.cell? ⟨sb, 2, none⟩ = some (.int .u64 (r.n.a : Nat)) ∧ w'.cell? ⟨sb, 3, none⟩ = some (.int .u64 (r.n.b : Nat)) ∧ w'.cell? ⟨sb, 4, none⟩ = some (.bool r.n.t)) w6.drew := ⟨c70, b0, b1, b2, b3, b4⟩
  have hF1 : (fun w' : World => w'.cell? ⟨D.db, 70, none⟩ = some D5.vr ∧ w'.cell? ⟨sb, 0, none⟩ = some (.int .u64 (r.n.pc : Nat)) ∧ w'.cell? ⟨sb, 1, none⟩ = some (.int .u8 (r.n.k : Nat)) ∧ w'.cell? ⟨sb, 2, none⟩ = some (.int .u64 (r.n.a : Nat)) ∧ w'.cell? ⟨sb, 3, none⟩ = some (.int .u64 (r.n.b : Nat)) ∧ w'.cell? ⟨sb, 4, none⟩ = some (.bool r.n.t)) (w6.alloc (.cells #[.int .u64 (r.n.pc : Nat), .int .u8 (r.n.k : Nat), .int .u64 (r.n.a : Nat), .int .u64 (r.n.b : Nat), .bool r.n.t] 82)).drew := ⟨stay hBW c70, stay hBW b0, stay hBW b1, stay hBW b2, stay hBW b3, stay hBW b4⟩
  have ndb : ¬ some D.db = D5.vr.ownBlock := fun e => by rw [← hdb] at e; exact (hD6.n3 _ e.symm).1 rfl
  have nsb : ¬ some sb = D5.vr.ownBlock := fun e => by have := own_lt hD5.rowR e.symm; omega
  go_wp2
  refine region_F (fun w' : World => w'.cell? ⟨D.db, 70, none⟩ = some D5.vr ∧ w'.cell? ⟨sb, 0, none⟩ = some (.int .u64 (r.n.pc : Nat)) ∧ w'.cell? ⟨sb, 1, none⟩ = some (.int .u8 (r.n.k : Nat)) ∧ w'.cell? ⟨sb, 2, none⟩ = some (.int .u64 (r.n.a : Nat)) ∧ w'.cell? ⟨sb, 3, none⟩ = some (.int .u64 (r.n.b : Nat)) ∧ w'.cell? ⟨sb, 4, none⟩ = some (.bool r.n.t)) 10 (by kernel_rfl) ?_
  refine wpAnyF_take (i := 0) rfl (by kernel_rfl) (by kernel_rfl) (by kernel_rfl) (by kernel_rfl) (by kernel_rfl) (fun _ _ _ _ h => h) hF0 (fun K hK => ?_)
  apply Exists.intro
  refine ⟨Or.inl ⟨by kernel_rfl, fun w' hf => ?_⟩, ?_⟩
  · obtain ⟨s70, s0, s1, s2, s3, s4⟩ := hf
    go_simp
    try exact rfl
  go_simp
  refine hK _ ?_
  clear hK K
  refine wpAnyF_take (i := 1) rfl (by kernel_rfl) (by kernel_rfl) (by kernel_rfl) (by kernel_rfl) (by kernel_rfl) (fun _ _ _ _ h => h) hF0 (fun K hK => ?_)
  apply Exists.intro
  refine ⟨Or.inl ⟨by kernel_rfl, fun w' hf => ?_⟩, ?_⟩
  · obtain ⟨s70, s0, s1, s2, s3, s4⟩ := hf
    go_simp
    try exact rfl
  go_simp
  refine hK _ ?_
  clear hK K
  refine wpAnyF_take (i := 2) rfl (by kernel_rfl) (by kernel_rfl) (by kernel_rfl) (by kernel_rfl) (by kernel_rfl) (fun _ _ _ _ h => h) hF0 (fun K hK => ?_)
  apply Exists.intro
  refine ⟨Or.inl ⟨by kernel_rfl, fun w' hf => ?_⟩, ?_⟩
  · obtain ⟨s70, s0, s1, s2, s3, s4⟩ := hf
    go_simp
    try exact rfl
  go_simp
  refine hK _ ?_
  clear hK K
  refine wpAnyF_take (i := 3) rfl (by kernel_rfl) (by kernel_rfl) (by kernel_rfl) (by kernel_rfl) (by kernel_rfl) (fun _ _ _ _ h => h) hF0 (fun K hK => ?_)
  apply Exists.intro
  refine ⟨Or.inl ⟨by kernel_rfl, fun w' hf => ?_⟩, ?_⟩
  · obtain ⟨s70, s0, s1, s2, s3, s4⟩ := hf
    go_simp
    try exact rfl
  go_simp
  refine hK _ ?_
  clear hK K
  refine wpAnyF_take (i := 4) rfl (by kernel_rfl) (by kernel_rfl) (by kernel_rfl) (by kernel_rfl) (by kernel_rfl) (fun _ _ _ _ h => h) hF0 (fun K hK => ?_)
  apply Exists.intro
  refine ⟨Or.inl ⟨by kernel_rfl, fun w' hf => ?_⟩, ?_⟩
  · obtain ⟨s70, s0, s1, s2, s3, s4⟩ := hf
    go_simp
    try exact rfl
  go_simp
  refine hK _ ?_
  clear hK K
  refine wpAnyF_take (i := 5) rfl (by kernel_rfl) (by kernel_rfl) (by kernel_rfl) (by kernel_rfl) (by kernel_rfl) (fun _ _ _ _ h => h) hF0 (fun K hK => ?_)
  apply Exists.intro
  refine ⟨Or.inl ⟨by kernel_rfl, fun w' hf => ?_⟩, ?_⟩
  · obtain ⟨s70, s0, s1, s2, s3, s4⟩ := hf
    go_simp
    try exact rfl
  go_simp
  refine hK _ ?_
  clear hK K
  refine wpAnyF_one (k := 6) (by kernel_rfl) ?_
  refine wpOp_step rfl (fun K hK => ?_)
  go_simp
  refine hK _ _ ⟨fun _ => hF1, ?_⟩
  clear hK K
  refine wpAnyF_one (k := 7) (by kernel_rfl) ?_
  refine wpOp_step rfl (fun K hK => ?_)
  refine step_append_lies _ rfl (.tmp 75) (.tmp 77) 43 rfl 0 82 iS _ 5 40 Tryz.underlying43 hiS zS0 zS1 zS2 rfl (by decide) D5.vr r.s.tr.length (snL r.s.tr) rfl owR ⟨w6.heap.size, 0, none⟩ 1 1 [.int .u64 (r.n.pc : Nat), .int .u8 (r.n.k : Nat), .int .u64 (r.n.a : Nat), .int .u64 (r.n.b : Nat), .bool r.n.t] rfl rfl nS (by intro u hu; simp at hu; rcases hu with rfl | rfl | rfl | rfl | rfl <;> rfl) (by decide) (by unfold maxLen; omega) (by omega) (Nat.zero_le _) _ rfl ?_
  intro g cap w7 hown7 hgrow hat hlt7
  have O7 := only_grown hgrow
  have k70 := O7.cell (a := ⟨D.db, 70, none⟩) ndb (stay hBW c70)
  have hF7 : (fun w' : World => w'.cell? ⟨D.db, 70, none⟩ = some D5.vr ∧ w'.cell? ⟨sb, 0, none⟩ = some (.int .u64 (r.n.pc : Nat)) ∧ w'.cell? ⟨sb, 1, none⟩ = some (.int .u8 (r.n.k : Nat)) ∧ w'.cell? ⟨sb, 2, none⟩ = some (.int .u64 (r.n.a : Nat)) ∧ w'.cell? ⟨sb, 3, none⟩ = some (.int .u64 (r.n.b : Nat)) ∧ w'.cell? ⟨sb, 4, none⟩ = some (.bool r.n.t)) w7 := ⟨k70, O7.cell (a := ⟨sb, 0, none⟩) nsb (stay hBW b0), O7.cell (a := ⟨sb, 1, none⟩) nsb (stay hBW b1), O7.cell (a := ⟨sb, 2, none⟩) nsb (stay hBW b2), O7.cell (a := ⟨sb, 3, none⟩) nsb (stay hBW b3), O7.cell (a := ⟨sb, 4, none⟩) nsb (stay hBW b4)⟩
  have z70 : w7.frozen? ⟨D.db, 70, none⟩ = false := by have := (hD6.of hBW).fz 70; rw [hdb] at this; have hl9 := (hD6.of hBW).lt; rw [hdb] at hl9; exact (O7.frozen hl9 ndb).trans this
  have l70 : D.db < w7.heap.size := World.block_lt_of_cell? w7 _ k70
  go_simp
  refine hK _ _ ⟨fun _ => hF7, ?_⟩
  clear hK K
  refine wpAnyF_one (k := 8) (by kernel_rfl) ?_
  refine wpOp_step rfl (fun K hK => ?_)
  go_simp
  refine hK _ _ ⟨fun _ => hF7, ?_⟩
  clear hK K
  refine wpAnyF_one (k := 9) (by kernel_rfl) ?_
  refine wpOp_step rfl (fun K hK => ?_)
  go_simp
  refine hK _ _ ⟨fun _ => hF7, ?_⟩
  clear hK K
  refine wpAnyF_one (k := 10) (by kernel_rfl) ?_
  refine wpOp_step rfl (fun K hK => ?_)
  go_simp
  refine hK _ _ ⟨fun h => (Bool.false_ne_true (h.symm.trans (by kernel_rfl))).elim, ?_⟩
  clear hK K
  refine wpAnyF_done (by kernel_rfl) ?_
  have hG := (hD6.of hBW).growR (t' := r.s.tr ++ [r.n]) hgrow (by rw [List.length_append, snL_snoc]; exact hown7) (by rw [List.length_append]; simp; omega) (own_blk' hat)
  have hz3 : w.heap.size ≤ w3.heap.size := Nat.le_trans hb1.size hB3.size
  have hnx := dnxt_pre hn5 (w := w) (by rw [World.size_setCell]; exact hz3)
  have hz6 : w.heap.size ≤ w6.heap.size := hS6.size
  have hW9 : w7.setCell ⟨D.db, 70, none⟩ (.slice (some ⟨g, 0, none⟩) (r.s.tr.length + 1) cap) = w7.setCell ⟨D5.db, 70, none⟩ (.slice (some ⟨g, 0, none⟩) (r.s.tr.length + 1) cap) := by rw [hdb]
  have hS7 : Only D.own w w7 := only_old5 (hS6.trans (only_below hBW)) O7 (fun j hj => by
    rcases hnx.2.2 j (.inr (.inr (.inr hj.symm))) with h9 | h9
    · exact .inl h9
    · exact .inr h9)
  go_wp2
  go_ret
  exact ⟨_, dnxt_trans5 hnx (dnxtR (D := D5) (v' := .slice (some ⟨g, 0, none⟩) (r.s.tr.length + 1) cap) (w := (w6.alloc (.cells #[.int .u64 (r.n.pc : Nat), .int .u8 (r.n.k : Nat), .int .u64 (r.n.a : Nat), .int .u64 (r.n.b : Nat), .bool r.n.t] 82)).drew) (Nat.le_trans hz6 hBW.size) (own_blk' hat)), rfl, hG, hS7.setCell (b := D5.db) (by rw [hdb]; exact own_db)⟩
end Go.Proofs.YtfaacmcnefbgcaaGreatDoor.m4
