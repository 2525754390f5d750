/- Contract of alive of layer 5: the chapter's examples. -/
import Derived.Test.YtcckgfablfgknaaGreatDoorRb
namespace Go.Proofs.YtcckgfablfgknaaGreatDoor.m4
open Go.ChangeShapes Go.WideShapes Go.ChangeAt Go.RowKit
set_option linter.unusedVariables false
/-- What Built leaves, of a machine that lies behind what was there. -/
def BxP (w : World) (n : Nat) (s : Ms) (e : Ending) (w' : World) : Prop := ∃ M : Mc, e = .returned (.tuple #[.pointer (some ⟨M.cb, 0, none⟩), .pointer (some ⟨M.x.mb, 0, none⟩)]) ∧ M.x.l = rgs n ∧ Cx w w' M s ∧ ∀ j, M.all j → w.heap.size ≤ j
theorem rgM_told (x : Su) : ∀ k, (x.rgM k).told = []
  | 0 => rfl
  | k + 1 => rgM_told x k
theorem ms_tk (x : Su) : x.ms.tk := by unfold Ms.tk Su.ms; rw [rgM_told]; exact Nat.zero_le _
theorem built_cx (x : Su) (hx : x.small) (w : World) (h : SuIn w x) : Calls Tryz.prog 10 #[x.val] w (BxP w x.l1.length x.ms) :=
  (built_any x hx w h).mono fun e w' ⟨⟨M, he, hl, hc, ha⟩, hb⟩ => ⟨M, he, hl, ⟨hc, hb, fun j hj => ha j (.inl hj), ms_tk x⟩, ha⟩
/-- Instructions in a block. -/
def rowIn (l : List In) : List Value := l.flatMap fun x => [.int .u8 (x.op : Nat), .int .u8 (x.rd : Nat), .int .u8 (x.rs1 : Nat), .int .u8 (x.rs2 : Nat), .int .i64 x.imm]
theorem In0_wf : In0.wf := by unfold In0 In.wf; decide
def su (a : Option Addr) (c : Nat) (l : List In) : Su := ⟨a, c, l, none, 0, [], none, 0, []⟩
theorem su_ms (a : Option Addr) (c : Nat) (l : List In) : (su a c l).ms = (su none 0 l).ms := rfl
theorem su_in {w : World} {a : Option Addr} {c : Nat} {l : List In} (h : InOf w a l) (hw : ∀ i, (ig l i).wf) : SuIn w (su a c l) :=
  ⟨h, fun i hi => absurd hi (Nat.not_lt_zero _), fun i hi => absurd hi (Nat.not_lt_zero _), hw, fun i => (by show (0 : Nat) < 256 ∧ (0 : Nat) < 18446744073709551616; omega), fun i => (by show (0 : Nat) < 256 ∧ (0 : Nat) < 18446744073709551616; omega)⟩
def l5 : List In := [⟨15, 10, 0, 0, 7⟩, ⟨15, 17, 0, 0, 4⟩, ⟨34, 0, 0, 0, 0⟩, ⟨15, 17, 0, 0, 0⟩, ⟨34, 0, 0, 0, 0⟩]
def l1 : List In := [⟨32, 0, 0, 0, 0⟩]
theorem l5_wf (i : Nat) : (ig l5 i).wf := by
  match i with
  | 0 => unfold ig l5 In.wf; decide
  | 1 => unfold ig l5 In.wf; decide
  | 2 => unfold ig l5 In.wf; decide
  | 3 => unfold ig l5 In.wf; decide
  | 4 => unfold ig l5 In.wf; decide
  | k + 5 => exact In0_wf
theorem l1_wf (i : Nat) : (ig l1 i).wf := by
  match i with
  | 0 => unfold ig l1 In.wf; decide
  | k + 1 => exact In0_wf
theorem run5' : ((runF (rgs 5) (su none 0 l5).ms 100).1 == 0 && (runF (rgs 5) (su none 0 l5).ms 100).2.ov && (runF (rgs 5) (su none 0 l5).ms 100).2.cd == 0 && (runF (rgs 5) (su none 0 l5).ms 100).2.wr == 0 && (runF (rgs 5) (su none 0 l5).ms 100).2.told == [(7, false)] && (runF (rgs 5) (su none 0 l5).ms 100).2.tr.length == 5) = true := by decide +kernel
theorem run1' : ((runF (rgs 1) (su none 0 l1).ms 100).1 == 52 && (runF (rgs 1) (su none 0 l1).ms 100).2.tr.length == 100) = true := by decide +kernel
/-- What a run leaves, whose end is known. -/
def RnP (W w : World) (M : Mc) (k : Int) (s : Ms) (e : Ending) (w' : World) : Prop := ∃ M', Mc.nxt w M M' ∧ e = .returned (.int .i64 k) ∧ Cx W w' M' s ∧ Only M.own w w'
theorem run5 : ∃ s r : Ms, (su none 0 l5).ms = s ∧ r.ov = true ∧ r.cd = 0 ∧ r.wr = 0 ∧ r.told = [(7, false)] ∧ r.tr.length = 5 ∧ ∀ W w M, Tb W → Cx W w M s → M.x.l = rgs 5 → Calls Tryz.prog 16 #[.pointer (some ⟨M.cb, 0, none⟩), .int .i64 100] w (RnP W w M 0 r) := by
  have h := run5'
  simp only [Bool.and_eq_true, beq_iff_eq] at h
  obtain ⟨⟨⟨⟨⟨h1, h2⟩, h3⟩, h4⟩, h5⟩, h6⟩ := h
  refine ⟨_, _, rfl, h2, h3, h4, h5, h6, fun W w M hT hC hl => (run_any hT hC 100).mono fun e w' ⟨M', hn, he, hc, ho⟩ => ?_⟩
  rw [hl] at he hc
  exact ⟨M', hn, by rw [he, h1], hc, ho⟩
theorem run1 : ∃ s r : Ms, (su none 0 l1).ms = s ∧ r.tr.length = 100 ∧ ∀ W w M, Tb W → Cx W w M s → M.x.l = rgs 1 → Calls Tryz.prog 16 #[.pointer (some ⟨M.cb, 0, none⟩), .int .i64 100] w (RnP W w M 52 r) := by
  have h := run1'
  simp only [Bool.and_eq_true, beq_iff_eq] at h
  refine ⟨_, _, rfl, h.2, fun W w M hT hC hl => (run_any hT hC 100).mono fun e w' ⟨M', hn, he, hc, ho⟩ => ?_⟩
  rw [hl] at he hc
  exact ⟨M', hn, by rw [he, h.1], hc, ho⟩
theorem built5 (w : World) (o : Obj) : Calls Tryz.prog 10 #[.agg #[.slice (some ⟨w.heap.size, 0, none⟩) 5 5, .slice none 0 0, .slice none 0 0]] ((w.alloc (.cells #[.int .u8 15, .int .u8 10, .int .u8 0, .int .u8 0, .int .i64 7, .int .u8 15, .int .u8 17, .int .u8 0, .int .u8 0, .int .i64 4, .int .u8 34, .int .u8 0, .int .u8 0, .int .u8 0, .int .i64 0, .int .u8 15, .int .u8 17, .int .u8 0, .int .u8 0, .int .i64 0, .int .u8 34, .int .u8 0, .int .u8 0, .int .u8 0, .int .i64 0] 68)).alloc o) (BxP ((w.alloc (.cells #[.int .u8 15, .int .u8 10, .int .u8 0, .int .u8 0, .int .i64 7, .int .u8 15, .int .u8 17, .int .u8 0, .int .u8 0, .int .i64 4, .int .u8 34, .int .u8 0, .int .u8 0, .int .u8 0, .int .i64 0, .int .u8 15, .int .u8 17, .int .u8 0, .int .u8 0, .int .i64 0, .int .u8 34, .int .u8 0, .int .u8 0, .int .u8 0, .int .i64 0] 68)).alloc o) 5 (su none 0 l5).ms) := by
  have hc := fun k => nwc w #[.int .u8 15, .int .u8 10, .int .u8 0, .int .u8 0, .int .i64 7, .int .u8 15, .int .u8 17, .int .u8 0, .int .u8 0, .int .i64 4, .int .u8 34, .int .u8 0, .int .u8 0, .int .u8 0, .int .i64 0, .int .u8 15, .int .u8 17, .int .u8 0, .int .u8 0, .int .i64 0, .int .u8 34, .int .u8 0, .int .u8 0, .int .u8 0, .int .i64 0] 68 k
  refine built_cx (su (some ⟨w.heap.size, 0, none⟩) 5 l5) ⟨by show 5 ≤ 200; omega, by show 0 ≤ 100; omega, by show 0 ≤ 600; omega⟩ _ (su_in (fun i hi => ⟨_, 0, rfl, ?_⟩) l5_wf)
  refine inAt5.of (w := w.alloc (.cells #[.int .u8 15, .int .u8 10, .int .u8 0, .int .u8 0, .int .i64 7, .int .u8 15, .int .u8 17, .int .u8 0, .int .u8 0, .int .i64 4, .int .u8 34, .int .u8 0, .int .u8 0, .int .u8 0, .int .i64 0, .int .u8 15, .int .u8 17, .int .u8 0, .int .u8 0, .int .i64 0, .int .u8 34, .int .u8 0, .int .u8 0, .int .u8 0, .int .i64 0] 68)) ?_ (aBelow (Below.refl _ _) _)
  have hi5 : i < 5 := hi
  have hcs : i = 0 ∨ i = 1 ∨ i = 2 ∨ i = 3 ∨ i = 4 := by omega
  rcases hcs with rfl | rfl | rfl | rfl | rfl
  · exact ⟨hc 0, hc 1, hc 2, hc 3, hc 4⟩
  · exact ⟨hc 5, hc 6, hc 7, hc 8, hc 9⟩
  · exact ⟨hc 10, hc 11, hc 12, hc 13, hc 14⟩
  · exact ⟨hc 15, hc 16, hc 17, hc 18, hc 19⟩
  · exact ⟨hc 20, hc 21, hc 22, hc 23, hc 24⟩
theorem built1 (w : World) : Calls Tryz.prog 10 #[.agg #[.slice (some ⟨w.heap.size, 0, none⟩) 1 1, .slice none 0 0, .slice none 0 0]] (w.alloc (.cells #[.int .u8 32, .int .u8 0, .int .u8 0, .int .u8 0, .int .i64 0] 68)) (BxP (w.alloc (.cells #[.int .u8 32, .int .u8 0, .int .u8 0, .int .u8 0, .int .i64 0] 68)) 1 (su none 0 l1).ms) := by
  have hc := fun k => nwc w #[.int .u8 32, .int .u8 0, .int .u8 0, .int .u8 0, .int .i64 0] 68 k
  refine built_cx (su (some ⟨w.heap.size, 0, none⟩) 1 l1) ⟨by show 1 ≤ 200; omega, by show 0 ≤ 100; omega, by show 0 ≤ 600; omega⟩ _ (su_in (fun i hi => ⟨_, 0, rfl, ?_⟩) l1_wf)
  have hi5 : i < 1 := hi
  obtain rfl : i = 0 := by omega
  exact ⟨hc 0, hc 1, hc 2, hc 3, hc 4⟩
/-- One told number, in cells. -/
theorem told1 {w : World} {b : Nat} {v : Value} {p : Nat × Bool} (h : w.ownsRow b 84 2 v [p].length (tlL [p])) : ∃ g cap, v = .slice (some ⟨g, 0, none⟩) 1 cap ∧ w.cell? ⟨g, 0, none⟩ = some (.int .u64 (p.1 : Nat)) ∧ w.cell? ⟨g, 1, none⟩ = some (.bool p.2) := by
  rcases h.2 with ⟨_, hn⟩ | ⟨g, cap, cur, rfl, hb, hg, hr⟩
  · cases hn
  · exact ⟨g, cap, rfl, by have := h.cells (g := g) rfl 0 _ rfl; rwa [addp] at this, by have := h.cells (g := g) rfl 1 _ rfl; rwa [addp] at this⟩

set_option maxRecDepth 100000 in
set_option maxHeartbeats 4000000 in
theorem alive_any (w : World) (hT : Tb w) : Calls Tryz.prog 9 #[] w fun e w' => e = .returned (.bool true) ∧ Below w.heap.size w w' := by
  obtain ⟨s5, r5, hs5, a1, a2, a3, a4, a5, hr5⟩ := run5
  obtain ⟨s1, r1, hs1, b1, hr1⟩ := run1
  have hb5 := fun w o => built5 w o
  have hb1 := fun w => built1 w
  rw [hs5] at hb5
  rw [hs1] at hb1
  go_enter Tryz.func9, Tryz.ntmps9
  go_wp2_with (first
    | (go_at_call 10; (with_reducible refine (hb5 _ _).mono ?_); (rintro e w1 ⟨M, rfl, hl, hC, hA⟩); have hB0 := (aBelow (aBelow (Below.refl w.heap.size w) (.cells #[.int .u8 15, .int .u8 10, .int .u8 0, .int .u8 0, .int .i64 7, .int .u8 15, .int .u8 17, .int .u8 0, .int .u8 0, .int .i64 4, .int .u8 34, .int .u8 0, .int .u8 0, .int .u8 0, .int .i64 0, .int .u8 15, .int .u8 17, .int .u8 0, .int .u8 0, .int .i64 0, .int .u8 34, .int .u8 0, .int .u8 0, .int .u8 0, .int .i64 0] 68)) (.cells #[.slice (some ⟨w.heap.size, 0, none⟩) 5 5, .slice none 0 0, .slice none 0 0] 25)); have hB1 := below_trans' hB0 (Nat.le_refl _) hC.b; have hR := hr5 _ _ _ (hT.of hB0) hC hl)
    | (go_at_call 16; (with_reducible refine hR.mono ?_); (rintro e w2 ⟨M2, hn, rfl, hC2, hO⟩); have hB2 := below_trans' hB0 (Nat.le_refl _) hC2.b; have hOv := over_any hC2.c; have hTo := told_any hC2.c hC2.k; rw [hn.1, a1, a2, a3] at hOv; rw [hn.1, a4] at hTo)
    | (go_at_call 15; (with_reducible refine hOv.mono ?_); (rintro e w3 ⟨rfl, hb3⟩); have hC3 := hC2.of hb3; have hB3 := below_trans' hB2 (Nat.le_refl _) hb3; have hTo := told_any hC3.c hC3.k; rw [hn.1, a4] at hTo)
    | (go_at_call 22; (with_reducible refine hTo.mono ?_); (rintro e w4 ⟨⟨v, rfl, hv⟩, hb4⟩); obtain ⟨gt, ct, rfl, t0, t1⟩ := told1 hv; have hC4 := hC3.of hb4; have hB4 := below_trans' hB3 (Nat.le_refl _) hb4; have hB5 := aBelow hB4 (.cells #[.int .u8 32, .int .u8 0, .int .u8 0, .int .u8 0, .int .i64 0] 68); have hC5 := hC4.of (aBelow (Below.refl _ _) (.cells #[.int .u8 32, .int .u8 0, .int .u8 0, .int .u8 0, .int .i64 0] 68)); have t0 := stay (aBelow (Below.refl _ _) (.cells #[.int .u8 32, .int .u8 0, .int .u8 0, .int .u8 0, .int .i64 0] 68)) t0; have t1 := stay (aBelow (Below.refl _ _) (.cells #[.int .u8 32, .int .u8 0, .int .u8 0, .int .u8 0, .int .i64 0] 68)) t1)
    | (go_at_call 10; (with_reducible refine (hb1 _).mono ?_); (rintro e w6 ⟨D, rfl, dl, hD, dA⟩); have hR := hr1 _ _ _ (hT.of hB5) hD dl)
    | (go_at_call 16; (with_reducible refine hR.mono ?_); (rintro e w7 ⟨D2, dn, rfl, hD2, dO⟩); have hC7 := hC5.of hD2.b; have hB7 := below_trans' hB5 (Nat.le_refl _) hD2.b; have t0 := stay hD2.b t0; have t1 := stay hD2.b t1; have hTr := trace_any hC7.c; rw [hn.1, a5] at hTr)
    | (go_at_call 20; (with_reducible refine hTr.mono ?_); (rintro e w8 ⟨⟨v8, rfl, hv8⟩, hb8⟩); obtain ⟨ga, gc, rfl⟩ := own_form hv8; have hC8 := hC7.of hb8; have hB8 := below_trans' hB7 (Nat.le_refl _) hb8; have hTd := trace_any (hD2.of hb8).c; rw [dn.1, b1] at hTd)
    | (go_at_call 20; (with_reducible refine hTd.mono ?_); (rintro e w9 ⟨⟨v9, rfl, hv9⟩, hb9⟩); obtain ⟨gb, gd, rfl⟩ := own_form hv9; have hC9 := hC8.of hb9; have hB9 := below_trans' hB8 (Nat.le_refl _) hb9; have hSt := step_over hC9.c a1; rw [hn.1] at hSt)
    | (go_at_call 12; (with_reducible refine hSt.mono ?_); (rintro e w10 ⟨M3, hn3, rfl, hC10, hO10⟩)))
  go_ret
  exact ⟨rfl, hB9.trans (hO10.below (fun j hj => Nat.le_trans hB0.size (hC9.o j hj)) hB9.size)⟩
end Go.Proofs.YtcckgfablfgknaaGreatDoor.m4

/- A setup's code in plain numbers: what is fetched; a step of an instruction that has a word. -/
namespace Go.Proofs.YtcckgfablfgknaaGreatDoor.m4
open Go.ChangeShapes Go.WideShapes Go.ChangeAt Go.RowKit
set_option linter.unusedVariables false
theorem rgM_bv (x : Su) : ∀ k, (x.rgM k).bv = x.byB x.l3.length ∧ (x.rgM k).tv = x.byT x.l3.length ∧ (x.rgM k).pc = 4096 ∧ (x.rgM k).tr = [] ∧ (x.rgM k).ov = false ∧ (x.rgM k).cd = 0 ∧ (x.rgM k).wr = 0
  | 0 => ⟨rfl, rfl, rfl, rfl, rfl, rfl, rfl⟩
  | k + 1 => rgM_bv x k
theorem beg1 (n : Nat) : beg (rgs n) 1 = 4 * n + 4 := by unfold beg rgs; simp
/-- Bytes of the code stay as they were laid. -/
theorem byB_code (x : Su) (hx : x.l1.length ≤ 200) (q : Nat) (hq : q < 4 * x.l1.length + 4) : ∀ k, x.byB k q = x.cdB q ∧ x.byT k q = x.cdT q
  | 0 => ⟨rfl, rfl⟩
  | k + 1 => by
    obtain ⟨h1, h2⟩ := byB_code x hx q hq k
    have key : ∃ p, seO (rgs x.l1.length) (plN k (cg x.l3 k).a) 1 = some p ∧ 4 * x.l1.length + 4 ≤ p := by
      unfold seO
      by_cases h : k % 2 = 0
      · obtain ⟨a1, a2⟩ := plN_in k (cg x.l3 k).a h
        have hh := hit_in (n := x.l1.length) hx a1 a2 (m := 1) (by omega)
        rw [hh]
        exact ⟨_, rfl, by have := (pos_in hh).1; rw [beg1] at this; exact this⟩
      · obtain ⟨a1, a2⟩ := plN_arena k (cg x.l3 k).a h
        have hh := hit_arena (n := x.l1.length) hx a1 a2 (m := 1) (by omega)
        rw [hh]
        refine ⟨_, rfl, ?_⟩
        have h3 := (pos_in hh).1
        have h4 := beg_le (rgs x.l1.length) 2 1 (by omega) (by rw [rgs_len]; omega)
        rw [beg1] at h4
        omega
    obtain ⟨p, hp, hle⟩ := key
    constructor
    · show upO (seO (rgs x.l1.length) (plN k (cg x.l3 k).a) 1) (x.byB k) 1 (bAt (s1 (cg x.l3 k))) q = _
      rw [hp]
      simp only [upO]
      unfold upd
      rw [if_neg (by omega), h1]
    · show upO (seO (rgs x.l1.length) (plN k (cg x.l3 k).a) 1) (x.byT k) 1 (fun _ => (cg x.l3 k).t) q = _
      rw [hp]
      simp only [upO]
      unfold upd
      rw [if_neg (by omega), h2]
theorem cdB_at (x : Su) (hx : x.l1.length ≤ 200) (q : Nat) (hq : q < 4 * x.l1.length) : x.cdB q = bAt (strOfNums (cdN x.l1)) q := by
  unfold Su.cdB seO
  rw [hit_code (p := 4096) (m := 4 * x.l1.length) hx (by omega) (by omega) (by omega)]
  simp only [upO]
  have hp : pos (rgs x.l1.length) 0 4096 (4 * x.l1.length) = 0 := by
    unfold pos off0
    have h0 : beg (rgs x.l1.length) 0 = 0 := rfl
    have h1 : (rg (rgs x.l1.length) 0).f = 4096 := rfl
    rw [h0, h1]; split <;> rfl
  rw [hp]
  unfold upd
  rw [if_pos (by omega), Nat.sub_zero]
theorem cdN_at : ∀ (l : List In) (j t : Nat), j < l.length → t < 4 → (cdN l).getD (4 * j + t) 0 = (b4 (cdW (ig l j))).getD t 0
  | [], j, t, hj, ht => absurd hj (Nat.not_lt_zero _)
  | x :: r, 0, t, hj, ht => by
    show (b4 (cdW x) ++ cdN r).getD (4 * 0 + t) 0 = (b4 (cdW x)).getD t 0
    rw [List.getD_eq_getElem?_getD, List.getD_eq_getElem?_getD, List.getElem?_append_left (by show 4 * 0 + t < 4; omega), Nat.mul_zero, Nat.zero_add]
  | x :: r, j + 1, t, hj, ht => by
    have ih := cdN_at r j t (by simpa using hj) ht
    show (b4 (cdW x) ++ cdN r).getD (4 * (j + 1) + t) 0 = (b4 (cdW (ig r j))).getD t 0
    rw [← ih, List.getD_eq_getElem?_getD, List.getD_eq_getElem?_getD, List.getElem?_append_right (by show 4 ≤ 4 * (j + 1) + t; omega)]
    congr 2
    show 4 * (j + 1) + t - 4 = 4 * j + t
    omega
theorem bAt_nums (l : List Int) (k : Nat) : bAt (strOfNums l) k = (l.getD k 0).toNat % 256 := by
  unfold bAt
  rw [strOfNums_data, List.getD_eq_getElem?_getD, List.getD_eq_getElem?_getD, List.getElem?_map]
  cases l[k]? with
  | none => rfl
  | some v => simp [UInt8.toNat_ofNat']
theorem word_at (x : Su) (hx : x.l1.length ≤ 200) (bv : Nat → Nat) (hb : ∀ q, q < 4 * x.l1.length → bv q = x.cdB q) (j : Nat) (hj : j < x.l1.length) : ldv bv (4 * j) 4 = cdW (ig x.l1 j) := by
  have hw := cdW_lt (ig x.l1 j)
  have e : ∀ t, t < 4 → bv (4 * j + t) = ((b4 (cdW (ig x.l1 j))).getD t 0).toNat % 256 := fun t ht => by
    rw [hb _ (by omega), cdB_at x hx _ (by omega), bAt_nums, cdN_at _ _ _ hj ht]
  show bv (4 * j) + 256 * (bv (4 * j + 1) + 256 * (bv (4 * j + 1 + 1) + 256 * (bv (4 * j + 1 + 1 + 1) + 256 * 0))) = _
  have e0 := e 0 (by omega)
  have e1 := e 1 (by omega)
  have e2 := e 2 (by omega)
  have e3 := e 3 (by omega)
  rw [Nat.add_zero] at e0
  rw [show 4 * j + 1 + 1 = 4 * j + 2 by omega, show 4 * j + 2 + 1 = 4 * j + 3 by omega, e0, e1, e2, e3]
  simp only [b4, List.getD_cons_zero, List.getD_cons_succ]
  omega
/-- What is fetched of a setup's code. -/
theorem fetch_at (x : Su) (hx : x.l1.length ≤ 200) (bv : Nat → Nat) (hb : ∀ q, q < 4 * x.l1.length → bv q = x.cdB q) (j : Nat) (hj : j < x.l1.length) : feF (rgs x.l1.length) bv (4096 + 4 * j) = (cdW (ig x.l1 j), 0) := by
  unfold feF
  rw [if_neg (by omega), hit_code (p := 4096 + 4 * j) (m := 4) hx (by omega) (by omega) (by omega)]
  simp only
  rw [if_pos (show (rg (rgs x.l1.length) 0).k = 1 from rfl)]
  have hp : pos (rgs x.l1.length) 0 (4096 + 4 * j) 4 = 4 * j := by
    unfold pos off0
    have h0 : beg (rgs x.l1.length) 0 = 0 := rfl
    have h1 : (rg (rgs x.l1.length) 0).f = 4096 := rfl
    rw [h0, h1, if_neg (by omega)]; omega
  rw [hp, word_at x hx bv hb j hj]
theorem ms_code (x : Su) (hx : x.l1.length ≤ 200) (q : Nat) (hq : q < 4 * x.l1.length) : x.ms.bv q = x.cdB q := by
  unfold Su.ms
  rw [(rgM_bv x _).1]
  exact (byB_code x hx q (by omega) _).1
/-- A step of an instruction that has a word. -/
theorem stF_do {l : List Rg} {s : Ms} {y : In} (ho : s.ov = false) (hn : s.tr.length ≠ 1048576) (hf : feF l s.bv s.pc = (cdW y, 0)) (hy : y.ok = true) : stF l s = exE s (exF l s y) := by
  have hd : decN (cdW y) = some y := decN_some ⟨hy, by unfold cdW; rw [if_pos hy]⟩
  unfold stF
  rw [if_neg (by rw [ho]; decide), if_neg hn]
  unfold doF
  rw [hf, if_pos rfl]
  simp only [hd]
end Go.Proofs.YtcckgfablfgknaaGreatDoor.m4
