/- The document's machine: contract of built: a machine of a setup. -/
import Derived.Test.YtfaacmcnefbgcaaGreatDoorDa
import Derived.Test.YtfaacmcnefbgcaaGreatDoorJi
import Derived.Test.YtfaacmcnefbgcaaGreatDoorJm
namespace Go.Proofs.YtfaacmcnefbgcaaGreatDoor.m4
open Go.ChangeShapes Go.WideShapes Go.ChangeAt Go.RowKit
set_option linter.unusedVariables false
def newD (p : Value) : Array Value := #[p, .int .u64 4096, .int .u64 0, .int .u64 0, .int .u64 0, .int .u64 0, .int .u64 0, .int .u64 0, .int .u64 0, .int .u64 0, .int .u64 0, .int .u64 0, .int .u64 0, .int .u64 0, .int .u64 0, .int .u64 0, .int .u64 0, .int .u64 0, .int .u64 0, .int .u64 0, .int .u64 0, .int .u64 0, .int .u64 0, .int .u64 0, .int .u64 0, .int .u64 0, .int .u64 0, .int .u64 0, .int .u64 0, .int .u64 0, .int .u64 0, .int .u64 0, .int .u64 0, .int .u64 0, .bool false, .bool false, .bool false, .bool false, .bool false, .bool false, .bool false, .bool false, .bool false, .bool false, .bool false, .bool false, .bool false, .bool false, .bool false, .bool false, .bool false, .bool false, .bool false, .bool false, .bool false, .bool false, .bool false, .bool false, .bool false, .bool false, .bool false, .bool false, .bool false, .bool false, .bool false, .bool false, .bool false, .int .u8 0, .int .i64 0, .slice none 0 0, .slice none 0 0]
theorem newD_v (p : Value) (i : Nat) (h : i < 32) : (newD p)[2 + i]? = some (.int .u64 0) := by
  have key : ∀ i < 32, ∀ p : Value, (newD p)[2 + i]? = some (.int .u64 0) := by
    intro i hi p
    match i, hi with
    | 0, _ => exact rfl
    | 1, _ => exact rfl
    | 2, _ => exact rfl
    | 3, _ => exact rfl
    | 4, _ => exact rfl
    | 5, _ => exact rfl
    | 6, _ => exact rfl
    | 7, _ => exact rfl
    | 8, _ => exact rfl
    | 9, _ => exact rfl
    | 10, _ => exact rfl
    | 11, _ => exact rfl
    | 12, _ => exact rfl
    | 13, _ => exact rfl
    | 14, _ => exact rfl
    | 15, _ => exact rfl
    | 16, _ => exact rfl
    | 17, _ => exact rfl
    | 18, _ => exact rfl
    | 19, _ => exact rfl
    | 20, _ => exact rfl
    | 21, _ => exact rfl
    | 22, _ => exact rfl
    | 23, _ => exact rfl
    | 24, _ => exact rfl
    | 25, _ => exact rfl
    | 26, _ => exact rfl
    | 27, _ => exact rfl
    | 28, _ => exact rfl
    | 29, _ => exact rfl
    | 30, _ => exact rfl
    | 31, _ => exact rfl
    | n + 32, h => exact absurd h (by omega)
  exact key i h p
theorem newD_t (p : Value) (i : Nat) (h : i < 32) : (newD p)[34 + i]? = some (.bool false) := by
  have key : ∀ i < 32, ∀ p : Value, (newD p)[34 + i]? = some (.bool false) := by
    intro i hi p
    match i, hi with
    | 0, _ => exact rfl
    | 1, _ => exact rfl
    | 2, _ => exact rfl
    | 3, _ => exact rfl
    | 4, _ => exact rfl
    | 5, _ => exact rfl
    | 6, _ => exact rfl
    | 7, _ => exact rfl
    | 8, _ => exact rfl
    | 9, _ => exact rfl
    | 10, _ => exact rfl
    | 11, _ => exact rfl
    | 12, _ => exact rfl
    | 13, _ => exact rfl
    | 14, _ => exact rfl
    | 15, _ => exact rfl
    | 16, _ => exact rfl
    | 17, _ => exact rfl
    | 18, _ => exact rfl
    | 19, _ => exact rfl
    | 20, _ => exact rfl
    | 21, _ => exact rfl
    | 22, _ => exact rfl
    | 23, _ => exact rfl
    | 24, _ => exact rfl
    | 25, _ => exact rfl
    | 26, _ => exact rfl
    | 27, _ => exact rfl
    | 28, _ => exact rfl
    | 29, _ => exact rfl
    | 30, _ => exact rfl
    | 31, _ => exact rfl
    | n + 32, h => exact absurd h (by omega)
  exact key i h p
/-- A machine that is new. -/
theorem new_isD {w : World} {y : Mr} {bv : Nat → Nat} {tv : Nat → Bool} (h : IsR w y bv tv) (hl : ∀ j, y.hd j ∨ y.bl j → j < w.heap.size) (hb : ∀ k, bv k < 256) :
    IsD (w.alloc (.cells (newD (.pointer (some ⟨y.rb, 0, none⟩))) 45)) ⟨w.heap.size, y, .slice none 0 0, .slice none 0 0⟩ (ms0 bv tv) := by
  have hB := aBelow (Below.refl w.heap.size w) (.cells (newD (.pointer (some ⟨y.rb, 0, none⟩))) 45)
  have hc := fun o => nwc w (newD (.pointer (some ⟨y.rb, 0, none⟩))) 45 o
  have hf := fun o => nwf w (newD (.pointer (some ⟨y.rb, 0, none⟩))) 45 o
  exact { e0 := hc 0, e1 := hc 1, rv := fun i hi => (hc _).trans (newD_v _ i hi), rt := fun i hi => (hc _).trans (newD_t _ i hi), e66 := hc 66, e67 := hc 67, e68 := hc 68, e69 := hc 69, e70 := hc 70, fz := hf, lt := by rw [World.size_alloc]; exact Nat.lt_succ_self _, rowT := World.ownsRow_nil _ _ _ _, rowR := World.ownsRow_nil _ _ _ _, mem := h.of hB, n0 := ⟨fun e => (by have := hl _ (.inl e); simp only at this; omega), fun e => (by have := hl _ (.inr e); simp only at this; omega)⟩, n2 := fun j hj => (by cases hj), n3 := fun j hj => (by cases hj), n4 := fun j hj => (by cases hj), ok := ms0_ok hb }
theorem IsR.all_lt {w : World} {y : Mr} {bv : Nat → Nat} {tv : Nat → Bool} (h : IsR w y bv tv) (hl : ∀ j, y.hd j → j < w.heap.size) : ∀ j, y.hd j ∨ y.bl j → j < w.heap.size := fun j hj => by
  rcases hj with hj | ⟨i, hi, rfl | rfl⟩
  · exact hl j hj
  · exact h.lv i hi
  · exact h.lt i hi
/-- What built leaves. -/
def RbP (w : World) (x : Su) (e : Ending) (w' : World) : Prop := (∃ D : Dc, e = .returned (.pointer (some ⟨D.db, 0, none⟩)) ∧ D.y.l = rgs x.l1.length ∧ IsD w' D x.ms ∧ ∀ j, D.all j → w.heap.size ≤ j) ∧ Below w.heap.size w w'
set_option maxRecDepth 100000 in
set_option maxHeartbeats 4000000 in
theorem rbuilt_any (x : Su) (hx : x.small) (w : World) (h : SuIn w x) : Calls Tryz.prog 7 #[x.val] w (RbP w x) := by
  obtain ⟨hx1, hx2, hx3⟩ := hx
  obtain ⟨wb, hwb⟩ : ∃ wb, w.alloc (.cells #[.slice x.a1 x.l1.length x.c1, .slice x.a2 x.l2.length x.c2, .slice x.a3 x.l3.length x.c3] 25) = wb := ⟨_, rfl⟩
  have hBb : Below w.heap.size w wb := by rw [← hwb]; exact aBelow (Below.refl _ _) _
  have hsz : wb.heap.size = w.heap.size + 1 := by rw [← hwb, World.size_alloc]
  have g0 : wb.cell? ⟨w.heap.size, 0, none⟩ = some (.slice x.a1 x.l1.length x.c1) := by rw [← hwb]; exact nwc _ _ _ _
  have g1 : wb.cell? ⟨w.heap.size, 1, none⟩ = some (.slice x.a2 x.l2.length x.c2) := by rw [← hwb]; exact nwc _ _ _ _
  have g2 : wb.cell? ⟨w.heap.size, 2, none⟩ = some (.slice x.a3 x.l3.length x.c3) := by rw [← hwb]; exact nwc _ _ _ _
  have hS := h.of hBb
  have hR := regions_any x hx1
  have hz : (strOfNums (cdN x.l1)).size = 4 * x.l1.length := by rw [strOfNums_size, cdN_length]
  unfold Su.val at hR ⊢
  go_enter Tryz.func7, Tryz.ntmps7
  go_wp2_with (first
    | (go_at_call 16; (with_reducible refine (hR _).mono ?_); (rintro e w1 ⟨⟨g, rfl, hrow, hg1, hg2⟩, hb1⟩); have hN := rnew_yes (rgs x.l1.length) (rgs_may _ hx1) (rgs_wf _ hx1) g 0 3 w1 hrow hg2; rw [rgs_len] at hN)
    | (go_at_call 22; (with_reducible refine hN.mono ?_); (rintro e w2 ⟨⟨y, rfl, hyl, hI, y1, y2, y3, y4, y5⟩, hb2⟩); have hB2 := below_trans' hb1 (Nat.le_refl _) hb2; have hs1 := hb1.size; have hCd := code_any x.l1 x.a1 x.c1 hx1 h.w1 w2 (hS.i1.of hB2); have g0 := stay hB2 g0; have g1 := stay hB2 g1; have g2 := stay hB2 g2)
    | (go_at_call 18; (with_reducible refine hCd.mono ?_); (rintro e w3 ⟨rfl, hb3⟩); have hSt := rset_any 4096 (strOfNums (cdN x.l1)) (by omega) false (by omega) w3 (hI.of hb3); rw [hz, hyl, seE_code _ hx1, show ((4096 : Nat) : Int) = 4096 from rfl] at hSt)
    | (go_at_call 23; (with_reducible refine hSt.mono ?_); (rintro e w4 ⟨rfl, hI4, ho4⟩)))
  have hO4 : Only y.bl w2 w4 := (only_below hb3).trans ho4
  have hlow : ∀ W, Only y.bl w2 W → Below wb.heap.size wb W := fun W hO => hB2.trans (hO.below (fun j hj => Nat.le_trans hs1 (y5 j hj)) hB2.size)
  have hbx : ¬ y.bl w.heap.size := fun e => by have := y5 _ e; omega
  clear hR hN hCd hSt hrow
  have hhd : ∀ j, y.hd j → j < w2.heap.size := fun j hj => by
    rcases hj with rfl | rfl | rfl | rfl
    · exact World.block_lt_of_cell? w2 _ hI.rr.h0
    · exact World.block_lt_of_cell? w2 _ (hI.rr.row 0 (by rw [hyl, rgs_len]; omega)).1
    · exact World.block_lt_of_cell? w2 _ (hI.rr.hb 0 (by rw [hyl, rgs_len]; omega))
    · exact World.block_lt_of_cell? w2 _ (hI.rr.ht 0 (by rw [hyl, rgs_len]; omega))
  go_loopw [5] (fun i wr => ∃ k : Nat, i = .int .i64 k ∧ k ≤ x.l3.length ∧ IsR wr y (x.byB k) (x.byT k) ∧ Only y.bl w2 wr) (fun i _ => x.l3.length - (intOf i).toNat)
  case atStart => exact ⟨0, rfl, Nat.zero_le _, hI4, hO4⟩
  case round =>
    obtain ⟨k, rfl, hk, hIr, hOr⟩ := hrel
    have hBr := hlow _ hOr
    have q0 := hOr.cell (a := ⟨w.heap.size, 0, none⟩) hbx g0
    have q1 := hOr.cell (a := ⟨w.heap.size, 1, none⟩) hbx g1
    have q2 := hOr.cell (a := ⟨w.heap.size, 2, none⟩) hbx g2
    by_cases hlt3 : k < x.l3.length
    · obtain ⟨b, o, ha3, c0, c1, c2⟩ := hS.i3 k hlt3
      rw [ha3] at g2 q2
      clear ha3
      have d0 := c0
      have d1 := c1
      have d2 := c2
      have c0 := stay hBr c0
      have c1 := stay hBr c1
      have c2 := stay hBr c2
      have hcw := hS.w3 k
      have hP := place_any5 k (cg x.l3 k) hcw
      have i0 : (0 : Int) ≤ (k : Int) := by omega
      have i1 : (k : Int) < (x.l3.length : Int) := by omega
      have hpl := plN_lt k (cg x.l3 k).a
      have hsp := seE_place x.l1.length hx1 k (cg x.l3 k).a
      have hSe : ∀ W, Below wr.heap.size wr W → Calls Tryz.prog 23 #[.pointer (some ⟨y.rb, 0, none⟩), .int .u64 (plN k (cg x.l3 k).a : Nat), .string (s1 (cg x.l3 k)), .bool (cg x.l3 k).t] W fun e w' => e = .returned (.int .i64 0) ∧ WrR y (x.byB (k + 1)) (x.byT (k + 1)) W w' := fun W hB => by
        have := rset_any (plN k (cg x.l3 k).a) (s1 (cg x.l3 k)) (by rw [s1_size]; omega) (cg x.l3 k).t hpl W (hIr.of hB)
        rw [s1_size, hyl, hsp] at this
        exact this
      unfold s1 at hSe
      obtain ⟨c, hc⟩ : ∃ c, cg x.l3 k = c := ⟨_, rfl⟩
      simp only [hc] at hSe c0 c1 c2 d0 d1 d2 hP hcw hpl
      have e8 : ((c.v % 256 : Nat) : Int) = (c.v : Int) % 256 := by omega
      simp only [e8] at hSe
      have v8 : IntKind.u8.wrap (c.v : Int) = ((c.v % 256 : Nat) : Int) := by rw [IntKind.wrap_u8]; omega
      obtain ⟨F, hFd⟩ : ∃ F : World → Prop, F = fun w' : World => (w'.cell? ⟨w.heap.size, 2, none⟩ = some (.slice (some ⟨b, o, none⟩) x.l3.length x.c3) ∧ w'.cell? ⟨b, o + k * 3, none⟩ = some (.int .u8 (c.a : Nat)) ∧ w'.cell? ⟨b, o + k * 3 + 1, none⟩ = some (.int .u64 (c.v : Nat)) ∧ w'.cell? ⟨b, o + k * 3 + 2, none⟩ = some (.bool c.t)) := ⟨_, rfl⟩
      have hFi : ∀ w', F w' ↔ (w'.cell? ⟨w.heap.size, 2, none⟩ = some (.slice (some ⟨b, o, none⟩) x.l3.length x.c3) ∧ w'.cell? ⟨b, o + k * 3, none⟩ = some (.int .u8 (c.a : Nat)) ∧ w'.cell? ⟨b, o + k * 3 + 1, none⟩ = some (.int .u64 (c.v : Nat)) ∧ w'.cell? ⟨b, o + k * 3 + 2, none⟩ = some (.bool c.t)) := fun w' => by rw [hFd]
      clear hFd
      have hF0 : F wr.drew := (hFi _).2 ⟨q2, c0, c1, c2⟩
      have hFb : ∀ W, Below wr.heap.size wr W → F W := fun W hB => (hFi _).2 ⟨stay hB q2, stay hB c0, stay hB c1, stay hB c2⟩
      have hFo : ∀ W, Only y.bl w2 W → F W := fun W hO => (hFi _).2 ⟨hO.cell (a := ⟨w.heap.size, 2, none⟩) hbx g2, stay (hlow _ hO) d0, stay (hlow _ hO) d1, stay (hlow _ hO) d2⟩
      go_wp2
      refine region_KN F (by kernel_rfl) ?_
      refine wpAnyK_take (i := 0) rfl (by kernel_rfl) (by kernel_rfl) (by kernel_rfl) (onlyN_panic _) hF0 (fun K hK => ?_)
      apply Exists.intro
      refine ⟨Or.inl ⟨by kernel_rfl, fun w' hf => ?_⟩, ?_⟩
      · obtain ⟨s2, s30, s31, s32⟩ := (hFi _).1 hf
        go_simp
        try exact rfl
      go_simp
      refine hK _ ?_
      clear hK K
      refine wpAnyK_take (i := 1) rfl (by kernel_rfl) (by kernel_rfl) (by kernel_rfl) (onlyN_panic _) hF0 (fun K hK => ?_)
      apply Exists.intro
      refine ⟨Or.inl ⟨by kernel_rfl, fun w' hf => ?_⟩, ?_⟩
      · obtain ⟨s2, s30, s31, s32⟩ := (hFi _).1 hf
        go_simp
        try exact rfl
      go_simp
      refine hK _ ?_
      clear hK K
      refine wpAnyK_take (i := 2) rfl (by kernel_rfl) (by kernel_rfl) (by kernel_rfl) (onlyN_panic _) hF0 (fun K hK => ?_)
      apply Exists.intro
      refine ⟨Or.inl ⟨by kernel_rfl, fun w' hf => ?_⟩, ?_⟩
      · obtain ⟨s2, s30, s31, s32⟩ := (hFi _).1 hf
        go_simp
        try exact rfl
      go_simp
      refine hK _ ?_
      clear hK K
      refine wpAnyK_take (i := 3) rfl (by kernel_rfl) (by kernel_rfl) (by kernel_rfl) (onlyN_panic _) hF0 (fun K hK => ?_)
      apply Exists.intro
      refine ⟨Or.inl ⟨by kernel_rfl, fun w' hf => ?_⟩, ?_⟩
      · obtain ⟨s2, s30, s31, s32⟩ := (hFi _).1 hf
        go_simp
        try exact rfl
      go_simp
      refine hK _ ?_
      clear hK K
      refine wpAnyK_take (i := 4) rfl (by kernel_rfl) (by kernel_rfl) (by kernel_rfl) (onlyN_panic _) hF0 (fun K hK => ?_)
      apply Exists.intro
      refine ⟨Or.inl ⟨by kernel_rfl, fun w' hf => ?_⟩, ?_⟩
      · obtain ⟨s2, s30, s31, s32⟩ := (hFi _).1 hf
        go_simp
        try exact rfl
      go_simp
      refine hK _ ?_
      clear hK K
      refine wpAnyK_take (i := 5) rfl (by kernel_rfl) (by kernel_rfl) (by kernel_rfl) (onlyN_panic _) hF0 (fun K hK => ?_)
      apply Exists.intro
      refine ⟨Or.inl ⟨by kernel_rfl, fun w' hf => ?_⟩, ?_⟩
      · obtain ⟨s2, s30, s31, s32⟩ := (hFi _).1 hf
        go_simp
        try exact rfl
      go_simp
      refine hK _ ?_
      clear hK K
      refine wpAnyK_take (i := 6) rfl (by kernel_rfl) (by kernel_rfl) (by kernel_rfl) (onlyN_panic _) hF0 (fun K hK => ?_)
      apply Exists.intro
      refine ⟨Or.inl ⟨by kernel_rfl, fun w' hf => ?_⟩, ?_⟩
      · obtain ⟨s2, s30, s31, s32⟩ := (hFi _).1 hf
        go_simp
        try exact rfl
      go_simp
      refine hK _ ?_
      clear hK K
      refine wpAnyK_take (i := 8) rfl (by kernel_rfl) (by kernel_rfl) (by kernel_rfl) (onlyN_panic _) hF0 (fun K hK => ?_)
      apply Exists.intro
      refine ⟨Or.inl ⟨by kernel_rfl, fun w' hf => ?_⟩, ?_⟩
      · obtain ⟨s2, s30, s31, s32⟩ := (hFi _).1 hf
        go_simp
        try exact rfl
      go_simp
      refine hK _ ?_
      clear hK K
      refine wpAnyK_take (i := 9) rfl (by kernel_rfl) (by kernel_rfl) (by kernel_rfl) (onlyN_panic _) hF0 (fun K hK => ?_)
      apply Exists.intro
      refine ⟨Or.inl ⟨by kernel_rfl, fun w' hf => ?_⟩, ?_⟩
      · obtain ⟨s2, s30, s31, s32⟩ := (hFi _).1 hf
        go_simp
        try exact rfl
      go_simp
      refine hK _ ?_
      clear hK K
      refine wpAnyK_take (i := 10) rfl (by kernel_rfl) (by kernel_rfl) (by kernel_rfl) (onlyN_panic _) hF0 (fun K hK => ?_)
      apply Exists.intro
      refine ⟨Or.inl ⟨by kernel_rfl, fun w' hf => ?_⟩, ?_⟩
      · obtain ⟨s2, s30, s31, s32⟩ := (hFi _).1 hf
        go_simp
        try exact rfl
      go_simp
      refine hK _ ?_
      clear hK K
      refine wpAnyK_take (i := 11) rfl (by kernel_rfl) (by kernel_rfl) (by kernel_rfl) (onlyN_panic _) hF0 (fun K hK => ?_)
      apply Exists.intro
      refine ⟨Or.inl ⟨by kernel_rfl, fun w' hf => ?_⟩, ?_⟩
      · obtain ⟨s2, s30, s31, s32⟩ := (hFi _).1 hf
        go_simp
        try exact rfl
      go_simp
      refine hK _ ?_
      clear hK K
      refine wpAnyK_take (i := 12) rfl (by kernel_rfl) (by kernel_rfl) (by kernel_rfl) (onlyN_panic _) hF0 (fun K hK => ?_)
      apply Exists.intro
      refine ⟨Or.inl ⟨by kernel_rfl, fun w' hf => ?_⟩, ?_⟩
      · obtain ⟨s2, s30, s31, s32⟩ := (hFi _).1 hf
        go_simp
        try exact rfl
      go_simp
      refine hK _ ?_
      clear hK K
      refine wpAnyK_take (i := 13) rfl (by kernel_rfl) (by kernel_rfl) (by kernel_rfl) (onlyN_panic _) hF0 (fun K hK => ?_)
      apply Exists.intro
      refine ⟨Or.inl ⟨by kernel_rfl, fun w' hf => ?_⟩, ?_⟩
      · obtain ⟨s2, s30, s31, s32⟩ := (hFi _).1 hf
        go_simp
        try exact rfl
      go_simp
      refine hK _ ?_
      clear hK K
      refine wpAnyK_take (i := 14) rfl (by kernel_rfl) (by kernel_rfl) (by kernel_rfl) (onlyN_panic _) hF0 (fun K hK => ?_)
      apply Exists.intro
      refine ⟨Or.inl ⟨by kernel_rfl, fun w' hf => ?_⟩, ?_⟩
      · obtain ⟨s2, s30, s31, s32⟩ := (hFi _).1 hf
        go_simp
        try exact rfl
      go_simp
      refine hK _ ?_
      clear hK K
      refine wpAnyK_take (i := 17) rfl (by kernel_rfl) (by kernel_rfl) (by kernel_rfl) (onlyN_panic _) hF0 (fun K hK => ?_)
      apply Exists.intro
      refine ⟨Or.inl ⟨by kernel_rfl, fun w' hf => ?_⟩, ?_⟩
      · obtain ⟨s2, s30, s31, s32⟩ := (hFi _).1 hf
        go_simp
        try exact rfl
      go_simp
      refine hK _ ?_
      clear hK K
      refine wpAnyK_take (i := 18) rfl (by kernel_rfl) (by kernel_rfl) (by kernel_rfl) (onlyN_panic _) hF0 (fun K hK => ?_)
      apply Exists.intro
      refine ⟨Or.inl ⟨by kernel_rfl, fun w' hf => ?_⟩, ?_⟩
      · obtain ⟨s2, s30, s31, s32⟩ := (hFi _).1 hf
        go_simp
        try exact rfl
      go_simp
      refine hK _ ?_
      clear hK K
      refine wpAnyK_take (i := 19) rfl (by kernel_rfl) (by kernel_rfl) (by kernel_rfl) (onlyN_panic _) hF0 (fun K hK => ?_)
      apply Exists.intro
      refine ⟨Or.inl ⟨by kernel_rfl, fun w' hf => ?_⟩, ?_⟩
      · obtain ⟨s2, s30, s31, s32⟩ := (hFi _).1 hf
        go_simp
        try exact rfl
      go_simp
      refine hK _ ?_
      clear hK K
      refine wpAnyK_take (i := 20) rfl (by kernel_rfl) (by kernel_rfl) (by kernel_rfl) (onlyN_panic _) hF0 (fun K hK => ?_)
      apply Exists.intro
      refine ⟨Or.inl ⟨by kernel_rfl, fun w' hf => ?_⟩, ?_⟩
      · obtain ⟨s2, s30, s31, s32⟩ := (hFi _).1 hf
        go_simp
        try exact rfl
      go_simp
      refine hK _ ?_
      clear hK K
      refine wpAnyK_take (i := 21) rfl (by kernel_rfl) (by kernel_rfl) (by kernel_rfl) (onlyN_panic _) hF0 (fun K hK => ?_)
      apply Exists.intro
      refine ⟨Or.inl ⟨by kernel_rfl, fun w' hf => ?_⟩, ?_⟩
      · obtain ⟨s2, s30, s31, s32⟩ := (hFi _).1 hf
        go_simp
        try exact rfl
      go_simp
      refine hK _ ?_
      clear hK K
      refine wpAnyK_take (i := 22) rfl (by kernel_rfl) (by kernel_rfl) (by kernel_rfl) (onlyN_panic _) hF0 (fun K hK => ?_)
      apply Exists.intro
      refine ⟨Or.inl ⟨by kernel_rfl, fun w' hf => ?_⟩, ?_⟩
      · obtain ⟨s2, s30, s31, s32⟩ := (hFi _).1 hf
        go_simp
        try exact rfl
      go_simp
      refine hK _ ?_
      clear hK K
      refine wpAnyK_two (k1 := 7) (k2 := 15) (by kernel_rfl) ?_ ?_
      · refine wpOp_step rfl (fun K hK => ?_)
        go_simp
        go_at_call 19
        with_reducible refine (hP _).mono ?_
        rintro e w5 ⟨rfl, hb5⟩
        have hB5 := below_trans' (bd1 (Below.refl _ wr)) (Nat.le_refl _) hb5
        have hF5 := hFb w5 hB5
        refine hK _ _ ⟨hF5, ?_⟩
        clear hK K
        refine wpAnyK_one (k := 15) (by kernel_rfl) ?_
        refine wpOp_step rfl (fun K hK => ?_)
        go_simp
        obtain ⟨W6, hW6⟩ : ∃ W, w5.alloc (.cells #[.int .u8 ((c.v : Int) % 256)] 5) = W := ⟨_, rfl⟩
        have hB6 : Below wr.heap.size wr W6 := by rw [← hW6]; exact below_trans' hB5 (Nat.le_refl _) (aBelow (Below.refl _ _) _)
        have hc6 : W6.cell? ⟨w5.heap.size, 0, none⟩ = some (.int .u8 ((c.v : Int) % 256)) := by rw [← hW6]; exact nwc w5 #[.int .u8 ((c.v : Int) % 256)] 5 0
        have hF6 := hFb _ hB6
        rw [hW6]
        clear hW6
        refine hK _ _ ⟨hF6, ?_⟩
        clear hK K
        refine wpAnyK_one (k := 16) (by kernel_rfl) ?_
        refine wpOp_step rfl (fun K hK => ?_)
        have hcv := convG c.v _ W6 hc6
        go_simp
        refine hK _ _ ⟨hF6, ?_⟩
        clear hK K
        refine wpAnyK_one (k := 23) (by kernel_rfl) ?_
        refine wpOp_step rfl (fun K hK => ?_)
        go_simp
        go_at_call 23
        with_reducible refine (hSe W6 hB6).mono ?_
        rintro e w7 ⟨rfl, hI7, ho7⟩
        have hF7 := hFo w7 ((hOr.trans (only_below hB6)).trans ho7)
        refine hK _ _ ⟨hF7, ?_⟩
        clear hK K
        refine wpAnyK_done (by kernel_rfl) ⟨rfl, ?_⟩
        go_wp2
        go_roundw
        case rel => exact ⟨k + 1, by go_num, by omega, hI7, (hOr.trans (only_below hB6)).trans ho7⟩
        case measure => first | (simp [intOf]; done) | (simp [intOf]; omega)
      · refine wpOp_step rfl (fun K hK => ?_)
        go_simp
        obtain ⟨w5, hw5⟩ : ∃ W, (wr.alloc (.cells #[.int .u8 ((c.v : Int) % 256)] 5)).drew = W := ⟨_, rfl⟩
        have hB5 : Below wr.heap.size wr w5 := by rw [← hw5]; exact bd1 (aBelow (Below.refl _ _) _)
        have hc5 : w5.cell? ⟨wr.heap.size, 0, none⟩ = some (.int .u8 ((c.v : Int) % 256)) := by rw [← hw5]; exact nwc wr #[.int .u8 ((c.v : Int) % 256)] 5 0
        have hF5 := hFb _ hB5
        rw [hw5]
        clear hw5
        refine hK _ _ ⟨hF5, ?_⟩
        clear hK K
        refine wpAnyK_two (k1 := 7) (k2 := 16) (by kernel_rfl) ?_ ?_
        · refine wpOp_step rfl (fun K hK => ?_)
          go_simp
          go_at_call 19
          with_reducible refine (hP _).mono ?_
          rintro e W6 ⟨rfl, hb6⟩
          have hB6 := below_trans' hB5 (Nat.le_refl _) hb6
          have hF6 := hFb W6 hB6
          have hc6 := stay hb6 hc5
          refine hK _ _ ⟨hF6, ?_⟩
          clear hK K
          refine wpAnyK_one (k := 16) (by kernel_rfl) ?_
          refine wpOp_step rfl (fun K hK => ?_)
          have hcv := convG c.v _ W6 hc6
          go_simp
          refine hK _ _ ⟨hF6, ?_⟩
          clear hK K
          refine wpAnyK_one (k := 23) (by kernel_rfl) ?_
          refine wpOp_step rfl (fun K hK => ?_)
          go_simp
          go_at_call 23
          with_reducible refine (hSe W6 hB6).mono ?_
          rintro e w7 ⟨rfl, hI7, ho7⟩
          have hF7 := hFo w7 ((hOr.trans (only_below hB6)).trans ho7)
          refine hK _ _ ⟨hF7, ?_⟩
          clear hK K
          refine wpAnyK_done (by kernel_rfl) ⟨rfl, ?_⟩
          go_wp2
          go_roundw
          case rel => exact ⟨k + 1, by go_num, by omega, hI7, (hOr.trans (only_below hB6)).trans ho7⟩
          case measure => first | (simp [intOf]; done) | (simp [intOf]; omega)
        · refine wpOp_step rfl (fun K hK => ?_)
          have hcv := convG c.v _ w5 hc5
          go_simp
          refine hK _ _ ⟨hF5, ?_⟩
          clear hK K
          refine wpAnyK_one (k := 7) (by kernel_rfl) ?_
          refine wpOp_step rfl (fun K hK => ?_)
          go_simp
          go_at_call 19
          with_reducible refine (hP _).mono ?_
          rintro e W6 ⟨rfl, hb6⟩
          have hB6 := below_trans' hB5 (Nat.le_refl _) hb6
          have hF6 := hFb W6 hB6
          have hc6 := stay hb6 hc5
          refine hK _ _ ⟨hF6, ?_⟩
          clear hK K
          refine wpAnyK_one (k := 23) (by kernel_rfl) ?_
          refine wpOp_step rfl (fun K hK => ?_)
          go_simp
          go_at_call 23
          with_reducible refine (hSe W6 hB6).mono ?_
          rintro e w7 ⟨rfl, hI7, ho7⟩
          have hF7 := hFo w7 ((hOr.trans (only_below hB6)).trans ho7)
          refine hK _ _ ⟨hF7, ?_⟩
          clear hK K
          refine wpAnyK_done (by kernel_rfl) ⟨rfl, ?_⟩
          go_wp2
          go_roundw
          case rel => exact ⟨k + 1, by go_num, by omega, hI7, (hOr.trans (only_below hB6)).trans ho7⟩
          case measure => first | (simp [intOf]; done) | (simp [intOf]; omega)

    · obtain rfl : k = x.l3.length := by omega
      have hC0 : IsD (wr.alloc (.cells (newD (.pointer (some ⟨y.rb, 0, none⟩))) 45)) ⟨wr.heap.size, y, .slice none 0 0, .slice none 0 0⟩ (x.rgM 0) := new_isD hIr (hIr.all_lt fun j hj => Nat.lt_of_lt_of_le (hhd j hj) hOr.size) (byB_lt x _)
      go_wp2
      obtain ⟨w8, hw8⟩ : ∃ w8, w8 = wr.alloc (.cells (newD (.pointer (some ⟨y.rb, 0, none⟩))) 45) := ⟨_, rfl⟩
      have hb8 : Below wr.heap.size wr w8 := by rw [hw8]; exact aBelow (Below.refl _ _) _
      rw [← hw8] at hC0
      have HW8 := Lib.hid hw8
      clear hI hI4 ho4 hIr hw8
      obtain ⟨D, hD⟩ : ∃ D : Dc, (⟨wr.heap.size, y, .slice none 0 0, .slice none 0 0⟩ : Dc) = D := ⟨_, rfl⟩
      have hcb : wr.heap.size = D.db := by rw [← hD]
      have hDy : D.y = y := by rw [← hD]
      have hown : ∀ j, D.own j → wb.heap.size ≤ j := fun j hj => by
        rw [← hD] at hj
        rcases hj with rfl | hj | hj | hj
        · exact hBr.size
        · exact Nat.le_trans hs1 (y5 j hj)
        · cases hj
        · cases hj
      have hall : ∀ j, D.all j → w.heap.size ≤ j := fun j hj => by
        rcases hj with hj | hj
        · have := hown j hj; omega
        · rw [hDy] at hj
          rcases hj with rfl | rfl | rfl | rfl <;> omega
      rw [hD] at hC0
      have hB8 : Below wb.heap.size wb w8 := below_trans' hBr (Nat.le_refl _) hb8
      have q1 := stay hb8 q1
      have hlow2 : ∀ W, Only D.own w8 W → Below wb.heap.size wb W := fun W hO => hB8.trans (hO.below hown hB8.size)
      rw [hcb]
      clear hD hb8 q0 q2
      go_loopw [7] (fun i w9 => ∃ k : Nat, i = .int .i64 k ∧ k ≤ x.l2.length ∧ IsD w9 D (x.rgM k) ∧ Only D.own w8 w9) (fun i _ => x.l2.length - (intOf i).toNat)
      case atStart =>
        have hw8 := HW8.out
        rw [hw8] at hC0
        exact ⟨0, rfl, Nat.zero_le _, hC0, by rw [hw8]; exact Only.refl _ _⟩
      case round =>
        obtain ⟨k, rfl, hk, hC9, hO9⟩ := hrel
        have hB9 := hlow2 _ hO9
        have q1 := hO9.cell (a := ⟨w.heap.size, 1, none⟩) (by intro e; have := hown _ e; simp only at this; omega) q1
        by_cases hlt2 : k < x.l2.length
        · obtain ⟨b, o, ha2, c0, c1, c2⟩ := hS.i2 k hlt2
          rw [ha2] at q1
          clear ha2
          have c0 := stay hB9 c0
          have c1 := stay hB9 c1
          have c2 := stay hB9 c2
          have hcw := hS.w2 k
          have i0 : (0 : Int) ≤ (k : Int) := by omega
          have i1 : (k : Int) < (x.l2.length : Int) := by omega
          have hlay : x.rgM (k + 1) = (x.rgM k).lay ((cg x.l2 k).a % 32) (cg x.l2 k).v (cg x.l2 k).t := rfl
          have hSr := dset_any (hC9.of (bd1 (Below.refl _ _))) ((cg x.l2 k).a % 32) (cg x.l2 k).v (cg x.l2 k).t (Nat.mod_lt _ (by omega)) hcw.2
          rw [← hlay] at hSr
          obtain ⟨c, hc⟩ : ∃ c, cg x.l2 k = c := ⟨_, rfl⟩
          simp only [hc] at hSr c0 c1 c2 hcw
          have hca := hcw.1
          have e32 : ((c.a : Nat) : Int).tmod 32 = ((c.a % 32 : Nat) : Int) := by rw [Int.tmod_eq_emod_of_nonneg (by omega)]; omega
          have e32b : ((c.a % 32 : Nat) : Int) = (c.a : Int) % 32 := by omega
          simp only [e32b] at hSr
          go_wp2
          go_still_tail 21, (by kernel_rfl)
          change wpList _ _ _ _ _ wr.drew
          go_wp2_with (go_at_call 24; (with_reducible refine hSr.mono ?_); (rintro e w10 ⟨rfl, hC10, hO10⟩))
          go_roundw
          case rel => exact ⟨k + 1, by go_num, by omega, hC10, (hO9.trans (only_below (bd1 (Below.refl _ _)))).trans (hO10.mono fun j hj => .inl hj)⟩
          case measure => first | (simp [intOf]; done) | (simp [intOf]; omega)
        · obtain rfl : k = x.l2.length := by omega
          go_wp2
          go_ret
          exact ⟨⟨D, rfl, by rw [hDy]; exact hyl, hC9, hall⟩, below_trans' hBb (Nat.le_refl _) hB9⟩
end Go.Proofs.YtfaacmcnefbgcaaGreatDoor.m4
