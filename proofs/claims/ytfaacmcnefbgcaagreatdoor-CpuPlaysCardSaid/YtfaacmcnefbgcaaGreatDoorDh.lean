/- The document's machine, and the program's: what same answers of two that are the same. -/
import Derived.Test.YtfaacmcnefbgcaaGreatDoorDa
import Derived.Test.YtfaacmcnefbgcaaGreatDoorJi
import Derived.Test.YtfaacmcnefbgcaaGreatDoorJm
namespace Go.Proofs.YtfaacmcnefbgcaaGreatDoor.m4
open Go.ChangeShapes Go.WideShapes Go.ChangeAt Go.RowKit
set_option linter.unusedVariables false
theorem row_bools5 {w : World} {b q n : Nat} {v : Value} {tv : Nat → Bool} (h : w.ownsRow b 4 1 v (tl tv q n).length (tl tv q n)) : ∃ a c, v = .slice a n c ∧ ∀ k < n, ∃ g o, a = some ⟨g, o, none⟩ ∧ w.cell? ⟨g, o + k, none⟩ = some (.bool (tv (q + k))) := by
  rw [tl_length] at h
  rcases h.2 with ⟨hv, hn⟩ | ⟨g, cap, cur, hv, hb, hg, hr⟩
  · exact ⟨none, 0, by rw [hv, hn], fun k hk => by omega⟩
  · refine ⟨some ⟨g, 0, none⟩, cap, hv, fun k hk => ⟨g, 0, rfl, ?_⟩⟩
    have := h.cells (g := g) (by rw [hv]; rfl) k _ (tl_at tv q n k hk)
    rwa [addp] at this
/-- Where the bytes of a region stand. -/
def rgQ (n i : Nat) : Nat := beg (rgs n) i
def rgF (i : Nat) : Nat := if i = 1 then 1048576 else 2097152
theorem rg_bytes {w : World} {x : Mm} {bv : Nat → Nat} {tv : Nat → Bool} {n i : Nat} (hn : n ≤ 200) (hi : i = 1 ∨ i = 2) (hl : x.l = rgs n) (h : IsM w x bv tv) : Calls Tryz.prog 36 #[.pointer (some ⟨x.mb, 0, none⟩), .int .u64 (rgF i : Nat), .int .i64 256] w fun e w' => (∃ a c, e = .returned (.tuple #[.string (strOfNums (numsAt bv (rgQ n i) 256)), .slice a 256 c, .int .i64 0]) ∧ ∀ k < 256, ∃ g o, a = some ⟨g, o, none⟩ ∧ w'.cell? ⟨g, o + k, none⟩ = some (.bool (tv (rgQ n i + k)))) ∧ Below w.heap.size w w' := by
  have hh : hitI (rgs n) (rgF i) 256 = some i := by
    rcases hi with rfl | rfl
    · exact hit_in hn (by decide) (by decide) (by decide)
    · exact hit_arena hn (by decide) (by decide) (by decide)
  have hp : pos (rgs n) i (rgF i) 256 = rgQ n i := by rcases hi with rfl | rfl <;> rfl
  have e1 : byO x.l (rgF i) 256 = some (rgQ n i) := by
    unfold byO seO
    rw [if_neg (by omega), hl]
    show (match hitI (rgs n) (rgF i) 256 with | none => none | some j => some (pos (rgs n) j (rgF i) 256)) = _
    rw [hh]; simp only [hp]
  have e2 : byE x.l (rgF i) 256 = 0 := by unfold byE; rw [if_neg (by omega), e1]; rfl
  have e3 : byS x.l bv (rgF i) 256 = strOfNums (numsAt bv (rgQ n i) 256) := by unfold byS; rw [e1]; rfl
  have e4 : byT x.l tv (rgF i) 256 = tl tv (rgQ n i) 256 := by unfold byT; rw [e1]; rfl
  have hB := bytes_m (rgF i) 256 (by rcases hi with rfl | rfl <;> decide) w h
  rw [e2, e3, e4] at hB
  refine hB.mono fun e w' ⟨⟨v, he, hv⟩, hb⟩ => ?_
  obtain ⟨a, c, rfl, hr⟩ := row_bools5 hv
  exact ⟨⟨a, c, he, hr⟩, hb⟩
theorem rconv {w : World} {y : Mr} {bv : Nat → Nat} {tv : Nat → Bool} (h : IsR w y bv tv) {i : Nat} (hi : i < y.l.length) {m : Nat} (hm : (rg y.l i).s = m) : (convert 65 9 (.slice (some ⟨y.bs i, 0, none⟩) m m)).run Tryz.prog w = .ok (.string (strOfNums (numsAt bv (beg y.l i) m))) w := by
  refine run_convert_bytes_arg (P := Tryz.prog) _ 65 5 Tryz.underlying65 Tryz.underlying5 (y.bs i) 0 m m (numsAt bv (beg y.l i) m) (numsAt_length _ _ _) ?_ 9 Tryz.underlying9
  intro k hk
  rw [numsAt_getD bv _ m k hk, Nat.zero_add]
  exact h.vals i hi k (by omega)
/-- A machine of the program's and one of the document's that are the same. -/
structure Two5 (W w : World) (M : Mc) (D : Dc) (s : Ms) (n : Nat) : Prop where
  c : Cx W w M s
  d : IsD w D s
  lM : M.x.l = rgs n
  lD : D.y.l = rgs n
theorem Two5.of {W w w' : World} {M : Mc} {D : Dc} {s : Ms} {n : Nat} (h : Two5 W w M D s n) (hb : Below w.heap.size w w') : Two5 W w' M D s n := ⟨h.c.of hb, h.d.of hb, h.lM, h.lD⟩
set_option maxRecDepth 100000 in
set_option maxHeartbeats 16000000 in
theorem same5 {W w : World} {M : Mc} {D : Dc} {s : Ms} {n : Nat} (hn : n ≤ 200) (h : Two5 W w M D s n) :
    Calls Tryz.prog 10 #[.pointer (some ⟨M.cb, 0, none⟩), .pointer (some ⟨M.x.mb, 0, none⟩), .pointer (some ⟨D.db, 0, none⟩)] w fun e w' => e = .returned (.bool true) ∧ Below w.heap.size w w' := by
  have hdl := h.d.lt
  obtain ⟨at1, ct1, hvt, htl⟩ := tl_of h.d.rowT
  obtain ⟨ar1, cr1, hvr, hsn⟩ := sn_of h.d.rowR
  have htn : s.tr.length ≤ 1048577 := by have := h.c.c.ok.n; omega
  have hto : s.told.length ≤ 1048577 := by have := h.c.k; unfold Ms.tk at this; omega
  go_enter Tryz.func10, Tryz.ntmps10
  go_wp2
  go_loopw [7] (fun i wr => ∃ k : Nat, i = .int .i64 k ∧ k ≤ 32 ∧ Below w.heap.size w wr) (fun i _ => 32 - (intOf i).toNat)
  case atStart => exact ⟨0, rfl, by omega, Below.refl _ _⟩
  case round =>
    obtain ⟨k, rfl, hk, hB⟩ := hrel
    have hTw := h.of hB
    by_cases hlt : k < 32
    · have i0 : (0 : Int) ≤ (k : Int) := by omega
      have i1 : (k : Int) < 32 := by omega
      have hRg := reg_any hTw.c.c k hlt
      go_wp2_with (go_at_call 32; (with_reducible refine hRg.mono ?_); (rintro e w1 ⟨rfl, hb1⟩); have hT1 := hTw.of hb1; have r1 := hT1.d.rv k hlt; have r2 := hT1.d.rt k hlt; have l1 := hT1.d.lt)
      go_roundw
      case rel => exact ⟨k + 1, by go_num, by omega, below_trans' hB (Nat.le_refl _) hb1⟩
      case measure => first | (simp [intOf]; done) | (simp [intOf]; omega)
    · obtain rfl : k = 32 := by omega
      have hOv := over_any hTw.c.c
      go_wp2_with (go_at_call 12; (with_reducible refine hOv.mono ?_); (rintro e w1 ⟨rfl, hb1⟩))
      have hT1 := hTw.of (bd1 hb1)
      have hB1 := below_trans' hB (Nat.le_refl _) (bd1 hb1)
      obtain ⟨F, hFd⟩ : ∃ F : World → Prop, F = fun w' : World => (w'.cell? ⟨D.db, 1, none⟩ = some (.int .u64 (s.pc : Nat)) ∧ w'.cell? ⟨D.db, 66, none⟩ = some (.bool s.ov) ∧ w'.cell? ⟨D.db, 67, none⟩ = some (.int .u8 (s.cd : Nat)) ∧ w'.cell? ⟨D.db, 68, none⟩ = some (.int .i64 s.wr) ∧ w'.cell? ⟨D.db, 69, none⟩ = some (.slice at1 s.told.length ct1) ∧ w'.cell? ⟨D.db, 70, none⟩ = some (.slice ar1 s.tr.length cr1)) := ⟨_, rfl⟩
      have hFi : ∀ w', F w' ↔ (w'.cell? ⟨D.db, 1, none⟩ = some (.int .u64 (s.pc : Nat)) ∧ w'.cell? ⟨D.db, 66, none⟩ = some (.bool s.ov) ∧ w'.cell? ⟨D.db, 67, none⟩ = some (.int .u8 (s.cd : Nat)) ∧ w'.cell? ⟨D.db, 68, none⟩ = some (.int .i64 s.wr) ∧ w'.cell? ⟨D.db, 69, none⟩ = some (.slice at1 s.told.length ct1) ∧ w'.cell? ⟨D.db, 70, none⟩ = some (.slice ar1 s.tr.length cr1)) := fun w' => by rw [hFd]
      have hFw : ∀ w', Two5 W w' M D s n → F w' := fun w' ht => (hFi _).2 ⟨ht.d.e1, ht.d.e66, ht.d.e67, ht.d.e68, ht.d.e69.trans (congrArg some hvt), ht.d.e70.trans (congrArg some hvr)⟩
      clear hFd
      have hF0 : F w1.drew := hFw _ hT1
      obtain ⟨w2, hw2⟩ : ∃ w2, w1.drew = w2 := ⟨_, rfl⟩
      rw [hw2] at hT1 hB1 hF0
      have hPc := pc_any hT1.c.c
      refine region_KN F (by kernel_rfl) ?_
      rw [hw2]
      clear hw2
      refine wpAnyK_take (i := 0) rfl (by kernel_rfl) (by kernel_rfl) (by kernel_rfl) (onlyN_panic _) hF0 (fun K hK => ?_)
      apply Exists.intro
      refine ⟨Or.inl ⟨by kernel_rfl, fun w' hf => ?_⟩, ?_⟩
      · obtain ⟨s1, s66, s67, s68, s69, s70⟩ := (hFi _).1 hf
        go_simp
        try exact rfl
      go_simp
      refine hK _ ?_
      clear hK K
      refine wpAnyK_take (i := 2) rfl (by kernel_rfl) (by kernel_rfl) (by kernel_rfl) (onlyN_panic _) hF0 (fun K hK => ?_)
      apply Exists.intro
      refine ⟨Or.inl ⟨by kernel_rfl, fun w' hf => ?_⟩, ?_⟩
      · obtain ⟨s1, s66, s67, s68, s69, s70⟩ := (hFi _).1 hf
        go_simp
        try exact rfl
      go_simp
      refine hK _ ?_
      clear hK K
      refine wpAnyK_take (i := 3) rfl (by kernel_rfl) (by kernel_rfl) (by kernel_rfl) (onlyN_panic _) hF0 (fun K hK => ?_)
      apply Exists.intro
      refine ⟨Or.inl ⟨by kernel_rfl, fun w' hf => ?_⟩, ?_⟩
      · obtain ⟨s1, s66, s67, s68, s69, s70⟩ := (hFi _).1 hf
        go_simp
        try exact rfl
      go_simp
      refine hK _ ?_
      clear hK K
      refine wpAnyK_take (i := 4) rfl (by kernel_rfl) (by kernel_rfl) (by kernel_rfl) (onlyN_panic _) hF0 (fun K hK => ?_)
      apply Exists.intro
      refine ⟨Or.inl ⟨by kernel_rfl, fun w' hf => ?_⟩, ?_⟩
      · obtain ⟨s1, s66, s67, s68, s69, s70⟩ := (hFi _).1 hf
        go_simp
        try exact rfl
      go_simp
      refine hK _ ?_
      clear hK K
      refine wpAnyK_take (i := 5) rfl (by kernel_rfl) (by kernel_rfl) (by kernel_rfl) (onlyN_panic _) hF0 (fun K hK => ?_)
      apply Exists.intro
      refine ⟨Or.inl ⟨by kernel_rfl, fun w' hf => ?_⟩, ?_⟩
      · obtain ⟨s1, s66, s67, s68, s69, s70⟩ := (hFi _).1 hf
        go_simp
        try exact rfl
      go_simp
      refine hK _ ?_
      clear hK K
      refine wpAnyK_one (k := 1) (by kernel_rfl) ?_
      refine wpOp_step rfl (fun K hK => ?_)
      go_simp
      go_at_call 33
      with_reducible refine hPc.mono ?_
      rintro e w3 ⟨rfl, rfl⟩
      refine hK _ _ ⟨hF0, ?_⟩
      clear hK K
      refine wpAnyK_take (i := 6) rfl (by kernel_rfl) (by kernel_rfl) (by kernel_rfl) (onlyN_panic _) hF0 (fun K hK => ?_)
      apply Exists.intro
      refine ⟨Or.inl ⟨by kernel_rfl, fun w' hf => ?_⟩, ?_⟩
      · obtain ⟨s1, s66, s67, s68, s69, s70⟩ := (hFi _).1 hf
        go_simp
        try exact rfl
      go_simp
      refine hK _ ?_
      clear hK K
      refine wpAnyK_take (i := 7) rfl (by kernel_rfl) (by kernel_rfl) (by kernel_rfl) (onlyN_panic _) hF0 (fun K hK => ?_)
      apply Exists.intro
      refine ⟨Or.inl ⟨by kernel_rfl, fun w' hf => ?_⟩, ?_⟩
      · obtain ⟨s1, s66, s67, s68, s69, s70⟩ := (hFi _).1 hf
        go_simp
        try exact rfl
      go_simp
      refine hK _ ?_
      clear hK K
      refine wpAnyK_take (i := 8) rfl (by kernel_rfl) (by kernel_rfl) (by kernel_rfl) (onlyN_panic _) hF0 (fun K hK => ?_)
      apply Exists.intro
      refine ⟨Or.inl ⟨by kernel_rfl, fun w' hf => ?_⟩, ?_⟩
      · obtain ⟨s1, s66, s67, s68, s69, s70⟩ := (hFi _).1 hf
        go_simp
        try exact rfl
      go_simp
      refine hK _ ?_
      clear hK K
      refine wpAnyK_take (i := 9) rfl (by kernel_rfl) (by kernel_rfl) (by kernel_rfl) (onlyN_panic _) hF0 (fun K hK => ?_)
      apply Exists.intro
      refine ⟨Or.inl ⟨by kernel_rfl, fun w' hf => ?_⟩, ?_⟩
      · obtain ⟨s1, s66, s67, s68, s69, s70⟩ := (hFi _).1 hf
        go_simp
        try exact rfl
      go_simp
      refine hK _ ?_
      clear hK K
      refine wpAnyK_take (i := 10) rfl (by kernel_rfl) (by kernel_rfl) (by kernel_rfl) (onlyN_panic _) hF0 (fun K hK => ?_)
      apply Exists.intro
      refine ⟨Or.inl ⟨by kernel_rfl, fun w' hf => ?_⟩, ?_⟩
      · obtain ⟨s1, s66, s67, s68, s69, s70⟩ := (hFi _).1 hf
        go_simp
        try exact rfl
      go_simp
      refine hK _ ?_
      clear hK K
      refine wpAnyK_take (i := 11) rfl (by kernel_rfl) (by kernel_rfl) (by kernel_rfl) (onlyN_panic _) hF0 (fun K hK => ?_)
      apply Exists.intro
      refine ⟨Or.inl ⟨by kernel_rfl, fun w' hf => ?_⟩, ?_⟩
      · obtain ⟨s1, s66, s67, s68, s69, s70⟩ := (hFi _).1 hf
        go_simp
        try exact rfl
      go_simp
      refine hK _ ?_
      clear hK K
      refine wpAnyK_take (i := 12) rfl (by kernel_rfl) (by kernel_rfl) (by kernel_rfl) (onlyN_panic _) hF0 (fun K hK => ?_)
      apply Exists.intro
      refine ⟨Or.inl ⟨by kernel_rfl, fun w' hf => ?_⟩, ?_⟩
      · obtain ⟨s1, s66, s67, s68, s69, s70⟩ := (hFi _).1 hf
        go_simp
        try exact rfl
      go_simp
      refine hK _ ?_
      clear hK K
      refine wpAnyK_take (i := 13) rfl (by kernel_rfl) (by kernel_rfl) (by kernel_rfl) (onlyN_panic _) hF0 (fun K hK => ?_)
      apply Exists.intro
      refine ⟨Or.inl ⟨by kernel_rfl, fun w' hf => ?_⟩, ?_⟩
      · obtain ⟨s1, s66, s67, s68, s69, s70⟩ := (hFi _).1 hf
        go_simp
        try exact rfl
      go_simp
      refine hK _ ?_
      clear hK K
      refine wpAnyK_take (i := 14) rfl (by kernel_rfl) (by kernel_rfl) (by kernel_rfl) (onlyN_panic _) hF0 (fun K hK => ?_)
      apply Exists.intro
      refine ⟨Or.inl ⟨by kernel_rfl, fun w' hf => ?_⟩, ?_⟩
      · obtain ⟨s1, s66, s67, s68, s69, s70⟩ := (hFi _).1 hf
        go_simp
        try exact rfl
      go_simp
      refine hK _ ?_
      clear hK K
      refine wpAnyK_take (i := 15) rfl (by kernel_rfl) (by kernel_rfl) (by kernel_rfl) (onlyN_panic _) hF0 (fun K hK => ?_)
      apply Exists.intro
      refine ⟨Or.inl ⟨by kernel_rfl, fun w' hf => ?_⟩, ?_⟩
      · obtain ⟨s1, s66, s67, s68, s69, s70⟩ := (hFi _).1 hf
        go_simp
        try exact rfl
      go_simp
      refine hK _ ?_
      clear hK K
      refine wpAnyK_take (i := 16) rfl (by kernel_rfl) (by kernel_rfl) (by kernel_rfl) (onlyN_panic _) hF0 (fun K hK => ?_)
      apply Exists.intro
      refine ⟨Or.inl ⟨by kernel_rfl, fun w' hf => ?_⟩, ?_⟩
      · obtain ⟨s1, s66, s67, s68, s69, s70⟩ := (hFi _).1 hf
        go_simp
        try exact rfl
      go_simp
      refine hK _ ?_
      clear hK K
      refine wpAnyK_take (i := 17) rfl (by kernel_rfl) (by kernel_rfl) (by kernel_rfl) (onlyN_panic _) hF0 (fun K hK => ?_)
      apply Exists.intro
      refine ⟨Or.inl ⟨by kernel_rfl, fun w' hf => ?_⟩, ?_⟩
      · obtain ⟨s1, s66, s67, s68, s69, s70⟩ := (hFi _).1 hf
        go_simp
        try exact rfl
      go_simp
      refine hK _ ?_
      clear hK K
      refine wpAnyK_take (i := 18) rfl (by kernel_rfl) (by kernel_rfl) (by kernel_rfl) (onlyN_panic _) hF0 (fun K hK => ?_)
      apply Exists.intro
      refine ⟨Or.inl ⟨by kernel_rfl, fun w' hf => ?_⟩, ?_⟩
      · obtain ⟨s1, s66, s67, s68, s69, s70⟩ := (hFi _).1 hf
        go_simp
        try exact rfl
      go_simp
      refine hK _ ?_
      clear hK K
      refine wpAnyK_take (i := 19) rfl (by kernel_rfl) (by kernel_rfl) (by kernel_rfl) (onlyN_panic _) hF0 (fun K hK => ?_)
      apply Exists.intro
      refine ⟨Or.inl ⟨by kernel_rfl, fun w' hf => ?_⟩, ?_⟩
      · obtain ⟨s1, s66, s67, s68, s69, s70⟩ := (hFi _).1 hf
        go_simp
        try exact rfl
      go_simp
      refine hK _ ?_
      clear hK K
      refine wpAnyK_take (i := 20) rfl (by kernel_rfl) (by kernel_rfl) (by kernel_rfl) (onlyN_panic _) hF0 (fun K hK => ?_)
      apply Exists.intro
      refine ⟨Or.inl ⟨by kernel_rfl, fun w' hf => ?_⟩, ?_⟩
      · obtain ⟨s1, s66, s67, s68, s69, s70⟩ := (hFi _).1 hf
        go_simp
        try exact rfl
      go_simp
      refine hK _ ?_
      clear hK K
      refine wpAnyK_take (i := 21) rfl (by kernel_rfl) (by kernel_rfl) (by kernel_rfl) (onlyN_panic _) hF0 (fun K hK => ?_)
      apply Exists.intro
      refine ⟨Or.inl ⟨by kernel_rfl, fun w' hf => ?_⟩, ?_⟩
      · obtain ⟨s1, s66, s67, s68, s69, s70⟩ := (hFi _).1 hf
        go_simp
        try exact rfl
      go_simp
      refine hK _ ?_
      clear hK K
      refine wpAnyK_take (i := 22) rfl (by kernel_rfl) (by kernel_rfl) (by kernel_rfl) (onlyN_panic _) hF0 (fun K hK => ?_)
      apply Exists.intro
      refine ⟨Or.inl ⟨by kernel_rfl, fun w' hf => ?_⟩, ?_⟩
      · obtain ⟨s1, s66, s67, s68, s69, s70⟩ := (hFi _).1 hf
        go_simp
        try exact rfl
      go_simp
      refine hK _ ?_
      clear hK K
      refine wpAnyK_take (i := 23) rfl (by kernel_rfl) (by kernel_rfl) (by kernel_rfl) (onlyN_panic _) hF0 (fun K hK => ?_)
      apply Exists.intro
      refine ⟨Or.inl ⟨by kernel_rfl, fun w' hf => ?_⟩, ?_⟩
      · obtain ⟨s1, s66, s67, s68, s69, s70⟩ := (hFi _).1 hf
        go_simp
        try exact rfl
      go_simp
      refine hK _ ?_
      clear hK K
      refine wpAnyK_take (i := 24) rfl (by kernel_rfl) (by kernel_rfl) (by kernel_rfl) (onlyN_panic _) hF0 (fun K hK => ?_)
      apply Exists.intro
      refine ⟨Or.inl ⟨by kernel_rfl, fun w' hf => ?_⟩, ?_⟩
      · obtain ⟨s1, s66, s67, s68, s69, s70⟩ := (hFi _).1 hf
        go_simp
        try exact rfl
      go_simp
      refine hK _ ?_
      clear hK K
      refine wpAnyK_take (i := 25) rfl (by kernel_rfl) (by kernel_rfl) (by kernel_rfl) (onlyN_panic _) hF0 (fun K hK => ?_)
      apply Exists.intro
      refine ⟨Or.inl ⟨by kernel_rfl, fun w' hf => ?_⟩, ?_⟩
      · obtain ⟨s1, s66, s67, s68, s69, s70⟩ := (hFi _).1 hf
        go_simp
        try exact rfl
      go_simp
      refine hK _ ?_
      clear hK K
      refine wpAnyK_take (i := 26) rfl (by kernel_rfl) (by kernel_rfl) (by kernel_rfl) (onlyN_panic _) hF0 (fun K hK => ?_)
      apply Exists.intro
      refine ⟨Or.inl ⟨by kernel_rfl, fun w' hf => ?_⟩, ?_⟩
      · obtain ⟨s1, s66, s67, s68, s69, s70⟩ := (hFi _).1 hf
        go_simp
        try exact rfl
      go_simp
      refine hK _ ?_
      clear hK K
      refine wpAnyK_take (i := 27) rfl (by kernel_rfl) (by kernel_rfl) (by kernel_rfl) (onlyN_panic _) hF0 (fun K hK => ?_)
      apply Exists.intro
      refine ⟨Or.inl ⟨by kernel_rfl, fun w' hf => ?_⟩, ?_⟩
      · obtain ⟨s1, s66, s67, s68, s69, s70⟩ := (hFi _).1 hf
        go_simp
        try exact rfl
      go_simp
      refine hK _ ?_
      clear hK K
      refine wpAnyK_take (i := 28) rfl (by kernel_rfl) (by kernel_rfl) (by kernel_rfl) (onlyN_panic _) hF0 (fun K hK => ?_)
      apply Exists.intro
      refine ⟨Or.inl ⟨by kernel_rfl, fun w' hf => ?_⟩, ?_⟩
      · obtain ⟨s1, s66, s67, s68, s69, s70⟩ := (hFi _).1 hf
        go_simp
        try exact rfl
      go_simp
      refine hK _ ?_
      clear hK K
      refine wpAnyK_take (i := 29) rfl (by kernel_rfl) (by kernel_rfl) (by kernel_rfl) (onlyN_panic _) hF0 (fun K hK => ?_)
      apply Exists.intro
      refine ⟨Or.inl ⟨by kernel_rfl, fun w' hf => ?_⟩, ?_⟩
      · obtain ⟨s1, s66, s67, s68, s69, s70⟩ := (hFi _).1 hf
        go_simp
        try exact rfl
      go_simp
      refine hK _ ?_
      clear hK K
      refine wpAnyK_take (i := 30) rfl (by kernel_rfl) (by kernel_rfl) (by kernel_rfl) (onlyN_panic _) hF0 (fun K hK => ?_)
      apply Exists.intro
      refine ⟨Or.inl ⟨by kernel_rfl, fun w' hf => ?_⟩, ?_⟩
      · obtain ⟨s1, s66, s67, s68, s69, s70⟩ := (hFi _).1 hf
        go_simp
        try exact rfl
      go_simp
      refine hK _ ?_
      clear hK K
      refine wpAnyK_take (i := 31) rfl (by kernel_rfl) (by kernel_rfl) (by kernel_rfl) (onlyN_panic _) hF0 (fun K hK => ?_)
      apply Exists.intro
      refine ⟨Or.inl ⟨by kernel_rfl, fun w' hf => ?_⟩, ?_⟩
      · obtain ⟨s1, s66, s67, s68, s69, s70⟩ := (hFi _).1 hf
        go_simp
        try exact rfl
      go_simp
      refine hK _ ?_
      clear hK K
      refine wpAnyK_take (i := 32) rfl (by kernel_rfl) (by kernel_rfl) (by kernel_rfl) (onlyN_panic _) hF0 (fun K hK => ?_)
      apply Exists.intro
      refine ⟨Or.inl ⟨by kernel_rfl, fun w' hf => ?_⟩, ?_⟩
      · obtain ⟨s1, s66, s67, s68, s69, s70⟩ := (hFi _).1 hf
        go_simp
        try exact rfl
      go_simp
      refine hK _ ?_
      clear hK K
      refine wpAnyK_take (i := 34) rfl (by kernel_rfl) (by kernel_rfl) (by kernel_rfl) (onlyN_panic _) hF0 (fun K hK => ?_)
      apply Exists.intro
      refine ⟨Or.inl ⟨by kernel_rfl, fun w' hf => ?_⟩, ?_⟩
      · obtain ⟨s1, s66, s67, s68, s69, s70⟩ := (hFi _).1 hf
        go_simp
        try exact rfl
      go_simp
      refine hK _ ?_
      clear hK K
      refine wpAnyK_take (i := 35) rfl (by kernel_rfl) (by kernel_rfl) (by kernel_rfl) (onlyN_panic _) hF0 (fun K hK => ?_)
      apply Exists.intro
      refine ⟨Or.inl ⟨by kernel_rfl, fun w' hf => ?_⟩, ?_⟩
      · obtain ⟨s1, s66, s67, s68, s69, s70⟩ := (hFi _).1 hf
        go_simp
        try exact rfl
      go_simp
      refine hK _ ?_
      clear hK K
      refine wpAnyK_take (i := 36) rfl (by kernel_rfl) (by kernel_rfl) (by kernel_rfl) (onlyN_panic _) hF0 (fun K hK => ?_)
      apply Exists.intro
      refine ⟨Or.inl ⟨by kernel_rfl, fun w' hf => ?_⟩, ?_⟩
      · obtain ⟨s1, s66, s67, s68, s69, s70⟩ := (hFi _).1 hf
        go_simp
        try exact rfl
      go_simp
      refine hK _ ?_
      clear hK K
      refine wpAnyK_take (i := 37) rfl (by kernel_rfl) (by kernel_rfl) (by kernel_rfl) (onlyN_panic _) hF0 (fun K hK => ?_)
      apply Exists.intro
      refine ⟨Or.inl ⟨by kernel_rfl, fun w' hf => ?_⟩, ?_⟩
      · obtain ⟨s1, s66, s67, s68, s69, s70⟩ := (hFi _).1 hf
        go_simp
        try exact rfl
      go_simp
      refine hK _ ?_
      clear hK K
      refine wpAnyK_one (k := 33) (by kernel_rfl) ?_
      refine wpOp_step rfl (fun K hK => ?_)
      have hTo := told_row hT1.c
      go_simp
      go_at_call 13
      with_reducible refine hTo.mono ?_
      rintro e w4 ⟨⟨a4, c4, rfl, h4⟩, hb4⟩
      have hT4 := hT1.of hb4
      have hB4 := below_trans' hB1 (Nat.le_refl _) hb4
      have hF4 := hFw _ hT4
      have hS4 := same_told s.told a4 at1 c4 ct1 hto w4 h4 (htl.of hB4)
      refine hK _ _ ⟨hF4, ?_⟩
      clear hK K
      refine wpAnyK_one (k := 38) (by kernel_rfl) ?_
      refine wpOp_step rfl (fun K hK => ?_)
      go_simp
      go_at_call 34
      with_reducible refine hS4.mono ?_
      rintro e w5 ⟨rfl, hb5⟩
      have hT5 := hT4.of hb5
      have hB5 := below_trans' hB4 (Nat.le_refl _) hb5
      have hF5 := hFw _ hT5
      refine hK _ _ ⟨hF5, ?_⟩
      clear hK K
      refine wpAnyK_take (i := 39) rfl (by kernel_rfl) (by kernel_rfl) (by kernel_rfl) (onlyN_panic _) hF5 (fun K hK => ?_)
      apply Exists.intro
      refine ⟨Or.inl ⟨by kernel_rfl, fun w' hf => ?_⟩, ?_⟩
      · obtain ⟨s1, s66, s67, s68, s69, s70⟩ := (hFi _).1 hf
        go_simp
        try exact rfl
      go_simp
      refine hK _ ?_
      clear hK K
      refine wpAnyK_take (i := 40) rfl (by kernel_rfl) (by kernel_rfl) (by kernel_rfl) (onlyN_panic _) hF5 (fun K hK => ?_)
      apply Exists.intro
      refine ⟨Or.inl ⟨by kernel_rfl, fun w' hf => ?_⟩, ?_⟩
      · obtain ⟨s1, s66, s67, s68, s69, s70⟩ := (hFi _).1 hf
        go_simp
        try exact rfl
      go_simp
      refine hK _ ?_
      clear hK K
      refine wpAnyK_take (i := 41) rfl (by kernel_rfl) (by kernel_rfl) (by kernel_rfl) (onlyN_panic _) hF5 (fun K hK => ?_)
      apply Exists.intro
      refine ⟨Or.inl ⟨by kernel_rfl, fun w' hf => ?_⟩, ?_⟩
      · obtain ⟨s1, s66, s67, s68, s69, s70⟩ := (hFi _).1 hf
        go_simp
        try exact rfl
      go_simp
      refine hK _ ?_
      clear hK K
      refine wpAnyK_take (i := 42) rfl (by kernel_rfl) (by kernel_rfl) (by kernel_rfl) (onlyN_panic _) hF5 (fun K hK => ?_)
      apply Exists.intro
      refine ⟨Or.inl ⟨by kernel_rfl, fun w' hf => ?_⟩, ?_⟩
      · obtain ⟨s1, s66, s67, s68, s69, s70⟩ := (hFi _).1 hf
        go_simp
        try exact rfl
      go_simp
      refine hK _ ?_
      clear hK K
      refine wpAnyK_take (i := 44) rfl (by kernel_rfl) (by kernel_rfl) (by kernel_rfl) (onlyN_panic _) hF5 (fun K hK => ?_)
      apply Exists.intro
      refine ⟨Or.inl ⟨by kernel_rfl, fun w' hf => ?_⟩, ?_⟩
      · obtain ⟨s1, s66, s67, s68, s69, s70⟩ := (hFi _).1 hf
        go_simp
        try exact rfl
      go_simp
      refine hK _ ?_
      clear hK K
      refine wpAnyK_take (i := 45) rfl (by kernel_rfl) (by kernel_rfl) (by kernel_rfl) (onlyN_panic _) hF5 (fun K hK => ?_)
      apply Exists.intro
      refine ⟨Or.inl ⟨by kernel_rfl, fun w' hf => ?_⟩, ?_⟩
      · obtain ⟨s1, s66, s67, s68, s69, s70⟩ := (hFi _).1 hf
        go_simp
        try exact rfl
      go_simp
      refine hK _ ?_
      clear hK K
      refine wpAnyK_take (i := 46) rfl (by kernel_rfl) (by kernel_rfl) (by kernel_rfl) (onlyN_panic _) hF5 (fun K hK => ?_)
      apply Exists.intro
      refine ⟨Or.inl ⟨by kernel_rfl, fun w' hf => ?_⟩, ?_⟩
      · obtain ⟨s1, s66, s67, s68, s69, s70⟩ := (hFi _).1 hf
        go_simp
        try exact rfl
      go_simp
      refine hK _ ?_
      clear hK K
      refine wpAnyK_take (i := 47) rfl (by kernel_rfl) (by kernel_rfl) (by kernel_rfl) (onlyN_panic _) hF5 (fun K hK => ?_)
      apply Exists.intro
      refine ⟨Or.inl ⟨by kernel_rfl, fun w' hf => ?_⟩, ?_⟩
      · obtain ⟨s1, s66, s67, s68, s69, s70⟩ := (hFi _).1 hf
        go_simp
        try exact rfl
      go_simp
      refine hK _ ?_
      clear hK K
      refine wpAnyK_one (k := 43) (by kernel_rfl) ?_
      refine wpOp_step rfl (fun K hK => ?_)
      have hTr := trace_row hT5.c
      go_simp
      go_at_call 14
      with_reducible refine hTr.mono ?_
      rintro e w6 ⟨⟨a6, c6, rfl, h6⟩, hb6⟩
      have hT6 := hT5.of hb6
      have hB6 := below_trans' hB5 (Nat.le_refl _) hb6
      have hF6 := hFw _ hT6
      have hS6 := same_trace s.tr a6 ar1 c6 cr1 htn w6 h6 (hsn.of hB6)
      refine hK _ _ ⟨hF6, ?_⟩
      clear hK K
      refine wpAnyK_one (k := 48) (by kernel_rfl) ?_
      refine wpOp_step rfl (fun K hK => ?_)
      go_simp
      go_at_call 35
      with_reducible refine hS6.mono ?_
      rintro e w7 ⟨rfl, hb7⟩
      have hT7 := hT6.of hb7
      have hB7 := below_trans' hB6 (Nat.le_refl _) hb7
      have hF7 := hFw _ hT7
      refine hK _ _ ⟨hF7, ?_⟩
      clear hK K
      refine wpAnyK_take (i := 49) rfl (by kernel_rfl) (by kernel_rfl) (by kernel_rfl) (onlyN_panic _) hF7 (fun K hK => ?_)
      apply Exists.intro
      refine ⟨Or.inl ⟨by kernel_rfl, fun w' hf => ?_⟩, ?_⟩
      · obtain ⟨s1, s66, s67, s68, s69, s70⟩ := (hFi _).1 hf
        go_simp
        try exact rfl
      go_simp
      refine hK _ ?_
      clear hK K
      refine wpAnyK_take (i := 50) rfl (by kernel_rfl) (by kernel_rfl) (by kernel_rfl) (onlyN_panic _) hF7 (fun K hK => ?_)
      apply Exists.intro
      refine ⟨Or.inl ⟨by kernel_rfl, fun w' hf => ?_⟩, ?_⟩
      · obtain ⟨s1, s66, s67, s68, s69, s70⟩ := (hFi _).1 hf
        go_simp
        try exact rfl
      go_simp
      refine hK _ ?_
      clear hK K
      refine wpAnyK_done (by kernel_rfl) ⟨rfl, ?_⟩
      go_wp2
      go_loopw [14] (fun i wr => ∃ k : Nat, i = .int .i64 k ∧ 1 ≤ k ∧ k ≤ 3 ∧ Below w.heap.size w wr) (fun i _ => 3 - (intOf i).toNat)
      case atStart => exact ⟨1, rfl, by omega, by omega, hB7⟩
      case round =>
        obtain ⟨k, rfl, hk1, hk3, hB⟩ := hrel
        have hTw := h.of hB
        by_cases hlt : k < 3
        · have i0 : (0 : Int) ≤ (k : Int) := by omega
          have i1 : (k : Int) < 3 := by omega
          have hk : k = 1 ∨ k = 2 := by omega
          have hky : k < D.y.l.length := by rw [h.lD]; exact hlt
          have hrk : (rg D.y.l k).s = 256 := by rw [h.lD]; rcases hk with rfl | rfl <;> rfl
          have hfk : (rg D.y.l k).f = rgF k := by rw [h.lD]; rcases hk with rfl | rfl <;> rfl
          have hyn : D.y.l.length = 3 := by rw [h.lD]; rfl
          have hbq : beg D.y.l k = rgQ n k := by rw [h.lD]; rfl
          have hBy := rg_bytes hn hk h.lM hTw.c.c.mem
          have e0 := hTw.d.e0
          have m0 := hTw.d.mem.rr.h0
          have m3 := (hTw.d.mem.rr.row k hky).1
          rw [hyn] at m0
          rw [hfk, Nat.zero_add] at m3
          have l1 := hTw.d.lt
          have l2 := World.block_lt_of_cell? wr _ m0
          have l3 := World.block_lt_of_cell? wr _ m3
          go_wp2_with (first
            | (go_at_call 36; (with_reducible refine hBy.mono ?_); (rintro e w5 ⟨⟨a5, c5, rfl, h5⟩, hb5⟩); have hT5 := hTw.of hb5; have f0 := hT5.d.e0; have f1 := hT5.d.mem.rr.h1; have f2 := hT5.d.mem.rr.h2; have f3 := hT5.d.mem.rr.hb k hky; have f4 := hT5.d.mem.rr.ht k hky; have hcv := rconv hT5.d.mem hky hrk; rw [hbq] at hcv; rw [hrk] at f3 f4; rw [hyn] at f1 f2; have g1 := hT5.d.lt; have g2 := World.block_lt_of_cell? w5 _ f1; have g3 := World.block_lt_of_cell? w5 _ f3; have g4 := World.block_lt_of_cell? w5 _ f4; have hSm := same_any a5 (some ⟨D.y.ts k, 0, none⟩) 256 c5 256 (fun j => s.tv (rgQ n k + j)) (by omega) w5 h5 (fun j hj => ⟨D.y.ts k, 0, rfl, by have := hT5.d.mem.tnts k hky j (by omega); rw [hbq] at this; rw [Nat.zero_add]; exact this⟩))
            | (go_at_call 37; (with_reducible refine hSm.mono ?_); (rintro e w6 ⟨rfl, hb6⟩)))
          go_roundw
          case rel => exact ⟨k + 1, by go_num, by omega, by omega, below_trans' (below_trans' hB (Nat.le_refl _) hb5) (Nat.le_refl _) hb6⟩
          case measure => first | (simp [intOf]; done) | (simp [intOf]; omega)
        · go_wp2
          go_ret
          exact ⟨rfl, hB⟩
end Go.Proofs.YtfaacmcnefbgcaaGreatDoor.m4
