/- Contract of the document's New: the walk. -/
import Derived.Test.YtkcgnpcfdfkpjaaRo
import Derived.Test.YtkcgnpcfdfkpjaaHv
namespace Go.Proofs.Ytkcgnpcfdfkpjaa
open Go.ChangeShapes Go.WideShapes Go.ChangeAt Go.RowKit
set_option linter.unusedVariables false
theorem rnew_no {w : World} {v : Value} {l : List Rg} (hv : SlOf w v l) (hf : wfL l) (hn : l.length ≤ 9223372036854775807) (h : ¬ MayL l) :
    Calls Try.prog 11 #[v] w fun e w' => e = .returned (.tuple #[.pointer none, .int .i64 2]) ∧ Below w.heap.size w w' := by
  have hM := (may_sl hv hf hn).mono (R' := fun e w' => e = .returned (.bool false) ∧ Below w.heap.size w w') fun e w' ⟨⟨r, he, hr⟩, hb⟩ => ⟨by rw [he, Bool.eq_false_iff.2 (fun hh => h (hr.1 hh))], hb⟩
  go_enter Try.func11, Try.ntmps11
  go_wp2_with (go_at_call 20; (with_reducible refine hM.mono ?_); (rintro e w1 ⟨rfl, hb1⟩))
  go_ret2
  exact ⟨rfl, hb1⟩
/-- A new memory of the document's. -/
def RnP (l : List Rg) (w0 : World) (e : Ending) (w' : World) : Prop := (∃ y : Mr, e = .returned (.tuple #[.pointer (some ⟨y.rb, 0, none⟩), .int .i64 0]) ∧ y.l = l ∧ IsR w' y (fun _ => 0) (fun _ => false) ∧ w0.heap.size ≤ y.rb ∧ w0.heap.size ≤ y.lb ∧ w0.heap.size ≤ y.bb ∧ w0.heap.size ≤ y.ub ∧ ∀ j, y.bl j → w0.heap.size ≤ j) ∧ Below w0.heap.size w0 w'
theorem own_blk {w : World} {base size n g cap : Nat} {e : TypeId} {xs : List Value} (h : w.ownsRow base e size (.slice (some ⟨g, 0, none⟩) n cap) n xs) : ∃ cur, w.heap[g]? = some (.cells cur e (0, 0)) := by
  rcases h.2 with ⟨h0, _⟩ | ⟨g', cap', cur, hv, hgb, hh, hr⟩
  · cases h0
  · simp only [Value.slice.injEq, Option.some.injEq, Addr.mk.injEq] at hv
    obtain ⟨⟨rfl, _⟩, _⟩ := hv
    exact ⟨cur, hh⟩
theorem ty_ne {w : World} {i j : Nat} {C D : Array Value} {s t : TypeId} (h1 : w.heap[i]? = some (.cells C s (0, 0))) (h2 : w.heap[j]? = some (.cells D t (0, 0))) (h : s ≠ t) : i ≠ j := by
  intro e; subst e
  rw [h1] at h2
  injection h2 with h2
  injection h2 with _ h3 _
  exact h h3
theorem NwI.done {l : List Rg} (hl : MayL l) (hf : wfL l) {M base gL cL : Nat} {w0 : World} {bs ts : Nat → Nat} {vB vT : Value} {w : World} (h : NwI l M base w0 (.slice (some ⟨gL, 0, none⟩) l.length cL) bs ts l.length l.length vB vT w) :
    RnP l w0 (.returned (.tuple #[.pointer (some ⟨M, 0, none⟩), .int .i64 0])) w := by
  have hn : 0 < l.length := hl.2.1
  obtain ⟨gB, cB, rfl, hgB, hgBl⟩ := h.rB.own.form hn
  obtain ⟨gT, cT, rfl, hgT, hgTl⟩ := h.rT.own.form hn
  obtain ⟨CB, hCB⟩ := own_blk h.rB.own
  obtain ⟨CT, hCT⟩ := own_blk h.rT.own
  obtain ⟨CL, hCL⟩ := own_blk h.ownL
  have hgL : base ≤ gL := by
    rcases h.ownL.2 with ⟨h0, _⟩ | ⟨g', cap', cur, hv, hgb, hh, hr⟩
    · cases h0
    · simp only [Value.slice.injEq, Option.some.injEq, Addr.mk.injEq] at hv
      obtain ⟨⟨rfl, _⟩, _⟩ := hv
      exact hgb
  have hM := h.hM
  have hb := h.hb
  have inj : ∀ {f : Nat → Nat}, (∀ i j, i < j → j < l.length → f i < f j) → ∀ i < l.length, ∀ j < l.length, f i = f j → i = j := by
    intro f hm i hi j hj e
    rcases Nat.lt_trichotomy i j with h | h | h
    · have := hm i j h hj; omega
    · exact h
    · have := hm j i h hi; omega
  have cB' : ∀ i < l.length, w.cell? ⟨gB, i, none⟩ = some (.slice (some ⟨bs i, 0, none⟩) (rg l i).s (rg l i).s) := fun i hi => by
    have := h.rB.own.cells (g := gB) rfl i _ (slL_at l bs _ i hi)
    rw [addp, Nat.zero_add] at this; exact this
  have cT' : ∀ i < l.length, w.cell? ⟨gT, i, none⟩ = some (.slice (some ⟨ts i, 0, none⟩) (rg l i).s (rg l i).s) := fun i hi => by
    have := h.rT.own.cells (g := gT) rfl i _ (slL_at l ts _ i hi)
    rw [addp, Nat.zero_add] at this; exact this
  have cL' : rowAt w gL 0 l := fun i hi => by
    have key : ∀ j < 3, ∀ u, (rgL l i)[j]? = some u → w.cell? ⟨gL, i * 3 + j, none⟩ = some u := fun j hj u hu => by
      have := h.ownL.cells (g := gL) rfl (i * 3 + j) u (by rw [rgsL_at l _ i j hi hj]; exact hu)
      rw [addp, Nat.zero_add] at this; exact this
    unfold regAt
    rw [Nat.zero_add]
    exact ⟨key 0 (by omega) _ rfl, key 1 (by omega) _ rfl, key 2 (by omega) _ rfl⟩
  have nbl : ∀ g C t, w.heap[g]? = some (.cells C t (0, 0)) → t ≠ 5 → t ≠ 4 → ∀ i < l.length, g ≠ bs i ∧ g ≠ ts i := fun g C t hg h1 h2 i hi => ⟨ty_ne hg (h.rB.blk i hi) h1, ty_ne hg (h.rT.blk i hi) h2⟩
  refine ⟨⟨⟨M, gL, gB, gT, cL, cB, cT, bs, ts, l⟩, rfl, rfl, ?_, hM, by simp only; omega, by simp only; omega, by simp only; omega, ?_⟩, h.bel⟩
  · exact {
      rr := ⟨h.row.1 0 (by simp), h.row.1 1 (by simp), h.row.1 2 (by simp), cL', cB', cT'⟩
      vals := fun i hi o ho => made_cell (h.rB.blk i hi) ho
      tnts := fun i hi o ho => made_cell (h.rT.blk i hi) ho
      fv := fun i hi o => made_frozen (h.rB.blk i hi) o
      ft := fun i hi o => made_frozen (h.rT.blk i hi) o
      lv := fun i hi => h.rB.lt i hi
      lt := fun i hi => h.rT.lt i hi
      dd := fun i hi j hj => ty_ne (h.rB.blk i hi) (h.rT.blk j hj) (by decide)
      db := inj h.rB.inc
      dt := inj h.rT.inc
      n0 := by rintro ⟨i, hi, e | e⟩; (have := h.rB.up i hi; simp only at e; omega); (have := h.rT.up i hi; simp only at e; omega)
      n1 := by rintro ⟨i, hi, e | e⟩; exact (nbl gL CL _ hCL (by decide) (by decide) i hi).1 e; exact (nbl gL CL _ hCL (by decide) (by decide) i hi).2 e
      n2 := by rintro ⟨i, hi, e | e⟩; exact (nbl gB CB _ hCB (by decide) (by decide) i hi).1 e; exact (nbl gB CB _ hCB (by decide) (by decide) i hi).2 e
      n3 := by rintro ⟨i, hi, e | e⟩; exact (nbl gT CT _ hCT (by decide) (by decide) i hi).1 e; exact (nbl gT CT _ hCT (by decide) (by decide) i hi).2 e
      may := hl
      wf := hf
      b8 := fun _ => by decide }
  · rintro j ⟨i, hi, e | e⟩
    · have := h.rB.up i hi; simp only at e; omega
    · have := h.rT.up i hi; simp only at e; omega
set_option maxHeartbeats 4000000 in
set_option maxRecDepth 100000 in
theorem rnew_yes (l : List Rg) (hl : MayL l) (hf : wfL l) (b o c : Nat) (w0 : World) (hr : rowAt w0 b o l) (hb : b < w0.heap.size) :
    Calls Try.prog 11 #[.slice (some ⟨b, o, none⟩) l.length c] w0 (RnP l w0) := by
  have hl16 := hl.2.2
  have hl1 := hl.2.1
  have hM := (may_any l hf b o c (by omega) w0 hr hb).mono (R' := fun e w' => e = .returned (.bool true) ∧ Below w0.heap.size w0 w') fun e w' ⟨⟨r, he, hr⟩, hb⟩ => ⟨by rw [he, hr.2 hl], hb⟩
  obtain ⟨iR, hiR, zR0, zR1, zR2⟩ := info_parts infoR
  obtain ⟨iB, hiB, zB0, zB1, zB2⟩ := info_parts infoSB
  obtain ⟨iT, hiT, zT0, zT1, zT2⟩ := info_parts infoST
  go_enter Try.func11, Try.ntmps11
  go_wp2_with (first | (go_at_call 20; (with_reducible refine hM.mono ?_); (rintro e w1 ⟨rfl, hb1⟩)) | (at_builtin; refine wpList_append_lies _ rfl _ _ 22 rfl w1.heap.size 36 iR (.agg #[.int .u64 0, .int .u64 0, .int .u8 0]) 3 24 Try.underlying22 hiR zR0 zR1 zR2 rfl (by decide) (.slice none 0 0) 0 [] rfl (World.ownsRow_nil _ _ _ _) ⟨b, o, none⟩ l.length c (rgsL l l.length) rfl (by rw [rgsL_length]) ?qc1 (rgsL_one _ _) (by omega) (by unfold maxLen; omega) (by omega) (Nat.le_refl _) _ rfl ?_))
  case qc1 => exact rgsL_cells (hr.of hb1)
  intro gL cL w2 hownL hgrL hatL hltL
  have hownL : w2.ownsRow w1.heap.size 36 3 (.slice (some ⟨gL, 0, none⟩) l.length cL) l.length (rgsL l l.length) := by simpa using hownL
  have hB2 : Below w0.heap.size w0 w2 := hb1.grown hgrL hb1.size (fun k hk => by simp [Value.ownBlock] at hk)
  obtain ⟨M, hMe⟩ : ∃ M, w2.heap.size = M := ⟨_, rfl⟩
  have hgl : some M ≠ (Value.slice (some ⟨gL, 0, none⟩) l.length cL).ownBlock := by
    intro e
    simp only [Value.ownBlock, Option.some.injEq] at e
    omega
  obtain ⟨w3, hw3⟩ : ∃ w3, w2.alloc (.cells #[.slice (some ⟨gL, 0, none⟩) l.length cL, .slice none 0 0, .slice none 0 0] 70) = w3 := ⟨_, rfl⟩
  have hB3 : Below w2.heap.size w2 w3 := by rw [← hw3]; exact aBelow (Below.refl _ _) _
  have hN3 : NwI l M w1.heap.size w0 (.slice (some ⟨gL, 0, none⟩) l.length cL) (fun _ => 0) (fun _ => 0) 0 0 (.slice none 0 0) (.slice none 0 0) w3 :=
    ⟨below_trans' hB2 (Nat.le_refl _) hB3, by rw [← hw3, ← hMe]; exact rowG_new _ _ _, own_of hownL hB3, hgl, by rw [← hMe]; exact hB2.size, hb1.size, RowI.none _ _ _ _ _ _ _, RowI.none _ _ _ _ _ _ _⟩
  clear hownL hgrL hatL hltL hgl hB2
  go_wp2
  try rw [hw3]
  try simp only [hMe]
  generalize hvL : Value.slice (some ⟨gL, 0, none⟩) l.length cL = vL at *
  go_loopw [5] (fun i wr => ∃ (k : Nat) (vB vT : Value) (bs ts : Nat → Nat), i = .int .i64 k ∧ k ≤ l.length ∧ NwI l M w1.heap.size w0 vL bs ts k k vB vT wr) (fun i _ => l.length - (intOf i).toNat)
  case atStart => exact ⟨0, _, _, _, _, rfl, Nat.zero_le _, hN3⟩
  case round =>
    obtain ⟨k, vB, vT, bs, ts, rfl, hk, hN⟩ := hrel
    by_cases hlt : k < l.length
    · obtain ⟨⟨⟨g1, g2, g3, g4⟩, g5⟩, _⟩ := hl.1 k hlt
      obtain ⟨c0, c1, c2⟩ := hr k hlt
      have c1 := stay hN.bel c1
      have hMl := hN.row.2.2
      have d0 : wr.cell? ⟨M, 1, none⟩ = some vB := hN.row.1 1 (by simp)
      have k0 : (0 : Int) ≤ (k : Int) := by omega
      have k1 : (k : Int) < (l.length : Int) := by omega
      have hBW : Below wr.heap.size wr ((wr.alloc (.cells (madeCells #[.int .u8 0] (rg l k).s) 5)).alloc (.cells #[.slice (some ⟨wr.heap.size, 0, none⟩) (rg l k).s (rg l k).s] 57)).drew := bd1 (aBelow (aBelow (Below.refl _ _) _) _)
      have owB := own_of hN.rB.own hBW
      have nB : ∀ j u, [Value.slice (some ⟨wr.heap.size, 0, none⟩) (rg l k).s (rg l k).s][j]? = some u → ((wr.alloc (.cells (madeCells #[.int .u8 0] (rg l k).s) 5)).alloc (.cells #[.slice (some ⟨wr.heap.size, 0, none⟩) (rg l k).s (rg l k).s] 57)).drew.cell? ((⟨wr.heap.size + 1, 0, none⟩ : Addr).add j) = some u := news1 wr _ _ _
      have hm1 := run_make_row' (P := Try.prog) 57 5 (.int .u8 0) 1 Try.underlying57 info8 rfl .i64 .i64 (rg l k).s (by omega) (by omega)
      have hm2 := run_make_row' (P := Try.prog) 49 4 (.bool false) 1 Try.underlying49 infoB rfl .i64 .i64 (rg l k).s (by omega) (by omega)
      have hwr : IntKind.i64.wrap ((rg l k).s : Int) = ((rg l k).s : Int) := by rw [IntKind.wrap_i64]; omega
      go_wp2
      go_region_law (refine step_append_lies _ rfl (.tmp 23) (.tmp 31) 67 rfl (M + 1) 57 iB _ 1 24 Try.underlying67 hiB zB0 zB1 zB2 rfl (by decide) vB k (slL l bs k) rfl owB ⟨wr.heap.size + 1, 0, none⟩ 1 1 [.slice (some ⟨wr.heap.size, 0, none⟩) (rg l k).s (rg l k).s] rfl rfl nB (by intro u hu; simp at hu; subst hu; rfl) (by decide) (by unfold maxLen; omega) (by omega) (by simp only [World.size_alloc, World.size_drew]; omega) _ rfl ?_; intro g cap w5 hown5 hgrow hat hlt5; obtain ⟨q1, q2, q3, q4⟩ := hN.at5 hBW owB hgrow)
      all_goals (
        have hN5 := hN.stepB (W := ((wr.alloc (.cells (madeCells #[.int .u8 0] (rg l k).s) 5)).alloc (.cells #[.slice (some ⟨wr.heap.size, 0, none⟩) (rg l k).s (rg l k).s] 57)).drew) rfl hgrow hown5
        obtain ⟨w6, hw6⟩ : ∃ w6, w5.setCell ⟨M, 1, none⟩ (.slice (some ⟨g, 0, none⟩) (k + 1) cap) = w6 := ⟨_, rfl⟩
        rw [hw6] at hN5
        try rw [hw6]
        clear hw6 q1 q2 q3 q4 hgrow hat hlt5 hown5 owB nB d0 c1 hBW
        generalize put1 bs k wr.heap.size = bs' at hN5
        obtain ⟨c0, c1, c2⟩ := hr k hlt
        have c1 := stay hN5.bel c1
        have hMl := hN5.row.2.2
        have d0 : w6.cell? ⟨M, 2, none⟩ = some vT := hN5.row.1 2 (by simp)
        have hBW : Below w6.heap.size w6 ((w6.alloc (.cells (madeCells #[.bool false] (rg l k).s) 4)).alloc (.cells #[.slice (some ⟨w6.heap.size, 0, none⟩) (rg l k).s (rg l k).s] 49)).drew := bd1 (aBelow (aBelow (Below.refl _ _) _) _)
        have owT := own_of hN5.rT.own hBW
        have nT : ∀ j u, [Value.slice (some ⟨w6.heap.size, 0, none⟩) (rg l k).s (rg l k).s][j]? = some u → ((w6.alloc (.cells (madeCells #[.bool false] (rg l k).s) 4)).alloc (.cells #[.slice (some ⟨w6.heap.size, 0, none⟩) (rg l k).s (rg l k).s] 49)).drew.cell? ((⟨w6.heap.size + 1, 0, none⟩ : Addr).add j) = some u := news1 w6 _ _ _
        go_wp2
        go_region_law (refine step_append_lies _ rfl (.tmp 39) (.tmp 47) 68 rfl (M + 1) 49 iT _ 1 24 Try.underlying68 hiT zT0 zT1 zT2 rfl (by decide) vT k (slL l ts k) rfl owT ⟨w6.heap.size + 1, 0, none⟩ 1 1 [.slice (some ⟨w6.heap.size, 0, none⟩) (rg l k).s (rg l k).s] rfl rfl nT (by intro u hu; simp at hu; subst hu; rfl) (by decide) (by unfold maxLen; omega) (by omega) (by simp only [World.size_alloc, World.size_drew]; omega) _ rfl ?_; intro g' cap' w7 hown7 hgrow hat hlt5; obtain ⟨q1, q2, q3, q4⟩ := hN5.at5 hBW owT hgrow)
        all_goals (
          have hN7 := hN5.stepT (W := ((w6.alloc (.cells (madeCells #[.bool false] (rg l k).s) 4)).alloc (.cells #[.slice (some ⟨w6.heap.size, 0, none⟩) (rg l k).s (rg l k).s] 49)).drew) rfl hgrow hown7
          go_wp2
          go_roundw
          case rel => exact ⟨k + 1, _, _, _, _, by go_num, by omega, hN7⟩
          case measure => first | (simp [intOf]; done) | (simp [intOf]; omega)))
    · obtain rfl : k = l.length := by omega
      subst hvL
      have hD := hN.done hl hf
      go_wp2
      go_ret2
      exact hD
end Go.Proofs.Ytkcgnpcfdfkpjaa
