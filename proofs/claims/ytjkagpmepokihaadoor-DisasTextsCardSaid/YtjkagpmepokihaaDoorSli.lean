/- Rows of instructions: their cells, what the slices that came in hold. -/
import Derived.Test.YtjkagpmepokihaaDoorOpn
import Derived.Lib.SmallJoins
namespace Go.Proofs.YtjkagpmepokihaaDoor
open Go.ChangeShapes Go.WideShapes Go.ChangeAt Go.RowKit
set_option linter.unusedVariables false
/-- The cells of instructions, one behind the other. -/
def cellsL (l : List In) : List Value := l.flatMap fun x => [.int .u8 x.op, .int .u8 x.rd, .int .u8 x.rs1, .int .u8 x.rs2, .int .i64 x.imm]
theorem cellsL_length (l : List In) : (cellsL l).length = l.length * 5 := by
  induction l with
  | nil => rfl
  | cons x l ih => rw [cellsL, List.flatMap_cons, List.length_append]; rw [cellsL] at ih; rw [ih]; simp only [List.length_cons, List.length_nil]; omega
theorem cellsL_one (l : List In) : ∀ u ∈ cellsL l, u.oneCell' = true := by
  intro u hu
  simp only [cellsL, List.mem_flatMap, List.mem_cons, List.not_mem_nil, or_false] at hu
  obtain ⟨x, _, h⟩ := hu
  rcases h with rfl | rfl | rfl | rfl | rfl <;> rfl
theorem cellsL_of {w : World} {b : Nat} : ∀ (l : List In) (off : Nat), (∀ i (h : i < l.length), inAt w b (off + i * 5) l[i]) → ∀ j u, (cellsL l)[j]? = some u → w.cell? ⟨b, off + j, none⟩ = some u := by
  intro l
  induction l with
  | nil => intro off _ j u h; simp [cellsL] at h
  | cons x l ih =>
    intro off hc j u h
    rw [cellsL, List.flatMap_cons] at h
    obtain ⟨g0, g1, g2, g3, g4⟩ := hc 0 (by simp)
    by_cases hj : j < 5
    · rw [List.getElem?_append_left (by simpa using hj)] at h
      have hj5 : j = 0 ∨ j = 1 ∨ j = 2 ∨ j = 3 ∨ j = 4 := by omega
      rcases hj5 with rfl | rfl | rfl | rfl | rfl
      · simp at h; subst h; simpa using g0
      · simp at h; subst h; simpa using g1
      · simp at h; subst h; simpa using g2
      · simp at h; subst h; simpa using g3
      · simp at h; subst h; simpa using g4
    · rw [List.getElem?_append_right (by simp; omega)] at h
      have := ih (off + 5) (fun i hi => by have := hc (i + 1) (by simp; omega); simp only [List.getElem_cons_succ] at this; rw [show off + 5 + i * 5 = off + (i + 1) * 5 by omega]; exact this) (j - 5) u (by simpa [cellsL] using h)
      rw [show off + 5 + (j - 5) = off + j by omega] at this
      exact this
theorem cellsL_at : ∀ (l : List In) (i : Nat) (h : i < l.length), (cellsL l)[i * 5]? = some (.int .u8 l[i].op) ∧ (cellsL l)[i * 5 + 1]? = some (.int .u8 l[i].rd) ∧ (cellsL l)[i * 5 + 2]? = some (.int .u8 l[i].rs1) ∧ (cellsL l)[i * 5 + 3]? = some (.int .u8 l[i].rs2) ∧ (cellsL l)[i * 5 + 4]? = some (.int .i64 l[i].imm) := by
  intro l
  induction l with
  | nil => intro i h; simp at h
  | cons x l ih =>
    intro i h
    cases i with
    | zero => simp [cellsL]
    | succ i =>
      have e : ∀ r, (cellsL (x :: l))[(i + 1) * 5 + r]? = (cellsL l)[i * 5 + r]? := fun r => by
        rw [cellsL, List.flatMap_cons, List.getElem?_append_right (by simp; omega)]
        congr 1
        simp
        omega
      obtain ⟨a0, a1, a2, a3, a4⟩ := ih i (by simpa using h)
      refine ⟨(e 0).trans a0, (e 1).trans a1, (e 2).trans a2, (e 3).trans a3, (e 4).trans a4⟩
theorem inAt_own {w : World} {base g n cap : Nat} {l : List In} (hl : l.length = n) (h : w.ownsRow base 24 5 (.slice (some ⟨g, 0, none⟩) n cap) n (cellsL l)) (i : Nat) (hi : i < l.length) : inAt w g (i * 5) l[i] := by
  obtain ⟨a0, a1, a2, a3, a4⟩ := cellsL_at l i hi
  exact ⟨(h.cellAt (i * 5) (by omega)).trans a0, (h.cellAt (i * 5 + 1) (by omega)).trans a1, (h.cellAt (i * 5 + 2) (by omega)).trans a2, (h.cellAt (i * 5 + 3) (by omega)).trans a3, (h.cellAt (i * 5 + 4) (by omega)).trans a4⟩
theorem infoI : (Tryd.prog.info? 24).map (fun i => (i.zero, i.size, i.bytes)) = some (some (.agg #[.int .u8 0, .int .u8 0, .int .u8 0, .int .u8 0, .int .i64 0]), 5, 16) := by kernel_rfl
theorem first_bad (l : List In) : (∀ x ∈ l, x.ok = true) ∨ ∃ m, ∃ h : m < l.length, l[m].ok = false ∧ ∀ i (hi : i < m), (l[i]'(by omega)).ok = true := by
  induction l with
  | nil => exact Or.inl (by simp)
  | cons x l ih =>
    cases hx : x.ok
    · exact Or.inr ⟨0, by simp, by simpa using hx, by omega⟩
    · rcases ih with h | ⟨m, hm, hb, hk⟩
      · exact Or.inl (by intro y hy; rcases List.mem_cons.1 hy with rfl | hy; exact hx; exact h y hy)
      · refine Or.inr ⟨m + 1, by simp; omega, by simpa using hb, fun i hi => ?_⟩
        cases i with
        | zero => simpa using hx
        | succ i => simpa using hk i (by omega)
theorem addp (b off k : Nat) : (⟨b, off, none⟩ : Addr).add k = ⟨b, off + k, none⟩ := by
  unfold Addr.add
  split
  · rename_i h; subst h; rfl
  · rfl
set_option maxRecDepth 100000 in
theorem insn_cells {H : Type} {enc : TypeId × Value → H} {W : World} {base : Nat} {sp : Nat → Bool} {held : Bool} {fuel : Nat} {cs : List Value} {x : DataW H × List MemPlace} (h : DataW.trod enc Tryd.prog W base sp held fuel 24 cs = some x) :
    ∃ y : In, y.wf ∧ cs = [.int .u8 y.op, .int .u8 y.rd, .int .u8 y.rs1, .int .u8 y.rs2, .int .i64 y.imm] := by
  have hC : Tryd.prog.cellsOf 24 = 5 := by kernel_rfl
  have c8 : Tryd.prog.cellsOf 5 = 1 := by kernel_rfl
  have c64 : Tryd.prog.cellsOf 2 = 1 := by kernel_rfl
  obtain ⟨xs, n, _, hx, hl, hlen, hg⟩ := DataW.trod_struct Tryd.underlying24 h
  rw [hC] at hl
  match cs, hl with
  | [x0, x1, x2, x3, x4], _ =>
    match xs, hlen with
    | [y0, y1, y2, y3, y4], _ =>
      have e0 : DataW.trod enc Tryd.prog W base sp held n 5 [x0] = some y0 := by simpa [c8] using hg 0 _ rfl
      have e1 : DataW.trod enc Tryd.prog W base sp held n 5 [x1] = some y1 := by simpa [c8] using hg 1 _ rfl
      have e2 : DataW.trod enc Tryd.prog W base sp held n 5 [x2] = some y2 := by simpa [c8] using hg 2 _ rfl
      have e3 : DataW.trod enc Tryd.prog W base sp held n 5 [x3] = some y3 := by simpa [c8] using hg 3 _ rfl
      have e4 : DataW.trod enc Tryd.prog W base sp held n 2 [x4] = some y4 := by simpa [c64] using hg 4 _ rfl
      obtain ⟨n0, h0, _, w0⟩ := DataW.trod_int Tryd.underlying5 e0
      obtain ⟨n1, h1, _, w1⟩ := DataW.trod_int Tryd.underlying5 e1
      obtain ⟨n2, h2, _, w2⟩ := DataW.trod_int Tryd.underlying5 e2
      obtain ⟨n3, h3, _, w3⟩ := DataW.trod_int Tryd.underlying5 e3
      obtain ⟨n4, h4, _, w4⟩ := DataW.trod_int Tryd.underlying2 e4
      simp only [List.cons.injEq, and_true] at h0 h1 h2 h3 h4
      subst h0 h1 h2 h3 h4
      obtain ⟨y, hy, rfl, rfl, rfl, rfl, rfl⟩ := to_in w0 w1 w2 w3 w4
      exact ⟨y, hy, rfl⟩
theorem list_of {p : Nat → In → Prop} : ∀ n, (∀ i, i < n → ∃ x, p i x) → ∃ l : List In, l.length = n ∧ ∀ i (h : i < l.length), p i l[i]
  | 0, _ => ⟨[], rfl, fun i h => by simp at h⟩
  | n + 1, h => by
    obtain ⟨l, hl, hp⟩ := list_of n (fun i hi => h i (by omega))
    obtain ⟨x, hx⟩ := h n (by omega)
    refine ⟨l ++ [x], by simp [hl], fun i hi => ?_⟩
    by_cases e : i < l.length
    · rw [List.getElem_append_left e]; exact hp i e
    · have : i = n := by simp at hi; omega
      subst this
      rw [List.getElem_append_right (by omega)]
      simpa using hx
set_option maxRecDepth 100000 in
theorem open_insns {H : Type} {enc : TypeId × Value → H} {W : World} {sp : Nat → Bool} {held : Bool} {fuel b off len cap : Nat} {x : DataW H × List MemPlace}
    (h : DataW.trod enc Tryd.prog W 0 sp held fuel 31 [.slice (some ⟨b, off, none⟩) len cap] = some x) :
    ∃ l : List In, l.length = len ∧ (∀ x ∈ l, x.wf) ∧ (∀ i (h : i < l.length), inAt W b (off + i * 5) l[i]) := by
  have hC : Tryd.prog.cellsOf 24 = 5 := by kernel_rfl
  rcases DataW.trod_slice Tryd.underlying31 h with ⟨hcs, _⟩ | ⟨a, len', cap', elems, rest, n, _, hcs, _, _, hl, hm, hlen, hel, _⟩
  · simp at hcs
  · simp only [List.cons.injEq, Value.slice.injEq, Option.some.injEq, and_true] at hcs
    obtain ⟨rfl, rfl, rfl⟩ := hcs
    obtain ⟨l, hl1, hp⟩ := list_of (p := fun i y => y.wf ∧ inAt W b (off + i * 5) y) len (fun i hi => by
      have he := hel i hi
      rw [List.getElem?_eq_getElem (by omega), hC] at he
      simp only [Option.bind_eq_some_iff] at he
      obtain ⟨cs', hc, ht⟩ := he
      obtain ⟨y, hy, rfl⟩ := insn_cells ht
      obtain ⟨_, _, hat⟩ := World.cells?_some hc
      rw [addp] at hat
      refine ⟨y, hy, ?_⟩
      have k0 := hat 0 (by omega)
      have k1 := hat 1 (by omega)
      have k2 := hat 2 (by omega)
      have k3 := hat 3 (by omega)
      have k4 := hat 4 (by omega)
      rw [addp] at k0 k1 k2 k3 k4
      exact ⟨k0, k1, k2, k3, k4⟩)
    refine ⟨l, hl1, fun z hz => ?_, fun i hi => (hp i hi).2⟩
    obtain ⟨i, hi, rfl⟩ := List.getElem_of_mem hz
    exact (hp i hi).1
theorem laidOut : laidOutB Tryd.prog = true := by kernel_rfl
set_option maxRecDepth 100000 in
theorem slice_spot {H : Type} {enc : TypeId × Value → H} {W : World} {sp : Nat → Bool} {held : Bool} {fuel b off len cap : Nat} {spot : Option _} {x : DataW H × List MemPlace}
    (h : DataW.trod enc Tryd.prog W 0 sp held fuel 31 [.slice (some ⟨b, off, spot⟩) len cap] = some x) (hl : 0 < len) : spot = none := by
  have hC : Tryd.prog.cellsOf 24 = 5 := by kernel_rfl
  rcases DataW.trod_slice Tryd.underlying31 h with ⟨hcs, _⟩ | ⟨a, len', cap', elems, rest, n, _, hcs, _, _, hlc, hm, hlen, hel, _⟩
  · simp at hcs
  · simp only [List.cons.injEq, Value.slice.injEq, Option.some.injEq, and_true] at hcs
    obtain ⟨rfl, rfl, rfl⟩ := hcs
    have he := hel 0 hl
    rw [List.getElem?_eq_getElem (by omega), hC] at he
    simp only [Option.bind_eq_some_iff] at he
    obtain ⟨cs', hc, ht⟩ := he
    obtain ⟨y, hy, rfl⟩ := insn_cells ht
    obtain ⟨_, _, hat⟩ := World.cells?_some hc
    have k0 := hat 0 (by omega)
    simpa [Addr.add] using World.cell?_spot k0
end Go.Proofs.YtjkagpmepokihaaDoor
