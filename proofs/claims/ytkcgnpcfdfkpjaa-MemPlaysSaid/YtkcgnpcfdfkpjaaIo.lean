/- What comes in: rows of regions, rows of steps, a step by value. -/
import Derived.Test.YtkcgnpcfdfkpjaaMp
import Derived.ProofKit
import Derived.OpenShut
import Derived.ChangeMaps5
namespace Go.Proofs.Ytkcgnpcfdfkpjaa
open Go.ChangeShapes Go.WideShapes Go.ChangeAt Go.RowKit
set_option linter.unusedVariables false
/-- A step of a script. -/
structure St where
  d : Int
  a : Nat
  n : Int
  v : Nat
  s : ByteArray
  t : Bool
def St.wf (x : St) : Prop := (-9223372036854775808 ≤ x.d ∧ x.d < 9223372036854775808) ∧ x.a < 18446744073709551616 ∧ (-9223372036854775808 ≤ x.n ∧ x.n < 9223372036854775808) ∧ x.v < 18446744073709551616 ∧ x.s.size ≤ 9223372036854775807
def St0 : St := ⟨0, 0, 0, 0, ByteArray.empty, false⟩
def sg (l : List St) (i : Nat) : St := l.getD i St0
def stC (x : St) : List Value := [.int .i64 x.d, .int .u64 x.a, .int .i64 x.n, .int .u64 x.v, .string x.s, .bool x.t]
def stAt (w : World) (b o : Nat) (x : St) : Prop := w.cell? ⟨b, o, none⟩ = some (.int .i64 x.d) ∧ w.cell? ⟨b, o + 1, none⟩ = some (.int .u64 x.a) ∧ w.cell? ⟨b, o + 2, none⟩ = some (.int .i64 x.n) ∧ w.cell? ⟨b, o + 3, none⟩ = some (.int .u64 x.v) ∧ w.cell? ⟨b, o + 4, none⟩ = some (.string x.s) ∧ w.cell? ⟨b, o + 5, none⟩ = some (.bool x.t)
theorem stAt.of {w w' : World} {b o : Nat} {x : St} (h : stAt w b o x) (hb : Below w.heap.size w w') : stAt w' b o x := ⟨stay hb h.1, stay hb h.2.1, stay hb h.2.2.1, stay hb h.2.2.2.1, stay hb h.2.2.2.2.1, stay hb h.2.2.2.2.2⟩
/-- A row of steps, as a slice has it. -/
def StOf (w : World) (v : Value) (l : List St) : Prop := (l = [] ∧ ∃ a c, v = .slice a 0 c) ∨ ∃ b o c, v = .slice (some ⟨b, o, none⟩) l.length c ∧ (∀ i < l.length, stAt w b (o + i * 6) (sg l i)) ∧ b < w.heap.size ∧ l.length ≤ c
theorem StOf.of {w w' : World} {v : Value} {l : List St} (h : StOf w v l) (hb : Below w.heap.size w w') : StOf w' v l := by
  rcases h with h | ⟨b, o, c, h, hr, hl, hc⟩
  · exact .inl h
  · exact .inr ⟨b, o, c, h, fun i hi => (hr i hi).of hb, Nat.lt_of_lt_of_le hl hb.size, hc⟩
theorem list_of {α : Type} {p : Nat → α → Prop} : ∀ n, (∀ i, i < n → ∃ x, p i x) → ∃ l : List α, l.length = n ∧ ∀ i (h : i < l.length), p i l[i]
  | 0, _ => ⟨[], rfl, fun i h => by simp at h⟩
  | n + 1, h => by
    obtain ⟨l, hl, hp⟩ := list_of n (fun i hi => h i (by omega))
    obtain ⟨x, hx⟩ := h n (by omega)
    refine ⟨l ++ [x], by simp [hl], fun i hi => ?_⟩
    by_cases e : i < l.length
    · rw [List.getElem_append_left e]; exact hp i e
    · have : i = n := by simp at hi; omega
      subst this
      rw [List.getElem_append_right (by omega)]
      simpa using hx
theorem laidOut : laidOutB Try.prog = true := by kernel_rfl
section
variable {H : Type} {enc : TypeId × Value → H} {W : World} {base : Nat} {sp : Nat → Bool} {held : Bool}
set_option maxRecDepth 100000 in
theorem reg_cells {fuel : Nat} {cs : List Value} {x : DataW H × List MemPlace} (h : DataW.trod enc Try.prog W base sp held fuel 36 cs = some x) :
    ∃ y : Rg, y.wf ∧ cs = [.int .u64 y.f, .int .u64 y.s, .int .u8 y.k] := by
  have hC : Try.prog.cellsOf 36 = 3 := by kernel_rfl
  have c8 : Try.prog.cellsOf 5 = 1 := by kernel_rfl
  have c64 : Try.prog.cellsOf 34 = 1 := by kernel_rfl
  obtain ⟨xs, n, _, hx, hl, hlen, hg⟩ := DataW.trod_struct Try.underlying36 h
  rw [hC] at hl
  match cs, hl with
  | [x0, x1, x2], _ =>
    match xs, hlen with
    | [y0, y1, y2], _ =>
      have e0 : DataW.trod enc Try.prog W base sp held n 34 [x0] = some y0 := by simpa [c64] using hg 0 _ rfl
      have e1 : DataW.trod enc Try.prog W base sp held n 34 [x1] = some y1 := by simpa [c64] using hg 1 _ rfl
      have e2 : DataW.trod enc Try.prog W base sp held n 5 [x2] = some y2 := by simpa [c8] using hg 2 _ rfl
      obtain ⟨n0, h0, _, w0⟩ := DataW.trod_int Try.underlying34 e0
      obtain ⟨n1, h1, _, w1⟩ := DataW.trod_int Try.underlying34 e1
      obtain ⟨n2, h2, _, w2⟩ := DataW.trod_int Try.underlying5 e2
      simp only [List.cons.injEq, and_true] at h0 h1 h2
      subst h0 h1 h2
      have d0 := bounds_u64 w0
      have d1 := bounds_u64 w1
      have d2 := bounds_u8 w2
      refine ⟨⟨n0.toNat, n1.toNat, n2.toNat⟩, by unfold Rg.wf; simp only; omega, ?_⟩
      simp only [Int.toNat_of_nonneg d0.1, Int.toNat_of_nonneg d1.1, Int.toNat_of_nonneg d2.1]
set_option maxRecDepth 100000 in
theorem st_cells {fuel : Nat} {cs : List Value} {x : DataW H × List MemPlace} (h : DataW.trod enc Try.prog W base sp held fuel 39 cs = some x) :
    ∃ y : St, y.wf ∧ cs = stC y := by
  have hC : Try.prog.cellsOf 39 = 6 := by kernel_rfl
  have ci : Try.prog.cellsOf 3 = 1 := by kernel_rfl
  have c64 : Try.prog.cellsOf 34 = 1 := by kernel_rfl
  have cs1 : Try.prog.cellsOf 9 = 1 := by kernel_rfl
  have cb : Try.prog.cellsOf 4 = 1 := by kernel_rfl
  obtain ⟨xs, n, _, hx, hl, hlen, hg⟩ := DataW.trod_struct Try.underlying39 h
  rw [hC] at hl
  match cs, hl with
  | [x0, x1, x2, x3, x4, x5], _ =>
    match xs, hlen with
    | [y0, y1, y2, y3, y4, y5], _ =>
      have e0 : DataW.trod enc Try.prog W base sp held n 3 [x0] = some y0 := by simpa [ci] using hg 0 _ rfl
      have e1 : DataW.trod enc Try.prog W base sp held n 34 [x1] = some y1 := by simpa [ci, c64] using hg 1 _ rfl
      have e2 : DataW.trod enc Try.prog W base sp held n 3 [x2] = some y2 := by simpa [ci, c64] using hg 2 _ rfl
      have e3 : DataW.trod enc Try.prog W base sp held n 34 [x3] = some y3 := by simpa [ci, c64] using hg 3 _ rfl
      have e4 : DataW.trod enc Try.prog W base sp held n 9 [x4] = some y4 := by simpa [ci, c64, cs1] using hg 4 _ rfl
      have e5 : DataW.trod enc Try.prog W base sp held n 4 [x5] = some y5 := by simpa [ci, c64, cs1, cb] using hg 5 _ rfl
      obtain ⟨n0, h0, _, w0⟩ := DataW.trod_int Try.underlying3 e0
      obtain ⟨n1, h1, _, w1⟩ := DataW.trod_int Try.underlying34 e1
      obtain ⟨n2, h2, _, w2⟩ := DataW.trod_int Try.underlying3 e2
      obtain ⟨n3, h3, _, w3⟩ := DataW.trod_int Try.underlying34 e3
      obtain ⟨s4, h4, _, w4⟩ := DataW.trod_string Try.underlying9 e4
      obtain ⟨b5, h5, _⟩ := DataW.trod_bool Try.underlying4 e5
      simp only [List.cons.injEq, and_true] at h0 h1 h2 h3 h4 h5
      subst h0 h1 h2 h3 h4 h5
      have d0 := bounds_i64 w0
      have d1 := bounds_u64 w1
      have d2 := bounds_i64 w2
      have d3 := bounds_u64 w3
      unfold maxLen at w4
      refine ⟨⟨n0, n1.toNat, n2, n3.toNat, s4, b5⟩, by unfold St.wf; simp only; omega, ?_⟩
      simp only [stC, Int.toNat_of_nonneg d1.1, Int.toNat_of_nonneg d3.1]
set_option maxRecDepth 100000 in
theorem open_regs {fuel len cap : Nat} {a : Option Addr} {x : DataW H × List MemPlace} (h : DataW.trod enc Try.prog W 0 sp held fuel 22 [.slice a len cap] = some x) :
    ∃ l : List Rg, l.length = len ∧ wfL l ∧ SlOf W (.slice a len cap) l ∧ len ≤ 9223372036854775807 := by
  have hC : Try.prog.cellsOf 36 = 3 := by kernel_rfl
  rcases DataW.trod_slice Try.underlying22 h with ⟨hcs, _⟩ | ⟨a', len', cap', elems, rest, n, _, hcs, _, hlc, hm, hm2, hlen, hel, _⟩
  · simp at hcs
    obtain ⟨rfl, rfl, rfl⟩ := hcs
    exact ⟨[], rfl, fun i => by simp [rg, Rg.wf], .inl ⟨rfl, _, _, rfl⟩, by omega⟩
  · simp only [List.cons.injEq, Value.slice.injEq, and_true] at hcs
    obtain ⟨rfl, rfl, rfl⟩ := hcs
    have hmm : len ≤ 9223372036854775807 ∧ len ≤ cap := by unfold maxLen at *; omega
    by_cases h0 : len = 0
    · subst h0
      exact ⟨[], rfl, fun i => by simp [rg, Rg.wf], .inl ⟨rfl, _, _, rfl⟩, by omega⟩
    · obtain ⟨b, off, spot⟩ := a'
      have hs : spot = none := by
        have he := hel 0 (by omega)
        rw [List.getElem?_eq_getElem (by omega), hC] at he
        simp only [Option.bind_eq_some_iff] at he
        obtain ⟨cs', hc, ht⟩ := he
        obtain ⟨y, hy, rfl⟩ := reg_cells ht
        obtain ⟨_, _, hat⟩ := World.cells?_some hc
        have k0 := hat 0 (by omega)
        simpa [Addr.add] using World.cell?_spot k0
      subst hs
      have hcell : ∀ i, i < len → ∃ y : Rg, y.wf ∧ regAt W b (off + i * 3) y := fun i hi => by
        have he := hel i hi
        rw [List.getElem?_eq_getElem (by omega), hC] at he
        simp only [Option.bind_eq_some_iff] at he
        obtain ⟨cs', hc, ht⟩ := he
        obtain ⟨y, hy, rfl⟩ := reg_cells ht
        obtain ⟨_, _, hat⟩ := World.cells?_some hc
        have k0 := hat 0 (by omega)
        have k1 := hat 1 (by omega)
        have k2 := hat 2 (by omega)
        rw [addp] at k0 k1 k2
        rw [addp] at k0 k1 k2
        exact ⟨y, hy, k0, k1, k2⟩
      obtain ⟨l, hl1, hp⟩ := list_of (p := fun i y => y.wf ∧ regAt W b (off + i * 3) y) len (fun i hi => hcell i hi)
      have hrg : ∀ i (hi : i < l.length), rg l i = l[i] := fun i hi => by simp [rg, List.getD_eq_getElem?_getD, List.getElem?_eq_getElem hi]
      have hr : rowAt W b off l := fun i hi => by rw [hrg i hi]; exact (hp i hi).2
      refine ⟨l, hl1, fun i => ?_, .inr ⟨b, off, cap, by rw [hl1], hr, World.block_lt_of_cell? W _ (hr 0 (by omega)).1, by omega⟩, hmm.1⟩
      by_cases hi : i < l.length
      · rw [hrg i hi]; exact (hp i hi).1
      · have : rg l i = ⟨0, 0, 0⟩ := by simp [rg, List.getD_eq_getElem?_getD, List.getElem?_eq_none (show l.length ≤ i by omega)]
        rw [this]; simp [Rg.wf]
set_option maxRecDepth 100000 in
theorem open_sts {fuel len cap : Nat} {a : Option Addr} {x : DataW H × List MemPlace} (h : DataW.trod enc Try.prog W 0 sp held fuel 23 [.slice a len cap] = some x) :
    ∃ l : List St, l.length = len ∧ (∀ i, (sg l i).wf) ∧ StOf W (.slice a len cap) l ∧ len ≤ 9223372036854775807 := by
  have hC : Try.prog.cellsOf 39 = 6 := by kernel_rfl
  have w0 : St0.wf := by simp [St.wf, St0]
  rcases DataW.trod_slice Try.underlying23 h with ⟨hcs, _⟩ | ⟨a', len', cap', elems, rest, n, _, hcs, _, hlc, hm, hm2, hlen, hel, _⟩
  · simp at hcs
    obtain ⟨rfl, rfl, rfl⟩ := hcs
    exact ⟨[], rfl, fun i => w0, .inl ⟨rfl, _, _, rfl⟩, by omega⟩
  · simp only [List.cons.injEq, Value.slice.injEq, and_true] at hcs
    obtain ⟨rfl, rfl, rfl⟩ := hcs
    have hmm : len ≤ 9223372036854775807 ∧ len ≤ cap := by unfold maxLen at *; omega
    by_cases h0 : len = 0
    · subst h0
      exact ⟨[], rfl, fun i => w0, .inl ⟨rfl, _, _, rfl⟩, by omega⟩
    · obtain ⟨b, off, spot⟩ := a'
      have hs : spot = none := by
        have he := hel 0 (by omega)
        rw [List.getElem?_eq_getElem (by omega), hC] at he
        simp only [Option.bind_eq_some_iff] at he
        obtain ⟨cs', hc, ht⟩ := he
        obtain ⟨y, hy, rfl⟩ := st_cells ht
        obtain ⟨_, _, hat⟩ := World.cells?_some hc
        have k0 := hat 0 (by omega)
        simpa [Addr.add] using World.cell?_spot k0
      subst hs
      have hcell : ∀ i, i < len → ∃ y : St, y.wf ∧ stAt W b (off + i * 6) y := fun i hi => by
        have he := hel i hi
        rw [List.getElem?_eq_getElem (by omega), hC] at he
        simp only [Option.bind_eq_some_iff] at he
        obtain ⟨cs', hc, ht⟩ := he
        obtain ⟨y, hy, rfl⟩ := st_cells ht
        obtain ⟨_, _, hat⟩ := World.cells?_some hc
        have k0 := hat 0 (by omega)
        have k1 := hat 1 (by omega)
        have k2 := hat 2 (by omega)
        have k3 := hat 3 (by omega)
        have k4 := hat 4 (by omega)
        have k5 := hat 5 (by omega)
        rw [addp] at k0 k1 k2 k3 k4 k5
        rw [addp] at k0 k1 k2 k3 k4 k5
        exact ⟨y, hy, k0, k1, k2, k3, k4, k5⟩
      obtain ⟨l, hl1, hp⟩ := list_of (p := fun i y => y.wf ∧ stAt W b (off + i * 6) y) len (fun i hi => hcell i hi)
      have hrg : ∀ i (hi : i < l.length), sg l i = l[i] := fun i hi => by simp [sg, List.getD_eq_getElem?_getD, List.getElem?_eq_getElem hi]
      have hr : ∀ i < l.length, stAt W b (off + i * 6) (sg l i) := fun i hi => by rw [hrg i hi]; exact (hp i hi).2
      refine ⟨l, hl1, fun i => ?_, .inr ⟨b, off, cap, by rw [hl1], hr, World.block_lt_of_cell? W _ (hr 0 (by omega)).1, by omega⟩, hmm.1⟩
      by_cases hi : i < l.length
      · rw [hrg i hi]; exact (hp i hi).1
      · have : sg l i = St0 := by simp [sg, List.getD_eq_getElem?_getD, List.getElem?_eq_none (show l.length ≤ i by omega)]
        rw [this]; exact w0
set_option maxRecDepth 100000 in
theorem open_st {r : Reach} {b0 : Nat} {v : Value} {d : DataW H} {p : List MemPlace} (hv : Value.okWide Try.prog W r b0 39 v) (h : DataW.Trod enc Try.prog W base sp held 39 v d p) :
    ∃ y : St, y.wf ∧ v = .agg (stC y).toArray := by
  obtain ⟨cs, rfl, hsz⟩ := okWide_struct Try.underlying39 hv
  obtain ⟨fuel, hf⟩ := h
  obtain ⟨y, hy, hc⟩ := st_cells hf
  obtain ⟨c⟩ := cs
  simp only [Value.cells] at hc
  exact ⟨y, hy, by rw [← hc]⟩
end
end Go.Proofs.Ytkcgnpcfdfkpjaa
