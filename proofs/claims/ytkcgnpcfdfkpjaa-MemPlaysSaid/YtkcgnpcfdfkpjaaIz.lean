/- What comes in takes no more than the form's own reach: each text of a row of steps. -/
import Derived.Test.YtkcgnpcfdfkpjaaIo
namespace Go.Proofs.Ytkcgnpcfdfkpjaa
open Go.ChangeShapes Go.WideShapes Go.ChangeAt Go.RowKit
set_option linter.unusedVariables false
section
variable {H : Type} {enc : TypeId × Value → H} {W : World} {base : Nat} {sp : Nat → Bool} {held : Bool}
theorem in_all {u : Nat} {e : TypeId} {d : DataW H} (hu : u ∈ d.weights Try.prog e) : ∀ (ds : List (DataW H)), d ∈ ds → u ∈ DataW.weightsAll Try.prog e ds
  | [], h => by cases h
  | x :: r, h => by
    unfold DataW.weightsAll
    rcases List.mem_cons.1 h with rfl | h
    · exact List.mem_append_left _ hu
    · exact List.mem_append_right _ (in_all hu r h)
theorem in_slice {u : Nat} {d : DataW H} {ds rs : List (DataW H)} (hd : d ∈ ds) (hu : u ∈ d.weights Try.prog 39) : u ∈ (DataW.slice ds rs).weights Try.prog 23 := by
  unfold DataW.weights
  rw [Try.underlying23]
  exact List.mem_cons_of_mem _ (List.mem_append_left _ (in_all hu ds hd))
set_option maxRecDepth 100000 in
theorem st_cells2 {fuel : Nat} {cs : List Value} {x : DataW H × List MemPlace} (h : DataW.trod enc Try.prog W base sp held fuel 39 cs = some x) :
    ∃ y : St, y.wf ∧ cs = stC y ∧ y.s.size ∈ x.1.weights Try.prog 39 := by
  have hC : Try.prog.cellsOf 39 = 6 := by kernel_rfl
  have ci : Try.prog.cellsOf 3 = 1 := by kernel_rfl
  have c64 : Try.prog.cellsOf 34 = 1 := by kernel_rfl
  have cs1 : Try.prog.cellsOf 9 = 1 := by kernel_rfl
  have cb : Try.prog.cellsOf 4 = 1 := by kernel_rfl
  obtain ⟨xs, n, _, hx, hl, hlen, hg⟩ := DataW.trod_struct Try.underlying39 h
  rw [hC] at hl
  match cs, hl with
  | [x0, x1, x2, x3, x4, x5], _ =>
    match xs, hlen with
    | [y0, y1, y2, y3, y4, y5], _ =>
      have e0 : DataW.trod enc Try.prog W base sp held n 3 [x0] = some y0 := by simpa [ci] using hg 0 _ rfl
      have e1 : DataW.trod enc Try.prog W base sp held n 34 [x1] = some y1 := by simpa [ci, c64] using hg 1 _ rfl
      have e2 : DataW.trod enc Try.prog W base sp held n 3 [x2] = some y2 := by simpa [ci, c64] using hg 2 _ rfl
      have e3 : DataW.trod enc Try.prog W base sp held n 34 [x3] = some y3 := by simpa [ci, c64] using hg 3 _ rfl
      have e4 : DataW.trod enc Try.prog W base sp held n 9 [x4] = some y4 := by simpa [ci, c64, cs1] using hg 4 _ rfl
      have e5 : DataW.trod enc Try.prog W base sp held n 4 [x5] = some y5 := by simpa [ci, c64, cs1, cb] using hg 5 _ rfl
      obtain ⟨n0, h0, z0, w0⟩ := DataW.trod_int Try.underlying3 e0
      obtain ⟨n1, h1, z1, w1⟩ := DataW.trod_int Try.underlying34 e1
      obtain ⟨n2, h2, z2, w2⟩ := DataW.trod_int Try.underlying3 e2
      obtain ⟨n3, h3, z3, w3⟩ := DataW.trod_int Try.underlying34 e3
      obtain ⟨s4, h4, z4, w4⟩ := DataW.trod_string Try.underlying9 e4
      obtain ⟨b5, h5, z5⟩ := DataW.trod_bool Try.underlying4 e5
      simp only [List.cons.injEq, and_true] at h0 h1 h2 h3 h4 h5
      subst h0 h1 h2 h3 h4 h5 z0 z1 z2 z3 z4 z5
      have d0 := bounds_i64 w0
      have d1 := bounds_u64 w1
      have d2 := bounds_i64 w2
      have d3 := bounds_u64 w3
      unfold maxLen at w4
      refine ⟨⟨n0, n1.toNat, n2, n3.toNat, s4, b5⟩, by unfold St.wf; simp only; omega, by simp only [stC, Int.toNat_of_nonneg d1.1, Int.toNat_of_nonneg d3.1], ?_⟩
      have hw : DataW.weights Try.prog 39 (DataW.agg [.lit (.int .i64 n0), .lit (.int .u64 n1), .lit (.int .i64 n2), .lit (.int .u64 n3), .lit (.string s4.data.toList), .lit (.bool b5)] : DataW H) = [s4.data.toList.length] := by kernel_rfl
      rw [hx]
      show s4.size ∈ DataW.weights Try.prog 39 (DataW.agg [.lit (.int .i64 n0), .lit (.int .u64 n1), .lit (.int .i64 n2), .lit (.int .u64 n3), .lit (.string s4.data.toList), .lit (.bool b5)] : DataW H)
      rw [hw]
      exact List.mem_singleton.2 rfl
set_option maxRecDepth 100000 in
theorem open_sts2 {fuel len cap : Nat} {a : Option Addr} {x : DataW H × List MemPlace} (h : DataW.trod enc Try.prog W 0 sp held fuel 23 [.slice a len cap] = some x) :
    ∃ l : List St, l.length = len ∧ (∀ i, (sg l i).wf) ∧ StOf W (.slice a len cap) l ∧ len ≤ 9223372036854775807 ∧ ∀ i < l.length, (sg l i).s.size ∈ x.1.weights Try.prog 23 := by
  have hC : Try.prog.cellsOf 39 = 6 := by kernel_rfl
  have w0 : St0.wf := by simp [St.wf, St0]
  rcases DataW.trod_slice Try.underlying23 h with ⟨hcs, _⟩ | ⟨a', len', cap', elems, rest, n, _, hcs, hxe, hlc, hm, hm2, hlen, hel, _⟩
  · simp at hcs
    obtain ⟨rfl, rfl, rfl⟩ := hcs
    exact ⟨[], rfl, fun i => w0, .inl ⟨rfl, _, _, rfl⟩, by omega, fun i hi => by simp at hi⟩
  · simp only [List.cons.injEq, Value.slice.injEq, and_true] at hcs
    obtain ⟨rfl, rfl, rfl⟩ := hcs
    have hmm : len ≤ 9223372036854775807 ∧ len ≤ cap := by unfold maxLen at *; omega
    by_cases h0 : len = 0
    · subst h0
      exact ⟨[], rfl, fun i => w0, .inl ⟨rfl, _, _, rfl⟩, by omega, fun i hi => by simp at hi⟩
    · obtain ⟨b, off, spot⟩ := a'
      have hs : spot = none := by
        have he := hel 0 (by omega)
        rw [List.getElem?_eq_getElem (by omega), hC] at he
        simp only [Option.bind_eq_some_iff] at he
        obtain ⟨cs', hc, ht⟩ := he
        obtain ⟨y, hy, rfl, hyw⟩ := st_cells2 ht
        obtain ⟨_, _, hat⟩ := World.cells?_some hc
        have k0 := hat 0 (by omega)
        simpa [Addr.add] using World.cell?_spot k0
      subst hs
      have hcell : ∀ i, i < len → ∃ y : St, y.wf ∧ stAt W b (off + i * 6) y ∧ y.s.size ∈ x.1.weights Try.prog 23 := fun i hi => by
        have he := hel i hi
        rw [List.getElem?_eq_getElem (by omega), hC] at he
        simp only [Option.bind_eq_some_iff] at he
        obtain ⟨cs', hc, ht⟩ := he
        obtain ⟨y, hy, rfl, hyw⟩ := st_cells2 ht
        obtain ⟨_, _, hat⟩ := World.cells?_some hc
        have k0 := hat 0 (by omega)
        have k1 := hat 1 (by omega)
        have k2 := hat 2 (by omega)
        have k3 := hat 3 (by omega)
        have k4 := hat 4 (by omega)
        have k5 := hat 5 (by omega)
        rw [addp] at k0 k1 k2 k3 k4 k5
        rw [addp] at k0 k1 k2 k3 k4 k5
        exact ⟨y, hy, ⟨k0, k1, k2, k3, k4, k5⟩, by rw [hxe]; exact in_slice (List.mem_map.2 ⟨elems[i], List.getElem_mem _, rfl⟩) hyw⟩
      obtain ⟨l, hl1, hp⟩ := list_of (p := fun i y => y.wf ∧ stAt W b (off + i * 6) y ∧ y.s.size ∈ x.1.weights Try.prog 23) len (fun i hi => hcell i hi)
      have hrg : ∀ i (hi : i < l.length), sg l i = l[i] := fun i hi => by simp [sg, List.getD_eq_getElem?_getD, List.getElem?_eq_getElem hi]
      have hr : ∀ i < l.length, stAt W b (off + i * 6) (sg l i) := fun i hi => by rw [hrg i hi]; exact (hp i hi).2.1
      refine ⟨l, hl1, fun i => ?_, .inr ⟨b, off, cap, by rw [hl1], hr, World.block_lt_of_cell? W _ (hr 0 (by omega)).1, by omega⟩, hmm.1, fun i hi => by rw [hrg i hi]; exact (hp i hi).2.2⟩
      by_cases hi : i < l.length
      · rw [hrg i hi]; exact (hp i hi).1
      · have : sg l i = St0 := by simp [sg, List.getD_eq_getElem?_getD, List.getElem?_eq_none (show l.length ≤ i by omega)]
        rw [this]; exact w0
end
end Go.Proofs.Ytkcgnpcfdfkpjaa
