/- A setup that is handed in, opened. No conditions. -/
import Derived.Test.YtfaacmcnefbgcaaGreatDoorJi
namespace Go.Proofs.YtfaacmcnefbgcaaGreatDoor.m4
open Go.ChangeShapes Go.WideShapes Go.ChangeAt Go.RowKit
set_option linter.unusedVariables false
theorem list_of5 {α : Type} {p : Nat → α → Prop} : ∀ n, (∀ i, i < n → ∃ x, p i x) → ∃ l : List α, l.length = n ∧ ∀ i (h : i < l.length), p i l[i]
  | 0, _ => ⟨[], rfl, fun i h => by simp at h⟩
  | n + 1, h => by
    obtain ⟨l, hl, hp⟩ := list_of5 n (fun i hi => h i (by omega))
    obtain ⟨x, hx⟩ := h n (by omega)
    refine ⟨l ++ [x], by simp [hl], fun i hi => ?_⟩
    by_cases e : i < l.length
    · rw [List.getElem_append_left e]; exact hp i e
    · have : i = n := by simp at hi; omega
      subst this
      rw [List.getElem_append_right (by omega)]
      simpa using hx
theorem laidOut5 : laidOutB Tryz.prog = true := by kernel_rfl
section
variable {H : Type} {enc : TypeId × Value → H} {W : World} {base : Nat} {sp : Nat → Bool} {held : Bool}
set_option maxRecDepth 100000 in
theorem in_cells5 {fuel : Nat} {cs : List Value} {x : DataW H × List MemPlace} (h : DataW.trod enc Tryz.prog W base sp held fuel 48 cs = some x) :
    ∃ y : In, y.wf ∧ cs = [.int .u8 (y.op : Nat), .int .u8 (y.rd : Nat), .int .u8 (y.rs1 : Nat), .int .u8 (y.rs2 : Nat), .int .i64 y.imm] := by
  have hC : Tryz.prog.cellsOf 48 = 5 := by kernel_rfl
  have c8 : Tryz.prog.cellsOf 5 = 1 := by kernel_rfl
  have c64 : Tryz.prog.cellsOf 2 = 1 := by kernel_rfl
  obtain ⟨xs, n, _, hx, hl, hlen, hg⟩ := DataW.trod_struct Tryz.underlying48 h
  rw [hC] at hl
  match cs, hl with
  | [x0, x1, x2, x3, x4], _ =>
    match xs, hlen with
    | [y0, y1, y2, y3, y4], _ =>
      have e0 : DataW.trod enc Tryz.prog W base sp held n 5 [x0] = some y0 := by simpa [c8] using hg 0 _ rfl
      have e1 : DataW.trod enc Tryz.prog W base sp held n 5 [x1] = some y1 := by simpa [c8] using hg 1 _ rfl
      have e2 : DataW.trod enc Tryz.prog W base sp held n 5 [x2] = some y2 := by simpa [c8] using hg 2 _ rfl
      have e3 : DataW.trod enc Tryz.prog W base sp held n 5 [x3] = some y3 := by simpa [c8] using hg 3 _ rfl
      have e4 : DataW.trod enc Tryz.prog W base sp held n 2 [x4] = some y4 := by simpa [c8, c64] using hg 4 _ rfl
      obtain ⟨n0, h0, _, w0⟩ := DataW.trod_int Tryz.underlying5 e0
      obtain ⟨n1, h1, _, w1⟩ := DataW.trod_int Tryz.underlying5 e1
      obtain ⟨n2, h2, _, w2⟩ := DataW.trod_int Tryz.underlying5 e2
      obtain ⟨n3, h3, _, w3⟩ := DataW.trod_int Tryz.underlying5 e3
      obtain ⟨n4, h4, _, w4⟩ := DataW.trod_int Tryz.underlying2 e4
      simp only [List.cons.injEq, and_true] at h0 h1 h2 h3 h4
      subst h0 h1 h2 h3 h4
      have d0 := bounds_u8 w0
      have d1 := bounds_u8 w1
      have d2 := bounds_u8 w2
      have d3 := bounds_u8 w3
      have d4 := bounds_i64 w4
      refine ⟨⟨n0.toNat, n1.toNat, n2.toNat, n3.toNat, n4⟩, by unfold In.wf; simp only; omega, ?_⟩
      simp only [Int.toNat_of_nonneg d0.1, Int.toNat_of_nonneg d1.1, Int.toNat_of_nonneg d2.1, Int.toNat_of_nonneg d3.1]
set_option maxRecDepth 100000 in
theorem ce_cells5 {fuel : Nat} {cs : List Value} {x : DataW H × List MemPlace} (h : DataW.trod enc Tryz.prog W base sp held fuel 64 cs = some x) :
    ∃ y : Ce, y.wf ∧ cs = [.int .u8 (y.a : Nat), .int .u64 (y.v : Nat), .bool y.t] := by
  have hC : Tryz.prog.cellsOf 64 = 3 := by kernel_rfl
  have c8 : Tryz.prog.cellsOf 5 = 1 := by kernel_rfl
  have c64 : Tryz.prog.cellsOf 39 = 1 := by kernel_rfl
  have cb : Tryz.prog.cellsOf 4 = 1 := by kernel_rfl
  obtain ⟨xs, n, _, hx, hl, hlen, hg⟩ := DataW.trod_struct Tryz.underlying64 h
  rw [hC] at hl
  match cs, hl with
  | [x0, x1, x2], _ =>
    match xs, hlen with
    | [y0, y1, y2], _ =>
      have e0 : DataW.trod enc Tryz.prog W base sp held n 5 [x0] = some y0 := by simpa [c8] using hg 0 _ rfl
      have e1 : DataW.trod enc Tryz.prog W base sp held n 39 [x1] = some y1 := by simpa [c8, c64] using hg 1 _ rfl
      have e2 : DataW.trod enc Tryz.prog W base sp held n 4 [x2] = some y2 := by simpa [c8, c64, cb] using hg 2 _ rfl
      obtain ⟨n0, h0, _, w0⟩ := DataW.trod_int Tryz.underlying5 e0
      obtain ⟨n1, h1, _, w1⟩ := DataW.trod_int Tryz.underlying39 e1
      obtain ⟨b2, h2, _⟩ := DataW.trod_bool Tryz.underlying4 e2
      simp only [List.cons.injEq, and_true] at h0 h1 h2
      subst h0 h1 h2
      have d0 := bounds_u8 w0
      have d1 := bounds_u64 w1
      refine ⟨⟨n0.toNat, n1.toNat, b2⟩, by unfold Ce.wf; simp only; omega, ?_⟩
      simp only [Int.toNat_of_nonneg d0.1, Int.toNat_of_nonneg d1.1]
set_option maxRecDepth 100000 in
theorem open_in5 {fuel : Nat} {v : Value} {x : DataW H × List MemPlace} (h : DataW.trod enc Tryz.prog W 0 sp held fuel 22 [v] = some x) :
    ∃ (a : Option Addr) (c : Nat) (l : List In), v = .slice a l.length c ∧ InOf W a l ∧ ∀ i, (ig l i).wf := by
  have hC : Tryz.prog.cellsOf 48 = 5 := by kernel_rfl
  have w0 : In0.wf := In0_wf
  rcases DataW.trod_slice Tryz.underlying22 h with ⟨hcs, _⟩ | ⟨a', len, cap, elems, rest, n, _, hcs, _, _, hm, hm2, hlen, hel, _⟩
  · simp at hcs
    exact ⟨none, 0, [], hcs, fun i hi => absurd hi (Nat.not_lt_zero _), fun i => w0⟩
  · simp only [List.cons.injEq, and_true] at hcs
    by_cases h0 : len = 0
    · subst h0
      exact ⟨_, _, [], hcs, fun i hi => absurd hi (Nat.not_lt_zero _), fun i => w0⟩
    · obtain ⟨b, off, spot⟩ := a'
      have hs : spot = none := by
        have he := hel 0 (by omega)
        rw [List.getElem?_eq_getElem (by omega), hC] at he
        simp only [Option.bind_eq_some_iff] at he
        obtain ⟨cs', hc, ht⟩ := he
        obtain ⟨y, hy, rfl⟩ := in_cells5 ht
        obtain ⟨_, _, hat⟩ := World.cells?_some hc
        have k0 := hat 0 (by omega)
        simpa [Addr.add] using World.cell?_spot k0
      subst hs
      have hcell : ∀ i, i < len → ∃ y : In, y.wf ∧ inAt5 W b (off + i * 5) y := fun i hi => by
        have he := hel i hi
        rw [List.getElem?_eq_getElem (by omega), hC] at he
        simp only [Option.bind_eq_some_iff] at he
        obtain ⟨cs', hc, ht⟩ := he
        obtain ⟨y, hy, rfl⟩ := in_cells5 ht
        obtain ⟨_, _, hat⟩ := World.cells?_some hc
        have k0 := hat 0 (by omega)
        have k1 := hat 1 (by omega)
        have k2 := hat 2 (by omega)
        have k3 := hat 3 (by omega)
        have k4 := hat 4 (by omega)
        rw [addp] at k0 k1 k2 k3 k4
        rw [addp] at k0 k1 k2 k3 k4
        exact ⟨y, hy, k0, k1, k2, k3, k4⟩
      obtain ⟨l, hl1, hp⟩ := list_of5 (p := fun i y => y.wf ∧ inAt5 W b (off + i * 5) y) len (fun i hi => hcell i hi)
      have hrg : ∀ i (hi : i < l.length), ig l i = l[i] := fun i hi => by simp [ig, List.getD_eq_getElem?_getD, List.getElem?_eq_getElem hi]
      refine ⟨some ⟨b, off, none⟩, cap, l, by rw [hcs, hl1], fun i hi => ⟨b, off, rfl, by rw [hrg i hi]; exact (hp i hi).2⟩, fun i => ?_⟩
      by_cases hi : i < l.length
      · rw [hrg i hi]; exact (hp i hi).1
      · have : ig l i = In0 := by simp [ig, List.getD_eq_getElem?_getD, List.getElem?_eq_none (show l.length ≤ i by omega)]
        rw [this]; exact w0
theorem Ce0_wf : Ce0.wf := by show (0 : Nat) < 256 ∧ (0 : Nat) < 18446744073709551616; omega
set_option maxRecDepth 100000 in
theorem open_ce5 {fuel : Nat} {v : Value} {x : DataW H × List MemPlace} (h : DataW.trod enc Tryz.prog W 0 sp held fuel 23 [v] = some x) :
    ∃ (a : Option Addr) (c : Nat) (l : List Ce), v = .slice a l.length c ∧ CeOf W a l ∧ ∀ i, (cg l i).wf := by
  have hC : Tryz.prog.cellsOf 64 = 3 := by kernel_rfl
  have w0 : Ce0.wf := Ce0_wf
  rcases DataW.trod_slice Tryz.underlying23 h with ⟨hcs, _⟩ | ⟨a', len, cap, elems, rest, n, _, hcs, _, _, hm, hm2, hlen, hel, _⟩
  · simp at hcs
    exact ⟨none, 0, [], hcs, fun i hi => absurd hi (Nat.not_lt_zero _), fun i => w0⟩
  · simp only [List.cons.injEq, and_true] at hcs
    by_cases h0 : len = 0
    · subst h0
      exact ⟨_, _, [], hcs, fun i hi => absurd hi (Nat.not_lt_zero _), fun i => w0⟩
    · obtain ⟨b, off, spot⟩ := a'
      have hs : spot = none := by
        have he := hel 0 (by omega)
        rw [List.getElem?_eq_getElem (by omega), hC] at he
        simp only [Option.bind_eq_some_iff] at he
        obtain ⟨cs', hc, ht⟩ := he
        obtain ⟨y, hy, rfl⟩ := ce_cells5 ht
        obtain ⟨_, _, hat⟩ := World.cells?_some hc
        have k0 := hat 0 (by omega)
        simpa [Addr.add] using World.cell?_spot k0
      subst hs
      have hcell : ∀ i, i < len → ∃ y : Ce, y.wf ∧ ceAt W b (off + i * 3) y := fun i hi => by
        have he := hel i hi
        rw [List.getElem?_eq_getElem (by omega), hC] at he
        simp only [Option.bind_eq_some_iff] at he
        obtain ⟨cs', hc, ht⟩ := he
        obtain ⟨y, hy, rfl⟩ := ce_cells5 ht
        obtain ⟨_, _, hat⟩ := World.cells?_some hc
        have k0 := hat 0 (by omega)
        have k1 := hat 1 (by omega)
        have k2 := hat 2 (by omega)
        rw [addp] at k0 k1 k2
        rw [addp] at k0 k1 k2
        exact ⟨y, hy, k0, k1, k2⟩
      obtain ⟨l, hl1, hp⟩ := list_of5 (p := fun i y => y.wf ∧ ceAt W b (off + i * 3) y) len (fun i hi => hcell i hi)
      have hrg : ∀ i (hi : i < l.length), cg l i = l[i] := fun i hi => by simp [cg, List.getD_eq_getElem?_getD, List.getElem?_eq_getElem hi]
      refine ⟨some ⟨b, off, none⟩, cap, l, by rw [hcs, hl1], fun i hi => ⟨b, off, rfl, by rw [hrg i hi]; exact (hp i hi).2⟩, fun i => ?_⟩
      by_cases hi : i < l.length
      · rw [hrg i hi]; exact (hp i hi).1
      · have : cg l i = Ce0 := by simp [cg, List.getD_eq_getElem?_getD, List.getElem?_eq_none (show l.length ≤ i by omega)]
        rw [this]; exact w0
set_option maxRecDepth 100000 in
/-- A setup that is handed in. -/
theorem open_su {r : Reach} {b0 : Nat} {v : Value} {d : DataW H} {p : List MemPlace} (hv : Value.okWide Tryz.prog W r b0 25 v) (h : DataW.Trod enc Tryz.prog W 0 sp held 25 v d p) :
    ∃ x : Su, v = x.val ∧ SuIn W x := by
  obtain ⟨cs, rfl, hsz⟩ := okWide_struct Tryz.underlying25 hv
  have hC : Tryz.prog.cellsOf 25 = 3 := by kernel_rfl
  have c1 : Tryz.prog.cellsOf 22 = 1 := by kernel_rfl
  have c2 : Tryz.prog.cellsOf 23 = 1 := by kernel_rfl
  obtain ⟨fuel, hf⟩ := h
  obtain ⟨xs, n, _, hx, _, hlen, hg⟩ := DataW.trod_struct Tryz.underlying25 hf
  obtain ⟨l⟩ := cs
  have hl : l.length = 3 := hsz.trans hC
  match l, hl with
  | [x0, x1, x2], _ =>
    match xs, hlen with
    | [y0, y1, y2], _ =>
      have e0 : DataW.trod enc Tryz.prog W 0 sp held n 22 [x0] = some y0 := by simpa [c1, Value.cells] using hg 0 _ rfl
      have e1 : DataW.trod enc Tryz.prog W 0 sp held n 23 [x1] = some y1 := by simpa [c1, c2, Value.cells] using hg 1 _ rfl
      have e2 : DataW.trod enc Tryz.prog W 0 sp held n 23 [x2] = some y2 := by simpa [c1, c2, Value.cells] using hg 2 _ rfl
      obtain ⟨a1, k1, l1, rfl, i1, w1⟩ := open_in5 e0
      obtain ⟨a2, k2, l2, rfl, i2, w2⟩ := open_ce5 e1
      obtain ⟨a3, k3, l3, rfl, i3, w3⟩ := open_ce5 e2
      exact ⟨⟨a1, k1, l1, a2, k2, l2, a3, k3, l3⟩, rfl, ⟨i1, i2, i3, w1, w2, w3⟩⟩
end
end Go.Proofs.YtfaacmcnefbgcaaGreatDoor.m4
