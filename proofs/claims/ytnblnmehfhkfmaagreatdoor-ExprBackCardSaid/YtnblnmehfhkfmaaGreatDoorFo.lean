/- A row of tokens that came in as an argument. -/
import Derived.Test.YtnblnmehfhkfmaaGreatDoorFh
namespace Go.Proofs.YtnblnmehfhkfmaaGreatDoor
open Go.ChangeShapes Go.WideShapes Go.ChangeAt Go.RowKit
set_option linter.unusedVariables false
/-- A token's cells. -/
def TokC (w : World) (b off : Nat) (x : Tk × Int) : Prop := w.cell? ⟨b, off, none⟩ = some (.int .u8 (x.1.k : Int)) ∧ w.cell? ⟨b, off + 1, none⟩ = some (.string (str x.1.t)) ∧ w.cell? ⟨b, off + 2, none⟩ = some (.int .u64 (x.1.n : Int)) ∧ w.cell? ⟨b, off + 3, none⟩ = some (.int .i64 x.2)
theorem tlist_of {p : Nat → Tk × Int → Prop} : ∀ n, (∀ i, i < n → ∃ x, p i x) → ∃ l : List (Tk × Int), l.length = n ∧ ∀ i (h : i < l.length), p i l[i]
  | 0, _ => ⟨[], rfl, fun i h => by simp at h⟩
  | n + 1, h => by
    obtain ⟨l, hl, hp⟩ := tlist_of n (fun i hi => h i (by omega))
    obtain ⟨x, hx⟩ := h n (by omega)
    refine ⟨l ++ [x], by simp [hl], fun i hi => ?_⟩
    by_cases e : i < l.length
    · rw [List.getElem_append_left e]; exact hp i e
    · have : i = n := by simp at hi; omega
      subst this
      rw [List.getElem_append_right (by omega)]
      simpa [hl] using hx
theorem bytesT : Tryz.prog.bytesOf 39 = 40 := by kernel_rfl
set_option maxRecDepth 100000 in
/-- The four cells of a token. -/
theorem tok_cells {H : Type} {enc : TypeId × Value → H} {W : World} {sp : Nat → Bool} {held : Bool} {fuel : Nat} {cs : List Value} {x : DataW H × List MemPlace} (h : DataW.trod enc Tryz.prog W 0 sp held fuel 39 cs = some x) :
    ∃ (k n : Nat) (s : ByteArray) (z : Int), cs = [.int .u8 (k : Int), .string s, .int .u64 (n : Int), .int .i64 z] := by
  have hC : Tryz.prog.cellsOf 39 = 4 := by kernel_rfl
  have c8 : Tryz.prog.cellsOf 5 = 1 := by kernel_rfl
  have c64 : Tryz.prog.cellsOf 22 = 1 := by kernel_rfl
  have cst : Tryz.prog.cellsOf 9 = 1 := by kernel_rfl
  have ci : Tryz.prog.cellsOf 3 = 1 := by kernel_rfl
  obtain ⟨xs, n, hfu, hx, hl, hlen, hg⟩ := DataW.trod_struct Tryz.underlying39 h
  rw [hC] at hl
  match cs, hl with
  | [x0, x1, x2, x3], _ =>
    match xs, hlen with
    | [y0, y1, y2, y3], _ =>
      have e0 : DataW.trod enc Tryz.prog W 0 sp held n 5 [x0] = some y0 := by simpa [c8] using hg 0 _ rfl
      have e1 : DataW.trod enc Tryz.prog W 0 sp held n 9 [x1] = some y1 := by simpa [cst] using hg 1 _ rfl
      have e2 : DataW.trod enc Tryz.prog W 0 sp held n 22 [x2] = some y2 := by simpa [c64] using hg 2 _ rfl
      have e3 : DataW.trod enc Tryz.prog W 0 sp held n 3 [x3] = some y3 := by simpa [ci] using hg 3 _ rfl
      obtain ⟨n0, h0, _, w0⟩ := DataW.trod_int Tryz.underlying5 e0
      obtain ⟨s1, h1, _, w1⟩ := DataW.trod_string Tryz.underlying9 e1
      obtain ⟨n2, h2, _, w2⟩ := DataW.trod_int Tryz.underlying22 e2
      obtain ⟨n3, h3, _, w3⟩ := DataW.trod_int Tryz.underlying3 e3
      simp only [List.cons.injEq, and_true] at h0 h1 h2 h3
      subst h0 h1 h2 h3
      have b0 := bounds_u8 w0
      have b2 := bounds_u64 w2
      obtain ⟨k0, rfl⟩ := Int.eq_ofNat_of_zero_le b0.1
      obtain ⟨k2, rfl⟩ := Int.eq_ofNat_of_zero_le b2.1
      exact ⟨k0, k2, s1, n3, rfl⟩
set_option maxRecDepth 100000 in
theorem open_toks {H : Type} {enc : TypeId × Value → H} {W : World} {sp : Nat → Bool} {held : Bool} {fuel : Nat} {ma : Option Addr} {len cap : Nat} {x : DataW H × List MemPlace} (h : DataW.trod enc Tryz.prog W 0 sp held fuel 31 [.slice ma len cap] = some x)
    (hw : ∀ m ∈ DataW.weights Tryz.prog 31 x.1, m ≤ reachBytes) : ∃ T, len = T.length ∧ len ≤ 140737488355328 ∧ len ≤ cap ∧ RowZ W (.slice ma len cap) T := by
  have hC : Tryz.prog.cellsOf 39 = 4 := by kernel_rfl
  rcases DataW.trod_slice Tryz.underlying31 h with ⟨hcs, _⟩ | ⟨a, len', cap', elems, rest, n, hfu, hcs, hx, _, hlc, hm, hlen, hel, _⟩
  · simp only [List.cons.injEq, Value.slice.injEq, and_true] at hcs
    obtain ⟨rfl, rfl, rfl⟩ := hcs
    exact ⟨[], rfl, by omega, Nat.le_refl _, ⟨none, 0, rfl, fun i hi => by simp at hi⟩⟩
  · simp only [List.cons.injEq, Value.slice.injEq, and_true] at hcs
    obtain ⟨rfl, rfl, rfl⟩ := hcs
    have hwx : (elems.length + rest.length) * 40 ≤ reachBytes := by
      rw [hx] at hw
      simp only at hw
      rw [DataW.weights, Tryz.underlying31] at hw
      simp only [List.length_map, bytesT] at hw
      exact hw _ (List.mem_cons_self ..)
    have hle : len ≤ 140737488355328 := by unfold reachBytes at hwx; omega
    obtain ⟨b, o, spot⟩ := a
    have hsp0 : 0 < len → spot = none := fun h0 => by
      have he := hel 0 h0
      rw [List.getElem?_eq_getElem (by omega), hC] at he
      simp only [Option.bind_eq_some_iff] at he
      obtain ⟨cs', hc, _⟩ := he
      obtain ⟨_, hcl, hat⟩ := World.cells?_some hc
      have q0 := hat 0 (by omega)
      have hi : cs'[0]? = some (cs'[0]'(by omega)) := List.getElem?_eq_getElem (by omega)
      have := World.cell?_spot (q0.trans hi)
      simpa [Addr.add] using this
    have each : ∀ i, i < len → ∃ y : Tk × Int, TokC W b (o + i * 4) y := fun i hi => by
      have he := hel i hi
      rw [List.getElem?_eq_getElem (by omega), hC] at he
      simp only [Option.bind_eq_some_iff] at he
      obtain ⟨cs', hc, ht⟩ := he
      obtain ⟨k0, k2, s1, z, rfl⟩ := tok_cells ht
      obtain ⟨_, _, hat⟩ := World.cells?_some hc
      have q0 := hat 0 (by omega)
      have q1 := hat 1 (by omega)
      have q2 := hat 2 (by omega)
      have q3 := hat 3 (by omega)
      have hsp := hsp0 (by omega)
      subst hsp
      rw [addp, addp] at q0 q1 q2 q3
      exact ⟨(⟨k0, s1.data.toList, k2⟩, z), q0, by rw [show ((⟨k0, s1.data.toList, k2⟩ : Tk), z).1.t = s1.data.toList from rfl, str_of]; exact q1, q2, q3⟩
    obtain ⟨T, hT, hp⟩ := tlist_of len each
    refine ⟨T, hT.symm, hle, hlc, ⟨some ⟨b, o, spot⟩, cap, by rw [hT], fun i hi => ?_⟩⟩
    obtain ⟨p0, p1, p2, p3⟩ := hp i hi
    exact ⟨b, o, by rw [hsp0 (by omega)], World.block_lt_of_cell? W _ p0, p0, p1, p2, p3⟩
end Go.Proofs.YtnblnmehfhkfmaaGreatDoor
