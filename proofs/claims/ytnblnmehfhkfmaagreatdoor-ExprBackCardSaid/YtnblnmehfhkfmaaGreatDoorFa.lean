/- An expression that came in: opened to its cells. -/
import Derived.Test.YtnblnmehfhkfmaaGreatDoorEb
import Derived.ChangeArms
import Derived.ChangeSame
namespace Go.Proofs.YtnblnmehfhkfmaaGreatDoor
open Go.ChangeShapes Go.WideShapes Go.ChangeAt Go.RowKit
set_option linter.unusedVariables false
mutual
/-- No name is longer than B bytes. -/
def Xp.sb (B : Nat) : Xp → Prop
  | .mk _ _ s _ l => s.length ≤ B ∧ sbL B l
def sbL (B : Nat) : List Xp → Prop
  | [] => True
  | x :: r => x.sb B ∧ sbL B r
end
theorem sb_s {B : Nat} {x : Xp} (h : x.sb B) : x.s.length ≤ B := by cases x; rw [Xp.sb] at h; exact h.1
theorem sb_l {B : Nat} {x : Xp} (h : x.sb B) : sbL B x.l := by cases x; rw [Xp.sb] at h; exact h.2
theorem sb_mk {B : Nat} {x : Xp} (h1 : x.s.length ≤ B) (h2 : sbL B x.l) : x.sb B := by cases x; rw [Xp.sb]; exact ⟨h1, h2⟩
theorem sbL_iff {B : Nat} : ∀ {l : List Xp}, sbL B l ↔ ∀ x ∈ l, x.sb B
  | [] => by rw [sbL]; simp
  | x :: r => by rw [sbL, sbL_iff (l := r)]; simp
/-- A kid's cells, and its own kids. -/
def KidC (w : World) (b off : Nat) (x : Xp) : Prop := ∃ (ma : Option Addr) (cap : Nat), w.cell? ⟨b, off, none⟩ = some (.int .u8 (x.k : Int)) ∧ w.cell? ⟨b, off + 1, none⟩ = some (.int .u64 (x.n : Int)) ∧ w.cell? ⟨b, off + 2, none⟩ = some (.string (str x.s)) ∧ w.cell? ⟨b, off + 3, none⟩ = some (.int .u8 (x.o : Int)) ∧ w.cell? ⟨b, off + 4, none⟩ = some (.slice ma x.l.length cap) ∧ x.o < 256 ∧ x.l.length ≤ 140737488355328 ∧ KidsAt (fun b => b < w.heap.size) w x.l ma
theorem kids_mk {w : World} {b : Nat} : ∀ (l : List Xp) (off : Nat), (∀ i (h : i < l.length), KidC w b (off + i * 5) l[i]) → ∀ ma, (0 < l.length → ma = some ⟨b, off, none⟩) → KidsAt (fun b => b < w.heap.size) w l ma
  | [], _, _, ma, _ => .nil
  | x :: r, off, h, ma, hma => by
    obtain ⟨ma', cap, c0, c1, c2, c3, c4, ho, hl, hk⟩ := h 0 (by simp)
    rw [hma (by simp)]
    simp only [Nat.zero_mul, Nat.add_zero, List.getElem_cons_zero] at c0 c1 c2 c3 c4 ho hl hk
    obtain ⟨k, n, s, o, l⟩ := x
    refine .cons (World.block_lt_of_cell? w _ c0) c0 c1 c2 c3 c4 ho hl hk (kids_mk r (off + 5) (fun i hi => ?_) _ (fun _ => rfl))
    have := h (i + 1) (by simp; omega)
    rw [show off + (i + 1) * 5 = off + 5 + i * 5 by omega] at this
    simpa using this
theorem xlist_of {p : Nat → Xp → Prop} : ∀ n, (∀ i, i < n → ∃ x, p i x) → ∃ l : List Xp, l.length = n ∧ ∀ i (h : i < l.length), p i l[i]
  | 0, _ => ⟨[], rfl, fun i h => by simp at h⟩
  | n + 1, h => by
    obtain ⟨l, hl, hp⟩ := xlist_of n (fun i hi => h i (by omega))
    obtain ⟨x, hx⟩ := h n (by omega)
    refine ⟨l ++ [x], by simp [hl], fun i hi => ?_⟩
    by_cases e : i < l.length
    · rw [List.getElem_append_left e]; exact hp i e
    · have : i = n := by simp at hi; omega
      subst this
      rw [List.getElem_append_right (by omega)]
      simpa [hl] using hx
theorem wAll_mem {H : Type} {P : Program} {e : TypeId} {d : DataW H} : ∀ {l : List (DataW H)}, d ∈ l → ∀ n ∈ d.weights P e, n ∈ DataW.weightsAll P e l
  | x :: r, h, n, hn => by
    rw [DataW.weightsAll]
    rcases List.mem_cons.1 h with rfl | h
    · exact List.mem_append_left _ hn
    · exact List.mem_append_right _ (wAll_mem h n hn)
theorem infoE : (Tryz.prog.info? 25).map (fun i => (i.zero, i.size, i.bytes)) = some (some (.agg #[.int .u8 0, .int .u64 0, .string ⟨#[]⟩, .int .u8 0, .slice none 0 0]), 5, 64) := by kernel_rfl
theorem bytesX : Tryz.prog.bytesOf 25 = 64 := by kernel_rfl
set_option maxRecDepth 100000 in
/-- The five cells of an expression. -/
theorem xp_cells {H : Type} {enc : TypeId × Value → H} {W : World} {sp : Nat → Bool} {held : Bool} {fuel : Nat} {cs : List Value} {x : DataW H × List MemPlace} (h : DataW.trod enc Tryz.prog W 0 sp held fuel 25 cs = some x) :
    ∃ (k n : Nat) (s : ByteArray) (o : Nat) (ma : Option Addr) (len cap n' : Nat) (y : DataW H × List MemPlace), ((∀ m ∈ DataW.weights Tryz.prog 25 x.1, m ≤ reachBytes) → s.size ≤ 140737488355328) ∧ cs = [.int .u8 (k : Int), .int .u64 (n : Int), .string s, .int .u8 (o : Int), .slice ma len cap] ∧ o < 256 ∧ n' < fuel ∧ DataW.trod enc Tryz.prog W 0 sp held n' 23 [.slice ma len cap] = some y ∧ ∀ m ∈ DataW.weights Tryz.prog 23 y.1, m ∈ DataW.weights Tryz.prog 25 x.1 := by
  have hC : Tryz.prog.cellsOf 25 = 5 := by kernel_rfl
  have c8 : Tryz.prog.cellsOf 5 = 1 := by kernel_rfl
  have c64 : Tryz.prog.cellsOf 22 = 1 := by kernel_rfl
  have cst : Tryz.prog.cellsOf 9 = 1 := by kernel_rfl
  have csl : Tryz.prog.cellsOf 23 = 1 := by kernel_rfl
  obtain ⟨xs, n, hfu, hx, hl, hlen, hg⟩ := DataW.trod_struct Tryz.underlying25 h
  rw [hC] at hl
  match cs, hl with
  | [x0, x1, x2, x3, x4], _ =>
    match xs, hlen with
    | [y0, y1, y2, y3, y4], _ =>
      have e0 : DataW.trod enc Tryz.prog W 0 sp held n 5 [x0] = some y0 := by simpa [c8] using hg 0 _ rfl
      have e1 : DataW.trod enc Tryz.prog W 0 sp held n 22 [x1] = some y1 := by simpa [c64] using hg 1 _ rfl
      have e2 : DataW.trod enc Tryz.prog W 0 sp held n 9 [x2] = some y2 := by simpa [cst] using hg 2 _ rfl
      have e3 : DataW.trod enc Tryz.prog W 0 sp held n 5 [x3] = some y3 := by simpa [c8] using hg 3 _ rfl
      have e4 : DataW.trod enc Tryz.prog W 0 sp held n 23 [x4] = some y4 := by simpa [csl] using hg 4 _ rfl
      obtain ⟨n0, h0, _, w0⟩ := DataW.trod_int Tryz.underlying5 e0
      obtain ⟨n1, h1, _, w1⟩ := DataW.trod_int Tryz.underlying22 e1
      obtain ⟨s2, h2, hy2, w2⟩ := DataW.trod_string Tryz.underlying9 e2
      obtain ⟨n3, h3, _, w3⟩ := DataW.trod_int Tryz.underlying5 e3
      simp only [List.cons.injEq, and_true] at h0 h1 h2 h3
      subst h0 h1 h2 h3
      have b0 := bounds_u8 w0
      have b1 := bounds_u64 w1
      have b3 := bounds_u8 w3
      obtain ⟨k0, rfl⟩ := Int.eq_ofNat_of_zero_le b0.1
      obtain ⟨k1, rfl⟩ := Int.eq_ofNat_of_zero_le b1.1
      obtain ⟨k3, rfl⟩ := Int.eq_ofNat_of_zero_le b3.1
      have hs : ∃ ma len cap, x4 = .slice ma len cap := by
        rcases DataW.trod_slice Tryz.underlying23 e4 with ⟨hcs, _⟩ | ⟨a, len, cap, _, _, _, _, hcs, _⟩
        · simp only [List.cons.injEq, and_true] at hcs; exact ⟨_, _, _, hcs⟩
        · simp only [List.cons.injEq, and_true] at hcs; exact ⟨_, _, _, hcs⟩
      obtain ⟨ma, len, cap, rfl⟩ := hs
      have hwt : ∀ m, (m ∈ DataW.weights Tryz.prog 9 y2.1 ∨ m ∈ DataW.weights Tryz.prog 23 y4.1) → m ∈ DataW.weights Tryz.prog 25 x.1 := fun m hm => by
        rw [hx]
        simp only [List.map_cons, List.map_nil]
        rw [DataW.weights, Tryz.underlying25]
        simp only [List.map_cons, List.map_nil, DataW.weightsEach]
        simp only [List.mem_append]
        rcases hm with hm | hm
        · exact .inr (.inr (.inl hm))
        · exact .inr (.inr (.inr (.inr (.inl hm))))
      refine ⟨k0, k1, s2, k3, ma, len, cap, n, y4, fun hw => ?_, rfl, by omega, by omega, e4, fun m hm => hwt m (.inr hm)⟩
      have h5 := hw _ (hwt s2.data.toList.length (.inl (by rw [hy2]; rw [DataW.weights]; exact List.mem_cons_self ..)))
      rw [Array.length_toList] at h5
      have h6 : s2.size = s2.data.size := rfl
      unfold reachBytes at h5
      omega
set_option maxRecDepth 100000 in
theorem open_kids {H : Type} {enc : TypeId × Value → H} {W : World} {sp : Nat → Bool} {held : Bool} : ∀ (K fuel : Nat), fuel ≤ K → ∀ (ma : Option Addr) (len cap : Nat) (x : DataW H × List MemPlace), DataW.trod enc Tryz.prog W 0 sp held fuel 23 [.slice ma len cap] = some x →
    (∀ m ∈ DataW.weights Tryz.prog 23 x.1, m ≤ reachBytes) → ∃ l : List Xp, l.length = len ∧ len ≤ 140737488355328 ∧ sbL 140737488355328 l ∧ KidsAt (fun b => b < W.heap.size) W l ma := by
  intro K
  induction K with
  | zero =>
    intro fuel hf ma len cap x h
    obtain rfl : fuel = 0 := by omega
    simp [DataW.trod] at h
  | succ K ih =>
    intro fuel hf ma len cap x h hw
    have hC : Tryz.prog.cellsOf 25 = 5 := by kernel_rfl
    rcases DataW.trod_slice Tryz.underlying23 h with ⟨hcs, _⟩ | ⟨a, len', cap', elems, rest, n, hfu, hcs, hx, _, _, hm, hlen, hel, _⟩
    · simp only [List.cons.injEq, Value.slice.injEq, and_true] at hcs
      obtain ⟨rfl, rfl, rfl⟩ := hcs
      exact ⟨[], rfl, by omega, by rw [sbL]; trivial, .nil⟩
    · simp only [List.cons.injEq, Value.slice.injEq, and_true] at hcs
      obtain ⟨rfl, rfl, rfl⟩ := hcs
      have hwx : (elems.length + rest.length) * 64 ≤ reachBytes ∧ ∀ d ∈ elems, ∀ m ∈ DataW.weights Tryz.prog 25 d.1, m ≤ reachBytes := by
        rw [hx] at hw
        simp only at hw
        rw [DataW.weights, Tryz.underlying23] at hw
        simp only [List.length_map, bytesX] at hw
        exact ⟨hw _ (List.mem_cons_self ..), fun d hd m hm => hw m (List.mem_cons_of_mem _ (List.mem_append_left _ (wAll_mem (List.mem_map_of_mem hd) m hm)))⟩
      have hle : len ≤ 140737488355328 := by have := hwx.1; unfold reachBytes at this; omega
      obtain ⟨b, o, spot⟩ := a
      have hsp0 : 0 < len → spot = none := fun h0 => by
        have he := hel 0 h0
        rw [List.getElem?_eq_getElem (by omega), hC] at he
        simp only [Option.bind_eq_some_iff] at he
        obtain ⟨cs', hc, _⟩ := he
        obtain ⟨_, hcl, hat⟩ := World.cells?_some hc
        have q0 := hat 0 (by omega)
        have hi : cs'[0]? = some (cs'[0]'(by omega)) := List.getElem?_eq_getElem (by omega)
        have := World.cell?_spot (q0.trans hi)
        simpa [Addr.add] using this
      have each : ∀ i, i < len → ∃ y : Xp, spot = none ∧ y.sb 140737488355328 ∧ KidC W b (o + i * 5) y := fun i hi => by
        have he := hel i hi
        rw [List.getElem?_eq_getElem (by omega), hC] at he
        simp only [Option.bind_eq_some_iff] at he
        obtain ⟨cs', hc, ht⟩ := he
        obtain ⟨k0, k1, s2, k3, ma', len2, cap2, n', y4, hsz, rfl, ho, hn', e4, hwy⟩ := xp_cells ht
        have hsz' := hsz (hwx.2 _ (List.getElem_mem (by omega)))
        obtain ⟨l', hl', hle', hsb', hk'⟩ := ih n' (by omega) ma' len2 cap2 y4 e4 (fun m hm => hwx.2 _ (List.getElem_mem (by omega)) m (hwy m hm))
        obtain ⟨_, _, hat⟩ := World.cells?_some hc
        have q0 := hat 0 (by omega)
        have q1 := hat 1 (by omega)
        have q2 := hat 2 (by omega)
        have q3 := hat 3 (by omega)
        have q4 := hat 4 (by omega)
        have hsp := hsp0 (by omega)
        subst hsp
        refine ⟨.mk k0 k1 s2.data.toList k3 l', rfl, sb_mk (by show s2.data.toList.length ≤ _; rw [Array.length_toList]; exact hsz') hsb', ma', cap2, ?_⟩
        rw [addp, addp] at q0 q1 q2 q3 q4
        subst hl'
        exact ⟨q0, q1, by rw [show (Xp.mk k0 k1 s2.data.toList k3 l').s = s2.data.toList from rfl, str_of]; exact q2, q3, q4, ho, hle', hk'⟩
      obtain ⟨l, hl, hp⟩ := xlist_of len each
      refine ⟨l, hl, hle, sbL_iff.2 (fun x hx => ?_), kids_mk l o (b := b) (fun i hi => (hp i hi).2.2) _ (fun h0 => by rw [(hp 0 h0).1])⟩
      obtain ⟨i, hi, rfl⟩ := List.getElem_of_mem hx
      exact (hp i hi).2.1
end Go.Proofs.YtnblnmehfhkfmaaGreatDoor
