/- A program that came in: opened to its cells; its numbers have 64 bits. -/
import Derived.Test.YtfbjljcmmbdhkaaGreatDoorT46
import Derived.Test.YtfbjljcmmbdhkaaGreatDoorT10
import Derived.Test.YtfbjljcmmbdhkaaGreatDoorT06
import Derived.Test.YtfbjljcmmbdhkaaGreatDoorT41
import Derived.Test.YtfbjljcmmbdhkaaGreatDoorT45
namespace Go.Proofs.YtfbjljcmmbdhkaaGreatDoor
set_option linter.unusedVariables false
set_option linter.unusedSimpArgs false
set_option maxRecDepth 100000
set_option maxHeartbeats 200000000
section
open Go.ChangeShapes Go.WideShapes Go.ChangeAt Go.RowKit
section
variable {H : Type} {enc : TypeId × Value → H} {P : Program} {W : World} {sp : Nat → Bool} {held : Bool}
theorem wEach_mem : ∀ (ts : List TypeId) (ds : List (DataW H)) (i : Nat) (t : TypeId) (d : DataW H), ts[i]? = some t → ds[i]? = some d → ∀ m ∈ d.weights P t, m ∈ DataW.weightsEach P ts ds
 | [], _, i, t, d, h, _, m, _ => by simp at h
 | _ :: _, [], i, t, d, _, h, m, _ => by simp at h
 | t0 :: ts, d0 :: ds, 0, t, d, ht, hd, m, hm => by
   obtain rfl : t0 = t := by simpa using ht
   obtain rfl : d0 = d := by simpa using hd
   rw [DataW.weightsEach]
   exact List.mem_append_left _ hm
 | t0 :: ts, d0 :: ds, i + 1, t, d, ht, hd, m, hm => by
   rw [DataW.weightsEach]
   exact List.mem_append_right _ (wEach_mem ts ds i t d (by simpa using ht) (by simpa using hd) m hm)
theorem fields_in {fs : Array Field} {t : TypeId} {fuel : Nat} {cs : List Value} {x : DataW H × List MemPlace} (ht : P.underlying t = some (.struct fs)) (h : DataW.trod enc P W 0 sp held fuel t cs = some x) (hw : ∀ m ∈ DataW.weights P t x.1, m ≤ reachBytes) :
 ∃ n, n < fuel ∧ cs.length = P.cellsOf t ∧ ∀ (i : Nat) (f : Field), fs[i]? = some f → ∃ y, DataW.trod enc P W 0 sp held n f.type ((cs.drop f.offset).take (P.cellsOf f.type)) = some y ∧ ∀ m ∈ DataW.weights P f.type y.1, m ≤ reachBytes := by
 obtain ⟨xs, n, hfu, hx, hl, hlen, hg⟩ := DataW.trod_struct ht h
 refine ⟨n, by omega, hl, fun i f hf => ?_⟩
 have hi : i < xs.length := by rw [hlen]; exact (Array.getElem?_eq_some_iff.1 hf).1
 refine ⟨xs[i], (hg i f hf).trans (List.getElem?_eq_getElem hi), fun m hm => hw m ?_⟩
 rw [hx]
 simp only
 rw [DataW.weights, ht]
 simp only
 refine wEach_mem _ _ i f.type xs[i].1 ?_ ?_ m hm
 ·rw [List.getElem?_map, Array.getElem?_toList, hf]; rfl
 ·rw [List.getElem?_map, List.getElem?_eq_getElem hi]; rfl
theorem row_in {t e : TypeId} {C : Nat} (ht : P.underlying t = some (.slice e)) (hC : P.cellsOf e = C) (hC0 : 0 < C) {fuel len cap : Nat} {ma : Option Addr} {x : DataW H × List MemPlace} (h : DataW.trod enc P W 0 sp held fuel t [.slice ma len cap] = some x) (hw : ∀ m ∈ DataW.weights P t x.1, m ≤ reachBytes) :
 ∃ (b o : Nat), len * P.bytesOf e ≤ reachBytes ∧ (0 < len → ma = some ⟨b, o, none⟩ ∧ b < W.heap.size) ∧ ∀ i, i < len → ∃ cs n y, n < fuel ∧ (∀ r u, cs[r]? = some u → W.cell? ⟨b, o + i * C + r, none⟩ = some u) ∧ DataW.trod enc P W 0 sp held n e cs = some y ∧ ∀ m ∈ DataW.weights P e y.1, m ≤ reachBytes := by
 rcases DataW.trod_slice ht h with ⟨hcs, _⟩ | ⟨a, len', cap', elems, rest, n, hfu, hcs, hx, _, _, hm, hlen, hel, _⟩
 ·simp only [List.cons.injEq, Value.slice.injEq, and_true] at hcs
  obtain ⟨rfl, rfl, rfl⟩ := hcs
  exact ⟨0, 0, by omega, fun h => by omega, fun i hi => by omega⟩
 ·simp only [List.cons.injEq, Value.slice.injEq, and_true] at hcs
  obtain ⟨rfl, rfl, rfl⟩ := hcs
  have hwx : (elems.length + rest.length) * P.bytesOf e ≤ reachBytes ∧ ∀ d ∈ elems, ∀ m ∈ DataW.weights P e d.1, m ≤ reachBytes := by
   rw [hx] at hw
   simp only at hw
   rw [DataW.weights, ht] at hw
   simp only [List.length_map] at hw
   exact ⟨hw _ (List.mem_cons_self ..), fun d hd m hm => hw m (List.mem_cons_of_mem _ (List.mem_append_left _ (wAll_mem (List.mem_map_of_mem hd) m hm)))⟩
  have hle : len * P.bytesOf e ≤ reachBytes := Nat.le_trans (Nat.mul_le_mul_right _ (by omega)) hwx.1
  obtain ⟨b, o, spot⟩ := a
  have hsp0 : 0 < len → spot = none ∧ b < W.heap.size := fun h0 => by
   have he := hel 0 h0
   rw [List.getElem?_eq_getElem (by omega), hC] at he
   simp only [Option.bind_eq_some_iff] at he
   obtain ⟨cs', hc, _⟩ := he
   obtain ⟨_, hcl, hat⟩ := World.cells?_some hc
   have q0 := hat 0 (by omega)
   have hi : cs'[0]? = some (cs'[0]'(by omega)) := List.getElem?_eq_getElem (by omega)
   have h1 := World.cell?_spot (q0.trans hi)
   have h2 := World.block_lt_of_cell? W _ (q0.trans hi)
   exact ⟨by simpa [Addr.add] using h1, by simpa [Addr.add] using h2⟩
  refine ⟨b, o, hle, fun h0 => ⟨by rw [(hsp0 h0).1], (hsp0 h0).2⟩, fun i hi => ?_⟩
  have he := hel i hi
  rw [List.getElem?_eq_getElem (by omega), hC] at he
  simp only [Option.bind_eq_some_iff] at he
  obtain ⟨cs', hc, ht'⟩ := he
  refine ⟨cs', n, elems[i]'(by omega), by omega, fun r u hu => ?_, ht', hwx.2 _ (List.getElem_mem (by omega))⟩
  obtain ⟨_, hcl, hat⟩ := World.cells?_some hc
  have hr : r < C := by have := (List.getElem?_eq_some_iff.1 hu).1; omega
  have q := hat r hr
  obtain rfl := (hsp0 (by omega)).1
  rw [addp, addp] at q
  rw [q, hu]
theorem str_in {t : TypeId} (ht : P.underlying t = some .string) {fuel : Nat} {u : Value} {x : DataW H × List MemPlace} (h : DataW.trod enc P W 0 sp held fuel t [u] = some x) (hw : ∀ m ∈ DataW.weights P t x.1, m ≤ reachBytes) : ∃ s : List UInt8, u = .string (str s) ∧ s.length ≤ 140737488355328 := by
 obtain ⟨s, h1, h2, _⟩ := DataW.trod_string ht h
 simp only [List.cons.injEq, and_true] at h1
 refine ⟨s.data.toList, by rw [str_of]; exact h1, ?_⟩
 have := hw s.data.toList.length (by rw [h2]; rw [DataW.weights]; exact List.mem_cons_self ..)
 unfold reachBytes at this
 omega
theorem bool_in {t : TypeId} (ht : P.underlying t = some .bool) {fuel : Nat} {u : Value} {x : DataW H × List MemPlace} (h : DataW.trod enc P W 0 sp held fuel t [u] = some x) : ∃ b, u = .bool b := by
 obtain ⟨b, h1, _⟩ := DataW.trod_bool ht h
 exact ⟨b, by simpa using h1⟩
theorem u8_in {t : TypeId} (ht : P.underlying t = some (.int .u8)) {fuel : Nat} {u : Value} {x : DataW H × List MemPlace} (h : DataW.trod enc P W 0 sp held fuel t [u] = some x) : ∃ k : Nat, u = .int .u8 (k : Int) ∧ k < 256 := by
 obtain ⟨n, h1, _, w⟩ := DataW.trod_int ht h
 have b := bounds_u8 w
 obtain ⟨k, rfl⟩ := Int.eq_ofNat_of_zero_le b.1
 exact ⟨k, by simpa using h1, by omega⟩
theorem u64_in {t : TypeId} (ht : P.underlying t = some (.int .u64)) {fuel : Nat} {u : Value} {x : DataW H × List MemPlace} (h : DataW.trod enc P W 0 sp held fuel t [u] = some x) : ∃ k : Nat, u = .int .u64 (k : Int) ∧ k < 18446744073709551616 := by
 obtain ⟨n, h1, _, w⟩ := DataW.trod_int ht h
 have b := bounds_u64 w
 obtain ⟨k, rfl⟩ := Int.eq_ofNat_of_zero_le b.1
 exact ⟨k, by simpa using h1, by omega⟩
theorem slice_in {t e : TypeId} (ht : P.underlying t = some (.slice e)) {fuel : Nat} {u : Value} {x : DataW H × List MemPlace} (h : DataW.trod enc P W 0 sp held fuel t [u] = some x) : ∃ ma len cap, u = .slice ma len cap := by
 rcases DataW.trod_slice ht h with ⟨hcs, _⟩ | ⟨a, len, cap, _, _, _, _, hcs, _⟩
 ·simp only [List.cons.injEq, and_true] at hcs; exact ⟨_, _, _, hcs⟩
 ·simp only [List.cons.injEq, and_true] at hcs; exact ⟨_, _, _, hcs⟩
end
theorem nbS_iff9 : ∀ {l : List St}, nbS l ↔ ∀ x ∈ l, x.nb
 | [] => by rw [nbS]; simp
 | x :: r => by rw [nbS, nbS_iff9 (l := r)]; simp
theorem list_of {α : Type} {p : Nat → α → Prop} : ∀ n, (∀ i, i < n → ∃ x, p i x) → ∃ l : List α, l.length = n ∧ ∀ i (h : i < l.length), p i l[i]
 | 0, _ => ⟨[], rfl, fun i h => by simp at h⟩
 | n + 1, h => by
   obtain ⟨l, hl, hp⟩ := list_of n (fun i hi => h i (by omega))
   obtain ⟨x, hx⟩ := h n (by omega)
   refine ⟨l ++ [x], by simp [hl], fun i hi => ?_⟩
   by_cases e : i < l.length
   ·rw [List.getElem_append_left e]; exact hp i e
   ·have : i = n := by simp at hi; omega
    subst this
    rw [List.getElem_append_right (by omega)]
    simpa [hl] using hx
theorem c1u8 : Tryz.prog.cellsOf 5 = 1 := by kernel_rfl
theorem c1u64 : Tryz.prog.cellsOf 45 = 1 := by kernel_rfl
theorem c1str : Tryz.prog.cellsOf 9 = 1 := by kernel_rfl
theorem c1bool : Tryz.prog.cellsOf 4 = 1 := by kernel_rfl
theorem c1xs : Tryz.prog.cellsOf 41 = 1 := by kernel_rfl
theorem c1ss : Tryz.prog.cellsOf 50 = 1 := by kernel_rfl
theorem c1sts : Tryz.prog.cellsOf 39 = 1 := by kernel_rfl
theorem c1ps : Tryz.prog.cellsOf 40 = 1 := by kernel_rfl
section
variable {H : Type} {enc : TypeId × Value → H} {W : World} {sp : Nat → Bool} {held : Bool}
theorem in_kids : ∀ (K fuel : Nat), fuel ≤ K → ∀ (ma : Option Addr) (len cap : Nat) (x : DataW H × List MemPlace), DataW.trod enc Tryz.prog W 0 sp held fuel 41 [.slice ma len cap] = some x →
 (∀ m ∈ DataW.weights Tryz.prog 41 x.1, m ≤ reachBytes) → ∃ l : List Xp, l.length = len ∧ len ≤ 2199023255488 ∧ sbL 140737488355328 l ∧ lbL l ∧ nbL l ∧ KidsAt (fun b => b < W.heap.size) W l ma := by
 intro K
 induction K with
 | zero =>
  intro fuel hf ma len cap x h
  obtain rfl : fuel = 0 := by omega
  simp [DataW.trod] at h
 | succ K ih =>
  intro fuel hf ma len cap x h hw
  obtain ⟨b, o, hle, hma, hel⟩ := row_in Tryz.underlying41 (show Tryz.prog.cellsOf 47 = 5 by kernel_rfl) (by omega) h hw
  rw [bytesX] at hle
  have each : ∀ i, i < len → ∃ y : Xp, (y.sb 140737488355328 ∧ y.lb ∧ y.nb) ∧ KidC W b (o + i * 5) y := fun i hi => by
   obtain ⟨cs, n, y, hn, hc, ht, hwy⟩ := hel i hi
   obtain ⟨n2, hn2, hl, hg⟩ := fields_in Tryz.underlying47 ht hwy
   rw [show Tryz.prog.cellsOf 47 = 5 by kernel_rfl] at hl
   match cs, hl, hc, hg with
   | [x0, x1, x2, x3, x4], _, hc, hg =>
    obtain ⟨y0, e0, -⟩ := hg 0 _ rfl
    obtain ⟨y1, e1, -⟩ := hg 1 _ rfl
    obtain ⟨y2, e2, w2⟩ := hg 2 _ rfl
    obtain ⟨y3, e3, -⟩ := hg 3 _ rfl
    obtain ⟨y4, e4, w4⟩ := hg 4 _ rfl
    simp [c1u8, c1u64, c1str, c1xs] at e0 e1 e2 e3 e4
    obtain ⟨k, rfl, _⟩ := u8_in Tryz.underlying5 e0
    obtain ⟨nn, rfl, hnn⟩ := u64_in Tryz.underlying45 e1
    obtain ⟨s, rfl, hs⟩ := str_in Tryz.underlying9 e2 w2
    obtain ⟨oo, rfl, ho⟩ := u8_in Tryz.underlying5 e3
    obtain ⟨m4, l4, cap4, rfl⟩ := slice_in Tryz.underlying41 e4
    obtain ⟨l', hl', hle', hsb', hlb', hnb', hk'⟩ := ih n2 (by omega) m4 l4 cap4 y4 e4 w4
    subst hl'
    refine ⟨.mk k nn s oo l', ⟨sb_mk hs hsb', by rw [Xp.lb]; exact ⟨hle', hlb'⟩, by rw [Xp.nb]; exact ⟨hnn, hnb'⟩⟩, m4, cap4, ?_⟩
    exact ⟨hc 0 _ rfl, hc 1 _ rfl, hc 2 _ rfl, hc 3 _ rfl, hc 4 _ rfl, ho, Nat.le_trans hle' (by decide), hk'⟩
  obtain ⟨l, hl, hp⟩ := list_of len each
  refine ⟨l, hl, by unfold reachBytes at hle; omega, sbL_iff.2 (fun x hx => ?_), lbL_iff.2 (fun x hx => ?_), nbL_iff.2 (fun x hx => ?_), kids_mk l o (b := b) (fun i hi => (hp i hi).2) _ (fun h0 => (hma (by omega)).1)⟩ <;>
   (obtain ⟨i, hi, rfl⟩ := List.getElem_of_mem hx)
  ·exact (hp i hi).1.1
  ·exact (hp i hi).1.2.1
  ·exact (hp i hi).1.2.2
theorem in_strs {fuel : Nat} {ma : Option Addr} {len cap : Nat} {x : DataW H × List MemPlace} (h : DataW.trod enc Tryz.prog W 0 sp held fuel 50 [.slice ma len cap] = some x)
 (hw : ∀ m ∈ DataW.weights Tryz.prog 50 x.1, m ≤ reachBytes) : ∃ l : List (List UInt8), l.length = len ∧ len ≤ 8796093021952 ∧ (∀ s ∈ l, s.length ≤ 140737488355328) ∧ StrsAt (fun b => b < W.heap.size) W l ma := by
 obtain ⟨b, o, hle, hma, hel⟩ := row_in Tryz.underlying50 c1str (by omega) h hw
 rw [show Tryz.prog.bytesOf 9 = 16 by kernel_rfl] at hle
 have each : ∀ i, i < len → ∃ y : List UInt8, y.length ≤ 140737488355328 ∧ W.cell? ⟨b, o + i, none⟩ = some (.string (str y)) := fun i hi => by
  obtain ⟨cs, n, y, hn, hc, ht, hwy⟩ := hel i hi
  obtain ⟨s, h1, _⟩ := DataW.trod_string Tryz.underlying9 ht
  subst h1
  obtain ⟨z, hz, hz2⟩ := str_in Tryz.underlying9 ht hwy
  have := hc 0 _ rfl
  rw [hz] at this
  exact ⟨z, hz2, by simpa using this⟩
 obtain ⟨l, hl, hp⟩ := list_of len each
 refine ⟨l, hl, by unfold reachBytes at hle; omega, fun x hx => ?_, fun i hi => ⟨b, o, (hma (by omega)).1, (hma (by omega)).2, (hp i hi).2⟩⟩
 obtain ⟨i, hi, rfl⟩ := List.getElem_of_mem hx
 exact (hp i hi).1
theorem in_pms {fuel : Nat} {ma : Option Addr} {len cap : Nat} {x : DataW H × List MemPlace} (h : DataW.trod enc Tryz.prog W 0 sp held fuel 40 [.slice ma len cap] = some x)
 (hw : ∀ m ∈ DataW.weights Tryz.prog 40 x.1, m ≤ reachBytes) : ∃ l : List Pm, l.length = len ∧ len ≤ 5864062014634 ∧ (∀ p ∈ l, p.nm.length ≤ 140737488355328) ∧ PmsAt (fun b => b < W.heap.size) W l ma := by
 obtain ⟨b, o, hle, hma, hel⟩ := row_in Tryz.underlying40 (show Tryz.prog.cellsOf 49 = 4 by kernel_rfl) (by omega) h hw
 rw [show Tryz.prog.bytesOf 49 = 24 by kernel_rfl] at hle
 have each : ∀ i, i < len → ∃ y : Pm, y.nm.length ≤ 140737488355328 ∧ W.cell? ⟨b, o + i * 4, none⟩ = some (.string (str y.nm)) ∧ W.cell? ⟨b, o + i * 4 + 1, none⟩ = some (.bool y.buf) ∧ W.cell? ⟨b, o + i * 4 + 2, none⟩ = some (.bool y.sec) ∧ W.cell? ⟨b, o + i * 4 + 3, none⟩ = some (.bool y.mu) := fun i hi => by
  obtain ⟨cs, n, y, hn, hc, ht, hwy⟩ := hel i hi
  obtain ⟨n2, hn2, hl, hg⟩ := fields_in Tryz.underlying49 ht hwy
  rw [show Tryz.prog.cellsOf 49 = 4 by kernel_rfl] at hl
  match cs, hl, hc, hg with
  | [x0, x1, x2, x3], _, hc, hg =>
   obtain ⟨y0, e0, w0⟩ := hg 0 _ rfl
   obtain ⟨y1, e1, -⟩ := hg 1 _ rfl
   obtain ⟨y2, e2, -⟩ := hg 2 _ rfl
   obtain ⟨y3, e3, -⟩ := hg 3 _ rfl
   simp [c1bool, c1str] at e0 e1 e2 e3
   obtain ⟨s, rfl, hs⟩ := str_in Tryz.underlying9 e0 w0
   obtain ⟨b1, rfl⟩ := bool_in Tryz.underlying4 e1
   obtain ⟨b2, rfl⟩ := bool_in Tryz.underlying4 e2
   obtain ⟨b3, rfl⟩ := bool_in Tryz.underlying4 e3
   exact ⟨⟨s, b1, b2, b3⟩, hs, hc 0 _ rfl, hc 1 _ rfl, hc 2 _ rfl, hc 3 _ rfl⟩
 obtain ⟨l, hl, hp⟩ := list_of len each
 refine ⟨l, hl, by unfold reachBytes at hle; omega, fun x hx => ?_, fun i hi => ⟨b, o, (hma (by omega)).1, (hma (by omega)).2, (hp i hi).2⟩⟩
 obtain ⟨i, hi, rfl⟩ := List.getElem_of_mem hx
 exact (hp i hi).1
def StC (w : World) (b off : Nat) (s : St) : Prop := ∃ (mx ma mb ml : Option Addr) (cx ca cb cl : Nat), w.cell? ⟨b, off, none⟩ = some (.int .u8 (s.k : Int)) ∧ w.cell? ⟨b, off + 1, none⟩ = some (.string (str s.nm)) ∧ w.cell? ⟨b, off + 2, none⟩ = some (.string (str s.fr)) ∧ w.cell? ⟨b, off + 3, none⟩ = some (.bool s.sec) ∧ w.cell? ⟨b, off + 4, none⟩ = some (.bool s.mu)
 ∧ w.cell? ⟨b, off + 5, none⟩ = some (.slice mx s.ex.length cx) ∧ w.cell? ⟨b, off + 6, none⟩ = some (.slice ma s.ar.length ca) ∧ w.cell? ⟨b, off + 7, none⟩ = some (.slice mb s.bd.length cb) ∧ w.cell? ⟨b, off + 8, none⟩ = some (.slice ml s.el.length cl)
 ∧ s.k < 256 ∧ s.ex.length ≤ 140737488355328 ∧ s.ar.length ≤ 140737488355328 ∧ s.bd.length ≤ 140737488355328 ∧ s.el.length ≤ 140737488355328
 ∧ KidsAt (fun b => b < w.heap.size) w s.ex mx ∧ StrsAt (fun b => b < w.heap.size) w s.ar ma ∧ StsAt (fun b => b < w.heap.size) w s.bd mb ∧ StsAt (fun b => b < w.heap.size) w s.el ml
theorem sts_mk {w : World} {b : Nat} : ∀ (l : List St) (off : Nat), (∀ i (h : i < l.length), StC w b (off + i * 9) l[i]) → ∀ ma, (0 < l.length → ma = some ⟨b, off, none⟩) → StsAt (fun b => b < w.heap.size) w l ma
 | [], _, _, ma, _ => .nil
 | s :: r, off, h, ma, hma => by
   obtain ⟨mx, m6, mb, ml, cx, ca, cb, cl, c0, c1, c2, c3, c4, c5, c6, c7, c8, hk, hx, ha, hb, hl, hX, hA, hB, hL⟩ := h 0 (by simp)
   rw [hma (by simp)]
   simp only [Nat.zero_mul, Nat.add_zero, List.getElem_cons_zero] at c0 c1 c2 c3 c4 c5 c6 c7 c8 hk hx ha hb hl hX hA hB hL
   obtain ⟨k, nm, fr, sec, mu, ex, ar, bd, el⟩ := s
   refine .cons (World.block_lt_of_cell? w _ c0) c0 c1 c2 c3 c4 c5 c6 c7 c8 hk hx ha hb hl hX hA hB hL (sts_mk r (off + 9) (fun i hi => ?_) _ (fun _ => rfl))
   have := h (i + 1) (by simp; omega)
   rw [show off + (i + 1) * 9 = off + 9 + i * 9 by omega] at this
   simpa using this
theorem in_sts : ∀ (K fuel : Nat), fuel ≤ K → ∀ (ma : Option Addr) (len cap : Nat) (x : DataW H × List MemPlace), DataW.trod enc Tryz.prog W 0 sp held fuel 39 [.slice ma len cap] = some x →
 (∀ m ∈ DataW.weights Tryz.prog 39 x.1, m ≤ reachBytes) → ∃ l : List St, l.length = len ∧ len ≤ 977343669105 ∧ sbS 140737488355328 l ∧ lbS l ∧ nbS l ∧ StsAt (fun b => b < W.heap.size) W l ma := by
 intro K
 induction K with
 | zero =>
  intro fuel hf ma len cap x h
  obtain rfl : fuel = 0 := by omega
  simp [DataW.trod] at h
 | succ K ih =>
  intro fuel hf ma len cap x h hw
  obtain ⟨b, o, hle, hma, hel⟩ := row_in Tryz.underlying39 (show Tryz.prog.cellsOf 52 = 9 by kernel_rfl) (by omega) h hw
  rw [show Tryz.prog.bytesOf 52 = 144 by kernel_rfl] at hle
  have each : ∀ i, i < len → ∃ y : St, (y.sb 140737488355328 ∧ y.lb ∧ y.nb) ∧ StC W b (o + i * 9) y := fun i hi => by
   obtain ⟨cs, n, y, hn, hc, ht, hwy⟩ := hel i hi
   obtain ⟨n2, hn2, hl, hg⟩ := fields_in Tryz.underlying52 ht hwy
   rw [show Tryz.prog.cellsOf 52 = 9 by kernel_rfl] at hl
   match cs, hl, hc, hg with
   | [x0, x1, x2, x3, x4, x5, x6, x7, x8], _, hc, hg =>
    obtain ⟨y0, e0, -⟩ := hg 0 _ rfl
    obtain ⟨y1, e1, w1⟩ := hg 1 _ rfl
    obtain ⟨y2, e2, w2⟩ := hg 2 _ rfl
    obtain ⟨y3, e3, -⟩ := hg 3 _ rfl
    obtain ⟨y4, e4, -⟩ := hg 4 _ rfl
    obtain ⟨y5, e5, w5⟩ := hg 5 _ rfl
    obtain ⟨y6, e6, w6⟩ := hg 6 _ rfl
    obtain ⟨y7, e7, w7⟩ := hg 7 _ rfl
    obtain ⟨y8, e8, w8⟩ := hg 8 _ rfl
    simp [c1u8, c1bool, c1str, c1xs, c1ss, c1sts] at e0 e1 e2 e3 e4 e5 e6 e7 e8
    obtain ⟨k, rfl, hk⟩ := u8_in Tryz.underlying5 e0
    obtain ⟨nm, rfl, hs1⟩ := str_in Tryz.underlying9 e1 w1
    obtain ⟨fr, rfl, hs2⟩ := str_in Tryz.underlying9 e2 w2
    obtain ⟨sec, rfl⟩ := bool_in Tryz.underlying4 e3
    obtain ⟨mu, rfl⟩ := bool_in Tryz.underlying4 e4
    obtain ⟨m5, l5, cap5, rfl⟩ := slice_in Tryz.underlying41 e5
    obtain ⟨m6, l6, cap6, rfl⟩ := slice_in Tryz.underlying50 e6
    obtain ⟨m7, l7, cap7, rfl⟩ := slice_in Tryz.underlying39 e7
    obtain ⟨m8, l8, cap8, rfl⟩ := slice_in Tryz.underlying39 e8
    obtain ⟨ex, hx1, hx2, hx3, hx4, hx6, hx5⟩ := in_kids n2 n2 (Nat.le_refl _) m5 l5 cap5 y5 e5 w5
    obtain ⟨ar, ha1, ha2, ha3, ha4⟩ := in_strs e6 w6
    obtain ⟨bd, hb1, hb2, hb3, hb4, hb6, hb5⟩ := ih n2 (by omega) m7 l7 cap7 y7 e7 w7
    obtain ⟨el, hl1, hl2, hl3, hl4, hl6, hl5⟩ := ih n2 (by omega) m8 l8 cap8 y8 e8 w8
    subst hx1 ha1 hb1 hl1
    refine ⟨.mk k nm fr sec mu ex ar bd el, ⟨by rw [St.sb]; exact ⟨hs1, hs2, hx3, ha3, hb3, hl3⟩, by rw [St.lb]; exact ⟨hx2, hx4, ha2, ⟨hb2, hb4⟩, ⟨hl2, hl4⟩⟩, by rw [St.nb]; exact ⟨hx6, hb6, hl6⟩⟩, m5, m6, m7, m8, cap5, cap6, cap7, cap8, ?_⟩
    exact ⟨hc 0 _ rfl, hc 1 _ rfl, hc 2 _ rfl, hc 3 _ rfl, hc 4 _ rfl, hc 5 _ rfl, hc 6 _ rfl, hc 7 _ rfl, hc 8 _ rfl, hk, Nat.le_trans hx2 (by decide), Nat.le_trans ha2 (by decide), Nat.le_trans hb2 (by decide), Nat.le_trans hl2 (by decide), hx5, ha4, hb5, hl5⟩
  obtain ⟨l, hl, hp⟩ := list_of len each
  refine ⟨l, hl, by unfold reachBytes at hle; omega, sbS_iff.2 (fun x hx => ?_), lbS_iff.2 (fun x hx => ?_), nbS_iff9.2 (fun x hx => ?_), sts_mk l o (b := b) (fun i hi => (hp i hi).2) _ (fun h0 => (hma (by omega)).1)⟩ <;>
   (obtain ⟨i, hi, rfl⟩ := List.getElem_of_mem hx)
  ·exact (hp i hi).1.1
  ·exact (hp i hi).1.2.1
  ·exact (hp i hi).1.2.2
theorem in_fds {fuel : Nat} {ma : Option Addr} {len cap : Nat} {x : DataW H × List MemPlace} (h : DataW.trod enc Tryz.prog W 0 sp held fuel 22 [.slice ma len cap] = some x)
 (hw : ∀ m ∈ DataW.weights Tryz.prog 22 x.1, m ≤ reachBytes) : ∃ l : List Fd, l.length = len ∧ len ≤ 1466015503658 ∧ (∀ f ∈ l, f.sb 140737488355328 ∧ f.lb ∧ f.nb) ∧ FdsAt (fun b => b < W.heap.size) W l ma := by
 obtain ⟨b, o, hle, hma, hel⟩ := row_in Tryz.underlying22 (show Tryz.prog.cellsOf 43 = 5 by kernel_rfl) (by omega) h hw
 rw [show Tryz.prog.bytesOf 43 = 96 by kernel_rfl] at hle
 have each : ∀ i, i < len → ∃ y : Fd, (y.sb 140737488355328 ∧ y.lb ∧ y.nb) ∧ ∃ K : Fx, K.x = y ∧ K.is (fun b => b < W.heap.size) W ∧ ∀ r u, K.cells[r]? = some u → W.cell? ⟨b, o + i * 5 + r, none⟩ = some u := fun i hi => by
  obtain ⟨cs, n, y, hn, hc, ht, hwy⟩ := hel i hi
  obtain ⟨n2, hn2, hl, hg⟩ := fields_in Tryz.underlying43 ht hwy
  rw [show Tryz.prog.cellsOf 43 = 5 by kernel_rfl] at hl
  match cs, hl, hc, hg with
  | [x0, x1, x2, x3, x4], _, hc, hg =>
   obtain ⟨y0, e0, w0⟩ := hg 0 _ rfl
   obtain ⟨y1, e1, w1⟩ := hg 1 _ rfl
   obtain ⟨y2, e2, w2⟩ := hg 2 _ rfl
   obtain ⟨y3, e3, -⟩ := hg 3 _ rfl
   obtain ⟨y4, e4, w4⟩ := hg 4 _ rfl
   simp [c1bool, c1str, c1xs, c1ps, c1sts] at e0 e1 e2 e3 e4
   obtain ⟨nm, rfl, hs⟩ := str_in Tryz.underlying9 e0 w0
   obtain ⟨m1, l1, cap1, rfl⟩ := slice_in Tryz.underlying40 e1
   obtain ⟨m2, l2, cap2, rfl⟩ := slice_in Tryz.underlying39 e2
   obtain ⟨sec, rfl⟩ := bool_in Tryz.underlying4 e3
   obtain ⟨m4, l4, cap4, rfl⟩ := slice_in Tryz.underlying41 e4
   obtain ⟨ps, hp1, hp2, hp3, hp4⟩ := in_pms e1 w1
   obtain ⟨bd, hb1, hb2, hb3, hb4, hb6, hb5⟩ := in_sts n2 n2 (Nat.le_refl _) m2 l2 cap2 y2 e2 w2
   obtain ⟨rt, hr1, hr2, hr3, hr4, hr6, hr5⟩ := in_kids n2 n2 (Nat.le_refl _) m4 l4 cap4 y4 e4 w4
   subst hp1 hb1 hr1
   refine ⟨⟨nm, ps, bd, sec, rt⟩, ⟨⟨hs, hp3, hb3, hr3⟩, ⟨hp2, ⟨hb2, hb4⟩, ⟨hr2, hr4⟩⟩, ⟨hb6, hr6⟩⟩, ⟨nm, m1, ps.length, cap1, m2, bd.length, cap2, sec, m4, rt.length, cap4, ⟨nm, ps, bd, sec, rt⟩⟩, rfl, .mk (Nat.le_trans hp2 (by decide)) (Nat.le_trans hb2 (by decide)) (Nat.le_trans hr2 (by decide)) hp4 hb5 hr5, fun r u hu => hc r u hu⟩
 obtain ⟨l, hl, hp⟩ := list_of len each
 refine ⟨l, hl, by unfold reachBytes at hle; omega, fun x hx => ?_, fun i hi => ?_⟩
 ·obtain ⟨i, hi, rfl⟩ := List.getElem_of_mem hx
  exact (hp i hi).1
 ·obtain ⟨K, h1, h2, h3⟩ := (hp i hi).2
  exact ⟨b, o, K, (hma (by omega)).1, (hma (by omega)).2, h1, h2, h3⟩
theorem open_prog {r : Reach} {b0 : Nat} {v : Value} {d : DataW H} {p : List MemPlace} (hv : Value.okWide Tryz.prog W r b0 24 v) (h : DataW.Trod enc Tryz.prog W 0 sp held 24 v d p)
 (hw : ∀ m ∈ DataW.weights Tryz.prog 24 d, m ≤ reachBytes) : ∃ (l : List Fd) (ma : Option Addr) (cap : Nat), v = .agg #[.slice ma l.length cap] ∧ l.length ≤ 1466015503658 ∧ (∀ f ∈ l, f.sb 140737488355328 ∧ f.lb ∧ f.nb) ∧ FdsAt (fun b => b < W.heap.size) W l ma := by
 obtain ⟨cs, rfl, hsz⟩ := okWide_struct Tryz.underlying24 hv
 obtain ⟨fuel, hf⟩ := h
 obtain ⟨n2, hn2, hl, hg⟩ := fields_in Tryz.underlying24 hf hw
 obtain ⟨cs⟩ := cs
 change DataW.trod enc Tryz.prog W 0 sp held fuel 24 cs = some (d, p) at hf
 change cs.length = _ at hl
 rw [show Tryz.prog.cellsOf 24 = 1 by kernel_rfl] at hl
 match cs, hl, hg with
 | [x0], _, hg =>
  obtain ⟨y0, e0, w0⟩ := hg 0 _ rfl
  skip
  change DataW.trod enc Tryz.prog W 0 sp held n2 22 [x0] = some y0 at e0
  obtain ⟨ma, len, cap, rfl⟩ := slice_in Tryz.underlying22 e0
  obtain ⟨l, h1, h2, h3, h4⟩ := in_fds e0 w0
  subst h1
  exact ⟨l, ma, cap, rfl, h2, h3, h4⟩
end
end
section
open Go Go.ChangeShapes Go.WideShapes Go.ChangeAt Go.RowKit
def LgQ (w : World) (l : List Fd) (r : Ending) (w' : World) : Prop := (∃ b, r = .returned (.bool b) ∧ (b = false → l.length ≤ 30 ∧ totS l ≤ 900 ∧ ∀ f ∈ l, f.nd)) ∧ Below w.heap.size w w'
theorem lgq_true {w w' : World} {l : List Fd} (hB : Below w.heap.size w w') : LgQ w l (.returned (.bool true)) w' := ⟨⟨_, rfl, fun h => by cases h⟩, hB⟩
theorem lgq_false {w w' : World} {l : List Fd} (h1 : l.length ≤ 30) (h2 : totS l ≤ 900) (h3 : ∀ f ∈ l, f.nd) (hB : Below w.heap.size w w') : LgQ w l (.returned (.bool false)) w' := ⟨⟨_, rfl, fun _ => ⟨h1, h2, h3⟩⟩, hB⟩
theorem ndS_app {a b : List St} : ndS (a ++ b) ↔ ndS a ∧ ndS b := by
 rw [ndS_iff, ndS_iff, ndS_iff]
 exact ⟨fun h => ⟨fun x hx => h x (List.mem_append_left _ hx), fun x hx => h x (List.mem_append_right _ hx)⟩, fun h x hx => (List.mem_append.1 hx).elim (h.1 x) (h.2 x)⟩
theorem bfs_nd {j : Nat} {L Lb Le : List Sx} (hj : j < L.length) (hb : Lb.map (·.x) = (L[j]).x.bd) (he : Le.map (·.x) = (L[j]).x.el) (hx : ∀ x ∈ (L[j]).x.ex, x.nodes ≤ 9000) (h : ndS ((((L ++ Lb) ++ Le).drop (j + 1)).map (·.x))) : ndS ((L.drop j).map (·.x)) := by
 rw [List.append_assoc, List.drop_append_of_le_length (by omega), List.map_append, List.map_append, ndS_app, ndS_app, hb, he] at h
 rw [List.drop_eq_getElem_cons hj, List.map_cons, ndS]
 refine ⟨?_, h.1⟩
 revert hx h
 generalize (L[j]).x = s
 intro hx h
 obtain ⟨k, nm, fr, sec, mu, ex, ar, bd, el⟩ := s
 rw [St.nd]
 exact ⟨hx, h.2⟩
theorem nd_step {l : List Fd} {k : Nat} (hk : k < l.length) {L Lb : List Sx} (hb : Lb.map (·.x) = (l[k]).bd) (h : ndS (L.map (·.x)) → ∀ f ∈ l.take k, ndS f.bd) : ndS ((L ++ Lb).map (·.x)) → ∀ f ∈ l.take (k + 1), ndS f.bd := fun h1 f hf => by
 rw [List.map_append, ndS_app, hb] at h1
 rw [List.take_succ_eq_append_getElem hk] at hf
 rcases List.mem_append.1 hf with hf | hf
 ·exact h h1.1 f hf
 ·rw [List.mem_singleton.1 hf]; exact h1.2
theorem rt_step {l : List Fd} {k : Nat} (hk : k < l.length) (h : ∀ f ∈ l.take k, ∀ x ∈ f.rt, x.nodes ≤ 9000) (h2 : ∀ i (hi : i < (l[k]).rt.length), ((l[k]).rt[i]).nodes ≤ 9000) : ∀ f ∈ l.take (k + 1), ∀ x ∈ f.rt, x.nodes ≤ 9000 := fun f hf x hx => by
 rw [List.take_succ_eq_append_getElem hk] at hf
 rcases List.mem_append.1 hf with hf | hf
 ·exact h f hf x hx
 ·rw [List.mem_singleton.1 hf] at hx
  obtain ⟨i, hi, rfl⟩ := List.getElem_of_mem hx
  exact h2 i hi
theorem nd_next {l : List Xp} {k : Nat} {hk : k < l.length} (h : ∀ i (hi : i < l.length), i < k → (l[i]).nodes ≤ 9000) (h2 : (l[k]).nodes ≤ 2000) : ∀ i (hi : i < l.length), i < k + 1 → (l[i]).nodes ≤ 9000 := fun i hi hk1 => by
 by_cases c : i < k
 ·exact h i hi c
 ·obtain rfl : i = k := by omega
  exact Nat.le_trans h2 (by decide)
end
end Go.Proofs.YtfbjljcmmbdhkaaGreatDoor
