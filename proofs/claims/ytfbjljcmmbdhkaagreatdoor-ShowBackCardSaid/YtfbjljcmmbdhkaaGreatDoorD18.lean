/- Contracts of the reader's expression, kind by kind. -/
import Derived.Test.YtfbjljcmmbdhkaaGreatDoorD17
import Derived.LoopN
namespace Go.Proofs.YtfbjljcmmbdhkaaGreatDoor
set_option linter.unusedVariables false
set_option linter.unusedSimpArgs false
set_option maxRecDepth 100000
set_option maxHeartbeats 200000000
open Go.ChangeShapes Go.WideShapes Go.ChangeAt Go.RowKit
theorem zZi {a0 a1 a2 a3 a4 : Value} (c0 c1 c2 c3 c4 : Value) {w : World} {k : Nat} (h : rowG #[a0, a1, a2, a3, a4] w k) :
 rowG #[c0, c1, c2, c3, c4] (((((w.setCell ⟨k, 0, none⟩ c0).setCell ⟨k, 1, none⟩ c1).setCell ⟨k, 2, none⟩ c2).setCell ⟨k, 3, none⟩ c3).setCell ⟨k, 4, none⟩ c4) k :=
 zXs 4 (by omega) c4 (zXs 3 (by omega) c3 (zXs 2 (by omega) c2 (zXs 1 (by omega) c1 (zXs 0 (by omega) c0 h))))
theorem yQa (c0 c1 c2 c3 c4 : Value) (w : World) (k : Nat) : Only (fun j => j = k) w (((((w.setCell ⟨k, 0, none⟩ c0).setCell ⟨k, 1, none⟩ c1).setCell ⟨k, 2, none⟩ c2).setCell ⟨k, 3, none⟩ c3).setCell ⟨k, 4, none⟩ c4) :=
 ((((zXa w k 0 c0).trans (zXa _ k 1 c1)).trans (zXa _ k 2 c2)).trans (zXa _ k 3 c3)).trans (zXa _ k 4 c4)
structure Ex4 (w w4 : World) (rb eb : Nat) (v : Value) (T : List (Tk × Int)) (p d : Int) (K : Int) : Prop where
 rd : IsRd w4 rb v T p d
 bx : Bx w4 eb rb (ob v T) (.int .u8 K) (.int .u64 0) (.string ⟨#[]⟩) (.int .u8 0) (.slice none 0 0)
 res : rowG #[.int .u8 0, .int .u64 0, .string ⟨#[]⟩, .int .u8 0, .slice none 0 0] w4 w.heap.size
 tb : Tb w4
 only : Only (fun j => j = rb) w w4
 lo : w.heap.size < eb
theorem xXv {w w2 w4 : World} {rb : Nat} {v : Value} {T : List (Tk × Int)} {p d d1 : Int} (K : Int) (h : IsRd w rb v T p d) (hT : Tb w) (hG : ¬ GB rb) (hb2 : Below ((w.setCell ⟨rb, 2, none⟩ (.int .i64 d1)).alloc (.cells #[.int .u8 0, .int .u64 0, .string ⟨#[]⟩, .int .u8 0, .slice none 0 0] 47)).heap.size ((w.setCell ⟨rb, 2, none⟩ (.int .i64 d1)).alloc (.cells #[.int .u8 0, .int .u64 0, .string ⟨#[]⟩, .int .u8 0, .slice none 0 0] 47)) w2)
 (hb4 : Below (w2.alloc (.cells #[.int .u8 K, .int .u64 0, .string ⟨#[]⟩, .int .u8 0, .slice none 0 0] 47)).heap.size (w2.alloc (.cells #[.int .u8 K, .int .u64 0, .string ⟨#[]⟩, .int .u8 0, .slice none 0 0] 47)) w4) : Ex4 w w4 rb w2.heap.size v T p d1 K := by
 have hrl := h.lt
 have h2 := hb2.size
 rw [World.size_alloc, World.size_setCell] at h2
 have hO1 : Only (fun j => j = rb) w ((w.setCell ⟨rb, 2, none⟩ (.int .i64 d1)).alloc (.cells #[.int .u8 0, .int .u64 0, .string ⟨#[]⟩, .int .u8 0, .slice none 0 0] 47)) := (zXa _ _ _ _).trans (zQd (aB (Below.refl _ _) _))
 have hO2 := hO1.trans (zQd hb2)
 have hO3 := hO2.trans (zQd (aB (Below.refl w2.heap.size w2) (.cells #[.int .u8 K, .int .u64 0, .string ⟨#[]⟩, .int .u8 0, .slice none 0 0] 47)))
 refine ⟨(((h.setD.of (aB (Below.refl _ _) _)).of hb2).of (aB (Below.refl _ _) _)).of hb4, ⟨zQh (zQf _ _ _ _ rfl) hb4, by omega, fun e => ?_⟩, ?_, hT.only (hO3.trans (zQd hb4)) (fun j hj e => hG (by rw [← e]; exact hj)), hO3.trans (zQd hb4), by omega⟩
 ·have := h.row.ob_lt e; omega
 ·exact zQh (zQj (zQh (zQf _ _ _ _ (by rw [World.size_setCell])) hb2) _) hb4
theorem zKl {w w4 wN : World} {rb eb : Nat} {v : Value} {T : List (Tk × Int)} {p d K q d1 : Int} {c0 c1 c2 c3 c4 : Value} (h4 : Ex4 w w4 rb eb v T p d1 K) (hrb : rb < w.heap.size) (hob : ∀ j, ob v T = some j → j < w.heap.size)
 (hO : Only (fun j => j = rb ∨ j = eb ∨ w4.heap.size ≤ j) w4 wN) (hR : IsRd wN rb v T q d) (a0 a1 a2 a3 a4 : Value) :
 IsRd (((((wN.setCell ⟨w.heap.size, 0, none⟩ a0).setCell ⟨w.heap.size, 1, none⟩ a1).setCell ⟨w.heap.size, 2, none⟩ a2).setCell ⟨w.heap.size, 3, none⟩ a3).setCell ⟨w.heap.size, 4, none⟩ a4) rb v T q d ∧ Only (fun j => j = rb) w (((((wN.setCell ⟨w.heap.size, 0, none⟩ a0).setCell ⟨w.heap.size, 1, none⟩ a1).setCell ⟨w.heap.size, 2, none⟩ a2).setCell ⟨w.heap.size, 3, none⟩ a3).setCell ⟨w.heap.size, 4, none⟩ a4) := by
 have h5 := yQa a0 a1 a2 a3 a4 wN w.heap.size
 have hlo := h4.lo
 have hs := h4.only.size
 refine ⟨hR.only h5 (by omega) (fun j hj e => by have := hob j hj; omega), ?_⟩
 have hA : Only (fun j => j = rb ∨ w.heap.size ≤ j) w4 _ := (hO.mono fun j hj => by omega).trans (h5.mono fun j hj => .inr (by omega))
 exact ((h4.only.mono fun j hj => Or.inl hj).trans hA).cut
theorem yQf {w w4 wN : World} {rb eb : Nat} {v : Value} {T : List (Tk × Int)} {p K d1 : Int} (h4 : Ex4 w w4 rb eb v T p d1 K) (hrb : rb < w.heap.size) (hO : Only (fun j => j = rb ∨ j = eb ∨ w4.heap.size ≤ j) w4 wN) : rowG #[.int .u8 0, .int .u64 0, .string ⟨#[]⟩, .int .u8 0, .slice none 0 0] wN w.heap.size :=
 zQa h4.res hO (fun e => by have h1 := h4.lo; have h2 := h4.res.2.2; omega)
theorem xQh {w : World} {b o k i : Nat} {u x : Value} (v : Value) (hn : ¬ b = k) (hc : w.cell? ⟨b, o, none⟩ = some x) : (w.setCell ⟨k, i, none⟩ v).cell? ⟨b, o, none⟩ = some x := (zXa w k i v).cell (a := ⟨b, o, none⟩) hn hc
theorem Ex4.ne {w w4 : World} {rb eb : Nat} {v : Value} {T : List (Tk × Int)} {p d K : Int} (h4 : Ex4 w w4 rb eb v T p d K) {b : Nat} {x : Value} (hb : w4.cell? ⟨b, 0, none⟩ = some x) (hx : Value.int .u8 K ≠ x) : ¬ b = eb := fun e => by
 have h1 := h4.bx.row.1 0 (by simp)
 rw [← e] at h1
 exact hx (Option.some.inj (h1.symm.trans hb))
theorem Ex4.ng {w w4 : World} {rb eb : Nat} {v : Value} {T : List (Tk × Int)} {p d K : Int} (h4 : Ex4 w w4 rb eb v T p d K) {g : Nat} {x : Value} (p0 : w4.cell? ⟨g, 0, none⟩ = some x) (hx : ∀ ma n c, Value.slice ma n c ≠ x) : ¬ g = rb := fun e => by
 subst e
 obtain ⟨ma, c, hv⟩ := h4.rd.row_sl
 have := h4.rd.c0.symm.trans p0
 rw [hv] at this
 exact hx _ _ _ (Option.some.inj this)
theorem Ex4.gb {w w4 : World} {rb eb : Nat} {v : Value} {T : List (Tk × Int)} {p d K : Int} (h4 : Ex4 w w4 rb eb v T p d K) (hT : Tb w) : ¬ GB eb := fun hg => by have h1 := hT.lt hg; have h2 := h4.lo; omega
theorem z5 {a0 a1 a2 a3 a4 : Value} {w : World} {k : Nat} (h : rowG #[a0, a1, a2, a3, a4] w k) : w.cell? ⟨k, 0, none⟩ = some a0 ∧ w.cell? ⟨k, 1, none⟩ = some a1 ∧ w.cell? ⟨k, 2, none⟩ = some a2 ∧ w.cell? ⟨k, 3, none⟩ = some a3 ∧ w.cell? ⟨k, 4, none⟩ = some a4 ∧ w.frozen? ⟨k, 0, none⟩ = false ∧ w.frozen? ⟨k, 1, none⟩ = false ∧ w.frozen? ⟨k, 2, none⟩ = false ∧ w.frozen? ⟨k, 3, none⟩ = false ∧ w.frozen? ⟨k, 4, none⟩ = false ∧ k < w.heap.size :=
 ⟨h.1 0 (by simp), h.1 1 (by simp), h.1 2 (by simp), h.1 3 (by simp), h.1 4 (by simp), h.2.1 0, h.2.1 1, h.2.1 2, h.2.1 3, h.2.1 4, h.2.2⟩
theorem xXu {w : World} {rb : Nat} {v : Value} {T : List (Tk × Int)} {p d : Int} (K : Int) (h : IsRd w rb v T p d) (hd0 : 0 ≤ d) (hd1 : d < 40) (hkn : (yQd T p : Int) = K) : (∀ j, ob v T = some j → j < w.heap.size) ∧ rb < w.heap.size ∧ (d == 40) = false ∧
 ∃ d1, d1 = d + 1 ∧ IntKind.i64.wrap (d + 1) = d1 ∧ IntKind.i64.wrap (d1 - 1) = d ∧ w.cell? ⟨rb, 2, none⟩ = some (.int .i64 d) ∧ w.frozen? ⟨rb, 2, none⟩ = false ∧
  Calls Tryz.prog 192 #[.pointer (some ⟨rb, 0, none⟩)] ((w.setCell ⟨rb, 2, none⟩ (.int .i64 d1)).alloc (.cells #[.int .u8 0, .int .u64 0, .string ⟨#[]⟩, .int .u8 0, .slice none 0 0] 47)) fun e w' => e = .returned (.int .u8 K) ∧ Below ((w.setCell ⟨rb, 2, none⟩ (.int .i64 d1)).alloc (.cells #[.int .u8 0, .int .u64 0, .string ⟨#[]⟩, .int .u8 0, .slice none 0 0] 47)).heap.size ((w.setCell ⟨rb, 2, none⟩ (.int .i64 d1)).alloc (.cells #[.int .u8 0, .int .u64 0, .string ⟨#[]⟩, .int .u8 0, .slice none 0 0] 47)) w' := by
 have hk := kind_any ((h.setD (e := d + 1)).of (aB (Below.refl (w.setCell ⟨rb, 2, none⟩ (.int .i64 (d + 1))).heap.size (w.setCell ⟨rb, 2, none⟩ (.int .i64 (d + 1)))) (.cells #[.int .u8 0, .int .u64 0, .string ⟨#[]⟩, .int .u8 0, .slice none 0 0] 47)))
 rw [hkn] at hk
 exact ⟨fun j hj => h.row.ob_lt hj, h.lt, by simp only [beq_eq_false_iff_ne]; omega, d + 1, rfl, by rw [IntKind.wrap_i64]; omega, by rw [IntKind.wrap_i64]; omega, h.c2, h.f 2, hk⟩
theorem ex_nvl {w : World} {rb : Nat} {v : Value} {T : List (Tk × Int)} {p d : Int} :
 (∀ (h : IsRd w rb v T p d) (hT : Tb w) (hG : ¬ GB rb) (hd0 : 0 ≤ d) (hd1 : d < 40) (hkn : yQd T p = 1) (n : Nat), (∀ (s : List UInt8) (ht0 : zXy T p = ⟨3, s, n⟩) (hs : ¬ s = []), Calls Tryz.prog 178 #[.pointer (some ⟨rb, 0, none⟩)] w (ExEr w rb v T 7 (p))) ∧ (∀ (ht0 : zXy T p = ⟨3, [], n⟩) (h00 : 0 ≤ p) (h01 : p < T.length), Calls Tryz.prog 178 #[.pointer (some ⟨rb, 0, none⟩)] w (ExOk w rb v T d (.mk 1 n [] 0 []) (p + 1)))) ∧
 (∀ (h : IsRd w rb v T p d) (hT : Tb w) (hG : ¬ GB rb) (hd0 : 0 ≤ d) (hd1 : d < 40) (hkn : yQd T p = 2) (t : Tk) (ht0 : zXy T p = t), (∀ (hn : zJf t = false), Calls Tryz.prog 178 #[.pointer (some ⟨rb, 0, none⟩)] w (ExEr w rb v T 7 (p))) ∧ (∀ (h00 : 0 ≤ p) (h01 : p < T.length) (hn : zJf t = true), Calls Tryz.prog 178 #[.pointer (some ⟨rb, 0, none⟩)] w (ExOk w rb v T d (.mk 2 0 t.t 0 []) (p + 1)))) ∧
 (∀ (h : IsRd w rb v T p d) (hT : Tb w) (hG : ¬ GB rb) (hd0 : 0 ≤ d) (hd1 : d < 40) (hkn : yQd T p = 4) (ht0 : zXy T p = sg [35]) (h00 : 0 ≤ p) (h01 : p < T.length) (t : Tk) (ht1 : zXy T (p + 1) = t), (∀ (hn : zJf t = false), Calls Tryz.prog 178 #[.pointer (some ⟨rb, 0, none⟩)] w (ExEr w rb v T 7 (p + 1))) ∧ (∀ (h10 : 0 ≤ p + 1) (h11 : p + 1 < T.length) (hn : zJf t = true), Calls Tryz.prog 178 #[.pointer (some ⟨rb, 0, none⟩)] w (ExOk w rb v T d (.mk 4 0 t.t 0 []) (p + 1 + 1)))) := by
 refine ⟨(@fun h hT hG hd0 hd1 hkn n => have k1 : Nat := 0; ?_), (@fun h hT hG hd0 hd1 hkn t ht0 => have k2 : Nat := 0; ?_), (@fun h hT hG hd0 hd1 hkn ht0 h00 h01 t ht1 => have k3 : Nat := 0; ?_)⟩
 all_goals
  first
  | (replace k1 := k1
     refine ⟨fun s ht0 hs => ?_, fun ht0 h00 h01 => ?_⟩)
  | (replace k2 := k2
     refine ⟨fun hn => ?_, fun h00 h01 hn => ?_⟩)
  | (replace k3 := k3
     refine ⟨fun hn => ?_, fun h10 h11 hn => ?_⟩)
  all_goals
   first
   | (replace k1 := k1
      obtain ⟨hob, hrl, hd40, d1, hd1e, hw1, hw2, e2, f2, hk'⟩ := xXu 1 h hd0 hd1 (by rw [hkn]; rfl))
   | (replace k2 := k2
      obtain ⟨hob, hrl, hd40, d1, hd1e, hw1, hw2, e2, f2, hk'⟩ := xXu 2 h hd0 hd1 (by rw [hkn]; rfl))
   | (replace k3 := k3
      obtain ⟨hob, hrl, hd40, d1, hd1e, hw1, hw2, e2, f2, hk'⟩ := xXu 4 h hd0 hd1 (by rw [hkn]; rfl))
   clear hd1e
   have HH := Lib.hid h
   have HT := Lib.hid hT
   clear h hT
   go_enter Tryz.func178, Tryz.ntmps178
   first
   | (replace k1 := k1
      go_wp2_with (first | (go_at_call 192; ((with_reducible refine hk'.mono ?_); (rintro e w2 ⟨rfl, hb2⟩))) | (go_at_call 193; ((with_reducible refine (parts_num rb _).mono ?_); (rintro e w4 ⟨⟨g, rfl, hgl, p0⟩, hb4⟩)))))
   | (replace k2 := k2
      go_wp2_with (first | (go_at_call 192; ((with_reducible refine hk'.mono ?_); (rintro e w2 ⟨rfl, hb2⟩))) | (go_at_call 193; ((with_reducible refine (parts_var rb _).mono ?_); (rintro e w4 ⟨⟨g, rfl, hgl, p0⟩, hb4⟩)))))
   | (replace k3 := k3
      go_wp2_with (first | (go_at_call 192; ((with_reducible refine hk'.mono ?_); (rintro e w2 ⟨rfl, hb2⟩))) | (go_at_call 193; ((with_reducible refine (parts_len rb _).mono ?_); (rintro e w4 ⟨⟨g, rfl, hgl, ⟨f0, p0, br0, bs0, rfl, hr0, hs0⟩, p1⟩, hb4⟩)))))
   first
   | (replace k1 := k1
      have h4 := xXv 1 HH.out HT.out hG hb2 hb4)
   | (replace k2 := k2
      have h4 := xXv 2 HH.out HT.out hG hb2 hb4)
   | (replace k3 := k3
      have h4 := xXv 4 HH.out HT.out hG hb2 hb4)
   have hGe := h4.gb HT.out
   clear hb2 hb4 hk' e2 f2
   have hlo := h4.lo
   have hng := h4.ng p0 (fun _ _ _ h => by cases h)
   have hne := h4.ne p0 (fun h => by cases h)
   first
   | (replace k1 := k1)
   | (replace k2 := k2)
   | (replace k3 := k3
      have nr0 := h4.rd.np hr0
      have ns0 := h4.rd.ns hs0
      have mr0 := h4.ne hr0 (fun h => by cases h)
      have ms0 := h4.ne hs0 (fun h => by cases h))
   have hO0 : Only (fun j => j = rb ∨ j = w2.heap.size ∨ w4.heap.size ≤ j) w4 w4 := Only.refl _ _
   have H4 := Lib.hid h4
   obtain ⟨hR0, hX0, -, hT0, -, -⟩ := h4
   first
   | (replace k1 := k1
      refine wp_loop_rounds 2 ?_)
   | (replace k2 := k2
      refine wp_loop_rounds 2 ?_)
   | (replace k3 := k3
      refine wp_loop_rounds 3 ?_)
   have g0 : g < w4.heap.size := Nat.lt_of_lt_of_le hgl hO0.size
   have pt0 := Only.cell hO0 (a := ⟨g, 0, none⟩) (fun e => by simp only at e; omega) p0
   first
   | (replace k1 := k1)
   | (replace k2 := k2)
   | (replace k3 := k3
      have sr0 := Only.cell hO0 (a := ⟨br0, 0, none⟩) (fun e => by have := World.block_lt_of_cell? w4 _ hr0; simp only at e this; omega) hr0
      have ss0 := Only.cell hO0 (a := ⟨bs0, 0, none⟩) (fun e => by have := World.block_lt_of_cell? w4 _ hs0; simp only at e this; omega) hs0
      have hC0 := sign1_m.2 hR0 [35] br0 bs0 (some ⟨w2.heap.size, 0, none⟩) sr0 ss0 ht0 h00 h01
      rw [rounds_succ]
      go_wp2_with (first | (go_at_call 203; ((with_reducible refine hC0.mono ?_); (rintro e x1 ⟨rfl, hP0⟩); (have hR1 := hP0.rd); (have hX1 := hX0.only hP0.only hX0.n1); (have hT1 := hT0.only hP0.only (fun j hj e => hG (by rw [← e]; exact hj))); (have hO1 := hO0.trans (hP0.only.mono fun j hj => .inl hj)); have gn0 : g < x1.heap.size := Nat.lt_of_lt_of_le hgl hO1.size; obtain ⟨q0, q1, q2, q3, q4, qel, qef⟩ := hX1.e)))
      clear gn0 q0 q1 q2 q3 q4 qel qef hC0
      clear g0 pt0
      have g1 : g < x1.heap.size := Nat.lt_of_lt_of_le hgl hO1.size
      have pt1 := Only.cell hO1 (a := ⟨g, 1, none⟩) (fun e => by simp only at e; omega) p1)
  ·
   first
   | (replace k1 := k1
      have hC0 := number_no hR0 hX0 n s ht0 hs)
   | (replace k2 := k2
      have hC0 := xZr hR0 hX0 hT0 hGe t ht0 hn)
   | (replace k3 := k3
      have hC1 := xZr hR1 hX1 hT1 hGe t ht1 hn)
   rw [rounds_succ]
   first
   | (replace k1 := k1
      go_wp2_with (first | (go_at_call 196; ((with_reducible refine hC0.mono ?_); (rintro e x1 ⟨rfl, hP0⟩); (have hR1 := hP0.rd); (have hO1 := hO0.trans (hP0.only.mono fun j hj => hj.elim .inl fun h => .inr (.inl h))); have hZZ := yQf H4.out hrl hO1; obtain ⟨z0, z1, z2, z3, z4, y0, y1, y2, y3, y4, hzl⟩ := z5 hZZ))))
   | (replace k2 := k2
      go_wp2_with (first | (go_at_call 198; ((with_reducible refine hC0.mono ?_); (rintro e x1 ⟨rfl, hP0⟩); (have hR1 := hP0.rd); (have hO1 := hO0.trans (hP0.only.mono fun j hj => hj.elim .inl fun h => .inr (.inl h))); have hZZ := yQf H4.out hrl hO1; obtain ⟨z0, z1, z2, z3, z4, y0, y1, y2, y3, y4, hzl⟩ := z5 hZZ))))
   | (replace k3 := k3
      go_wp2_with (first | (go_at_call 198; ((with_reducible refine hC1.mono ?_); (rintro e x2 ⟨rfl, hP1⟩); (have hR2 := hP1.rd); (have hO2 := hO1.trans (hP1.only.mono fun j hj => hj.elim .inl fun h => .inr (.inl h))); have hZZ := yQf H4.out hrl hO2; obtain ⟨z0, z1, z2, z3, z4, y0, y1, y2, y3, y4, hzl⟩ := z5 hZZ))))
   first
   | (replace k1 := k1
      have hE := zKl (c0 := undef) (c1 := undef) (c2 := undef) (c3 := undef) (c4 := undef) H4.out hrl hob hO1 hR1 (.int .u8 0) (.int .u64 0) (.string ⟨#[]⟩) (.int .u8 0) (.slice none 0 0))
   | (replace k2 := k2
      have hE := zKl (c0 := undef) (c1 := undef) (c2 := undef) (c3 := undef) (c4 := undef) H4.out hrl hob hO1 hR1 (.int .u8 0) (.int .u64 0) (.string ⟨#[]⟩) (.int .u8 0) (.slice none 0 0))
   | (replace k3 := k3
      have hE := zKl (c0 := undef) (c1 := undef) (c2 := undef) (c3 := undef) (c4 := undef) H4.out hrl hob hO2 hR2 (.int .u8 0) (.int .u64 0) (.string ⟨#[]⟩) (.int .u8 0) (.slice none 0 0))
   exact bodyPost_ret (zJe rfl _ _ w.heap.size _ _ _ _ _ _ rfl rfl (zZi _ _ _ _ _ hZZ)) rfl ⟨rfl, ⟨_, hE.1⟩, hE.2⟩
  ·
   first
   | (replace k1 := k1
      have hC0 := number_yes hR0 hX0 n [] ht0 rfl h00 h01)
   | (replace k2 := k2
      have hC0 := xQt hR0 hX0 hT0 hGe t ht0 hn h00 h01)
   | (replace k3 := k3
      have hC1 := xQt hR1 hX1 hT1 hGe t ht1 hn h10 h11)
   rw [rounds_succ]
   first
   | (replace k1 := k1
      go_wp2_with (first | (go_at_call 196; ((with_reducible refine hC0.mono ?_); (rintro e x1 ⟨rfl, hP0⟩); (have hR1 := hP0.rd); (have hO1 := hO0.trans (hP0.only.mono fun j hj => hj.elim .inl fun h => .inr (.inl h))); (have hX1 := hP0.bx); (have hT1 := hT0.only hP0.only (fun j hj e => e.elim (fun e => hG (by rw [← e]; exact hj)) (fun e => hGe (by rw [← e]; exact hj)))); have gn0 : g < x1.heap.size := Nat.lt_of_lt_of_le hgl hO1.size; obtain ⟨q0, q1, q2, q3, q4, qel, qef⟩ := hX1.e))))
   | (replace k2 := k2
      go_wp2_with (first | (go_at_call 198; ((with_reducible refine hC0.mono ?_); (rintro e x1 ⟨rfl, hP0⟩); (have hR1 := hP0.rd); (have hO1 := hO0.trans (hP0.only.mono fun j hj => hj.elim .inl fun h => .inr (.inl h))); (have hX1 := hP0.bx); (have hT1 := hT0.only hP0.only (fun j hj e => e.elim (fun e => hG (by rw [← e]; exact hj)) (fun e => hGe (by rw [← e]; exact hj)))); have gn0 : g < x1.heap.size := Nat.lt_of_lt_of_le hgl hO1.size; obtain ⟨q0, q1, q2, q3, q4, qel, qef⟩ := hX1.e))))
   | (replace k3 := k3
      go_wp2_with (first | (go_at_call 198; ((with_reducible refine hC1.mono ?_); (rintro e x2 ⟨rfl, hP1⟩); (have hR2 := hP1.rd); (have hO2 := hO1.trans (hP1.only.mono fun j hj => hj.elim .inl fun h => .inr (.inl h))); (have hX2 := hP1.bx); (have hT2 := hT1.only hP1.only (fun j hj e => e.elim (fun e => hG (by rw [← e]; exact hj)) (fun e => hGe (by rw [← e]; exact hj)))); have gn1 : g < x2.heap.size := Nat.lt_of_lt_of_le hgl hO2.size; obtain ⟨q0, q1, q2, q3, q4, qel, qef⟩ := hX2.e))))
   first
   | (replace k1 := k1
      clear gn0 q0 q1 q2 q3 q4 qel qef hC0)
   | (replace k2 := k2
      clear gn0 q0 q1 q2 q3 q4 qel qef hC0)
   | (replace k3 := k3
      clear gn1 q0 q1 q2 q3 q4 qel qef hC1)
   first
   | (replace k1 := k1
      have g1 : g < x1.heap.size := Nat.lt_of_lt_of_le hgl hO1.size)
   | (replace k2 := k2
      have g1 : g < x1.heap.size := Nat.lt_of_lt_of_le hgl hO1.size)
   | (replace k3 := k3
      have g2 : g < x2.heap.size := Nat.lt_of_lt_of_le hgl hO2.size)
   first
   | (replace k1 := k1
      have hO9 := hO1)
   | (replace k2 := k2
      have hO9 := hO1)
   | (replace k3 := k3
      have hO9 := hO2)
   first
   | (replace k1 := k1
      have hR9 := hR1)
   | (replace k2 := k2
      have hR9 := hR1)
   | (replace k3 := k3
      have hR9 := hR2)
   first
   | (replace k1 := k1
      obtain ⟨q0, q1, q2, q3, q4, qel, qef⟩ := hX1.e)
   | (replace k2 := k2
      obtain ⟨q0, q1, q2, q3, q4, qel, qef⟩ := hX1.e)
   | (replace k3 := k3
      obtain ⟨q0, q1, q2, q3, q4, qel, qef⟩ := hX2.e)
   have e2 := hR9.c2
   have f2 := hR9.f 2
   have hrl9 := hR9.lt
   have hZZ := yQf H4.out hrl hO9
   obtain ⟨z0, z1, z2, z3, z4, y0, y1, y2, y3, y4, hzl⟩ := z5 hZZ
   have hrz : ¬ w.heap.size = rb := by omega
   have hrz' : ¬ rb = w.heap.size := by omega
   have hez : ¬ w.heap.size = w2.heap.size := by omega
   have hez' : ¬ w2.heap.size = w.heap.size := by omega
   first
   | (replace k1 := k1
      have her := hX1.n1)
   | (replace k2 := k2
      have her := hX1.n1)
   | (replace k3 := k3
      have her := hX2.n1)
   have her' : ¬ rb = w2.heap.size := fun e => her e.symm
   rw [rounds_succ]
   go_wp2
   have hD := hR9.setD (e := d)
   first
   | (replace k1 := k1
      have hOD : Only (fun j => j = rb ∨ j = w2.heap.size ∨ w4.heap.size ≤ j) w4 (x1.setCell ⟨rb, 2, none⟩ (.int .i64 d)) := hO9.setCell (.inl rfl))
   | (replace k2 := k2
      have hOD : Only (fun j => j = rb ∨ j = w2.heap.size ∨ w4.heap.size ≤ j) w4 (x1.setCell ⟨rb, 2, none⟩ (.int .i64 d)) := hO9.setCell (.inl rfl))
   | (replace k3 := k3
      have hOD : Only (fun j => j = rb ∨ j = w2.heap.size ∨ w4.heap.size ≤ j) w4 (x2.setCell ⟨rb, 2, none⟩ (.int .i64 d)) := hO9.setCell (.inl rfl))
   first
   | (replace k1 := k1
      have hE := zKl (c0 := undef) (c1 := undef) (c2 := undef) (c3 := undef) (c4 := undef) H4.out hrl hob hOD hD (.int .u8 1) (.int .u64 (n : Int)) (.string ⟨#[]⟩) (.int .u8 0) (.slice none 0 0))
   | (replace k2 := k2
      have hE := zKl (c0 := undef) (c1 := undef) (c2 := undef) (c3 := undef) (c4 := undef) H4.out hrl hob hOD hD (.int .u8 2) (.int .u64 0) (.string (str t.t)) (.int .u8 0) (.slice none 0 0))
   | (replace k3 := k3
      have hE := zKl (c0 := undef) (c1 := undef) (c2 := undef) (c3 := undef) (c4 := undef) H4.out hrl hob hOD hD (.int .u8 4) (.int .u64 0) (.string (str t.t)) (.int .u8 0) (.slice none 0 0))
   have hZD := zQm (.int .i64 d) (o := 2) hZZ hrz
   first
   | (replace k1 := k1
      have h5 := yQa (.int .u8 1) (.int .u64 (n : Int)) (.string ⟨#[]⟩) (.int .u8 0) (.slice none 0 0) (x1.setCell ⟨rb, 2, none⟩ (.int .i64 d)) w.heap.size)
   | (replace k2 := k2
      have h5 := yQa (.int .u8 2) (.int .u64 0) (.string (str t.t)) (.int .u8 0) (.slice none 0 0) (x1.setCell ⟨rb, 2, none⟩ (.int .i64 d)) w.heap.size)
   | (replace k3 := k3
      have h5 := yQa (.int .u8 4) (.int .u64 0) (.string (str t.t)) (.int .u8 0) (.slice none 0 0) (x2.setCell ⟨rb, 2, none⟩ (.int .i64 d)) w.heap.size)
   first
   | (replace k1 := k1
      refine bodyPost_ret (zJe rfl _ _ w.heap.size _ _ _ _ _ _ rfl rfl (zZi _ _ _ _ _ hZD)) rfl ⟨1, n, ⟨#[]⟩, 0, none, 0, 0, rfl, hE.1, hE.2, ?_⟩)
   | (replace k2 := k2
      refine bodyPost_ret (zJe rfl _ _ w.heap.size _ _ _ _ _ _ rfl rfl (zZi _ _ _ _ _ hZD)) rfl ⟨2, 0, str t.t, 0, none, 0, 0, rfl, hE.1, hE.2, ?_⟩)
   | (replace k3 := k3
      refine bodyPost_ret (zJe rfl _ _ w.heap.size _ _ _ _ _ _ rfl rfl (zZi _ _ _ _ _ hZD)) rfl ⟨4, 0, str t.t, 0, none, 0, 0, rfl, hE.1, hE.2, ?_⟩)
   first
   | (replace k1 := k1
      exact IsE.mk (k := 1) (n := n) (s := []) (o := 0) (l := []) (by omega) (by simp) .nil)
   | (replace k2 := k2
      exact IsE.mk (k := 2) (n := 0) (s := t.t) (o := 0) (l := []) (by omega) (by simp) .nil)
   | (replace k3 := k3
      exact IsE.mk (k := 4) (n := 0) (s := t.t) (o := 0) (l := []) (by omega) (by simp) .nil)
end Go.Proofs.YtfbjljcmmbdhkaaGreatDoor
