/- Contracts of the reader's expression, kind by kind. -/
import Derived.Test.YtfpoflddnlbpjaaGreatDoorZiP
import Derived.LoopN
namespace Go.Proofs.YtfpoflddnlbpjaaGreatDoor
open Go.ChangeShapes Go.WideShapes Go.ChangeAt Go.RowKit
set_option linter.unusedVariables false
theorem rowG_five {a0 a1 a2 a3 a4 : Value} (c0 c1 c2 c3 c4 : Value) {w : World} {k : Nat} (h : rowG #[a0, a1, a2, a3, a4] w k) :
    rowG #[c0, c1, c2, c3, c4] (((((w.setCell ⟨k, 0, none⟩ c0).setCell ⟨k, 1, none⟩ c1).setCell ⟨k, 2, none⟩ c2).setCell ⟨k, 3, none⟩ c3).setCell ⟨k, 4, none⟩ c4) k :=
  row5_set 4 (by omega) c4 (row5_set 3 (by omega) c3 (row5_set 2 (by omega) c2 (row5_set 1 (by omega) c1 (row5_set 0 (by omega) c0 h))))
theorem only_five (c0 c1 c2 c3 c4 : Value) (w : World) (k : Nat) : Only (fun j => j = k) w (((((w.setCell ⟨k, 0, none⟩ c0).setCell ⟨k, 1, none⟩ c1).setCell ⟨k, 2, none⟩ c2).setCell ⟨k, 3, none⟩ c3).setCell ⟨k, 4, none⟩ c4) :=
  ((((only_one w k 0 c0).trans (only_one _ k 1 c1)).trans (only_one _ k 2 c2)).trans (only_one _ k 3 c3)).trans (only_one _ k 4 c4)
structure Ex4 (w w4 : World) (rb eb : Nat) (v : Value) (T : List (Tk × Int)) (p d : Int) (K : Int) : Prop where
  rd : IsRd w4 rb v T p d
  bx : Bx w4 eb rb (ob v T) (.int .u8 K) (.int .u64 0) (.string ⟨#[]⟩) (.int .u8 0) (.slice none 0 0)
  res : rowG #[.int .u8 0, .int .u64 0, .string ⟨#[]⟩, .int .u8 0, .slice none 0 0] w4 w.heap.size
  tb : Tb w4
  only : Only (fun j => j = rb) w w4
  lo : w.heap.size < eb
theorem ex4_mk {w w2 w4 : World} {rb : Nat} {v : Value} {T : List (Tk × Int)} {p d d1 : Int} (K : Int) (h : IsRd w rb v T p d) (hT : Tb w) (hG : ¬ GB rb) (hb2 : Below ((w.setCell ⟨rb, 2, none⟩ (.int .i64 d1)).alloc (.cells #[.int .u8 0, .int .u64 0, .string ⟨#[]⟩, .int .u8 0, .slice none 0 0] 52)).heap.size ((w.setCell ⟨rb, 2, none⟩ (.int .i64 d1)).alloc (.cells #[.int .u8 0, .int .u64 0, .string ⟨#[]⟩, .int .u8 0, .slice none 0 0] 52)) w2)
    (hb4 : Below (w2.alloc (.cells #[.int .u8 K, .int .u64 0, .string ⟨#[]⟩, .int .u8 0, .slice none 0 0] 52)).heap.size (w2.alloc (.cells #[.int .u8 K, .int .u64 0, .string ⟨#[]⟩, .int .u8 0, .slice none 0 0] 52)) w4) : Ex4 w w4 rb w2.heap.size v T p d1 K := by
  have hrl := h.lt
  have h2 := hb2.size
  rw [World.size_alloc, World.size_setCell] at h2
  have hO1 : Only (fun j => j = rb) w ((w.setCell ⟨rb, 2, none⟩ (.int .i64 d1)).alloc (.cells #[.int .u8 0, .int .u64 0, .string ⟨#[]⟩, .int .u8 0, .slice none 0 0] 52)) := (only_one _ _ _ _).trans (only_below (aB (Below.refl _ _) _))
  have hO2 := hO1.trans (only_below hb2)
  have hO3 := hO2.trans (only_below (aB (Below.refl w2.heap.size w2) (.cells #[.int .u8 K, .int .u64 0, .string ⟨#[]⟩, .int .u8 0, .slice none 0 0] 52)))
  refine ⟨(((h.setD.of (aB (Below.refl _ _) _)).of hb2).of (aB (Below.refl _ _) _)).of hb4, ⟨rowG_b (rowG_at _ _ _ _ rfl) hb4, by omega, fun e => ?_⟩, ?_, hT.only (hO3.trans (only_below hb4)) (fun j hj e => hG (by rw [← e]; exact hj)), hO3.trans (only_below hb4), by omega⟩
  · have := h.row.ob_lt e; omega
  · exact rowG_b (rowG_alloc (rowG_b (rowG_at _ _ _ _ (by rw [World.size_setCell])) hb2) _) hb4
theorem ex_end {w w4 wN : World} {rb eb : Nat} {v : Value} {T : List (Tk × Int)} {p d K q d1 : Int} {c0 c1 c2 c3 c4 : Value} (h4 : Ex4 w w4 rb eb v T p d1 K) (hrb : rb < w.heap.size) (hob : ∀ j, ob v T = some j → j < w.heap.size)
    (hO : Only (fun j => j = rb ∨ j = eb ∨ w4.heap.size ≤ j) w4 wN) (hR : IsRd wN rb v T q d) (a0 a1 a2 a3 a4 : Value) :
    IsRd (((((wN.setCell ⟨w.heap.size, 0, none⟩ a0).setCell ⟨w.heap.size, 1, none⟩ a1).setCell ⟨w.heap.size, 2, none⟩ a2).setCell ⟨w.heap.size, 3, none⟩ a3).setCell ⟨w.heap.size, 4, none⟩ a4) rb v T q d ∧ Only (fun j => j = rb) w (((((wN.setCell ⟨w.heap.size, 0, none⟩ a0).setCell ⟨w.heap.size, 1, none⟩ a1).setCell ⟨w.heap.size, 2, none⟩ a2).setCell ⟨w.heap.size, 3, none⟩ a3).setCell ⟨w.heap.size, 4, none⟩ a4) := by
  have h5 := only_five a0 a1 a2 a3 a4 wN w.heap.size
  have hlo := h4.lo
  have hs := h4.only.size
  refine ⟨hR.only h5 (by omega) (fun j hj e => by have := hob j hj; omega), ?_⟩
  have hA : Only (fun j => j = rb ∨ w.heap.size ≤ j) w4 _ := (hO.mono fun j hj => by omega).trans (h5.mono fun j hj => .inr (by omega))
  exact ((h4.only.mono fun j hj => Or.inl hj).trans hA).cut
theorem ex_res {w w4 wN : World} {rb eb : Nat} {v : Value} {T : List (Tk × Int)} {p K d1 : Int} (h4 : Ex4 w w4 rb eb v T p d1 K) (hrb : rb < w.heap.size) (hO : Only (fun j => j = rb ∨ j = eb ∨ w4.heap.size ≤ j) w4 wN) : rowG #[.int .u8 0, .int .u64 0, .string ⟨#[]⟩, .int .u8 0, .slice none 0 0] wN w.heap.size :=
  rowG_only h4.res hO (fun e => by have h1 := h4.lo; have h2 := h4.res.2.2; omega)
theorem cell_other {w : World} {b o k i : Nat} {u x : Value} (v : Value) (hn : ¬ b = k) (hc : w.cell? ⟨b, o, none⟩ = some x) : (w.setCell ⟨k, i, none⟩ v).cell? ⟨b, o, none⟩ = some x := (only_one w k i v).cell (a := ⟨b, o, none⟩) hn hc
set_option maxRecDepth 100000 in
set_option maxHeartbeats 8000000 in
theorem ex_num_yes {w : World} {rb : Nat} {v : Value} {T : List (Tk × Int)} {p d : Int} (h : IsRd w rb v T p d) (hT : Tb w) (hG : ¬ GB rb) (hd0 : 0 ≤ d) (hd1 : d < 40) (hkn : kindN T p = 1) (n : Nat) (ht0 : tokAt T p = ⟨3, [], n⟩) (h00 : 0 ≤ p) (h01 : p < T.length) :
    Calls Tryz.prog 177 #[.pointer (some ⟨rb, 0, none⟩)] w (ExOk w rb v T d (.mk 1 n [] 0 []) (p + 1)) := by
  have hob : ∀ j, ob v T = some j → j < w.heap.size := fun j hj => h.row.ob_lt hj
  have hrl := h.lt
  have hd40 : (d == 40) = false := by simp only [beq_eq_false_iff_ne]; omega
  obtain ⟨d1, hd1e⟩ : ∃ d1, d1 = d + 1 := ⟨_, rfl⟩
  have hw1 : IntKind.i64.wrap (d + 1) = d1 := by rw [IntKind.wrap_i64]; omega
  have hw2 : IntKind.i64.wrap (d1 - 1) = d := by rw [IntKind.wrap_i64]; omega
  clear hd1e
  have e2 := h.c2
  have f2 := h.f 2
  have hk := kind_any ((h.setD (e := d1)).of (aB (Below.refl (w.setCell ⟨rb, 2, none⟩ (.int .i64 d1)).heap.size (w.setCell ⟨rb, 2, none⟩ (.int .i64 d1))) (.cells #[.int .u8 0, .int .u64 0, .string ⟨#[]⟩, .int .u8 0, .slice none 0 0] 52)))
  rw [hkn] at hk
  have hk' : Calls Tryz.prog 191 #[.pointer (some ⟨rb, 0, none⟩)] ((w.setCell ⟨rb, 2, none⟩ (.int .i64 d1)).alloc (.cells #[.int .u8 0, .int .u64 0, .string ⟨#[]⟩, .int .u8 0, .slice none 0 0] 52)) fun e w' => e = .returned (.int .u8 1) ∧ Below ((w.setCell ⟨rb, 2, none⟩ (.int .i64 d1)).alloc (.cells #[.int .u8 0, .int .u64 0, .string ⟨#[]⟩, .int .u8 0, .slice none 0 0] 52)).heap.size ((w.setCell ⟨rb, 2, none⟩ (.int .i64 d1)).alloc (.cells #[.int .u8 0, .int .u64 0, .string ⟨#[]⟩, .int .u8 0, .slice none 0 0] 52)) w' := hk
  have HH := Lib.hid h
  have HT := Lib.hid hT
  clear h hT hk
  go_enter Tryz.func177, Tryz.ntmps177
  go_wp2_with (first | (go_at_call 191; ((with_reducible refine hk'.mono ?_); (rintro e w2 ⟨rfl, hb2⟩))) | (go_at_call 192; ((with_reducible refine (parts_num rb _).mono ?_); (rintro e w4 ⟨⟨g, rfl, hgl, p0⟩, hb4⟩))))
  have h4 := ex4_mk 1 HH.out HT.out hG hb2 hb4
  have hGe : ¬ GB w2.heap.size := fun hg => by have h1 := HT.out.lt hg; have h2 := h4.lo; omega
  clear hb2 hb4 hk' e2 f2
  have hlo := h4.lo
  have hng : ¬ g = rb := fun e => by
    subst e
    obtain ⟨ma, c, hv⟩ := h4.rd.row_sl
    have := h4.rd.c0.symm.trans p0
    rw [hv] at this
    cases this
  have hne : ¬ g = w2.heap.size := fun e => by
    have h1 := h4.bx.row.1 0 (by simp)
    rw [← e] at h1
    have := h1.symm.trans p0
    cases this
  have hO0 : Only (fun j => j = rb ∨ j = w2.heap.size ∨ w4.heap.size ≤ j) w4 w4 := Only.refl _ _
  obtain ⟨hR0, hX0, hT0⟩ : IsRd w4 rb v T p d1 ∧ Bx w4 w2.heap.size rb (ob v T) (.int .u8 1) (.int .u64 0) (.string ⟨#[]⟩) (.int .u8 0) (.slice none 0 0) ∧ Tb w4 := ⟨h4.rd, h4.bx, h4.tb⟩
  have H4 := Lib.hid h4
  clear h4
  refine wp_loop_rounds 2 ?_
  have g0 : g < w4.heap.size := Nat.lt_of_lt_of_le hgl hO0.size
  have pt0 := Only.cell hO0 (a := ⟨g, 0, none⟩) (fun e => by simp only at e; omega) p0
  have hC0 := number_yes hR0 hX0 n [] ht0 rfl h00 h01
  rw [rounds_succ]
  go_wp2_with (first | (go_at_call 203; ((with_reducible refine hC0.mono ?_); (rintro e x1 ⟨rfl, hP0⟩); (have hR1 := hP0.rd); (have hO1 := hO0.trans (hP0.only.mono fun j hj => hj.elim .inl fun h => .inr (.inl h))); (have hX1 := hP0.bx); (have hT1 := hT0.only hP0.only (fun j hj e => e.elim (fun e => hG (by rw [← e]; exact hj)) (fun e => hGe (by rw [← e]; exact hj)))); have gn0 : g < x1.heap.size := Nat.lt_of_lt_of_le hgl hO1.size; obtain ⟨q0, q1, q2, q3, q4, qel, qef⟩ := hX1.e)))
  clear gn0 q0 q1 q2 q3 q4 qel qef hC0
  have g1 : g < x1.heap.size := Nat.lt_of_lt_of_le hgl hO1.size
  have hO9 := hO1
  have hR9 := hR1
  obtain ⟨q0, q1, q2, q3, q4, qel, qef⟩ := hX1.e
  have e2 := hR9.c2
  have f2 := hR9.f 2
  have hrl9 := hR9.lt
  have hZZ := ex_res H4.out hrl hO9
  have z0 := hZZ.1 0 (by simp)
  have z1 := hZZ.1 1 (by simp)
  have z2 := hZZ.1 2 (by simp)
  have z3 := hZZ.1 3 (by simp)
  have z4 := hZZ.1 4 (by simp)
  have y0 := hZZ.2.1 0
  have y1 := hZZ.2.1 1
  have y2 := hZZ.2.1 2
  have y3 := hZZ.2.1 3
  have y4 := hZZ.2.1 4
  have hzl := hZZ.2.2
  have hrz : ¬ w.heap.size = rb := by omega
  have hrz' : ¬ rb = w.heap.size := by omega
  have hez : ¬ w.heap.size = w2.heap.size := by omega
  have hez' : ¬ w2.heap.size = w.heap.size := by omega
  have her := hX1.n1
  have her' : ¬ rb = w2.heap.size := fun e => her e.symm
  rw [rounds_succ]
  go_wp2
  have hD := hR9.setD (e := d)
  have hOD : Only (fun j => j = rb ∨ j = w2.heap.size ∨ w4.heap.size ≤ j) w4 (x1.setCell ⟨rb, 2, none⟩ (.int .i64 d)) := hO9.setCell (.inl rfl)
  have hE := ex_end (c0 := undef) (c1 := undef) (c2 := undef) (c3 := undef) (c4 := undef) H4.out hrl hob hOD hD (.int .u8 1) (.int .u64 (n : Int)) (.string ⟨#[]⟩) (.int .u8 0) (.slice none 0 0)
  have hZD := rowG_other (.int .i64 d) (o := 2) hZZ hrz
  have h5 := only_five (.int .u8 1) (.int .u64 (n : Int)) (.string ⟨#[]⟩) (.int .u8 0) (.slice none 0 0) (x1.setCell ⟨rb, 2, none⟩ (.int .i64 d)) w.heap.size
  refine bodyPost_ret (res_xp2 rfl _ _ w.heap.size _ _ _ _ _ _ rfl rfl (rowG_five _ _ _ _ _ hZD)) rfl ⟨1, n, ⟨#[]⟩, 0, none, 0, 0, rfl, hE.1, hE.2, ?_⟩
  exact IsE.mk (k := 1) (n := n) (s := []) (o := 0) (l := []) (by omega) (by simp) .nil
set_option maxRecDepth 100000 in
set_option maxHeartbeats 8000000 in
theorem ex_num_no {w : World} {rb : Nat} {v : Value} {T : List (Tk × Int)} {p d : Int} (h : IsRd w rb v T p d) (hT : Tb w) (hG : ¬ GB rb) (hd0 : 0 ≤ d) (hd1 : d < 40) (hkn : kindN T p = 1) (n : Nat) (s : List UInt8) (ht0 : tokAt T p = ⟨3, s, n⟩) (hs : ¬ s = []) :
    Calls Tryz.prog 177 #[.pointer (some ⟨rb, 0, none⟩)] w (ExEr w rb v T 7 (p)) := by
  have hob : ∀ j, ob v T = some j → j < w.heap.size := fun j hj => h.row.ob_lt hj
  have hrl := h.lt
  have hd40 : (d == 40) = false := by simp only [beq_eq_false_iff_ne]; omega
  obtain ⟨d1, hd1e⟩ : ∃ d1, d1 = d + 1 := ⟨_, rfl⟩
  have hw1 : IntKind.i64.wrap (d + 1) = d1 := by rw [IntKind.wrap_i64]; omega
  have hw2 : IntKind.i64.wrap (d1 - 1) = d := by rw [IntKind.wrap_i64]; omega
  clear hd1e
  have e2 := h.c2
  have f2 := h.f 2
  have hk := kind_any ((h.setD (e := d1)).of (aB (Below.refl (w.setCell ⟨rb, 2, none⟩ (.int .i64 d1)).heap.size (w.setCell ⟨rb, 2, none⟩ (.int .i64 d1))) (.cells #[.int .u8 0, .int .u64 0, .string ⟨#[]⟩, .int .u8 0, .slice none 0 0] 52)))
  rw [hkn] at hk
  have hk' : Calls Tryz.prog 191 #[.pointer (some ⟨rb, 0, none⟩)] ((w.setCell ⟨rb, 2, none⟩ (.int .i64 d1)).alloc (.cells #[.int .u8 0, .int .u64 0, .string ⟨#[]⟩, .int .u8 0, .slice none 0 0] 52)) fun e w' => e = .returned (.int .u8 1) ∧ Below ((w.setCell ⟨rb, 2, none⟩ (.int .i64 d1)).alloc (.cells #[.int .u8 0, .int .u64 0, .string ⟨#[]⟩, .int .u8 0, .slice none 0 0] 52)).heap.size ((w.setCell ⟨rb, 2, none⟩ (.int .i64 d1)).alloc (.cells #[.int .u8 0, .int .u64 0, .string ⟨#[]⟩, .int .u8 0, .slice none 0 0] 52)) w' := hk
  have HH := Lib.hid h
  have HT := Lib.hid hT
  clear h hT hk
  go_enter Tryz.func177, Tryz.ntmps177
  go_wp2_with (first | (go_at_call 191; ((with_reducible refine hk'.mono ?_); (rintro e w2 ⟨rfl, hb2⟩))) | (go_at_call 192; ((with_reducible refine (parts_num rb _).mono ?_); (rintro e w4 ⟨⟨g, rfl, hgl, p0⟩, hb4⟩))))
  have h4 := ex4_mk 1 HH.out HT.out hG hb2 hb4
  have hGe : ¬ GB w2.heap.size := fun hg => by have h1 := HT.out.lt hg; have h2 := h4.lo; omega
  clear hb2 hb4 hk' e2 f2
  have hlo := h4.lo
  have hng : ¬ g = rb := fun e => by
    subst e
    obtain ⟨ma, c, hv⟩ := h4.rd.row_sl
    have := h4.rd.c0.symm.trans p0
    rw [hv] at this
    cases this
  have hne : ¬ g = w2.heap.size := fun e => by
    have h1 := h4.bx.row.1 0 (by simp)
    rw [← e] at h1
    have := h1.symm.trans p0
    cases this
  have hO0 : Only (fun j => j = rb ∨ j = w2.heap.size ∨ w4.heap.size ≤ j) w4 w4 := Only.refl _ _
  obtain ⟨hR0, hX0, hT0⟩ : IsRd w4 rb v T p d1 ∧ Bx w4 w2.heap.size rb (ob v T) (.int .u8 1) (.int .u64 0) (.string ⟨#[]⟩) (.int .u8 0) (.slice none 0 0) ∧ Tb w4 := ⟨h4.rd, h4.bx, h4.tb⟩
  have H4 := Lib.hid h4
  clear h4
  refine wp_loop_rounds 2 ?_
  have g0 : g < w4.heap.size := Nat.lt_of_lt_of_le hgl hO0.size
  have pt0 := Only.cell hO0 (a := ⟨g, 0, none⟩) (fun e => by simp only at e; omega) p0
  have hC0 := number_no hR0 hX0 n s ht0 hs
  rw [rounds_succ]
  go_wp2_with (first | (go_at_call 203; ((with_reducible refine hC0.mono ?_); (rintro e x1 ⟨rfl, hP0⟩); (have hR1 := hP0.rd); (have hO1 := hO0.trans (hP0.only.mono fun j hj => hj.elim .inl fun h => .inr (.inl h))); have hZZ := ex_res H4.out hrl hO1; have z0 := hZZ.1 0 (by simp); have z1 := hZZ.1 1 (by simp); have z2 := hZZ.1 2 (by simp); have z3 := hZZ.1 3 (by simp); have z4 := hZZ.1 4 (by simp); have y0 := hZZ.2.1 0; have y1 := hZZ.2.1 1; have y2 := hZZ.2.1 2; have y3 := hZZ.2.1 3; have y4 := hZZ.2.1 4; have hzl := hZZ.2.2)))
  have hE := ex_end (c0 := undef) (c1 := undef) (c2 := undef) (c3 := undef) (c4 := undef) H4.out hrl hob hO1 hR1 (.int .u8 0) (.int .u64 0) (.string ⟨#[]⟩) (.int .u8 0) (.slice none 0 0)
  exact bodyPost_ret (res_xp2 rfl _ _ w.heap.size _ _ _ _ _ _ rfl rfl (rowG_five _ _ _ _ _ hZZ)) rfl ⟨rfl, ⟨_, hE.1⟩, hE.2⟩
set_option maxRecDepth 100000 in
set_option maxHeartbeats 8000000 in
theorem ex_var_yes {w : World} {rb : Nat} {v : Value} {T : List (Tk × Int)} {p d : Int} (h : IsRd w rb v T p d) (hT : Tb w) (hG : ¬ GB rb) (hd0 : 0 ≤ d) (hd1 : d < 40) (hkn : kindN T p = 2) (t : Tk) (ht0 : tokAt T p = t) (h00 : 0 ≤ p) (h01 : p < T.length) (hn : nameT t = true) :
    Calls Tryz.prog 177 #[.pointer (some ⟨rb, 0, none⟩)] w (ExOk w rb v T d (.mk 2 0 t.t 0 []) (p + 1)) := by
  have hob : ∀ j, ob v T = some j → j < w.heap.size := fun j hj => h.row.ob_lt hj
  have hrl := h.lt
  have hd40 : (d == 40) = false := by simp only [beq_eq_false_iff_ne]; omega
  obtain ⟨d1, hd1e⟩ : ∃ d1, d1 = d + 1 := ⟨_, rfl⟩
  have hw1 : IntKind.i64.wrap (d + 1) = d1 := by rw [IntKind.wrap_i64]; omega
  have hw2 : IntKind.i64.wrap (d1 - 1) = d := by rw [IntKind.wrap_i64]; omega
  clear hd1e
  have e2 := h.c2
  have f2 := h.f 2
  have hk := kind_any ((h.setD (e := d1)).of (aB (Below.refl (w.setCell ⟨rb, 2, none⟩ (.int .i64 d1)).heap.size (w.setCell ⟨rb, 2, none⟩ (.int .i64 d1))) (.cells #[.int .u8 0, .int .u64 0, .string ⟨#[]⟩, .int .u8 0, .slice none 0 0] 52)))
  rw [hkn] at hk
  have hk' : Calls Tryz.prog 191 #[.pointer (some ⟨rb, 0, none⟩)] ((w.setCell ⟨rb, 2, none⟩ (.int .i64 d1)).alloc (.cells #[.int .u8 0, .int .u64 0, .string ⟨#[]⟩, .int .u8 0, .slice none 0 0] 52)) fun e w' => e = .returned (.int .u8 2) ∧ Below ((w.setCell ⟨rb, 2, none⟩ (.int .i64 d1)).alloc (.cells #[.int .u8 0, .int .u64 0, .string ⟨#[]⟩, .int .u8 0, .slice none 0 0] 52)).heap.size ((w.setCell ⟨rb, 2, none⟩ (.int .i64 d1)).alloc (.cells #[.int .u8 0, .int .u64 0, .string ⟨#[]⟩, .int .u8 0, .slice none 0 0] 52)) w' := hk
  have HH := Lib.hid h
  have HT := Lib.hid hT
  clear h hT hk
  go_enter Tryz.func177, Tryz.ntmps177
  go_wp2_with (first | (go_at_call 191; ((with_reducible refine hk'.mono ?_); (rintro e w2 ⟨rfl, hb2⟩))) | (go_at_call 192; ((with_reducible refine (parts_var rb _).mono ?_); (rintro e w4 ⟨⟨g, rfl, hgl, p0⟩, hb4⟩))))
  have h4 := ex4_mk 2 HH.out HT.out hG hb2 hb4
  have hGe : ¬ GB w2.heap.size := fun hg => by have h1 := HT.out.lt hg; have h2 := h4.lo; omega
  clear hb2 hb4 hk' e2 f2
  have hlo := h4.lo
  have hng : ¬ g = rb := fun e => by
    subst e
    obtain ⟨ma, c, hv⟩ := h4.rd.row_sl
    have := h4.rd.c0.symm.trans p0
    rw [hv] at this
    cases this
  have hne : ¬ g = w2.heap.size := fun e => by
    have h1 := h4.bx.row.1 0 (by simp)
    rw [← e] at h1
    have := h1.symm.trans p0
    cases this
  have hO0 : Only (fun j => j = rb ∨ j = w2.heap.size ∨ w4.heap.size ≤ j) w4 w4 := Only.refl _ _
  obtain ⟨hR0, hX0, hT0⟩ : IsRd w4 rb v T p d1 ∧ Bx w4 w2.heap.size rb (ob v T) (.int .u8 2) (.int .u64 0) (.string ⟨#[]⟩) (.int .u8 0) (.slice none 0 0) ∧ Tb w4 := ⟨h4.rd, h4.bx, h4.tb⟩
  have H4 := Lib.hid h4
  clear h4
  refine wp_loop_rounds 2 ?_
  have g0 : g < w4.heap.size := Nat.lt_of_lt_of_le hgl hO0.size
  have pt0 := Only.cell hO0 (a := ⟨g, 0, none⟩) (fun e => by simp only at e; omega) p0
  have hC0 := name_yes hR0 hX0 hT0 hGe t ht0 hn h00 h01
  rw [rounds_succ]
  go_wp2_with (first | (go_at_call 205; ((with_reducible refine hC0.mono ?_); (rintro e x1 ⟨rfl, hP0⟩); (have hR1 := hP0.rd); (have hO1 := hO0.trans (hP0.only.mono fun j hj => hj.elim .inl fun h => .inr (.inl h))); (have hX1 := hP0.bx); (have hT1 := hT0.only hP0.only (fun j hj e => e.elim (fun e => hG (by rw [← e]; exact hj)) (fun e => hGe (by rw [← e]; exact hj)))); have gn0 : g < x1.heap.size := Nat.lt_of_lt_of_le hgl hO1.size; obtain ⟨q0, q1, q2, q3, q4, qel, qef⟩ := hX1.e)))
  clear gn0 q0 q1 q2 q3 q4 qel qef hC0
  have g1 : g < x1.heap.size := Nat.lt_of_lt_of_le hgl hO1.size
  have hO9 := hO1
  have hR9 := hR1
  obtain ⟨q0, q1, q2, q3, q4, qel, qef⟩ := hX1.e
  have e2 := hR9.c2
  have f2 := hR9.f 2
  have hrl9 := hR9.lt
  have hZZ := ex_res H4.out hrl hO9
  have z0 := hZZ.1 0 (by simp)
  have z1 := hZZ.1 1 (by simp)
  have z2 := hZZ.1 2 (by simp)
  have z3 := hZZ.1 3 (by simp)
  have z4 := hZZ.1 4 (by simp)
  have y0 := hZZ.2.1 0
  have y1 := hZZ.2.1 1
  have y2 := hZZ.2.1 2
  have y3 := hZZ.2.1 3
  have y4 := hZZ.2.1 4
  have hzl := hZZ.2.2
  have hrz : ¬ w.heap.size = rb := by omega
  have hrz' : ¬ rb = w.heap.size := by omega
  have hez : ¬ w.heap.size = w2.heap.size := by omega
  have hez' : ¬ w2.heap.size = w.heap.size := by omega
  have her := hX1.n1
  have her' : ¬ rb = w2.heap.size := fun e => her e.symm
  rw [rounds_succ]
  go_wp2
  have hD := hR9.setD (e := d)
  have hOD : Only (fun j => j = rb ∨ j = w2.heap.size ∨ w4.heap.size ≤ j) w4 (x1.setCell ⟨rb, 2, none⟩ (.int .i64 d)) := hO9.setCell (.inl rfl)
  have hE := ex_end (c0 := undef) (c1 := undef) (c2 := undef) (c3 := undef) (c4 := undef) H4.out hrl hob hOD hD (.int .u8 2) (.int .u64 0) (.string (str t.t)) (.int .u8 0) (.slice none 0 0)
  have hZD := rowG_other (.int .i64 d) (o := 2) hZZ hrz
  have h5 := only_five (.int .u8 2) (.int .u64 0) (.string (str t.t)) (.int .u8 0) (.slice none 0 0) (x1.setCell ⟨rb, 2, none⟩ (.int .i64 d)) w.heap.size
  refine bodyPost_ret (res_xp2 rfl _ _ w.heap.size _ _ _ _ _ _ rfl rfl (rowG_five _ _ _ _ _ hZD)) rfl ⟨2, 0, str t.t, 0, none, 0, 0, rfl, hE.1, hE.2, ?_⟩
  exact IsE.mk (k := 2) (n := 0) (s := t.t) (o := 0) (l := []) (by omega) (by simp) .nil
set_option maxRecDepth 100000 in
set_option maxHeartbeats 8000000 in
theorem ex_var_no {w : World} {rb : Nat} {v : Value} {T : List (Tk × Int)} {p d : Int} (h : IsRd w rb v T p d) (hT : Tb w) (hG : ¬ GB rb) (hd0 : 0 ≤ d) (hd1 : d < 40) (hkn : kindN T p = 2) (t : Tk) (ht0 : tokAt T p = t) (hn : nameT t = false) :
    Calls Tryz.prog 177 #[.pointer (some ⟨rb, 0, none⟩)] w (ExEr w rb v T 7 (p)) := by
  have hob : ∀ j, ob v T = some j → j < w.heap.size := fun j hj => h.row.ob_lt hj
  have hrl := h.lt
  have hd40 : (d == 40) = false := by simp only [beq_eq_false_iff_ne]; omega
  obtain ⟨d1, hd1e⟩ : ∃ d1, d1 = d + 1 := ⟨_, rfl⟩
  have hw1 : IntKind.i64.wrap (d + 1) = d1 := by rw [IntKind.wrap_i64]; omega
  have hw2 : IntKind.i64.wrap (d1 - 1) = d := by rw [IntKind.wrap_i64]; omega
  clear hd1e
  have e2 := h.c2
  have f2 := h.f 2
  have hk := kind_any ((h.setD (e := d1)).of (aB (Below.refl (w.setCell ⟨rb, 2, none⟩ (.int .i64 d1)).heap.size (w.setCell ⟨rb, 2, none⟩ (.int .i64 d1))) (.cells #[.int .u8 0, .int .u64 0, .string ⟨#[]⟩, .int .u8 0, .slice none 0 0] 52)))
  rw [hkn] at hk
  have hk' : Calls Tryz.prog 191 #[.pointer (some ⟨rb, 0, none⟩)] ((w.setCell ⟨rb, 2, none⟩ (.int .i64 d1)).alloc (.cells #[.int .u8 0, .int .u64 0, .string ⟨#[]⟩, .int .u8 0, .slice none 0 0] 52)) fun e w' => e = .returned (.int .u8 2) ∧ Below ((w.setCell ⟨rb, 2, none⟩ (.int .i64 d1)).alloc (.cells #[.int .u8 0, .int .u64 0, .string ⟨#[]⟩, .int .u8 0, .slice none 0 0] 52)).heap.size ((w.setCell ⟨rb, 2, none⟩ (.int .i64 d1)).alloc (.cells #[.int .u8 0, .int .u64 0, .string ⟨#[]⟩, .int .u8 0, .slice none 0 0] 52)) w' := hk
  have HH := Lib.hid h
  have HT := Lib.hid hT
  clear h hT hk
  go_enter Tryz.func177, Tryz.ntmps177
  go_wp2_with (first | (go_at_call 191; ((with_reducible refine hk'.mono ?_); (rintro e w2 ⟨rfl, hb2⟩))) | (go_at_call 192; ((with_reducible refine (parts_var rb _).mono ?_); (rintro e w4 ⟨⟨g, rfl, hgl, p0⟩, hb4⟩))))
  have h4 := ex4_mk 2 HH.out HT.out hG hb2 hb4
  have hGe : ¬ GB w2.heap.size := fun hg => by have h1 := HT.out.lt hg; have h2 := h4.lo; omega
  clear hb2 hb4 hk' e2 f2
  have hlo := h4.lo
  have hng : ¬ g = rb := fun e => by
    subst e
    obtain ⟨ma, c, hv⟩ := h4.rd.row_sl
    have := h4.rd.c0.symm.trans p0
    rw [hv] at this
    cases this
  have hne : ¬ g = w2.heap.size := fun e => by
    have h1 := h4.bx.row.1 0 (by simp)
    rw [← e] at h1
    have := h1.symm.trans p0
    cases this
  have hO0 : Only (fun j => j = rb ∨ j = w2.heap.size ∨ w4.heap.size ≤ j) w4 w4 := Only.refl _ _
  obtain ⟨hR0, hX0, hT0⟩ : IsRd w4 rb v T p d1 ∧ Bx w4 w2.heap.size rb (ob v T) (.int .u8 2) (.int .u64 0) (.string ⟨#[]⟩) (.int .u8 0) (.slice none 0 0) ∧ Tb w4 := ⟨h4.rd, h4.bx, h4.tb⟩
  have H4 := Lib.hid h4
  clear h4
  refine wp_loop_rounds 2 ?_
  have g0 : g < w4.heap.size := Nat.lt_of_lt_of_le hgl hO0.size
  have pt0 := Only.cell hO0 (a := ⟨g, 0, none⟩) (fun e => by simp only at e; omega) p0
  have hC0 := name_no hR0 hX0 hT0 hGe t ht0 hn
  rw [rounds_succ]
  go_wp2_with (first | (go_at_call 205; ((with_reducible refine hC0.mono ?_); (rintro e x1 ⟨rfl, hP0⟩); (have hR1 := hP0.rd); (have hO1 := hO0.trans (hP0.only.mono fun j hj => hj.elim .inl fun h => .inr (.inl h))); have hZZ := ex_res H4.out hrl hO1; have z0 := hZZ.1 0 (by simp); have z1 := hZZ.1 1 (by simp); have z2 := hZZ.1 2 (by simp); have z3 := hZZ.1 3 (by simp); have z4 := hZZ.1 4 (by simp); have y0 := hZZ.2.1 0; have y1 := hZZ.2.1 1; have y2 := hZZ.2.1 2; have y3 := hZZ.2.1 3; have y4 := hZZ.2.1 4; have hzl := hZZ.2.2)))
  have hE := ex_end (c0 := undef) (c1 := undef) (c2 := undef) (c3 := undef) (c4 := undef) H4.out hrl hob hO1 hR1 (.int .u8 0) (.int .u64 0) (.string ⟨#[]⟩) (.int .u8 0) (.slice none 0 0)
  exact bodyPost_ret (res_xp2 rfl _ _ w.heap.size _ _ _ _ _ _ rfl rfl (rowG_five _ _ _ _ _ hZZ)) rfl ⟨rfl, ⟨_, hE.1⟩, hE.2⟩
set_option maxRecDepth 100000 in
set_option maxHeartbeats 8000000 in
theorem ex_len_yes {w : World} {rb : Nat} {v : Value} {T : List (Tk × Int)} {p d : Int} (h : IsRd w rb v T p d) (hT : Tb w) (hG : ¬ GB rb) (hd0 : 0 ≤ d) (hd1 : d < 40) (hkn : kindN T p = 4) (ht0 : tokAt T p = sg [35]) (h00 : 0 ≤ p) (h01 : p < T.length) (t : Tk) (ht1 : tokAt T (p + 1) = t) (h10 : 0 ≤ p + 1) (h11 : p + 1 < T.length) (hn : nameT t = true) :
    Calls Tryz.prog 177 #[.pointer (some ⟨rb, 0, none⟩)] w (ExOk w rb v T d (.mk 4 0 t.t 0 []) (p + 1 + 1)) := by
  have hob : ∀ j, ob v T = some j → j < w.heap.size := fun j hj => h.row.ob_lt hj
  have hrl := h.lt
  have hd40 : (d == 40) = false := by simp only [beq_eq_false_iff_ne]; omega
  obtain ⟨d1, hd1e⟩ : ∃ d1, d1 = d + 1 := ⟨_, rfl⟩
  have hw1 : IntKind.i64.wrap (d + 1) = d1 := by rw [IntKind.wrap_i64]; omega
  have hw2 : IntKind.i64.wrap (d1 - 1) = d := by rw [IntKind.wrap_i64]; omega
  clear hd1e
  have e2 := h.c2
  have f2 := h.f 2
  have hk := kind_any ((h.setD (e := d1)).of (aB (Below.refl (w.setCell ⟨rb, 2, none⟩ (.int .i64 d1)).heap.size (w.setCell ⟨rb, 2, none⟩ (.int .i64 d1))) (.cells #[.int .u8 0, .int .u64 0, .string ⟨#[]⟩, .int .u8 0, .slice none 0 0] 52)))
  rw [hkn] at hk
  have hk' : Calls Tryz.prog 191 #[.pointer (some ⟨rb, 0, none⟩)] ((w.setCell ⟨rb, 2, none⟩ (.int .i64 d1)).alloc (.cells #[.int .u8 0, .int .u64 0, .string ⟨#[]⟩, .int .u8 0, .slice none 0 0] 52)) fun e w' => e = .returned (.int .u8 4) ∧ Below ((w.setCell ⟨rb, 2, none⟩ (.int .i64 d1)).alloc (.cells #[.int .u8 0, .int .u64 0, .string ⟨#[]⟩, .int .u8 0, .slice none 0 0] 52)).heap.size ((w.setCell ⟨rb, 2, none⟩ (.int .i64 d1)).alloc (.cells #[.int .u8 0, .int .u64 0, .string ⟨#[]⟩, .int .u8 0, .slice none 0 0] 52)) w' := hk
  have HH := Lib.hid h
  have HT := Lib.hid hT
  clear h hT hk
  go_enter Tryz.func177, Tryz.ntmps177
  go_wp2_with (first | (go_at_call 191; ((with_reducible refine hk'.mono ?_); (rintro e w2 ⟨rfl, hb2⟩))) | (go_at_call 192; ((with_reducible refine (parts_len rb _).mono ?_); (rintro e w4 ⟨⟨g, rfl, hgl, ⟨f0, p0, br0, bs0, rfl, hr0, hs0⟩, p1⟩, hb4⟩))))
  have h4 := ex4_mk 4 HH.out HT.out hG hb2 hb4
  have hGe : ¬ GB w2.heap.size := fun hg => by have h1 := HT.out.lt hg; have h2 := h4.lo; omega
  clear hb2 hb4 hk' e2 f2
  have hlo := h4.lo
  have hng : ¬ g = rb := fun e => by
    subst e
    obtain ⟨ma, c, hv⟩ := h4.rd.row_sl
    have := h4.rd.c0.symm.trans p0
    rw [hv] at this
    cases this
  have hne : ¬ g = w2.heap.size := fun e => by
    have h1 := h4.bx.row.1 0 (by simp)
    rw [← e] at h1
    have := h1.symm.trans p0
    cases this
  have nr0 := h4.rd.np hr0
  have ns0 := h4.rd.ns hs0
  have mr0 : ¬ br0 = w2.heap.size := fun e => by
    have h1 := h4.bx.row.1 0 (by simp)
    rw [← e] at h1
    have := h1.symm.trans hr0
    cases this
  have ms0 : ¬ bs0 = w2.heap.size := fun e => by
    have h1 := h4.bx.row.1 0 (by simp)
    rw [← e] at h1
    have := h1.symm.trans hs0
    cases this
  have hO0 : Only (fun j => j = rb ∨ j = w2.heap.size ∨ w4.heap.size ≤ j) w4 w4 := Only.refl _ _
  obtain ⟨hR0, hX0, hT0⟩ : IsRd w4 rb v T p d1 ∧ Bx w4 w2.heap.size rb (ob v T) (.int .u8 4) (.int .u64 0) (.string ⟨#[]⟩) (.int .u8 0) (.slice none 0 0) ∧ Tb w4 := ⟨h4.rd, h4.bx, h4.tb⟩
  have H4 := Lib.hid h4
  clear h4
  refine wp_loop_rounds 3 ?_
  have g0 : g < w4.heap.size := Nat.lt_of_lt_of_le hgl hO0.size
  have pt0 := Only.cell hO0 (a := ⟨g, 0, none⟩) (fun e => by simp only at e; omega) p0
  have sr0 := Only.cell hO0 (a := ⟨br0, 0, none⟩) (fun e => by have := World.block_lt_of_cell? w4 _ hr0; simp only at e this; omega) hr0
  have ss0 := Only.cell hO0 (a := ⟨bs0, 0, none⟩) (fun e => by have := World.block_lt_of_cell? w4 _ hs0; simp only at e this; omega) hs0
  have hC0 := sign1_yes hR0 [35] br0 bs0 (some ⟨w2.heap.size, 0, none⟩) sr0 ss0 ht0 h00 h01
  rw [rounds_succ]
  go_wp2_with (first | (go_at_call 210; ((with_reducible refine hC0.mono ?_); (rintro e x1 ⟨rfl, hP0⟩); (have hR1 := hP0.rd); (have hX1 := hX0.only hP0.only hX0.n1); (have hT1 := hT0.only hP0.only (fun j hj e => hG (by rw [← e]; exact hj))); (have hO1 := hO0.trans (hP0.only.mono fun j hj => .inl hj)); have gn0 : g < x1.heap.size := Nat.lt_of_lt_of_le hgl hO1.size; obtain ⟨q0, q1, q2, q3, q4, qel, qef⟩ := hX1.e)))
  clear gn0 q0 q1 q2 q3 q4 qel qef hC0
  clear g0 pt0
  have g1 : g < x1.heap.size := Nat.lt_of_lt_of_le hgl hO1.size
  have pt1 := Only.cell hO1 (a := ⟨g, 1, none⟩) (fun e => by simp only at e; omega) p1
  have hC1 := name_yes hR1 hX1 hT1 hGe t ht1 hn h10 h11
  rw [rounds_succ]
  go_wp2_with (first | (go_at_call 205; ((with_reducible refine hC1.mono ?_); (rintro e x2 ⟨rfl, hP1⟩); (have hR2 := hP1.rd); (have hO2 := hO1.trans (hP1.only.mono fun j hj => hj.elim .inl fun h => .inr (.inl h))); (have hX2 := hP1.bx); (have hT2 := hT1.only hP1.only (fun j hj e => e.elim (fun e => hG (by rw [← e]; exact hj)) (fun e => hGe (by rw [← e]; exact hj)))); have gn1 : g < x2.heap.size := Nat.lt_of_lt_of_le hgl hO2.size; obtain ⟨q0, q1, q2, q3, q4, qel, qef⟩ := hX2.e)))
  clear gn1 q0 q1 q2 q3 q4 qel qef hC1
  have g2 : g < x2.heap.size := Nat.lt_of_lt_of_le hgl hO2.size
  have hO9 := hO2
  have hR9 := hR2
  obtain ⟨q0, q1, q2, q3, q4, qel, qef⟩ := hX2.e
  have e2 := hR9.c2
  have f2 := hR9.f 2
  have hrl9 := hR9.lt
  have hZZ := ex_res H4.out hrl hO9
  have z0 := hZZ.1 0 (by simp)
  have z1 := hZZ.1 1 (by simp)
  have z2 := hZZ.1 2 (by simp)
  have z3 := hZZ.1 3 (by simp)
  have z4 := hZZ.1 4 (by simp)
  have y0 := hZZ.2.1 0
  have y1 := hZZ.2.1 1
  have y2 := hZZ.2.1 2
  have y3 := hZZ.2.1 3
  have y4 := hZZ.2.1 4
  have hzl := hZZ.2.2
  have hrz : ¬ w.heap.size = rb := by omega
  have hrz' : ¬ rb = w.heap.size := by omega
  have hez : ¬ w.heap.size = w2.heap.size := by omega
  have hez' : ¬ w2.heap.size = w.heap.size := by omega
  have her := hX2.n1
  have her' : ¬ rb = w2.heap.size := fun e => her e.symm
  rw [rounds_succ]
  go_wp2
  have hD := hR9.setD (e := d)
  have hOD : Only (fun j => j = rb ∨ j = w2.heap.size ∨ w4.heap.size ≤ j) w4 (x2.setCell ⟨rb, 2, none⟩ (.int .i64 d)) := hO9.setCell (.inl rfl)
  have hE := ex_end (c0 := undef) (c1 := undef) (c2 := undef) (c3 := undef) (c4 := undef) H4.out hrl hob hOD hD (.int .u8 4) (.int .u64 0) (.string (str t.t)) (.int .u8 0) (.slice none 0 0)
  have hZD := rowG_other (.int .i64 d) (o := 2) hZZ hrz
  have h5 := only_five (.int .u8 4) (.int .u64 0) (.string (str t.t)) (.int .u8 0) (.slice none 0 0) (x2.setCell ⟨rb, 2, none⟩ (.int .i64 d)) w.heap.size
  refine bodyPost_ret (res_xp2 rfl _ _ w.heap.size _ _ _ _ _ _ rfl rfl (rowG_five _ _ _ _ _ hZD)) rfl ⟨4, 0, str t.t, 0, none, 0, 0, rfl, hE.1, hE.2, ?_⟩
  exact IsE.mk (k := 4) (n := 0) (s := t.t) (o := 0) (l := []) (by omega) (by simp) .nil
set_option maxRecDepth 100000 in
set_option maxHeartbeats 8000000 in
theorem ex_len_no {w : World} {rb : Nat} {v : Value} {T : List (Tk × Int)} {p d : Int} (h : IsRd w rb v T p d) (hT : Tb w) (hG : ¬ GB rb) (hd0 : 0 ≤ d) (hd1 : d < 40) (hkn : kindN T p = 4) (ht0 : tokAt T p = sg [35]) (h00 : 0 ≤ p) (h01 : p < T.length) (t : Tk) (ht1 : tokAt T (p + 1) = t) (hn : nameT t = false) :
    Calls Tryz.prog 177 #[.pointer (some ⟨rb, 0, none⟩)] w (ExEr w rb v T 7 (p + 1)) := by
  have hob : ∀ j, ob v T = some j → j < w.heap.size := fun j hj => h.row.ob_lt hj
  have hrl := h.lt
  have hd40 : (d == 40) = false := by simp only [beq_eq_false_iff_ne]; omega
  obtain ⟨d1, hd1e⟩ : ∃ d1, d1 = d + 1 := ⟨_, rfl⟩
  have hw1 : IntKind.i64.wrap (d + 1) = d1 := by rw [IntKind.wrap_i64]; omega
  have hw2 : IntKind.i64.wrap (d1 - 1) = d := by rw [IntKind.wrap_i64]; omega
  clear hd1e
  have e2 := h.c2
  have f2 := h.f 2
  have hk := kind_any ((h.setD (e := d1)).of (aB (Below.refl (w.setCell ⟨rb, 2, none⟩ (.int .i64 d1)).heap.size (w.setCell ⟨rb, 2, none⟩ (.int .i64 d1))) (.cells #[.int .u8 0, .int .u64 0, .string ⟨#[]⟩, .int .u8 0, .slice none 0 0] 52)))
  rw [hkn] at hk
  have hk' : Calls Tryz.prog 191 #[.pointer (some ⟨rb, 0, none⟩)] ((w.setCell ⟨rb, 2, none⟩ (.int .i64 d1)).alloc (.cells #[.int .u8 0, .int .u64 0, .string ⟨#[]⟩, .int .u8 0, .slice none 0 0] 52)) fun e w' => e = .returned (.int .u8 4) ∧ Below ((w.setCell ⟨rb, 2, none⟩ (.int .i64 d1)).alloc (.cells #[.int .u8 0, .int .u64 0, .string ⟨#[]⟩, .int .u8 0, .slice none 0 0] 52)).heap.size ((w.setCell ⟨rb, 2, none⟩ (.int .i64 d1)).alloc (.cells #[.int .u8 0, .int .u64 0, .string ⟨#[]⟩, .int .u8 0, .slice none 0 0] 52)) w' := hk
  have HH := Lib.hid h
  have HT := Lib.hid hT
  clear h hT hk
  go_enter Tryz.func177, Tryz.ntmps177
  go_wp2_with (first | (go_at_call 191; ((with_reducible refine hk'.mono ?_); (rintro e w2 ⟨rfl, hb2⟩))) | (go_at_call 192; ((with_reducible refine (parts_len rb _).mono ?_); (rintro e w4 ⟨⟨g, rfl, hgl, ⟨f0, p0, br0, bs0, rfl, hr0, hs0⟩, p1⟩, hb4⟩))))
  have h4 := ex4_mk 4 HH.out HT.out hG hb2 hb4
  have hGe : ¬ GB w2.heap.size := fun hg => by have h1 := HT.out.lt hg; have h2 := h4.lo; omega
  clear hb2 hb4 hk' e2 f2
  have hlo := h4.lo
  have hng : ¬ g = rb := fun e => by
    subst e
    obtain ⟨ma, c, hv⟩ := h4.rd.row_sl
    have := h4.rd.c0.symm.trans p0
    rw [hv] at this
    cases this
  have hne : ¬ g = w2.heap.size := fun e => by
    have h1 := h4.bx.row.1 0 (by simp)
    rw [← e] at h1
    have := h1.symm.trans p0
    cases this
  have nr0 := h4.rd.np hr0
  have ns0 := h4.rd.ns hs0
  have mr0 : ¬ br0 = w2.heap.size := fun e => by
    have h1 := h4.bx.row.1 0 (by simp)
    rw [← e] at h1
    have := h1.symm.trans hr0
    cases this
  have ms0 : ¬ bs0 = w2.heap.size := fun e => by
    have h1 := h4.bx.row.1 0 (by simp)
    rw [← e] at h1
    have := h1.symm.trans hs0
    cases this
  have hO0 : Only (fun j => j = rb ∨ j = w2.heap.size ∨ w4.heap.size ≤ j) w4 w4 := Only.refl _ _
  obtain ⟨hR0, hX0, hT0⟩ : IsRd w4 rb v T p d1 ∧ Bx w4 w2.heap.size rb (ob v T) (.int .u8 4) (.int .u64 0) (.string ⟨#[]⟩) (.int .u8 0) (.slice none 0 0) ∧ Tb w4 := ⟨h4.rd, h4.bx, h4.tb⟩
  have H4 := Lib.hid h4
  clear h4
  refine wp_loop_rounds 3 ?_
  have g0 : g < w4.heap.size := Nat.lt_of_lt_of_le hgl hO0.size
  have pt0 := Only.cell hO0 (a := ⟨g, 0, none⟩) (fun e => by simp only at e; omega) p0
  have sr0 := Only.cell hO0 (a := ⟨br0, 0, none⟩) (fun e => by have := World.block_lt_of_cell? w4 _ hr0; simp only at e this; omega) hr0
  have ss0 := Only.cell hO0 (a := ⟨bs0, 0, none⟩) (fun e => by have := World.block_lt_of_cell? w4 _ hs0; simp only at e this; omega) hs0
  have hC0 := sign1_yes hR0 [35] br0 bs0 (some ⟨w2.heap.size, 0, none⟩) sr0 ss0 ht0 h00 h01
  rw [rounds_succ]
  go_wp2_with (first | (go_at_call 210; ((with_reducible refine hC0.mono ?_); (rintro e x1 ⟨rfl, hP0⟩); (have hR1 := hP0.rd); (have hX1 := hX0.only hP0.only hX0.n1); (have hT1 := hT0.only hP0.only (fun j hj e => hG (by rw [← e]; exact hj))); (have hO1 := hO0.trans (hP0.only.mono fun j hj => .inl hj)); have gn0 : g < x1.heap.size := Nat.lt_of_lt_of_le hgl hO1.size; obtain ⟨q0, q1, q2, q3, q4, qel, qef⟩ := hX1.e)))
  clear gn0 q0 q1 q2 q3 q4 qel qef hC0
  clear g0 pt0
  have g1 : g < x1.heap.size := Nat.lt_of_lt_of_le hgl hO1.size
  have pt1 := Only.cell hO1 (a := ⟨g, 1, none⟩) (fun e => by simp only at e; omega) p1
  have hC1 := name_no hR1 hX1 hT1 hGe t ht1 hn
  rw [rounds_succ]
  go_wp2_with (first | (go_at_call 205; ((with_reducible refine hC1.mono ?_); (rintro e x2 ⟨rfl, hP1⟩); (have hR2 := hP1.rd); (have hO2 := hO1.trans (hP1.only.mono fun j hj => hj.elim .inl fun h => .inr (.inl h))); have hZZ := ex_res H4.out hrl hO2; have z0 := hZZ.1 0 (by simp); have z1 := hZZ.1 1 (by simp); have z2 := hZZ.1 2 (by simp); have z3 := hZZ.1 3 (by simp); have z4 := hZZ.1 4 (by simp); have y0 := hZZ.2.1 0; have y1 := hZZ.2.1 1; have y2 := hZZ.2.1 2; have y3 := hZZ.2.1 3; have y4 := hZZ.2.1 4; have hzl := hZZ.2.2)))
  have hE := ex_end (c0 := undef) (c1 := undef) (c2 := undef) (c3 := undef) (c4 := undef) H4.out hrl hob hO2 hR2 (.int .u8 0) (.int .u64 0) (.string ⟨#[]⟩) (.int .u8 0) (.slice none 0 0)
  exact bodyPost_ret (res_xp2 rfl _ _ w.heap.size _ _ _ _ _ _ rfl rfl (rowG_five _ _ _ _ _ hZZ)) rfl ⟨rfl, ⟨_, hE.1⟩, hE.2⟩
end Go.Proofs.YtfpoflddnlbpjaaGreatDoor
