/- What is proved: InsnApart returns true for any two instructions (its own card). Conditions: none beyond the row's own; the two laid tables are tied to the program's text. -/
import Derived.Test.YthlmdcokiamfkaaDoorOpn
import Derived.Test.YthlmdcokiamfkaaDoorCards
import Derived.Test.YthlmdcokiamfkaaDoorTie
import Derived.SevenTiedAt
namespace Go.Proofs.YthlmdcokiamfkaaDoor.insnApart
open Go.ChangeShapes Go.WideShapes Go.ChangeAt Go.RowKit
set_option linter.unusedVariables false
theorem fin {w w1 w2 w3 : World} {o o' : Obj} (h1 : Below ((w.alloc o).alloc o').heap.size ((w.alloc o).alloc o') w1) (h2 : Below w1.heap.size w1 w2) (h3 : Below w2.heap.size w2 w3) : Below w.heap.size w w3 := by
  have h0 : Below w.heap.size w ((w.alloc o).alloc o') := ((Below.refl _ _).alloc (Nat.le_refl _) _).alloc (by simp) _
  have e1 := h0.size
  have e2 := h1.size
  have e3 := h2.size
  exact h0.trans ((h1.mono e1).trans ((h2.mono (Nat.le_trans e1 e2)).trans (h3.mono (Nat.le_trans e1 (Nat.le_trans e2 e3)))))
set_option maxHeartbeats 1000000 in
theorem walk_00 (a0 a1 a2 a3 : Nat) (a4 : Int) (c0 c1 c2 c3 : Nat) (c4 : Int) (hx : (In.mk a0 a1 a2 a3 a4).wf) (hy : (In.mk c0 c1 c2 c3 c4).wf) (ox : (In.mk a0 a1 a2 a3 a4).ok = false) (oy : (In.mk c0 c1 c2 c3 c4).ok = false) (w : World) (h : Tb w) :
    Calls Tryd.prog 5 #[.agg #[.int .u8 a0, .int .u8 a1, .int .u8 a2, .int .u8 a3, .int .i64 a4], .agg #[.int .u8 c0, .int .u8 c1, .int .u8 c2, .int .u8 c3, .int .i64 c4]] w fun e w' => e = .returned (.bool true) ∧ Below w.heap.size w w' := by
  have b1 : (In.mk a0 a1 a2 a3 a4).word < 4294967296 := wordN_lt _ _ _ _ _
  have b2 : (In.mk c0 c1 c2 c3 c4).word < 4294967296 := wordN_lt _ _ _ _ _
  have kx := encn _ hx ox
  have ky := encn _ hy oy
  clear ox oy
  go_enter Tryd.func5, Tryd.ntmps5
  go_wp2_with (first | (go_at_call 8; first | ((with_reducible refine (kx _ ((h.alloc _).alloc _)).mono ?_); (rintro e w1 ⟨rfl, hb1⟩); have h1 := ((h.alloc _).alloc _).of hb1; obtain ⟨hc1, hf1⟩ := bcell hb1; have hz1 : w.heap.size + 1 < w1.heap.size := (by have := hb1.size; simp at this; omega); have hz0 : w.heap.size < w1.heap.size := (by have := hb1.size; simp at this; omega)) | ((with_reducible refine (ky _ h1).mono ?_); (rintro e w2 ⟨rfl, hb2⟩); have h2 := h1.of hb2; obtain ⟨hc2, hf2⟩ := bcell hb2)) | (go_at_call 10; (with_reducible refine (alive_any _ h2).mono ?_); rintro e w3 ⟨rfl, hb3⟩))
  go_ret
  exact ⟨rfl, fin hb1 hb2 hb3⟩
set_option maxHeartbeats 1000000 in
theorem walk_01 (a0 a1 a2 a3 : Nat) (a4 : Int) (c0 c1 c2 c3 : Nat) (c4 : Int) (hx : (In.mk a0 a1 a2 a3 a4).wf) (hy : (In.mk c0 c1 c2 c3 c4).wf) (ox : (In.mk a0 a1 a2 a3 a4).ok = false) (oy : (In.mk c0 c1 c2 c3 c4).ok = true) (w : World) (h : Tb w) :
    Calls Tryd.prog 5 #[.agg #[.int .u8 a0, .int .u8 a1, .int .u8 a2, .int .u8 a3, .int .i64 a4], .agg #[.int .u8 c0, .int .u8 c1, .int .u8 c2, .int .u8 c3, .int .i64 c4]] w fun e w' => e = .returned (.bool true) ∧ Below w.heap.size w w' := by
  have b1 : (In.mk a0 a1 a2 a3 a4).word < 4294967296 := wordN_lt _ _ _ _ _
  have b2 : (In.mk c0 c1 c2 c3 c4).word < 4294967296 := wordN_lt _ _ _ _ _
  have kx := encn _ hx ox
  have ky := ency _ hy oy
  clear ox oy
  go_enter Tryd.func5, Tryd.ntmps5
  go_wp2_with (first | (go_at_call 8; first | ((with_reducible refine (kx _ ((h.alloc _).alloc _)).mono ?_); (rintro e w1 ⟨rfl, hb1⟩); have h1 := ((h.alloc _).alloc _).of hb1; obtain ⟨hc1, hf1⟩ := bcell hb1; have hz1 : w.heap.size + 1 < w1.heap.size := (by have := hb1.size; simp at this; omega); have hz0 : w.heap.size < w1.heap.size := (by have := hb1.size; simp at this; omega)) | ((with_reducible refine (ky _ h1).mono ?_); (rintro e w2 ⟨rfl, hb2⟩); have h2 := h1.of hb2; obtain ⟨hc2, hf2⟩ := bcell hb2)) | (go_at_call 10; (with_reducible refine (alive_any _ h2).mono ?_); rintro e w3 ⟨rfl, hb3⟩))
  go_ret
  exact ⟨rfl, fin hb1 hb2 hb3⟩
set_option maxHeartbeats 1000000 in
theorem walk_10 (a0 a1 a2 a3 : Nat) (a4 : Int) (c0 c1 c2 c3 : Nat) (c4 : Int) (hx : (In.mk a0 a1 a2 a3 a4).wf) (hy : (In.mk c0 c1 c2 c3 c4).wf) (ox : (In.mk a0 a1 a2 a3 a4).ok = true) (oy : (In.mk c0 c1 c2 c3 c4).ok = false) (w : World) (h : Tb w) :
    Calls Tryd.prog 5 #[.agg #[.int .u8 a0, .int .u8 a1, .int .u8 a2, .int .u8 a3, .int .i64 a4], .agg #[.int .u8 c0, .int .u8 c1, .int .u8 c2, .int .u8 c3, .int .i64 c4]] w fun e w' => e = .returned (.bool true) ∧ Below w.heap.size w w' := by
  have b1 : (In.mk a0 a1 a2 a3 a4).word < 4294967296 := wordN_lt _ _ _ _ _
  have b2 : (In.mk c0 c1 c2 c3 c4).word < 4294967296 := wordN_lt _ _ _ _ _
  have kx := ency _ hx ox
  have ky := encn _ hy oy
  clear ox oy
  go_enter Tryd.func5, Tryd.ntmps5
  go_wp2_with (first | (go_at_call 8; first | ((with_reducible refine (kx _ ((h.alloc _).alloc _)).mono ?_); (rintro e w1 ⟨rfl, hb1⟩); have h1 := ((h.alloc _).alloc _).of hb1; obtain ⟨hc1, hf1⟩ := bcell hb1; have hz1 : w.heap.size + 1 < w1.heap.size := (by have := hb1.size; simp at this; omega); have hz0 : w.heap.size < w1.heap.size := (by have := hb1.size; simp at this; omega)) | ((with_reducible refine (ky _ h1).mono ?_); (rintro e w2 ⟨rfl, hb2⟩); have h2 := h1.of hb2; obtain ⟨hc2, hf2⟩ := bcell hb2)) | (go_at_call 10; (with_reducible refine (alive_any _ h2).mono ?_); rintro e w3 ⟨rfl, hb3⟩))
  go_ret
  exact ⟨rfl, fin hb1 hb2 hb3⟩
set_option maxHeartbeats 1000000 in
theorem walk_same (a0 a1 a2 a3 : Nat) (a4 : Int) (hx : (In.mk a0 a1 a2 a3 a4).wf) (ox : (In.mk a0 a1 a2 a3 a4).ok = true) (w : World) (h : Tb w) :
    Calls Tryd.prog 5 #[.agg #[.int .u8 a0, .int .u8 a1, .int .u8 a2, .int .u8 a3, .int .i64 a4], .agg #[.int .u8 a0, .int .u8 a1, .int .u8 a2, .int .u8 a3, .int .i64 a4]] w fun e w' => e = .returned (.bool true) ∧ Below w.heap.size w w' := by
  have l1 : (In.mk a0 a1 a2 a3 a4).word % 4 = 3 := word_low ox
  have b1 : (In.mk a0 a1 a2 a3 a4).word < 4294967296 := wordN_lt _ _ _ _ _
  have kx := ency _ hx ox
  clear ox
  go_enter Tryd.func5, Tryd.ntmps5
  go_wp2_with (first | (go_at_call 8; first | ((with_reducible refine (kx _ ((h.alloc _).alloc _)).mono ?_); (rintro e w1 ⟨rfl, hb1⟩); have h1 := ((h.alloc _).alloc _).of hb1; obtain ⟨hc1, hf1⟩ := bcell hb1; have hz1 : w.heap.size + 1 < w1.heap.size := (by have := hb1.size; simp at this; omega); have hz0 : w.heap.size < w1.heap.size := (by have := hb1.size; simp at this; omega)) | ((with_reducible refine (kx _ h1).mono ?_); (rintro e w2 ⟨rfl, hb2⟩); have h2 := h1.of hb2; obtain ⟨hc2, hf2⟩ := bcell hb2)) | (go_at_call 10; (with_reducible refine (alive_any _ h2).mono ?_); rintro e w3 ⟨rfl, hb3⟩))
  go_ret
  exact ⟨rfl, fin hb1 hb2 hb3⟩
set_option maxHeartbeats 1000000 in
theorem walk_d0 (a0 a1 a2 a3 : Nat) (a4 : Int) (c0 c1 c2 c3 : Nat) (c4 : Int) (hne : a0 ≠ c0) (hx : (In.mk a0 a1 a2 a3 a4).wf) (hy : (In.mk c0 c1 c2 c3 c4).wf) (ox : (In.mk a0 a1 a2 a3 a4).ok = true) (oy : (In.mk c0 c1 c2 c3 c4).ok = true) (w : World) (h : Tb w) :
    Calls Tryd.prog 5 #[.agg #[.int .u8 a0, .int .u8 a1, .int .u8 a2, .int .u8 a3, .int .i64 a4], .agg #[.int .u8 c0, .int .u8 c1, .int .u8 c2, .int .u8 c3, .int .i64 c4]] w fun e w' => e = .returned (.bool true) ∧ Below w.heap.size w w' := by
  have l1 : (In.mk a0 a1 a2 a3 a4).word % 4 = 3 := word_low ox
  have l2 : (In.mk c0 c1 c2 c3 c4).word % 4 = 3 := word_low oy
  have b1 : (In.mk a0 a1 a2 a3 a4).word < 4294967296 := wordN_lt _ _ _ _ _
  have b2 : (In.mk c0 c1 c2 c3 c4).word < 4294967296 := wordN_lt _ _ _ _ _
  have hw : (((In.mk a0 a1 a2 a3 a4).word : Int) == ((In.mk c0 c1 c2 c3 c4).word : Int)) = false := by
    rw [beq_eq_false_iff_ne]
    intro e
    have e' : (In.mk a0 a1 a2 a3 a4).word = (In.mk c0 c1 c2 c3 c4).word := by omega
    have := word_inj ox oy e'
    simp at this
    omega
  have hd : ((a0 : Int) == (c0 : Int)) = false := by rw [beq_eq_false_iff_ne]; omega
  have kx := ency _ hx ox
  have ky := ency _ hy oy
  clear ox oy hne
  go_enter Tryd.func5, Tryd.ntmps5
  go_wp2_with (first | (go_at_call 8; first | ((with_reducible refine (kx _ ((h.alloc _).alloc _)).mono ?_); (rintro e w1 ⟨rfl, hb1⟩); have h1 := ((h.alloc _).alloc _).of hb1; obtain ⟨hc1, hf1⟩ := bcell hb1; have hz1 : w.heap.size + 1 < w1.heap.size := (by have := hb1.size; simp at this; omega); have hz0 : w.heap.size < w1.heap.size := (by have := hb1.size; simp at this; omega)) | ((with_reducible refine (ky _ h1).mono ?_); (rintro e w2 ⟨rfl, hb2⟩); have h2 := h1.of hb2; obtain ⟨hc2, hf2⟩ := bcell hb2)) | (go_at_call 10; (with_reducible refine (alive_any _ h2).mono ?_); rintro e w3 ⟨rfl, hb3⟩))
  go_ret
  exact ⟨rfl, fin hb1 hb2 hb3⟩
set_option maxHeartbeats 1000000 in
theorem walk_d1 (a0 a1 a2 a3 : Nat) (a4 : Int) (c1 c2 c3 : Nat) (c4 : Int) (hne : a1 ≠ c1) (hx : (In.mk a0 a1 a2 a3 a4).wf) (hy : (In.mk a0 c1 c2 c3 c4).wf) (ox : (In.mk a0 a1 a2 a3 a4).ok = true) (oy : (In.mk a0 c1 c2 c3 c4).ok = true) (w : World) (h : Tb w) :
    Calls Tryd.prog 5 #[.agg #[.int .u8 a0, .int .u8 a1, .int .u8 a2, .int .u8 a3, .int .i64 a4], .agg #[.int .u8 a0, .int .u8 c1, .int .u8 c2, .int .u8 c3, .int .i64 c4]] w fun e w' => e = .returned (.bool true) ∧ Below w.heap.size w w' := by
  have l1 : (In.mk a0 a1 a2 a3 a4).word % 4 = 3 := word_low ox
  have l2 : (In.mk a0 c1 c2 c3 c4).word % 4 = 3 := word_low oy
  have b1 : (In.mk a0 a1 a2 a3 a4).word < 4294967296 := wordN_lt _ _ _ _ _
  have b2 : (In.mk a0 c1 c2 c3 c4).word < 4294967296 := wordN_lt _ _ _ _ _
  have hw : (((In.mk a0 a1 a2 a3 a4).word : Int) == ((In.mk a0 c1 c2 c3 c4).word : Int)) = false := by
    rw [beq_eq_false_iff_ne]
    intro e
    have e' : (In.mk a0 a1 a2 a3 a4).word = (In.mk a0 c1 c2 c3 c4).word := by omega
    have := word_inj ox oy e'
    simp at this
    omega
  have hd : ((a1 : Int) == (c1 : Int)) = false := by rw [beq_eq_false_iff_ne]; omega
  have kx := ency _ hx ox
  have ky := ency _ hy oy
  clear ox oy hne
  go_enter Tryd.func5, Tryd.ntmps5
  go_wp2_with (first | (go_at_call 8; first | ((with_reducible refine (kx _ ((h.alloc _).alloc _)).mono ?_); (rintro e w1 ⟨rfl, hb1⟩); have h1 := ((h.alloc _).alloc _).of hb1; obtain ⟨hc1, hf1⟩ := bcell hb1; have hz1 : w.heap.size + 1 < w1.heap.size := (by have := hb1.size; simp at this; omega); have hz0 : w.heap.size < w1.heap.size := (by have := hb1.size; simp at this; omega)) | ((with_reducible refine (ky _ h1).mono ?_); (rintro e w2 ⟨rfl, hb2⟩); have h2 := h1.of hb2; obtain ⟨hc2, hf2⟩ := bcell hb2)) | (go_at_call 10; (with_reducible refine (alive_any _ h2).mono ?_); rintro e w3 ⟨rfl, hb3⟩))
  go_ret
  exact ⟨rfl, fin hb1 hb2 hb3⟩
set_option maxHeartbeats 1000000 in
theorem walk_d2 (a0 a1 a2 a3 : Nat) (a4 : Int) (c2 c3 : Nat) (c4 : Int) (hne : a2 ≠ c2) (hx : (In.mk a0 a1 a2 a3 a4).wf) (hy : (In.mk a0 a1 c2 c3 c4).wf) (ox : (In.mk a0 a1 a2 a3 a4).ok = true) (oy : (In.mk a0 a1 c2 c3 c4).ok = true) (w : World) (h : Tb w) :
    Calls Tryd.prog 5 #[.agg #[.int .u8 a0, .int .u8 a1, .int .u8 a2, .int .u8 a3, .int .i64 a4], .agg #[.int .u8 a0, .int .u8 a1, .int .u8 c2, .int .u8 c3, .int .i64 c4]] w fun e w' => e = .returned (.bool true) ∧ Below w.heap.size w w' := by
  have l1 : (In.mk a0 a1 a2 a3 a4).word % 4 = 3 := word_low ox
  have l2 : (In.mk a0 a1 c2 c3 c4).word % 4 = 3 := word_low oy
  have b1 : (In.mk a0 a1 a2 a3 a4).word < 4294967296 := wordN_lt _ _ _ _ _
  have b2 : (In.mk a0 a1 c2 c3 c4).word < 4294967296 := wordN_lt _ _ _ _ _
  have hw : (((In.mk a0 a1 a2 a3 a4).word : Int) == ((In.mk a0 a1 c2 c3 c4).word : Int)) = false := by
    rw [beq_eq_false_iff_ne]
    intro e
    have e' : (In.mk a0 a1 a2 a3 a4).word = (In.mk a0 a1 c2 c3 c4).word := by omega
    have := word_inj ox oy e'
    simp at this
    omega
  have hd : ((a2 : Int) == (c2 : Int)) = false := by rw [beq_eq_false_iff_ne]; omega
  have kx := ency _ hx ox
  have ky := ency _ hy oy
  clear ox oy hne
  go_enter Tryd.func5, Tryd.ntmps5
  go_wp2_with (first | (go_at_call 8; first | ((with_reducible refine (kx _ ((h.alloc _).alloc _)).mono ?_); (rintro e w1 ⟨rfl, hb1⟩); have h1 := ((h.alloc _).alloc _).of hb1; obtain ⟨hc1, hf1⟩ := bcell hb1; have hz1 : w.heap.size + 1 < w1.heap.size := (by have := hb1.size; simp at this; omega); have hz0 : w.heap.size < w1.heap.size := (by have := hb1.size; simp at this; omega)) | ((with_reducible refine (ky _ h1).mono ?_); (rintro e w2 ⟨rfl, hb2⟩); have h2 := h1.of hb2; obtain ⟨hc2, hf2⟩ := bcell hb2)) | (go_at_call 10; (with_reducible refine (alive_any _ h2).mono ?_); rintro e w3 ⟨rfl, hb3⟩))
  go_ret
  exact ⟨rfl, fin hb1 hb2 hb3⟩
set_option maxHeartbeats 1000000 in
theorem walk_d3 (a0 a1 a2 a3 : Nat) (a4 : Int) (c3 : Nat) (c4 : Int) (hne : a3 ≠ c3) (hx : (In.mk a0 a1 a2 a3 a4).wf) (hy : (In.mk a0 a1 a2 c3 c4).wf) (ox : (In.mk a0 a1 a2 a3 a4).ok = true) (oy : (In.mk a0 a1 a2 c3 c4).ok = true) (w : World) (h : Tb w) :
    Calls Tryd.prog 5 #[.agg #[.int .u8 a0, .int .u8 a1, .int .u8 a2, .int .u8 a3, .int .i64 a4], .agg #[.int .u8 a0, .int .u8 a1, .int .u8 a2, .int .u8 c3, .int .i64 c4]] w fun e w' => e = .returned (.bool true) ∧ Below w.heap.size w w' := by
  have l1 : (In.mk a0 a1 a2 a3 a4).word % 4 = 3 := word_low ox
  have l2 : (In.mk a0 a1 a2 c3 c4).word % 4 = 3 := word_low oy
  have b1 : (In.mk a0 a1 a2 a3 a4).word < 4294967296 := wordN_lt _ _ _ _ _
  have b2 : (In.mk a0 a1 a2 c3 c4).word < 4294967296 := wordN_lt _ _ _ _ _
  have hw : (((In.mk a0 a1 a2 a3 a4).word : Int) == ((In.mk a0 a1 a2 c3 c4).word : Int)) = false := by
    rw [beq_eq_false_iff_ne]
    intro e
    have e' : (In.mk a0 a1 a2 a3 a4).word = (In.mk a0 a1 a2 c3 c4).word := by omega
    have := word_inj ox oy e'
    simp at this
    omega
  have hd : ((a3 : Int) == (c3 : Int)) = false := by rw [beq_eq_false_iff_ne]; omega
  have kx := ency _ hx ox
  have ky := ency _ hy oy
  clear ox oy hne
  go_enter Tryd.func5, Tryd.ntmps5
  go_wp2_with (first | (go_at_call 8; first | ((with_reducible refine (kx _ ((h.alloc _).alloc _)).mono ?_); (rintro e w1 ⟨rfl, hb1⟩); have h1 := ((h.alloc _).alloc _).of hb1; obtain ⟨hc1, hf1⟩ := bcell hb1; have hz1 : w.heap.size + 1 < w1.heap.size := (by have := hb1.size; simp at this; omega); have hz0 : w.heap.size < w1.heap.size := (by have := hb1.size; simp at this; omega)) | ((with_reducible refine (ky _ h1).mono ?_); (rintro e w2 ⟨rfl, hb2⟩); have h2 := h1.of hb2; obtain ⟨hc2, hf2⟩ := bcell hb2)) | (go_at_call 10; (with_reducible refine (alive_any _ h2).mono ?_); rintro e w3 ⟨rfl, hb3⟩))
  go_ret
  exact ⟨rfl, fin hb1 hb2 hb3⟩
set_option maxHeartbeats 1000000 in
theorem walk_d4 (a0 a1 a2 a3 : Nat) (a4 : Int) (c4 : Int) (hne : a4 ≠ c4) (hx : (In.mk a0 a1 a2 a3 a4).wf) (hy : (In.mk a0 a1 a2 a3 c4).wf) (ox : (In.mk a0 a1 a2 a3 a4).ok = true) (oy : (In.mk a0 a1 a2 a3 c4).ok = true) (w : World) (h : Tb w) :
    Calls Tryd.prog 5 #[.agg #[.int .u8 a0, .int .u8 a1, .int .u8 a2, .int .u8 a3, .int .i64 a4], .agg #[.int .u8 a0, .int .u8 a1, .int .u8 a2, .int .u8 a3, .int .i64 c4]] w fun e w' => e = .returned (.bool true) ∧ Below w.heap.size w w' := by
  have l1 : (In.mk a0 a1 a2 a3 a4).word % 4 = 3 := word_low ox
  have l2 : (In.mk a0 a1 a2 a3 c4).word % 4 = 3 := word_low oy
  have b1 : (In.mk a0 a1 a2 a3 a4).word < 4294967296 := wordN_lt _ _ _ _ _
  have b2 : (In.mk a0 a1 a2 a3 c4).word < 4294967296 := wordN_lt _ _ _ _ _
  have hw : (((In.mk a0 a1 a2 a3 a4).word : Int) == ((In.mk a0 a1 a2 a3 c4).word : Int)) = false := by
    rw [beq_eq_false_iff_ne]
    intro e
    have e' : (In.mk a0 a1 a2 a3 a4).word = (In.mk a0 a1 a2 a3 c4).word := by omega
    have := word_inj ox oy e'
    simp at this
    omega
  have hd : ((a4 : Int) == (c4 : Int)) = false := by rw [beq_eq_false_iff_ne]; omega
  have kx := ency _ hx ox
  have ky := ency _ hy oy
  clear ox oy hne
  go_enter Tryd.func5, Tryd.ntmps5
  go_wp2_with (first | (go_at_call 8; first | ((with_reducible refine (kx _ ((h.alloc _).alloc _)).mono ?_); (rintro e w1 ⟨rfl, hb1⟩); have h1 := ((h.alloc _).alloc _).of hb1; obtain ⟨hc1, hf1⟩ := bcell hb1; have hz1 : w.heap.size + 1 < w1.heap.size := (by have := hb1.size; simp at this; omega); have hz0 : w.heap.size < w1.heap.size := (by have := hb1.size; simp at this; omega)) | ((with_reducible refine (ky _ h1).mono ?_); (rintro e w2 ⟨rfl, hb2⟩); have h2 := h1.of hb2; obtain ⟨hc2, hf2⟩ := bcell hb2)) | (go_at_call 10; (with_reducible refine (alive_any _ h2).mono ?_); rintro e w3 ⟨rfl, hb3⟩))
  go_ret
  exact ⟨rfl, fin hb1 hb2 hb3⟩
theorem walk (x y : In) (hx : x.wf) (hy : y.wf) (w : World) (h : Tb w) :
    Calls Tryd.prog 5 #[.agg #[.int .u8 x.op, .int .u8 x.rd, .int .u8 x.rs1, .int .u8 x.rs2, .int .i64 x.imm], .agg #[.int .u8 y.op, .int .u8 y.rd, .int .u8 y.rs1, .int .u8 y.rs2, .int .i64 y.imm]] w fun e w' => e = .returned (.bool true) ∧ Below w.heap.size w w' := by
  obtain ⟨a0, a1, a2, a3, a4⟩ := x
  obtain ⟨c0, c1, c2, c3, c4⟩ := y
  cases ox : (In.mk a0 a1 a2 a3 a4).ok <;> cases oy : (In.mk c0 c1 c2 c3 c4).ok
  · exact walk_00 a0 a1 a2 a3 a4 c0 c1 c2 c3 c4 hx hy ox oy w h
  · exact walk_01 a0 a1 a2 a3 a4 c0 c1 c2 c3 c4 hx hy ox oy w h
  · exact walk_10 a0 a1 a2 a3 a4 c0 c1 c2 c3 c4 hx hy ox oy w h
  · by_cases e0 : a0 = c0
    · subst e0
      by_cases e1 : a1 = c1
      · subst e1
        by_cases e2 : a2 = c2
        · subst e2
          by_cases e3 : a3 = c3
          · subst e3
            by_cases e4 : a4 = c4
            · subst e4
              exact walk_same a0 a1 a2 a3 a4 hx ox w h
            · exact walk_d4 a0 a1 a2 a3 a4 c4 e4 hx hy ox oy w h
          · exact walk_d3 a0 a1 a2 a3 a4 c3 c4 e3 hx hy ox oy w h
        · exact walk_d2 a0 a1 a2 a3 a4 c2 c3 c4 e2 hx hy ox oy w h
      · exact walk_d1 a0 a1 a2 a3 a4 c1 c2 c3 c4 e1 hx hy ox oy w h
    · exact walk_d0 a0 a1 a2 a3 a4 c0 c1 c2 c3 c4 e0 hx hy ox oy w h
theorem walkI (m00 m01 m02 m03 m04 : Int) (y00 : (Lit.int .u8 m00).wf = true) (y01 : (Lit.int .u8 m01).wf = true) (y02 : (Lit.int .u8 m02).wf = true) (y03 : (Lit.int .u8 m03).wf = true) (y04 : (Lit.int .i64 m04).wf = true)
    (m10 m11 m12 m13 m14 : Int) (y10 : (Lit.int .u8 m10).wf = true) (y11 : (Lit.int .u8 m11).wf = true) (y12 : (Lit.int .u8 m12).wf = true) (y13 : (Lit.int .u8 m13).wf = true) (y14 : (Lit.int .i64 m14).wf = true) (w : World) (h : Tb w) :
    Calls Tryd.prog 5 #[.agg #[.int .u8 m00, .int .u8 m01, .int .u8 m02, .int .u8 m03, .int .i64 m04], .agg #[.int .u8 m10, .int .u8 m11, .int .u8 m12, .int .u8 m13, .int .i64 m14]] w fun e w' => e = .returned (.bool true) ∧ Below w.heap.size w w' := by
  obtain ⟨x, hx, rfl, rfl, rfl, rfl, rfl⟩ := to_in y00 y01 y02 y03 y04
  obtain ⟨y, hy, rfl, rfl, rfl, rfl, rfl⟩ := to_in y10 y11 y12 y13 y14
  exact walk x y hx hy w h
theorem own : ownKnob Tryd.prog.godebug = none := by kernel_rfl
set_option maxRecDepth 100000 in
theorem lifted (os : Os) (started : os.Started) (H : Type) (enc : TypeId × Value → H) :
    ReturnsInHanded {} Tryd.checked os 5 .any (fun w args => (Rows.insnApartSpec.pre enc Tryd.prog Tryd.f5 [] false w args ∧ laidMetH Tryd.prog laidAll w) ∧ sizedMet enc Tryd.prog Tryd.f5 (OpenSpec.ofChange Rows.insnApartSpec) false w args)
      (Rows.insnApartSpec.post enc Tryd.prog Tryd.f5 false true false false) := by
  refine returnsInHanded_of_change_and (C := Tryd.checked) (X := fun w _ => laidMetH Tryd.prog laidAll w) (fun _ _ _ hh h => h.of_heap hh) own started (by kernel_rfl) Tryd.func5
    (ChangeSpec.witness_shaped (enc := enc) (C := Tryd.checked) (os := os) (X := fun w _ => laidMetH Tryd.prog laidAll w) false (World.doorLaid Tryd.prog 400 os) #[.agg #[.int .u8 0, .int .u8 0, .int .u8 0, .int .u8 0, .int .i64 0], .agg #[.int .u8 0, .int .u8 0, .int .u8 0, .int .u8 0, .int .i64 0]] 8 rfl (World.shaped_of_RefB (by kernel_rfl) (by kernel_rfl)) (by kernel_rfl) (by kernel_rfl) (by kernel_rfl) (door_met os _)) ?_
  intro W base args ds gs before hval0 hW _ _ hL _
  have hval : ∀ (j : Nat) t v, Tryd.f5.params[j]? = some t → args[j]? = some v → Value.okWide Tryd.prog W .any base t v := hval0
  have hW' := hW
  obtain ⟨p, q, hA0, hV, rfl, hfz, hnd⟩ := hW
  have hA : DataW.TrodAll enc Tryd.prog W 0 (fun _ => true) true Tryd.f5.params.toList args.toList ds p := hA0
  rw [Tryd.params5] at hA hval
  obtain ⟨v0, vs0, d0, ds0, p0, q0, hargs, rfl, rfl, h0, r0⟩ := trodAll_cons hA
  obtain ⟨v1, vs1, d1, ds1, p1, q1, rfl, rfl, rfl, h1, r1⟩ := trodAll_cons r0
  obtain ⟨rfl, rfl, rfl⟩ := trodAll_nil r1
  obtain rfl : args = #[v0, v1] := by cases args; simp_all
  obtain ⟨rfl, rfl⟩ := trodVars_none hV
  obtain ⟨m00, m01, m02, m03, m04, rfl, rfl, rfl, y00, y01, y02, y03, y04⟩ := open_insn (hval 0 23 v0 rfl rfl) h0
  obtain ⟨m10, m11, m12, m13, m14, rfl, rfl, rfl, y10, y11, y12, y13, y14⟩ := open_insn (hval 1 23 v1 rfl rfl) h1
  clear hA0 hval0
  simp only [List.append_nil] at hW'
  refine (walkI m00 m01 m02 m03 m04 y00 y01 y02 y03 y04 m10 m11 m12 m13 m14 y10 y11 y12 y13 y14 W (tb_of_laid hL)).mono fun e W' ⟨he, hg⟩ => ?_
  subst he
  exact ⟨_, rfl, _, _, _, [], _, [], hW', trodAll_mk1 (shut_bool Tryd.underlying4 _), (trodAll_cons_mk (shut_insn y00 y01 y02 y03 y04) (trodAll_cons_mk (shut_insn y10 y11 y12 y13 y14) trodAll_mk0)), rfl, hg.frame _, fun h => by cases h⟩
theorem over : Rows.InsnApartSaid :=
  OpenClaim.holds_of_wide 5 Tryd.f5 rfl rfl rfl rfl rfl rfl rfl ⟨rfl, rfl, rfl, rfl, rfl⟩ rfl rfl rfl rfl rfl (by kernel_rfl) Tryd.func5 (by kernel_rfl)
    (of_decide_eq_true (by kernel_rfl)) (by unfold Func.isWrapper; first | (rw [if_pos (by decide +kernel)]; kernel_rfl) | (rw [if_neg (by decide +kernel)]; exact ⟨rfl, rfl⟩))
    (fun os started H enc _ => lifted os started H enc)
/-- The card: the row, its listed tables tied to the text of the program. -/
theorem proved : Rows.InsnApartCardSaid :=
  Claim7.holds_tied_plain_at .later [] [.data, .data] true Rows.insnApartCard.stood.harness Rows.insnApartCard.stood.looks
    over (fun _ h => by cases h) (by kernel_rfl) (fun _ h => by cases h) insnApart_row_tie rfl ⟨rfl, rfl⟩ (by kernel_rfl) rfl
    (fun f fn hf hfn => by
      obtain rfl : f = 5 := Option.some.inj ((show Tryd.prog.funcNamed "sacristy/sacristylaw02.InsnApart" = some 5 by kernel_rfl).symm.trans hf) |>.symm
      obtain rfl : fn = Tryd.f5 := (Option.some.inj (Tryd.func5.symm.trans hfn)).symm
      exact ⟨by kernel_rfl, fun j t ht => by
        rw [Tryd.params5] at ht
        have hm : t ∈ [23, 23] := by simpa using Array.mem_of_getElem? ht
        have hall : ([23, 23].all fun u => !Tryd.prog.wantsStandIn u) = true := by kernel_rfl
        exact (show Tryd.prog.wantsStandIn t = false by simpa using List.all_eq_true.1 hall t hm)⟩)
    (by kernel_rfl)
end Go.Proofs.YthlmdcokiamfkaaDoor.insnApart
