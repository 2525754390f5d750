/- What is proved: InsnTurned returns true for any instruction, whatever is turned, by however much (its own card). Conditions: none beyond the row's own; the two laid tables are tied to the program's text. -/
import Derived.Test.YthlmdcokiamfkaaDoorOpn
import Derived.Test.YthlmdcokiamfkaaDoorCards
import Derived.Test.YthlmdcokiamfkaaDoorTie
import Derived.SevenTiedAt
namespace Go.Proofs.YthlmdcokiamfkaaDoor.insnTurned
open Go.ChangeShapes Go.WideShapes Go.ChangeAt Go.RowKit
set_option linter.unusedVariables false
theorem fin {w w1 w2 w3 : World} {o o' : Obj} (h1 : Below ((w.alloc o).alloc o').heap.size ((w.alloc o).alloc o') w1) (h2 : Below w1.heap.size w1 w2) (h3 : Below w2.heap.size w2 w3) : Below w.heap.size w w3 := by
  have h0 : Below w.heap.size w ((w.alloc o).alloc o') := ((Below.refl _ _).alloc (Nat.le_refl _) _).alloc (by simp) _
  have e1 := h0.size
  have e2 := h1.size
  have e3 := h2.size
  exact h0.trans ((h1.mono e1).trans ((h2.mono (Nat.le_trans e1 e2)).trans (h3.mono (Nat.le_trans e1 (Nat.le_trans e2 e3)))))
theorem encAny (x : In) (h : x.wf) (w : World) (hT : Tb w) :
    Calls Tryd.prog 8 #[.agg #[.int .u8 x.op, .int .u8 x.rd, .int .u8 x.rs1, .int .u8 x.rs2, .int .i64 x.imm]] w fun e w' => e = .returned (.tuple #[.int .u32 (encW x.op x.rd x.rs1 x.rs2 x.imm : Nat), .int .i64 (encE x.op x.rd x.rs1 x.rs2 x.imm)]) ∧ Below w.heap.size w w' :=
  enc_any x.op x.rd x.rs1 x.rs2 x.imm h.1 h.2.1 h.2.2.1 h.2.2.2.1 h.2.2.2.2.1 h.2.2.2.2.2 w hT.1 hT.2
set_option maxHeartbeats 2000000 in
theorem tr0 (a0 a1 a2 a3 : Nat) (a4 : Int) (q : Nat) (y : Int) (hx : (In.mk a0 a1 a2 a3 a4).wf) (hq : q < 256) (hq0 : q % 4 = 0) (hy : -32768 ≤ y ∧ y < 32768) (w : World) (h : Tb w) :
    Calls Tryd.prog 6 #[.agg #[.int .u8 a0, .int .u8 a1, .int .u8 a2, .int .u8 a3, .int .i64 a4], .int .u8 q, .int .i16 y] w fun e w' => e = .returned (.bool true) ∧ Below w.heap.size w w' := by
  have hb := hx
  unfold In.wf at hb
  simp only at hb
  obtain ⟨b0, b1, b2, b3, b4, b5⟩ := hb
  have e0 : (((q : Int) % 4) == 0) = true := by rw [beq_iff_eq]; omega
  clear hq0
  go_enter Tryd.func6, Tryd.ntmps6
  go_wp2_with fail
  obtain ⟨n, hn, hn2⟩ : ∃ n : Nat, (((a1 : Nat) : Int) + 1 + y % 256 % 7) % 256 = (n : Int) ∧ n < 256 := ⟨((((a1 : Nat) : Int) + 1 + y % 256 % 7) % 256).toNat, by omega, by omega⟩
  rw [hn]
  clear hn
  have hyw : (In.mk a0 n a2 a3 a4).wf := by unfold In.wf; simp only; omega
  cases ox : (In.mk a0 a1 a2 a3 a4).ok
  · have kx := encn _ hx ox
    have ky := encAny _ hyw
    clear ox
    go_wp2_with (first | (go_at_call 8; first | ((with_reducible refine (kx _ ((h.alloc _).alloc _)).mono ?_); (rintro e w1 ⟨rfl, hb1⟩); have h1 := ((h.alloc _).alloc _).of hb1; obtain ⟨hc1, hf1⟩ := bcell hb1; have hz1 : w.heap.size + 1 < w1.heap.size := (by have := hb1.size; simp at this; omega); have hz0 : w.heap.size < w1.heap.size := (by have := hb1.size; simp at this; omega)) | ((with_reducible refine (ky _ h1).mono ?_); (rintro e w2 ⟨rfl, hb2⟩); have h2 := h1.of hb2; obtain ⟨hc2, hf2⟩ := bcell hb2)) | (go_at_call 10; (with_reducible refine (alive_any _ h2).mono ?_); rintro e w3 ⟨rfl, hb3⟩))
    go_ret
    exact ⟨rfl, fin hb1 hb2 hb3⟩
  cases oy : (In.mk a0 n a2 a3 a4).ok
  · have kx := ency _ hx ox
    have ky := encn _ hyw oy
    clear ox oy
    go_wp2_with (first | (go_at_call 8; first | ((with_reducible refine (kx _ ((h.alloc _).alloc _)).mono ?_); (rintro e w1 ⟨rfl, hb1⟩); have h1 := ((h.alloc _).alloc _).of hb1; obtain ⟨hc1, hf1⟩ := bcell hb1; have hz1 : w.heap.size + 1 < w1.heap.size := (by have := hb1.size; simp at this; omega); have hz0 : w.heap.size < w1.heap.size := (by have := hb1.size; simp at this; omega)) | ((with_reducible refine (ky _ h1).mono ?_); (rintro e w2 ⟨rfl, hb2⟩); have h2 := h1.of hb2; obtain ⟨hc2, hf2⟩ := bcell hb2)) | (go_at_call 10; (with_reducible refine (alive_any _ h2).mono ?_); rintro e w3 ⟨rfl, hb3⟩))
    go_ret
    exact ⟨rfl, fin hb1 hb2 hb3⟩
  by_cases hne : a1 = n
  · subst hne
    have kx := ency _ hx ox
    clear ox oy
    go_wp2_with (first | (go_at_call 8; first | ((with_reducible refine (kx _ ((h.alloc _).alloc _)).mono ?_); (rintro e w1 ⟨rfl, hb1⟩); have h1 := ((h.alloc _).alloc _).of hb1; obtain ⟨hc1, hf1⟩ := bcell hb1; have hz1 : w.heap.size + 1 < w1.heap.size := (by have := hb1.size; simp at this; omega); have hz0 : w.heap.size < w1.heap.size := (by have := hb1.size; simp at this; omega)) | ((with_reducible refine (kx _ h1).mono ?_); (rintro e w2 ⟨rfl, hb2⟩); have h2 := h1.of hb2; obtain ⟨hc2, hf2⟩ := bcell hb2)) | (go_at_call 10; (with_reducible refine (alive_any _ h2).mono ?_); rintro e w3 ⟨rfl, hb3⟩))
    go_ret
    exact ⟨rfl, fin hb1 hb2 hb3⟩
  have hw : (((In.mk a0 a1 a2 a3 a4).word : Int) == ((In.mk a0 n a2 a3 a4).word : Int)) = false := by
    rw [beq_eq_false_iff_ne]
    intro e
    have e' : (In.mk a0 a1 a2 a3 a4).word = (In.mk a0 n a2 a3 a4).word := by omega
    have := word_inj ox oy e'
    simp at this
    omega
  have hw2 : (((In.mk a0 a1 a2 a3 a4).word : Int) != ((In.mk a0 n a2 a3 a4).word : Int)) = true := by
    rw [bne_iff_ne]; exact beq_eq_false_iff_ne.1 hw
  have hd : ((a1 : Int) == (n : Int)) = false := by rw [beq_eq_false_iff_ne]; omega
  have kx := ency _ hx ox
  have ky := ency _ hyw oy
  clear ox oy hne
  go_wp2_with (first | (go_at_call 8; first | ((with_reducible refine (kx _ ((h.alloc _).alloc _)).mono ?_); (rintro e w1 ⟨rfl, hb1⟩); have h1 := ((h.alloc _).alloc _).of hb1; obtain ⟨hc1, hf1⟩ := bcell hb1; have hz1 : w.heap.size + 1 < w1.heap.size := (by have := hb1.size; simp at this; omega); have hz0 : w.heap.size < w1.heap.size := (by have := hb1.size; simp at this; omega)) | ((with_reducible refine (ky _ h1).mono ?_); (rintro e w2 ⟨rfl, hb2⟩); have h2 := h1.of hb2; obtain ⟨hc2, hf2⟩ := bcell hb2)) | (go_at_call 10; (with_reducible refine (alive_any _ h2).mono ?_); rintro e w3 ⟨rfl, hb3⟩))
  go_ret
  exact ⟨rfl, fin hb1 hb2 hb3⟩
set_option maxHeartbeats 2000000 in
theorem tr1 (a0 a1 a2 a3 : Nat) (a4 : Int) (q : Nat) (y : Int) (hx : (In.mk a0 a1 a2 a3 a4).wf) (hq : q < 256) (hq0 : q % 4 = 1) (hy : -32768 ≤ y ∧ y < 32768) (w : World) (h : Tb w) :
    Calls Tryd.prog 6 #[.agg #[.int .u8 a0, .int .u8 a1, .int .u8 a2, .int .u8 a3, .int .i64 a4], .int .u8 q, .int .i16 y] w fun e w' => e = .returned (.bool true) ∧ Below w.heap.size w w' := by
  have hb := hx
  unfold In.wf at hb
  simp only at hb
  obtain ⟨b0, b1, b2, b3, b4, b5⟩ := hb
  have e0 : (((q : Int) % 4) == 0) = false := by rw [beq_eq_false_iff_ne]; omega
  have e1 : (((q : Int) % 4) == 1) = true := by rw [beq_iff_eq]; omega
  clear hq0
  go_enter Tryd.func6, Tryd.ntmps6
  go_wp2_with fail
  obtain ⟨n, hn, hn2⟩ : ∃ n : Nat, (((a2 : Nat) : Int) + 1 + y % 256 % 7) % 256 = (n : Int) ∧ n < 256 := ⟨((((a2 : Nat) : Int) + 1 + y % 256 % 7) % 256).toNat, by omega, by omega⟩
  rw [hn]
  clear hn
  have hyw : (In.mk a0 a1 n a3 a4).wf := by unfold In.wf; simp only; omega
  cases ox : (In.mk a0 a1 a2 a3 a4).ok
  · have kx := encn _ hx ox
    have ky := encAny _ hyw
    clear ox
    go_wp2_with (first | (go_at_call 8; first | ((with_reducible refine (kx _ ((h.alloc _).alloc _)).mono ?_); (rintro e w1 ⟨rfl, hb1⟩); have h1 := ((h.alloc _).alloc _).of hb1; obtain ⟨hc1, hf1⟩ := bcell hb1; have hz1 : w.heap.size + 1 < w1.heap.size := (by have := hb1.size; simp at this; omega); have hz0 : w.heap.size < w1.heap.size := (by have := hb1.size; simp at this; omega)) | ((with_reducible refine (ky _ h1).mono ?_); (rintro e w2 ⟨rfl, hb2⟩); have h2 := h1.of hb2; obtain ⟨hc2, hf2⟩ := bcell hb2)) | (go_at_call 10; (with_reducible refine (alive_any _ h2).mono ?_); rintro e w3 ⟨rfl, hb3⟩))
    go_ret
    exact ⟨rfl, fin hb1 hb2 hb3⟩
  cases oy : (In.mk a0 a1 n a3 a4).ok
  · have kx := ency _ hx ox
    have ky := encn _ hyw oy
    clear ox oy
    go_wp2_with (first | (go_at_call 8; first | ((with_reducible refine (kx _ ((h.alloc _).alloc _)).mono ?_); (rintro e w1 ⟨rfl, hb1⟩); have h1 := ((h.alloc _).alloc _).of hb1; obtain ⟨hc1, hf1⟩ := bcell hb1; have hz1 : w.heap.size + 1 < w1.heap.size := (by have := hb1.size; simp at this; omega); have hz0 : w.heap.size < w1.heap.size := (by have := hb1.size; simp at this; omega)) | ((with_reducible refine (ky _ h1).mono ?_); (rintro e w2 ⟨rfl, hb2⟩); have h2 := h1.of hb2; obtain ⟨hc2, hf2⟩ := bcell hb2)) | (go_at_call 10; (with_reducible refine (alive_any _ h2).mono ?_); rintro e w3 ⟨rfl, hb3⟩))
    go_ret
    exact ⟨rfl, fin hb1 hb2 hb3⟩
  by_cases hne : a2 = n
  · subst hne
    have kx := ency _ hx ox
    clear ox oy
    go_wp2_with (first | (go_at_call 8; first | ((with_reducible refine (kx _ ((h.alloc _).alloc _)).mono ?_); (rintro e w1 ⟨rfl, hb1⟩); have h1 := ((h.alloc _).alloc _).of hb1; obtain ⟨hc1, hf1⟩ := bcell hb1; have hz1 : w.heap.size + 1 < w1.heap.size := (by have := hb1.size; simp at this; omega); have hz0 : w.heap.size < w1.heap.size := (by have := hb1.size; simp at this; omega)) | ((with_reducible refine (kx _ h1).mono ?_); (rintro e w2 ⟨rfl, hb2⟩); have h2 := h1.of hb2; obtain ⟨hc2, hf2⟩ := bcell hb2)) | (go_at_call 10; (with_reducible refine (alive_any _ h2).mono ?_); rintro e w3 ⟨rfl, hb3⟩))
    go_ret
    exact ⟨rfl, fin hb1 hb2 hb3⟩
  have hw : (((In.mk a0 a1 a2 a3 a4).word : Int) == ((In.mk a0 a1 n a3 a4).word : Int)) = false := by
    rw [beq_eq_false_iff_ne]
    intro e
    have e' : (In.mk a0 a1 a2 a3 a4).word = (In.mk a0 a1 n a3 a4).word := by omega
    have := word_inj ox oy e'
    simp at this
    omega
  have hw2 : (((In.mk a0 a1 a2 a3 a4).word : Int) != ((In.mk a0 a1 n a3 a4).word : Int)) = true := by
    rw [bne_iff_ne]; exact beq_eq_false_iff_ne.1 hw
  have hd : ((a2 : Int) == (n : Int)) = false := by rw [beq_eq_false_iff_ne]; omega
  have kx := ency _ hx ox
  have ky := ency _ hyw oy
  clear ox oy hne
  go_wp2_with (first | (go_at_call 8; first | ((with_reducible refine (kx _ ((h.alloc _).alloc _)).mono ?_); (rintro e w1 ⟨rfl, hb1⟩); have h1 := ((h.alloc _).alloc _).of hb1; obtain ⟨hc1, hf1⟩ := bcell hb1; have hz1 : w.heap.size + 1 < w1.heap.size := (by have := hb1.size; simp at this; omega); have hz0 : w.heap.size < w1.heap.size := (by have := hb1.size; simp at this; omega)) | ((with_reducible refine (ky _ h1).mono ?_); (rintro e w2 ⟨rfl, hb2⟩); have h2 := h1.of hb2; obtain ⟨hc2, hf2⟩ := bcell hb2)) | (go_at_call 10; (with_reducible refine (alive_any _ h2).mono ?_); rintro e w3 ⟨rfl, hb3⟩))
  go_ret
  exact ⟨rfl, fin hb1 hb2 hb3⟩
set_option maxHeartbeats 2000000 in
theorem tr2 (a0 a1 a2 a3 : Nat) (a4 : Int) (q : Nat) (y : Int) (hx : (In.mk a0 a1 a2 a3 a4).wf) (hq : q < 256) (hq0 : q % 4 = 2) (hy : -32768 ≤ y ∧ y < 32768) (w : World) (h : Tb w) :
    Calls Tryd.prog 6 #[.agg #[.int .u8 a0, .int .u8 a1, .int .u8 a2, .int .u8 a3, .int .i64 a4], .int .u8 q, .int .i16 y] w fun e w' => e = .returned (.bool true) ∧ Below w.heap.size w w' := by
  have hb := hx
  unfold In.wf at hb
  simp only at hb
  obtain ⟨b0, b1, b2, b3, b4, b5⟩ := hb
  have e0 : (((q : Int) % 4) == 0) = false := by rw [beq_eq_false_iff_ne]; omega
  have e1 : (((q : Int) % 4) == 1) = false := by rw [beq_eq_false_iff_ne]; omega
  have e2 : (((q : Int) % 4) == 2) = true := by rw [beq_iff_eq]; omega
  clear hq0
  go_enter Tryd.func6, Tryd.ntmps6
  go_wp2_with fail
  obtain ⟨n, hn, hn2⟩ : ∃ n : Nat, (((a3 : Nat) : Int) + 1 + y % 256 % 7) % 256 = (n : Int) ∧ n < 256 := ⟨((((a3 : Nat) : Int) + 1 + y % 256 % 7) % 256).toNat, by omega, by omega⟩
  rw [hn]
  clear hn
  have hyw : (In.mk a0 a1 a2 n a4).wf := by unfold In.wf; simp only; omega
  cases ox : (In.mk a0 a1 a2 a3 a4).ok
  · have kx := encn _ hx ox
    have ky := encAny _ hyw
    clear ox
    go_wp2_with (first | (go_at_call 8; first | ((with_reducible refine (kx _ ((h.alloc _).alloc _)).mono ?_); (rintro e w1 ⟨rfl, hb1⟩); have h1 := ((h.alloc _).alloc _).of hb1; obtain ⟨hc1, hf1⟩ := bcell hb1; have hz1 : w.heap.size + 1 < w1.heap.size := (by have := hb1.size; simp at this; omega); have hz0 : w.heap.size < w1.heap.size := (by have := hb1.size; simp at this; omega)) | ((with_reducible refine (ky _ h1).mono ?_); (rintro e w2 ⟨rfl, hb2⟩); have h2 := h1.of hb2; obtain ⟨hc2, hf2⟩ := bcell hb2)) | (go_at_call 10; (with_reducible refine (alive_any _ h2).mono ?_); rintro e w3 ⟨rfl, hb3⟩))
    go_ret
    exact ⟨rfl, fin hb1 hb2 hb3⟩
  cases oy : (In.mk a0 a1 a2 n a4).ok
  · have kx := ency _ hx ox
    have ky := encn _ hyw oy
    clear ox oy
    go_wp2_with (first | (go_at_call 8; first | ((with_reducible refine (kx _ ((h.alloc _).alloc _)).mono ?_); (rintro e w1 ⟨rfl, hb1⟩); have h1 := ((h.alloc _).alloc _).of hb1; obtain ⟨hc1, hf1⟩ := bcell hb1; have hz1 : w.heap.size + 1 < w1.heap.size := (by have := hb1.size; simp at this; omega); have hz0 : w.heap.size < w1.heap.size := (by have := hb1.size; simp at this; omega)) | ((with_reducible refine (ky _ h1).mono ?_); (rintro e w2 ⟨rfl, hb2⟩); have h2 := h1.of hb2; obtain ⟨hc2, hf2⟩ := bcell hb2)) | (go_at_call 10; (with_reducible refine (alive_any _ h2).mono ?_); rintro e w3 ⟨rfl, hb3⟩))
    go_ret
    exact ⟨rfl, fin hb1 hb2 hb3⟩
  by_cases hne : a3 = n
  · subst hne
    have kx := ency _ hx ox
    clear ox oy
    go_wp2_with (first | (go_at_call 8; first | ((with_reducible refine (kx _ ((h.alloc _).alloc _)).mono ?_); (rintro e w1 ⟨rfl, hb1⟩); have h1 := ((h.alloc _).alloc _).of hb1; obtain ⟨hc1, hf1⟩ := bcell hb1; have hz1 : w.heap.size + 1 < w1.heap.size := (by have := hb1.size; simp at this; omega); have hz0 : w.heap.size < w1.heap.size := (by have := hb1.size; simp at this; omega)) | ((with_reducible refine (kx _ h1).mono ?_); (rintro e w2 ⟨rfl, hb2⟩); have h2 := h1.of hb2; obtain ⟨hc2, hf2⟩ := bcell hb2)) | (go_at_call 10; (with_reducible refine (alive_any _ h2).mono ?_); rintro e w3 ⟨rfl, hb3⟩))
    go_ret
    exact ⟨rfl, fin hb1 hb2 hb3⟩
  have hw : (((In.mk a0 a1 a2 a3 a4).word : Int) == ((In.mk a0 a1 a2 n a4).word : Int)) = false := by
    rw [beq_eq_false_iff_ne]
    intro e
    have e' : (In.mk a0 a1 a2 a3 a4).word = (In.mk a0 a1 a2 n a4).word := by omega
    have := word_inj ox oy e'
    simp at this
    omega
  have hw2 : (((In.mk a0 a1 a2 a3 a4).word : Int) != ((In.mk a0 a1 a2 n a4).word : Int)) = true := by
    rw [bne_iff_ne]; exact beq_eq_false_iff_ne.1 hw
  have hd : ((a3 : Int) == (n : Int)) = false := by rw [beq_eq_false_iff_ne]; omega
  have kx := ency _ hx ox
  have ky := ency _ hyw oy
  clear ox oy hne
  go_wp2_with (first | (go_at_call 8; first | ((with_reducible refine (kx _ ((h.alloc _).alloc _)).mono ?_); (rintro e w1 ⟨rfl, hb1⟩); have h1 := ((h.alloc _).alloc _).of hb1; obtain ⟨hc1, hf1⟩ := bcell hb1; have hz1 : w.heap.size + 1 < w1.heap.size := (by have := hb1.size; simp at this; omega); have hz0 : w.heap.size < w1.heap.size := (by have := hb1.size; simp at this; omega)) | ((with_reducible refine (ky _ h1).mono ?_); (rintro e w2 ⟨rfl, hb2⟩); have h2 := h1.of hb2; obtain ⟨hc2, hf2⟩ := bcell hb2)) | (go_at_call 10; (with_reducible refine (alive_any _ h2).mono ?_); rintro e w3 ⟨rfl, hb3⟩))
  go_ret
  exact ⟨rfl, fin hb1 hb2 hb3⟩
set_option maxHeartbeats 2000000 in
theorem tr3 (a0 a1 a2 a3 : Nat) (a4 : Int) (q : Nat) (y : Int) (hx : (In.mk a0 a1 a2 a3 a4).wf) (hq : q < 256) (hq0 : q % 4 = 3) (hy : -32768 ≤ y ∧ y < 32768) (w : World) (h : Tb w) :
    Calls Tryd.prog 6 #[.agg #[.int .u8 a0, .int .u8 a1, .int .u8 a2, .int .u8 a3, .int .i64 a4], .int .u8 q, .int .i16 y] w fun e w' => e = .returned (.bool true) ∧ Below w.heap.size w w' := by
  have hb := hx
  unfold In.wf at hb
  simp only at hb
  obtain ⟨b0, b1, b2, b3, b4, b5⟩ := hb
  have e0 : (((q : Int) % 4) == 0) = false := by rw [beq_eq_false_iff_ne]; omega
  have e1 : (((q : Int) % 4) == 1) = false := by rw [beq_eq_false_iff_ne]; omega
  have e2 : (((q : Int) % 4) == 2) = false := by rw [beq_eq_false_iff_ne]; omega
  clear hq0
  go_enter Tryd.func6, Tryd.ntmps6
  go_wp2_with fail
  obtain ⟨n, hn, hn2⟩ : ∃ n : Int, (wrap64 (wrap64 (a4 + 1) + y)) = n ∧ -9223372036854775808 ≤ n ∧ n < 9223372036854775808 := ⟨_, rfl, by unfold wrap64; omega, by unfold wrap64; omega⟩
  rw [hn]
  clear hn
  have hyw : (In.mk a0 a1 a2 a3 n).wf := by unfold In.wf; simp only; omega
  cases ox : (In.mk a0 a1 a2 a3 a4).ok
  · have kx := encn _ hx ox
    have ky := encAny _ hyw
    clear ox
    go_wp2_with (first | (go_at_call 8; first | ((with_reducible refine (kx _ ((h.alloc _).alloc _)).mono ?_); (rintro e w1 ⟨rfl, hb1⟩); have h1 := ((h.alloc _).alloc _).of hb1; obtain ⟨hc1, hf1⟩ := bcell hb1; have hz1 : w.heap.size + 1 < w1.heap.size := (by have := hb1.size; simp at this; omega); have hz0 : w.heap.size < w1.heap.size := (by have := hb1.size; simp at this; omega)) | ((with_reducible refine (ky _ h1).mono ?_); (rintro e w2 ⟨rfl, hb2⟩); have h2 := h1.of hb2; obtain ⟨hc2, hf2⟩ := bcell hb2)) | (go_at_call 10; (with_reducible refine (alive_any _ h2).mono ?_); rintro e w3 ⟨rfl, hb3⟩))
    go_ret
    exact ⟨rfl, fin hb1 hb2 hb3⟩
  cases oy : (In.mk a0 a1 a2 a3 n).ok
  · have kx := ency _ hx ox
    have ky := encn _ hyw oy
    clear ox oy
    go_wp2_with (first | (go_at_call 8; first | ((with_reducible refine (kx _ ((h.alloc _).alloc _)).mono ?_); (rintro e w1 ⟨rfl, hb1⟩); have h1 := ((h.alloc _).alloc _).of hb1; obtain ⟨hc1, hf1⟩ := bcell hb1; have hz1 : w.heap.size + 1 < w1.heap.size := (by have := hb1.size; simp at this; omega); have hz0 : w.heap.size < w1.heap.size := (by have := hb1.size; simp at this; omega)) | ((with_reducible refine (ky _ h1).mono ?_); (rintro e w2 ⟨rfl, hb2⟩); have h2 := h1.of hb2; obtain ⟨hc2, hf2⟩ := bcell hb2)) | (go_at_call 10; (with_reducible refine (alive_any _ h2).mono ?_); rintro e w3 ⟨rfl, hb3⟩))
    go_ret
    exact ⟨rfl, fin hb1 hb2 hb3⟩
  by_cases hne : a4 = n
  · subst hne
    have kx := ency _ hx ox
    clear ox oy
    go_wp2_with (first | (go_at_call 8; first | ((with_reducible refine (kx _ ((h.alloc _).alloc _)).mono ?_); (rintro e w1 ⟨rfl, hb1⟩); have h1 := ((h.alloc _).alloc _).of hb1; obtain ⟨hc1, hf1⟩ := bcell hb1; have hz1 : w.heap.size + 1 < w1.heap.size := (by have := hb1.size; simp at this; omega); have hz0 : w.heap.size < w1.heap.size := (by have := hb1.size; simp at this; omega)) | ((with_reducible refine (kx _ h1).mono ?_); (rintro e w2 ⟨rfl, hb2⟩); have h2 := h1.of hb2; obtain ⟨hc2, hf2⟩ := bcell hb2)) | (go_at_call 10; (with_reducible refine (alive_any _ h2).mono ?_); rintro e w3 ⟨rfl, hb3⟩))
    go_ret
    exact ⟨rfl, fin hb1 hb2 hb3⟩
  have hw : (((In.mk a0 a1 a2 a3 a4).word : Int) == ((In.mk a0 a1 a2 a3 n).word : Int)) = false := by
    rw [beq_eq_false_iff_ne]
    intro e
    have e' : (In.mk a0 a1 a2 a3 a4).word = (In.mk a0 a1 a2 a3 n).word := by omega
    have := word_inj ox oy e'
    simp at this
    omega
  have hw2 : (((In.mk a0 a1 a2 a3 a4).word : Int) != ((In.mk a0 a1 a2 a3 n).word : Int)) = true := by
    rw [bne_iff_ne]; exact beq_eq_false_iff_ne.1 hw
  have hd : ((a4 : Int) == (n : Int)) = false := by rw [beq_eq_false_iff_ne]; omega
  have kx := ency _ hx ox
  have ky := ency _ hyw oy
  clear ox oy hne
  go_wp2_with (first | (go_at_call 8; first | ((with_reducible refine (kx _ ((h.alloc _).alloc _)).mono ?_); (rintro e w1 ⟨rfl, hb1⟩); have h1 := ((h.alloc _).alloc _).of hb1; obtain ⟨hc1, hf1⟩ := bcell hb1; have hz1 : w.heap.size + 1 < w1.heap.size := (by have := hb1.size; simp at this; omega); have hz0 : w.heap.size < w1.heap.size := (by have := hb1.size; simp at this; omega)) | ((with_reducible refine (ky _ h1).mono ?_); (rintro e w2 ⟨rfl, hb2⟩); have h2 := h1.of hb2; obtain ⟨hc2, hf2⟩ := bcell hb2)) | (go_at_call 10; (with_reducible refine (alive_any _ h2).mono ?_); rintro e w3 ⟨rfl, hb3⟩))
  go_ret
  exact ⟨rfl, fin hb1 hb2 hb3⟩
theorem walk (x : In) (q : Nat) (y : Int) (hx : x.wf) (hq : q < 256) (hy : -32768 ≤ y ∧ y < 32768) (w : World) (h : Tb w) :
    Calls Tryd.prog 6 #[.agg #[.int .u8 x.op, .int .u8 x.rd, .int .u8 x.rs1, .int .u8 x.rs2, .int .i64 x.imm], .int .u8 q, .int .i16 y] w fun e w' => e = .returned (.bool true) ∧ Below w.heap.size w w' := by
  obtain ⟨a0, a1, a2, a3, a4⟩ := x
  have hc : q % 4 = 0 ∨ q % 4 = 1 ∨ q % 4 = 2 ∨ q % 4 = 3 := by omega
  rcases hc with hc | hc | hc | hc
  · exact tr0 a0 a1 a2 a3 a4 q y hx hq hc hy w h
  · exact tr1 a0 a1 a2 a3 a4 q y hx hq hc hy w h
  · exact tr2 a0 a1 a2 a3 a4 q y hx hq hc hy w h
  · exact tr3 a0 a1 a2 a3 a4 q y hx hq hc hy w h
theorem walkI (m00 m01 m02 m03 m04 : Int) (y00 : (Lit.int .u8 m00).wf = true) (y01 : (Lit.int .u8 m01).wf = true) (y02 : (Lit.int .u8 m02).wf = true) (y03 : (Lit.int .u8 m03).wf = true) (y04 : (Lit.int .i64 m04).wf = true)
    (m1 : Int) (y1 : (Lit.int .u8 m1).wf = true) (m2 : Int) (y2 : (Lit.int .i16 m2).wf = true) (w : World) (h : Tb w) :
    Calls Tryd.prog 6 #[.agg #[.int .u8 m00, .int .u8 m01, .int .u8 m02, .int .u8 m03, .int .i64 m04], .int .u8 m1, .int .i16 m2] w fun e w' => e = .returned (.bool true) ∧ Below w.heap.size w w' := by
  obtain ⟨x, hx, rfl, rfl, rfl, rfl, rfl⟩ := to_in y00 y01 y02 y03 y04
  have d1 := bounds_u8 y1
  have d2 := bounds_i16 y2
  obtain ⟨q, rfl⟩ := Int.eq_ofNat_of_zero_le d1.1
  exact walk x q m2 hx (by omega) (by omega) w h
theorem own : ownKnob Tryd.prog.godebug = none := by kernel_rfl
set_option maxRecDepth 100000 in
theorem lifted (os : Os) (started : os.Started) (H : Type) (enc : TypeId × Value → H) :
    ReturnsInHanded {} Tryd.checked os 6 .any (fun w args => (Rows.insnTurnedSpec.pre enc Tryd.prog Tryd.f6 [] false w args ∧ laidMetH Tryd.prog laidAll w) ∧ sizedMet enc Tryd.prog Tryd.f6 (OpenSpec.ofChange Rows.insnTurnedSpec) false w args)
      (Rows.insnTurnedSpec.post enc Tryd.prog Tryd.f6 false true false false) := by
  refine returnsInHanded_of_change_and (C := Tryd.checked) (X := fun w _ => laidMetH Tryd.prog laidAll w) (fun _ _ _ hh h => h.of_heap hh) own started (by kernel_rfl) Tryd.func6
    (ChangeSpec.witness_shaped (enc := enc) (C := Tryd.checked) (os := os) (X := fun w _ => laidMetH Tryd.prog laidAll w) false (World.doorLaid Tryd.prog 400 os) #[.agg #[.int .u8 0, .int .u8 0, .int .u8 0, .int .u8 0, .int .i64 0], .int .u8 0, .int .i16 0] 8 rfl (World.shaped_of_RefB (by kernel_rfl) (by kernel_rfl)) (by kernel_rfl) (by kernel_rfl) (by kernel_rfl) (door_met os _)) ?_
  intro W base args ds gs before hval0 hW _ _ hL _
  have hval : ∀ (j : Nat) t v, Tryd.f6.params[j]? = some t → args[j]? = some v → Value.okWide Tryd.prog W .any base t v := hval0
  have hW' := hW
  obtain ⟨p, q, hA0, hV, rfl, hfz, hnd⟩ := hW
  have hA : DataW.TrodAll enc Tryd.prog W 0 (fun _ => true) true Tryd.f6.params.toList args.toList ds p := hA0
  rw [Tryd.params6] at hA hval
  obtain ⟨v0, vs0, d0, ds0, p0, q0, hargs, rfl, rfl, h0, r0⟩ := trodAll_cons hA
  obtain ⟨v1, vs1, d1, ds1, p1, q1, rfl, rfl, rfl, h1, r1⟩ := trodAll_cons r0
  obtain ⟨v2, vs2, d2, ds2, p2, q2, rfl, rfl, rfl, h2, r2⟩ := trodAll_cons r1
  obtain ⟨rfl, rfl, rfl⟩ := trodAll_nil r2
  obtain rfl : args = #[v0, v1, v2] := by cases args; simp_all
  obtain ⟨rfl, rfl⟩ := trodVars_none hV
  obtain ⟨m00, m01, m02, m03, m04, rfl, rfl, rfl, y00, y01, y02, y03, y04⟩ := open_insn (hval 0 23 v0 rfl rfl) h0
  obtain ⟨m1, rfl, rfl, rfl, y1⟩ := open_int Tryd.underlying5 (hval 1 5 v1 rfl rfl) h1
  obtain ⟨m2, rfl, rfl, rfl, y2⟩ := open_int Tryd.underlying35 (hval 2 35 v2 rfl rfl) h2
  clear hA0 hval0
  simp only [List.append_nil] at hW'
  refine (walkI m00 m01 m02 m03 m04 y00 y01 y02 y03 y04 m1 y1 m2 y2 W (tb_of_laid hL)).mono fun e W' ⟨he, hg⟩ => ?_
  subst he
  exact ⟨_, rfl, _, _, _, [], _, [], hW', trodAll_mk1 (shut_bool Tryd.underlying4 _), (trodAll_cons_mk (shut_insn y00 y01 y02 y03 y04) (trodAll_cons_mk (shut_int Tryd.underlying5 y1) (trodAll_cons_mk (shut_int Tryd.underlying35 y2) trodAll_mk0))), rfl, hg.frame _, fun h => by cases h⟩
theorem over : Rows.InsnTurnedSaid :=
  OpenClaim.holds_of_wide 6 Tryd.f6 rfl rfl rfl rfl rfl rfl rfl ⟨rfl, rfl, rfl, rfl, rfl⟩ rfl rfl rfl rfl rfl (by kernel_rfl) Tryd.func6 (by kernel_rfl)
    (of_decide_eq_true (by kernel_rfl)) (by unfold Func.isWrapper; first | (rw [if_pos (by decide +kernel)]; kernel_rfl) | (rw [if_neg (by decide +kernel)]; exact ⟨rfl, rfl⟩))
    (fun os started H enc _ => lifted os started H enc)
/-- The card: the row, its listed tables tied to the text of the program. -/
theorem proved : Rows.InsnTurnedCardSaid :=
  Claim7.holds_tied_plain_at .later [] [.data, .data] true Rows.insnTurnedCard.stood.harness Rows.insnTurnedCard.stood.looks
    over (fun _ h => by cases h) (by kernel_rfl) (fun _ h => by cases h) insnTurned_row_tie rfl ⟨rfl, rfl⟩ (by kernel_rfl) rfl
    (fun f fn hf hfn => by
      obtain rfl : f = 6 := Option.some.inj ((show Tryd.prog.funcNamed "sacristy/sacristylaw02.InsnTurned" = some 6 by kernel_rfl).symm.trans hf) |>.symm
      obtain rfl : fn = Tryd.f6 := (Option.some.inj (Tryd.func6.symm.trans hfn)).symm
      exact ⟨by kernel_rfl, fun j t ht => by
        rw [Tryd.params6] at ht
        have hm : t ∈ [23, 5, 35] := by simpa using Array.mem_of_getElem? ht
        have hall : ([23, 5, 35].all fun u => !Tryd.prog.wantsStandIn u) = true := by kernel_rfl
        exact (show Tryd.prog.wantsStandIn t = false by simpa using List.all_eq_true.1 hall t hm)⟩)
    (by kernel_rfl)
end Go.Proofs.YthlmdcokiamfkaaDoor.insnTurned
