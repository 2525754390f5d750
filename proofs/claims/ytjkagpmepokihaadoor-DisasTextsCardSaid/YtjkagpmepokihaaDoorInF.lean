/- Contract of insn.takes. -/
import Derived.Test.YtjkagpmepokihaaDoorInE
namespace Go.Proofs.YtjkagpmepokihaaDoor
open Go.ChangeShapes Go.WideShapes Go.ChangeAt Go.RowKit
set_option linter.unusedVariables false
theorem fillsImm_any (f : Nat) (hf : f ≤ 8) (hf0 : f ≠ 0) (v : Int) (h0 : -9223372036854775808 ≤ v) (h1 : v < 9223372036854775808) (w : World) (hs : ShapesOk w) :
    Calls Tryd.prog 42 #[.int .u8 f, .int .i64 v] w fun e w' => e = .returned (.bool (immB f v)) ∧ Below w.heap.size w w' := by
  rcases form_cases hf hf0 with rfl | rfl | rfl | rfl | rfl | rfl | rfl | rfl
  · exact fillsImm_1 v h0 h1 w hs
  · exact fillsImm_2 v h0 h1 w hs
  · exact fillsImm_3 v h0 h1 w hs
  · exact fillsImm_4 v h0 h1 w hs
  · exact fillsImm_5 v h0 h1 w hs
  · exact fillsImm_6 v h0 h1 w hs
  · exact fillsImm_7 v h0 h1 w hs
  · exact fillsImm_8 v h0 h1 w hs
theorem ShapesOk.alloc {w : World} (h : ShapesOk w) (o : Obj) : ShapesOk (w.alloc o) := h.of ((Below.refl _ _).alloc (Nat.le_refl _) _)
theorem takes_any (f op rd rs1 rs2 : Nat) (v : Int) (hf : f ≤ 8) (hop : op < 256) (hrd : rd < 256) (hr1 : rs1 < 256) (hr2 : rs2 < 256) (h0 : -9223372036854775808 ≤ v) (h1 : v < 9223372036854775808) (w : World) (hs : ShapesOk w) :
    Calls Tryd.prog 28 #[.int .u8 f, .agg #[.int .u8 op, .int .u8 rd, .int .u8 rs1, .int .u8 rs2, .int .i64 v]] w fun e w' => e = .returned (.bool (takesB f rd rs1 rs2 v)) ∧ Below w.heap.size w w' := by
  by_cases hf0 : f = 0
  · subst hf0
    go_enter Tryd.func28, Tryd.ntmps28
    go_wp2
    go_ret
    exact ⟨rfl, (Below.refl _ _).alloc (Nat.le_refl _) _⟩
  obtain ⟨s0, s1, s2, s3, s4⟩ := hs f (by omega)
  have hz : ((f : Int) == 0) = false := by simpa using hf0
  have hg : 3 < w.heap.size := World.block_lt_of_cell? w _ s0
  have hi0 : (0 : Int) ≤ (f : Int) := by omega
  have hi9 : (f : Int) < 9 := by omega
  have c1 := fillsReg_any (rdT f) rd hrd
  have c2 := fillsReg_any (rs1T f) rs1 hr1
  have c3 := fillsReg_any (rs2T f) rs2 hr2
  cases b1 : regB (rdT f) rd
  · rw [b1] at c1
    have HR := Lib.hid (show takesB f rd rs1 rs2 v = false by simp [takesB, b1])
    clear b1
    go_enter Tryd.func28, Tryd.ntmps28
    go_wp2_with (go_at_call 41; first | ((with_reducible refine (c1 _).mono ?_); rintro e w' ⟨rfl, rfl⟩))
    go_ret
    exact ⟨by rw [HR.out]; rfl, ((Below.refl _ _).alloc (Nat.le_refl _) _).alloc (by simp) _⟩
  rw [b1] at c1
  cases b2 : regB (rs1T f) rs1
  · rw [b2] at c2
    have HR := Lib.hid (show takesB f rd rs1 rs2 v = false by simp [takesB, b1, b2])
    clear b1 b2
    go_enter Tryd.func28, Tryd.ntmps28
    go_wp2_with (go_at_call 41; first | ((with_reducible refine (c1 _).mono ?_); rintro e w' ⟨rfl, rfl⟩) | ((with_reducible refine (c2 _).mono ?_); rintro e w' ⟨rfl, rfl⟩))
    go_ret
    exact ⟨by rw [HR.out]; rfl, ((Below.refl _ _).alloc (Nat.le_refl _) _).alloc (by simp) _⟩
  rw [b2] at c2
  cases b3 : regB (rs2T f) rs2
  · rw [b3] at c3
    have HR := Lib.hid (show takesB f rd rs1 rs2 v = false by simp [takesB, b1, b2, b3])
    clear b1 b2 b3
    go_enter Tryd.func28, Tryd.ntmps28
    go_wp2_with (go_at_call 41; first | ((with_reducible refine (c1 _).mono ?_); rintro e w' ⟨rfl, rfl⟩) | ((with_reducible refine (c2 _).mono ?_); rintro e w' ⟨rfl, rfl⟩) | ((with_reducible refine (c3 _).mono ?_); rintro e w' ⟨rfl, rfl⟩))
    go_ret
    exact ⟨by rw [HR.out]; rfl, ((Below.refl _ _).alloc (Nat.le_refl _) _).alloc (by simp) _⟩
  rw [b3] at c3
  have HR := Lib.hid (show takesB f rd rs1 rs2 v = immB f v by simp [takesB, b1, b2, b3, hf0])
  clear b1 b2 b3
  go_enter Tryd.func28, Tryd.ntmps28
  go_wp2_with (first | (go_at_call 41; first | ((with_reducible refine (c1 _).mono ?_); rintro e w' ⟨rfl, rfl⟩) | ((with_reducible refine (c2 _).mono ?_); rintro e w' ⟨rfl, rfl⟩) | ((with_reducible refine (c3 _).mono ?_); rintro e w' ⟨rfl, rfl⟩)) | (go_at_call 42; ((with_reducible refine (fillsImm_any f hf hf0 v h0 h1 _ ((hs.alloc _).alloc _)).mono ?_); rintro e w' ⟨rfl, hb⟩)))
  go_ret
  exact ⟨by rw [HR.out]; rfl, Below.trans (((Below.refl _ _).alloc (Nat.le_refl _) _).alloc (by simp) _) (hb.mono (by simp; omega))⟩
end Go.Proofs.YtjkagpmepokihaaDoor
