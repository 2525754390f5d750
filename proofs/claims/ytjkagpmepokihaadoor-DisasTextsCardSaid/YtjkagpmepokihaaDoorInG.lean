/- Contract of insn.Encode: for any instruction. -/
import Derived.Test.YtjkagpmepokihaaDoorInF
import Derived.Test.YtjkagpmepokihaaDoorInU
import Derived.Test.YtjkagpmepokihaaDoorAsm
namespace Go.Proofs.YtjkagpmepokihaaDoor
open Go.ChangeShapes Go.WideShapes Go.ChangeAt Go.RowKit
set_option linter.unusedVariables false
theorem bcell {W w1 : World} (hb : Below W.heap.size W w1) : (∀ b o, b < W.heap.size → w1.cell? ⟨b, o, none⟩ = W.cell? ⟨b, o, none⟩) ∧ (∀ b o, b < W.heap.size → w1.frozen? ⟨b, o, none⟩ = W.frozen? ⟨b, o, none⟩) :=
  ⟨fun b o h => hb.cell (p := ⟨b, o, none⟩) h, fun b o h => hb.frozen (p := ⟨b, o, none⟩) h⟩
/-- An instruction, as the model has it. -/
abbrev insnV (op rd rs1 rs2 : Nat) (v : Int) : Value := .agg #[.int .u8 op, .int .u8 rd, .int .u8 rs1, .int .u8 rs2, .int .i64 v]
def encW (op rd rs1 rs2 : Nat) (v : Int) : Nat := if okB op rd rs1 rs2 v then wordN op rd rs1 rs2 v else 0
def encE (op rd rs1 rs2 : Nat) (v : Int) : Int := if okB op rd rs1 rs2 v then 0 else 2
set_option maxHeartbeats 800000 in
theorem enc_any (op rd rs1 rs2 : Nat) (v : Int) (hop : op < 256) (hrd : rd < 256) (hr1 : rs1 < 256) (hr2 : rs2 < 256) (h0 : -9223372036854775808 ≤ v) (h1 : v < 9223372036854775808) (w : World) (hr : RowsOk w) (hs : ShapesOk w) :
    Calls Tryd.prog 15 #[.agg #[.int .u8 op, .int .u8 rd, .int .u8 rs1, .int .u8 rs2, .int .i64 v]] w fun e w' => e = .returned (.tuple #[.int .u32 (encW op rd rs1 rs2 v : Nat), .int .i64 (encE op rd rs1 rs2 v)]) ∧ Below w.heap.size w w' := by
  by_cases hlt : op < 35
  · obtain ⟨s0, s1, s2, s3⟩ := hr op hlt
    have hg : 2 < w.heap.size := World.block_lt_of_cell? w _ s0
    have hi0 : (0 : Int) ≤ (op : Int) := by omega
    have hi9 : (op : Int) < 35 := by omega
    have hft : formT op ≤ 8 := ((by decide +kernel : ∀ k < 35, formT k ≤ 8) op hlt)
    have ht := takes_any (formT op) op rd rs1 rs2 v hft hop hrd hr1 hr2 h0 h1
    cases hb : takesB (formT op) rd rs1 rs2 v
    · rw [hb] at ht
      have HW := Lib.hid (show encW op rd rs1 rs2 v = 0 by simp [encW, okB, hb])
      have HE := Lib.hid (show encE op rd rs1 rs2 v = 2 by simp [encE, okB, hb])
      clear hb
      go_enter Tryd.func15, Tryd.ntmps15
      go_wp2_with (go_at_call 28; ((with_reducible refine (ht _ ((hs.alloc _).alloc _)).mono ?_); rintro e w' ⟨rfl, hb⟩))
      go_ret2
      exact ⟨by rw [HW.out, HE.out]; rfl, Below.trans (((Below.refl _ _).alloc (Nat.le_refl _) _).alloc (by simp) _) (hb.mono (by simp; omega))⟩
    · rw [hb] at ht
      have hfm : 1 ≤ formT op ∧ formT op ≤ 8 := by
        have : formT op ≠ 0 := by intro e; simp [takesB, e] at hb
        omega
      have hT : codeT op < 128 ∧ f3T op < 8 ∧ f7T op < 128 := by
        have := tabs op hlt (by omega)
        exact ⟨this.2.1, this.2.2.1, this.2.2.2.1⟩
      have HW := Lib.hid (show encW op rd rs1 rs2 v = layv (piecesv (formT op) (codeT op) (f3T op) (f7T op) rd rs1 rs2 v) by simp [encW, okB, hb, hlt, wordN])
      have HE := Lib.hid (show encE op rd rs1 rs2 v = 0 by simp [encE, okB, hb, hlt])
      clear hb
      go_enter Tryd.func15, Tryd.ntmps15
      go_wp2_with (first | (go_at_call 28; ((with_reducible refine (ht _ ((hs.alloc _).alloc _)).mono ?_); (rintro e w1 ⟨rfl, hb⟩); obtain ⟨hc, hf⟩ := bcell hb)) | (go_at_call 29; ((with_reducible refine (asm_any _ _ _ _ op rd rs1 rs2 v (by omega) (by omega) (by omega) hfm hrd hr1 hr2 h0 h1 _).mono ?_); rintro e w2 ⟨rfl, hb2⟩)))
      go_ret2
      exact ⟨by rw [HW.out, HE.out]; rfl, Below.trans (((Below.refl _ _).alloc (Nat.le_refl _) _).alloc (by simp) _) (Below.trans (hb.mono (by simp; omega)) (hb2.mono (by have := hb.size; simp at this; omega)))⟩
  · have HW := Lib.hid (show encW op rd rs1 rs2 v = 0 by simp [encW, okB, hlt])
    have HE := Lib.hid (show encE op rd rs1 rs2 v = 2 by simp [encE, okB, hlt])
    go_enter Tryd.func15, Tryd.ntmps15
    go_wp2
    go_ret2
    exact ⟨by rw [HW.out, HE.out]; rfl, (Below.refl _ _).alloc (Nat.le_refl _) _⟩
end Go.Proofs.YtjkagpmepokihaaDoor
