/- The chapter's examples of layer 3 (alive), as the statements ask them: they hold. -/
import Derived.Test.YtjkagpmepokihaaDoorAlD
import Derived.Test.YtjkagpmepokihaaDoorTxt
namespace Go.Proofs.YtjkagpmepokihaaDoor
open Go.ChangeShapes Go.WideShapes Go.ChangeAt Go.RowKit
set_option linter.unusedVariables false
theorem lv_1 : isW 4293918867 ⟨15, 1, 0, 0, -1⟩ := by unfold isW; decide +kernel
theorem lv_2 : decN 0 = none := by decide +kernel
theorem lv_3 : decN 4294967295 = none := by decide +kernel
theorem lv_4 : isW (wdAt ⟨#[115, 0, 0, 0]⟩ 0) ⟨34, 0, 0, 0, 0⟩ := by unfold isW; decide +kernel
theorem lv_5 : (In.mk 29 0 5 0 (-4)).ok = true := by decide +kernel
theorem lv_6 : (In.mk 0 0 0 0 0).ok = false := by decide +kernel
theorem dd (n : Nat) (h : n < 10) : Lib.decDigits n = [UInt8.ofNat (48 + n)] := by rw [Lib.decDigits, dif_pos h]
theorem lv_7 : txtB ⟨29, 0, 5, 0, -4⟩ = [98, 110, 101, 32, 120, 53, 32, 120, 48, 32, 45, 52] := by
  have e1 : Lib.itoa (-4) = [45, 52] := by
    unfold Lib.itoa
    rw [if_pos (by omega), show (-4 : Int).natAbs = 4 from rfl, dd 4 (by omega)]
    rfl
  have e2 : regT true 5 = [32, 120, 53] := by unfold regT; rw [if_pos rfl, dd 5 (by omega)]; rfl
  have e3 : regT true 0 = [32, 120, 48] := by unfold regT; rw [if_pos rfl, dd 0 (by omega)]; rfl
  have e4 : regT false 0 = [] := rfl
  unfold txtB
  rw [show rdT (formT (In.mk 29 0 5 0 (-4)).op) = false by decide +kernel, show rs1T (formT (In.mk 29 0 5 0 (-4)).op) = true by decide +kernel, show rs2T (formT (In.mk 29 0 5 0 (-4)).op) = true by decide +kernel, show immT (formT (In.mk 29 0 5 0 (-4)).op) = true by decide +kernel, show nameB (In.mk 29 0 5 0 (-4)).op = [98, 110, 101] by decide +kernel]
  simp only [e1, e2, e3, e4, if_true]
  rfl
theorem lc_1 (w : World) (hT : Tb w) : Calls Tryd.prog 7 #[.int .u32 4293918867] w fun e w' => e = .returned (.tuple #[.agg #[.int .u8 15, .int .u8 1, .int .u8 0, .int .u8 0, .int .i64 (-1)], .int .i64 0]) ∧ Below w.heap.size w w' :=
  dec_is (v := 4293918867) (by omega) lv_1 w hT
theorem lc_2 (w : World) (hT : Tb w) : Calls Tryd.prog 7 #[.int .u32 0] w fun e w' => e = .returned (.tuple #[.agg #[.int .u8 0, .int .u8 0, .int .u8 0, .int .u8 0, .int .i64 0], .int .i64 7]) ∧ Below w.heap.size w w' :=
  dec_isnt (v := 0) (by omega) lv_2 w hT
theorem lc_3 (w : World) (hT : Tb w) : Calls Tryd.prog 7 #[.int .u32 4294967295] w fun e w' => e = .returned (.tuple #[.agg #[.int .u8 0, .int .u8 0, .int .u8 0, .int .u8 0, .int .i64 0], .int .i64 7]) ∧ Below w.heap.size w w' :=
  dec_isnt (v := 4294967295) (by omega) lv_3 w hT
theorem lv_8 : ∀ i (h : i < [(⟨34, 0, 0, 0, 0⟩ : In)].length), isW (wdAt ⟨#[115, 0, 0, 0]⟩ i) [(⟨34, 0, 0, 0, 0⟩ : In)][i] := by
  intro i h
  have h' : i < 1 := h
  obtain rfl : i = 0 := by omega
  exact lv_4
theorem lc_4 (w : World) (hT : Tb w) : Calls Tryd.prog 12 #[.string ⟨#[115, 0, 0, 0]⟩] w fun e w' => (∃ g cap, e = .returned (.tuple #[.slice (some ⟨g, 0, none⟩) 1 cap, .int .i64 0])) ∧ Below w.heap.size w w' :=
  (dall_yes ⟨#[115, 0, 0, 0]⟩ [⟨34, 0, 0, 0, 0⟩] rfl (by decide) lv_8 w hT).mono fun e w' ⟨⟨v, h1, h2⟩, h3⟩ => by
    obtain ⟨g, cap, rfl⟩ := Joins.ownsRow_form h2 (by decide)
    exact ⟨⟨g, cap, h1⟩, h3⟩
theorem lc_5 (w : World) : Calls Tryd.prog 12 #[.string ⟨#[115]⟩] w fun e w' => e = .returned (.tuple #[.slice none 0 0, .int .i64 7]) ∧ Below w.heap.size w w' :=
  dall_odd ⟨#[115]⟩ (by decide) (by decide) w
theorem lc_6 (w : World) (hT : Tb w) : Calls Tryd.prog 9 #[.agg #[.int .u8 29, .int .u8 0, .int .u8 5, .int .u8 0, .int .i64 (-4)]] w fun e w' => e = .returned (.string ⟨#[98, 110, 101, 32, 120, 53, 32, 120, 48, 32, 45, 52]⟩) ∧ Below w.heap.size w w' := by
  have h := txt_yes ⟨29, 0, 5, 0, -4⟩ (by unfold In.wf; decide) lv_5 w hT
  rw [lv_7] at h
  exact h
theorem lc_7 (w : World) (hT : Tb w) : Calls Tryd.prog 9 #[.agg #[.int .u8 0, .int .u8 0, .int .u8 0, .int .u8 0, .int .i64 0]] w fun e w' => e = .returned (.string ⟨#[63]⟩) ∧ Below w.heap.size w w' :=
  txt_no ⟨0, 0, 0, 0, 0⟩ (by unfold In.wf; decide) lv_6 w hT
set_option maxRecDepth 100000 in
set_option maxHeartbeats 2000000 in
theorem alive_any (w : World) (h : Tb w) : Calls Tryd.prog 11 #[] w fun e w' => e = .returned (.bool true) ∧ Below w.heap.size w w' := by
  go_enter Tryd.func11, Tryd.ntmps11
  go_wp2_with (first | (go_at_call 7; first | ((with_reducible refine (lc_1 _ h).mono ?_); (rintro e w1 ⟨rfl, b1⟩); have B1 := b1.alloc b1.size (.cells #[.int .u8 15, .int .u8 1, .int .u8 0, .int .u8 0, .int .i64 (-1)] 24); have T1 := h.of B1; have R1 := rowG_new #[.int .u8 15, .int .u8 1, .int .u8 0, .int .u8 0, .int .i64 (-1)] 24 w1) | ((with_reducible refine (lc_2 _ T1).mono ?_); (rintro e w2 ⟨rfl, b2⟩); have B2 := below_trans' B1 (Nat.le_refl _) (b2.alloc b2.size (.cells #[.int .u8 0, .int .u8 0, .int .u8 0, .int .u8 0, .int .i64 0] 24)); have T2 := h.of B2) | ((with_reducible refine (lc_3 _ T2).mono ?_); (rintro e w3 ⟨rfl, b3⟩); have B3 := below_trans' B2 (Nat.le_refl _) (b3.alloc b3.size (.cells #[.int .u8 0, .int .u8 0, .int .u8 0, .int .u8 0, .int .i64 0] 24)); have T3 := h.of B3)) | (go_at_call 12; first | ((with_reducible refine (lc_4 _ T3).mono ?_); (rintro e w4 ⟨⟨g, cap, rfl⟩, b4⟩); have B4 := below_trans' B3 (Nat.le_refl _) b4) | ((with_reducible refine (lc_5 _).mono ?_); (rintro e w5 ⟨rfl, b5⟩); have B5 := below_trans' B4 (Nat.le_refl _) b5; have T5 := h.of B5; have R2 := rowG_alloc (rowG_below R1 b2 R1.2.2) (.cells #[.int .u8 0, .int .u8 0, .int .u8 0, .int .u8 0, .int .i64 0] 24); have R3 := rowG_alloc (rowG_below R2 b3 R2.2.2) (.cells #[.int .u8 0, .int .u8 0, .int .u8 0, .int .u8 0, .int .i64 0] 24); have R4 := rowG_below R3 b4 R3.2.2; have R5 := rowG_below R4 b5 R4.2.2; have f0 : w5.cell? ⟨w1.heap.size, 0, none⟩ = some (.int .u8 15) := R5.1 0 (by simp); have f1 : w5.cell? ⟨w1.heap.size, 1, none⟩ = some (.int .u8 1) := R5.1 1 (by simp); have f2 : w5.cell? ⟨w1.heap.size, 2, none⟩ = some (.int .u8 0) := R5.1 2 (by simp); have f3 : w5.cell? ⟨w1.heap.size, 3, none⟩ = some (.int .u8 0) := R5.1 3 (by simp); have f4 : w5.cell? ⟨w1.heap.size, 4, none⟩ = some (.int .i64 (-1)) := R5.1 4 (by simp))) | (go_at_call 9; first | ((with_reducible refine (lc_6 _ T5).mono ?_); (rintro e w6 ⟨rfl, b6⟩); have B6 := below_trans' B5 (Nat.le_refl _) b6; have T6 := h.of B6) | ((with_reducible refine (lc_7 _ T6).mono ?_); (rintro e w7 ⟨rfl, b7⟩); have B7 := below_trans' B6 (Nat.le_refl _) b7))) 
  go_ret
  exact ⟨rfl, B7⟩
end Go.Proofs.YtjkagpmepokihaaDoor
