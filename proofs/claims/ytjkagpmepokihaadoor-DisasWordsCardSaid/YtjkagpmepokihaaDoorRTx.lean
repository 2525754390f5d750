/- Contract of the document's own answer Text of layer 3: for any instruction. -/
import Derived.Test.YtjkagpmepokihaaDoorRDe
import Derived.Test.YtjkagpmepokihaaDoorNum
import Derived.Test.YtjkagpmepokihaaDoorNam
namespace Go.Proofs.YtjkagpmepokihaaDoor
open Go.ChangeShapes Go.WideShapes Go.ChangeAt Go.RowKit
set_option linter.unusedVariables false
theorem imm_low (f : Nat) (hf : f ≤ 8) (h0 : f ≠ 0) (v : Int) (h : immB f v = true) : -2147483648 ≤ v := by
  rcases form_cases hf h0 with rfl | rfl | rfl | rfl | rfl | rfl | rfl | rfl
  · have := (imm1 v).1 h; omega
  · have := (imm2 v).1 h; omega
  · have := (imm3 v).1 h; omega
  · have := (imm4 v).1 h; omega
  · have := (imm5 v).1 h; omega
  · have := (imm6 v).1 h; omega
  · have := (imm7 v).1 h; omega
  · have := (imm8 v).1 h; omega
theorem rtxt_no (x : In) (h : x.wf) (ho : x.ok = false) (w : World) :
    Calls Tryd.prog 10 #[.agg (inC x)] w fun e w' => e = .returned (.string (str [63])) ∧ Below w.heap.size w w' := by
  unfold inC
  have hE := rencn x h ho
  go_enter Tryd.func10, Tryd.ntmps10
  go_wp2_with (go_at_call 20; (with_reducible refine (hE _).mono ?_); rintro e w1 ⟨rfl, hb⟩)
  go_ret
  exact ⟨rfl, below_trans' ((Below.refl _ _).alloc (Nat.le_refl _) _) (Nat.le_refl _) (hb.mono (by simp))⟩
set_option maxRecDepth 100000 in
set_option maxHeartbeats 4000000 in
theorem rtxt_1 (x : In) (h : x.wf) (ho : x.ok = true) (hf : formT x.op = 1) (w : World) :
    Calls Tryd.prog 10 #[.agg (inC x)] w fun e w' => e = .returned (.string (str (txtB x))) ∧ Below w.heap.size w w' := by
  unfold inC
  have hE := rency x h ho
  obtain ⟨k1, k2, k3, k4, k5, k6⟩ := ok_parts ho
  have hop := op_of ho
  have hO := rof_any x.op hop.1 hop.2
  have hN := rnam_any x.op hop.1 hop.2
  have zn := name_len x.op k1
  have hlow := imm_low (formT x.op) (form_le x.op k1) k2 x.imm k6
  obtain ⟨hw0, hw1, hw2, hw3, hw4, hw5⟩ := h
  have nD := num_nat x.rd (by omega)
  have nE := num_nat x.rs1 (by omega)
  have nG := num_nat x.rs2 (by omega)
  have nI := num_int x.imm (by omega) hw5
  have zD := dig_len x.rd (by omega)
  have zE := dig_len x.rs1 (by omega)
  have zG := dig_len x.rs2 (by omega)
  have zI : (Lib.itoa x.imm).length ≤ 21 := Lib.itoa_length_le x.imm hw4 (by omega)
  have hsum : str (txtB x) = str (nameB x.op) ++ ⟨#[32, 120]⟩ ++ str (Lib.decDigits x.rd) ++ ⟨#[32, 120]⟩ ++ str (Lib.decDigits x.rs1) ++ ⟨#[32, 120]⟩ ++ str (Lib.decDigits x.rs2) := by
    unfold txtB
    rw [hf]
    show str (nameB x.op ++ regT true x.rd ++ regT true x.rs1 ++ regT true x.rs2 ++ (if false then 32 :: Lib.itoa x.imm else [])) = _
    apply ByteArray.ext
    simp [str, regT]
  rw [hf] at hO
  rw [← str_size] at zn zD zE zG zI
  obtain ⟨A0, hA0⟩ : ∃ s, str (nameB x.op) = s := ⟨_, rfl⟩
  obtain ⟨D, hD⟩ : ∃ s, str (Lib.decDigits x.rd) = s := ⟨_, rfl⟩
  obtain ⟨E, hE'⟩ : ∃ s, str (Lib.decDigits x.rs1) = s := ⟨_, rfl⟩
  obtain ⟨G, hG⟩ : ∃ s, str (Lib.decDigits x.rs2) = s := ⟨_, rfl⟩
  obtain ⟨I, hI⟩ : ∃ s, str (Lib.itoa x.imm) = s := ⟨_, rfl⟩
  obtain ⟨sT, hsT⟩ : ∃ s, str (txtB x) = s := ⟨_, rfl⟩
  rw [hsT]
  simp only [hA0, hD, hE', hG, hI, hsT] at hsum zn zD zE zG zI nD nE nG nI hN
  clear hA0 hD hE' hG hI hsT k2 k3 k4 k5 k6 hf
  go_enter Tryd.func10, Tryd.ntmps10
  go_wp2_with (first | (go_at_call 20; (with_reducible refine (hE _).mono ?_); (rintro e w1 ⟨rfl, b1⟩); have B0 := (Below.refl w.heap.size w).alloc (Nat.le_refl _) (.cells #[.int .u8 x.op, .int .u8 x.rd, .int .u8 x.rs1, .int .u8 x.rs2, .int .i64 x.imm] 24); have B1 := below_trans' B0 (Nat.le_refl _) (b1.mono (by simp)); have R1 := rowG_below (rowG_new #[.int .u8 x.op, .int .u8 x.rd, .int .u8 x.rs1, .int .u8 x.rs2, .int .i64 x.imm] 24 w) b1 (by simp); have g1 := R1.2.2; have c0 : w1.cell? ⟨w.heap.size, 0, none⟩ = some (.int .u8 x.op) := R1.1 0 (by simp); have c1 : w1.cell? ⟨w.heap.size, 1, none⟩ = some (.int .u8 x.rd) := R1.1 1 (by simp); have c2 : w1.cell? ⟨w.heap.size, 2, none⟩ = some (.int .u8 x.rs1) := R1.1 2 (by simp); have c3 : w1.cell? ⟨w.heap.size, 3, none⟩ = some (.int .u8 x.rs2) := R1.1 3 (by simp); have c4 : w1.cell? ⟨w.heap.size, 4, none⟩ = some (.int .i64 x.imm) := R1.1 4 (by simp)) | (go_at_call 18; (with_reducible refine (hO _).mono ?_); (rintro e w2 ⟨rfl, b2⟩); have B2 := below_trans' B1 (Nat.le_refl _) (b2.alloc b2.size (.cells #[.int .u32 (codeT x.op : Nat), .int .u32 (f3T x.op : Nat), .int .u32 (f7T x.op : Nat), .int .i64 1] 46)); have R2 := rowG_alloc (rowG_below R1 b2 R1.2.2) (.cells #[.int .u32 (codeT x.op : Nat), .int .u32 (f3T x.op : Nat), .int .u32 (f7T x.op : Nat), .int .i64 1] 46); have R2' := rowG_below R1 b2 R1.2.2; have g2 := R2'.2.2; have d0 : w2.cell? ⟨w.heap.size, 0, none⟩ = some (.int .u8 x.op) := R2'.1 0 (by simp); have d1 : w2.cell? ⟨w.heap.size, 1, none⟩ = some (.int .u8 x.rd) := R2'.1 1 (by simp); have d2 : w2.cell? ⟨w.heap.size, 2, none⟩ = some (.int .u8 x.rs1) := R2'.1 2 (by simp); have d3 : w2.cell? ⟨w.heap.size, 3, none⟩ = some (.int .u8 x.rs2) := R2'.1 3 (by simp); have d4 : w2.cell? ⟨w.heap.size, 4, none⟩ = some (.int .i64 x.imm) := R2'.1 4 (by simp)) | (go_at_call 24; (with_reducible refine (hN _).mono ?_); (rintro e w3 ⟨rfl, b3⟩); have B3 := below_trans' B2 (Nat.le_refl _) b3; have R3 := rowG_below R2 b3 R2.2.2; have g3 := R3.2.2; have e0 : w3.cell? ⟨w.heap.size, 0, none⟩ = some (.int .u8 x.op) := R3.1 0 (by simp); have e1 : w3.cell? ⟨w.heap.size, 1, none⟩ = some (.int .u8 x.rd) := R3.1 1 (by simp); have e2 : w3.cell? ⟨w.heap.size, 2, none⟩ = some (.int .u8 x.rs1) := R3.1 2 (by simp); have e3 : w3.cell? ⟨w.heap.size, 3, none⟩ = some (.int .u8 x.rs2) := R3.1 3 (by simp); have e4 : w3.cell? ⟨w.heap.size, 4, none⟩ = some (.int .i64 x.imm) := R3.1 4 (by simp)) | (go_at_call 25; first | ((with_reducible refine (nD _).mono ?_); (rintro e w4 ⟨rfl, b4⟩); have B4 := below_trans' B3 (Nat.le_refl _) b4; have R4 := rowG_below R3 b4 R3.2.2; have g4 := R4.2.2; have p4_0 : w4.cell? ⟨w.heap.size, 0, none⟩ = some (.int .u8 x.op) := R4.1 0 (by simp); have p4_1 : w4.cell? ⟨w.heap.size, 1, none⟩ = some (.int .u8 x.rd) := R4.1 1 (by simp); have p4_2 : w4.cell? ⟨w.heap.size, 2, none⟩ = some (.int .u8 x.rs1) := R4.1 2 (by simp); have p4_3 : w4.cell? ⟨w.heap.size, 3, none⟩ = some (.int .u8 x.rs2) := R4.1 3 (by simp); have p4_4 : w4.cell? ⟨w.heap.size, 4, none⟩ = some (.int .i64 x.imm) := R4.1 4 (by simp)) | ((with_reducible refine (nE _).mono ?_); (rintro e w5 ⟨rfl, b5⟩); have B5 := below_trans' B4 (Nat.le_refl _) b5; have R5 := rowG_below R4 b5 R4.2.2; have g5 := R5.2.2; have p5_0 : w5.cell? ⟨w.heap.size, 0, none⟩ = some (.int .u8 x.op) := R5.1 0 (by simp); have p5_1 : w5.cell? ⟨w.heap.size, 1, none⟩ = some (.int .u8 x.rd) := R5.1 1 (by simp); have p5_2 : w5.cell? ⟨w.heap.size, 2, none⟩ = some (.int .u8 x.rs1) := R5.1 2 (by simp); have p5_3 : w5.cell? ⟨w.heap.size, 3, none⟩ = some (.int .u8 x.rs2) := R5.1 3 (by simp); have p5_4 : w5.cell? ⟨w.heap.size, 4, none⟩ = some (.int .i64 x.imm) := R5.1 4 (by simp)) | ((with_reducible refine (nG _).mono ?_); (rintro e w6 ⟨rfl, b6⟩); have B6 := below_trans' B5 (Nat.le_refl _) b6; have R6 := rowG_below R5 b6 R5.2.2; have g6 := R6.2.2; have p6_0 : w6.cell? ⟨w.heap.size, 0, none⟩ = some (.int .u8 x.op) := R6.1 0 (by simp); have p6_1 : w6.cell? ⟨w.heap.size, 1, none⟩ = some (.int .u8 x.rd) := R6.1 1 (by simp); have p6_2 : w6.cell? ⟨w.heap.size, 2, none⟩ = some (.int .u8 x.rs1) := R6.1 2 (by simp); have p6_3 : w6.cell? ⟨w.heap.size, 3, none⟩ = some (.int .u8 x.rs2) := R6.1 3 (by simp); have p6_4 : w6.cell? ⟨w.heap.size, 4, none⟩ = some (.int .i64 x.imm) := R6.1 4 (by simp))))
  go_ret
  exact ⟨by rw [hsum]; rfl, B6⟩
set_option maxRecDepth 100000 in
set_option maxHeartbeats 4000000 in
theorem rtxt_2 (x : In) (h : x.wf) (ho : x.ok = true) (hf : formT x.op = 2) (w : World) :
    Calls Tryd.prog 10 #[.agg (inC x)] w fun e w' => e = .returned (.string (str (txtB x))) ∧ Below w.heap.size w w' := by
  unfold inC
  have hE := rency x h ho
  obtain ⟨k1, k2, k3, k4, k5, k6⟩ := ok_parts ho
  have hop := op_of ho
  have hO := rof_any x.op hop.1 hop.2
  have hN := rnam_any x.op hop.1 hop.2
  have zn := name_len x.op k1
  have hlow := imm_low (formT x.op) (form_le x.op k1) k2 x.imm k6
  obtain ⟨hw0, hw1, hw2, hw3, hw4, hw5⟩ := h
  have nD := num_nat x.rd (by omega)
  have nE := num_nat x.rs1 (by omega)
  have nG := num_nat x.rs2 (by omega)
  have nI := num_int x.imm (by omega) hw5
  have zD := dig_len x.rd (by omega)
  have zE := dig_len x.rs1 (by omega)
  have zG := dig_len x.rs2 (by omega)
  have zI : (Lib.itoa x.imm).length ≤ 21 := Lib.itoa_length_le x.imm hw4 (by omega)
  have hsum : str (txtB x) = str (nameB x.op) ++ ⟨#[32, 120]⟩ ++ str (Lib.decDigits x.rd) ++ ⟨#[32, 120]⟩ ++ str (Lib.decDigits x.rs1) ++ ⟨#[32]⟩ ++ str (Lib.itoa x.imm) := by
    unfold txtB
    rw [hf]
    show str (nameB x.op ++ regT true x.rd ++ regT true x.rs1 ++ regT false x.rs2 ++ (if true then 32 :: Lib.itoa x.imm else [])) = _
    apply ByteArray.ext
    simp [str, regT]
  rw [hf] at hO
  rw [← str_size] at zn zD zE zG zI
  obtain ⟨A0, hA0⟩ : ∃ s, str (nameB x.op) = s := ⟨_, rfl⟩
  obtain ⟨D, hD⟩ : ∃ s, str (Lib.decDigits x.rd) = s := ⟨_, rfl⟩
  obtain ⟨E, hE'⟩ : ∃ s, str (Lib.decDigits x.rs1) = s := ⟨_, rfl⟩
  obtain ⟨G, hG⟩ : ∃ s, str (Lib.decDigits x.rs2) = s := ⟨_, rfl⟩
  obtain ⟨I, hI⟩ : ∃ s, str (Lib.itoa x.imm) = s := ⟨_, rfl⟩
  obtain ⟨sT, hsT⟩ : ∃ s, str (txtB x) = s := ⟨_, rfl⟩
  rw [hsT]
  simp only [hA0, hD, hE', hG, hI, hsT] at hsum zn zD zE zG zI nD nE nG nI hN
  clear hA0 hD hE' hG hI hsT k2 k3 k4 k5 k6 hf
  go_enter Tryd.func10, Tryd.ntmps10
  go_wp2_with (first | (go_at_call 20; (with_reducible refine (hE _).mono ?_); (rintro e w1 ⟨rfl, b1⟩); have B0 := (Below.refl w.heap.size w).alloc (Nat.le_refl _) (.cells #[.int .u8 x.op, .int .u8 x.rd, .int .u8 x.rs1, .int .u8 x.rs2, .int .i64 x.imm] 24); have B1 := below_trans' B0 (Nat.le_refl _) (b1.mono (by simp)); have R1 := rowG_below (rowG_new #[.int .u8 x.op, .int .u8 x.rd, .int .u8 x.rs1, .int .u8 x.rs2, .int .i64 x.imm] 24 w) b1 (by simp); have g1 := R1.2.2; have c0 : w1.cell? ⟨w.heap.size, 0, none⟩ = some (.int .u8 x.op) := R1.1 0 (by simp); have c1 : w1.cell? ⟨w.heap.size, 1, none⟩ = some (.int .u8 x.rd) := R1.1 1 (by simp); have c2 : w1.cell? ⟨w.heap.size, 2, none⟩ = some (.int .u8 x.rs1) := R1.1 2 (by simp); have c3 : w1.cell? ⟨w.heap.size, 3, none⟩ = some (.int .u8 x.rs2) := R1.1 3 (by simp); have c4 : w1.cell? ⟨w.heap.size, 4, none⟩ = some (.int .i64 x.imm) := R1.1 4 (by simp)) | (go_at_call 18; (with_reducible refine (hO _).mono ?_); (rintro e w2 ⟨rfl, b2⟩); have B2 := below_trans' B1 (Nat.le_refl _) (b2.alloc b2.size (.cells #[.int .u32 (codeT x.op : Nat), .int .u32 (f3T x.op : Nat), .int .u32 (f7T x.op : Nat), .int .i64 2] 46)); have R2 := rowG_alloc (rowG_below R1 b2 R1.2.2) (.cells #[.int .u32 (codeT x.op : Nat), .int .u32 (f3T x.op : Nat), .int .u32 (f7T x.op : Nat), .int .i64 2] 46); have R2' := rowG_below R1 b2 R1.2.2; have g2 := R2'.2.2; have d0 : w2.cell? ⟨w.heap.size, 0, none⟩ = some (.int .u8 x.op) := R2'.1 0 (by simp); have d1 : w2.cell? ⟨w.heap.size, 1, none⟩ = some (.int .u8 x.rd) := R2'.1 1 (by simp); have d2 : w2.cell? ⟨w.heap.size, 2, none⟩ = some (.int .u8 x.rs1) := R2'.1 2 (by simp); have d3 : w2.cell? ⟨w.heap.size, 3, none⟩ = some (.int .u8 x.rs2) := R2'.1 3 (by simp); have d4 : w2.cell? ⟨w.heap.size, 4, none⟩ = some (.int .i64 x.imm) := R2'.1 4 (by simp)) | (go_at_call 24; (with_reducible refine (hN _).mono ?_); (rintro e w3 ⟨rfl, b3⟩); have B3 := below_trans' B2 (Nat.le_refl _) b3; have R3 := rowG_below R2 b3 R2.2.2; have g3 := R3.2.2; have e0 : w3.cell? ⟨w.heap.size, 0, none⟩ = some (.int .u8 x.op) := R3.1 0 (by simp); have e1 : w3.cell? ⟨w.heap.size, 1, none⟩ = some (.int .u8 x.rd) := R3.1 1 (by simp); have e2 : w3.cell? ⟨w.heap.size, 2, none⟩ = some (.int .u8 x.rs1) := R3.1 2 (by simp); have e3 : w3.cell? ⟨w.heap.size, 3, none⟩ = some (.int .u8 x.rs2) := R3.1 3 (by simp); have e4 : w3.cell? ⟨w.heap.size, 4, none⟩ = some (.int .i64 x.imm) := R3.1 4 (by simp)) | (go_at_call 25; first | ((with_reducible refine (nD _).mono ?_); (rintro e w4 ⟨rfl, b4⟩); have B4 := below_trans' B3 (Nat.le_refl _) b4; have R4 := rowG_below R3 b4 R3.2.2; have g4 := R4.2.2; have p4_0 : w4.cell? ⟨w.heap.size, 0, none⟩ = some (.int .u8 x.op) := R4.1 0 (by simp); have p4_1 : w4.cell? ⟨w.heap.size, 1, none⟩ = some (.int .u8 x.rd) := R4.1 1 (by simp); have p4_2 : w4.cell? ⟨w.heap.size, 2, none⟩ = some (.int .u8 x.rs1) := R4.1 2 (by simp); have p4_3 : w4.cell? ⟨w.heap.size, 3, none⟩ = some (.int .u8 x.rs2) := R4.1 3 (by simp); have p4_4 : w4.cell? ⟨w.heap.size, 4, none⟩ = some (.int .i64 x.imm) := R4.1 4 (by simp)) | ((with_reducible refine (nE _).mono ?_); (rintro e w5 ⟨rfl, b5⟩); have B5 := below_trans' B4 (Nat.le_refl _) b5; have R5 := rowG_below R4 b5 R4.2.2; have g5 := R5.2.2; have p5_0 : w5.cell? ⟨w.heap.size, 0, none⟩ = some (.int .u8 x.op) := R5.1 0 (by simp); have p5_1 : w5.cell? ⟨w.heap.size, 1, none⟩ = some (.int .u8 x.rd) := R5.1 1 (by simp); have p5_2 : w5.cell? ⟨w.heap.size, 2, none⟩ = some (.int .u8 x.rs1) := R5.1 2 (by simp); have p5_3 : w5.cell? ⟨w.heap.size, 3, none⟩ = some (.int .u8 x.rs2) := R5.1 3 (by simp); have p5_4 : w5.cell? ⟨w.heap.size, 4, none⟩ = some (.int .i64 x.imm) := R5.1 4 (by simp)) | ((with_reducible refine (nI _).mono ?_); (rintro e w6 ⟨rfl, b6⟩); have B6 := below_trans' B5 (Nat.le_refl _) b6; have R6 := rowG_below R5 b6 R5.2.2; have g6 := R6.2.2; have p6_0 : w6.cell? ⟨w.heap.size, 0, none⟩ = some (.int .u8 x.op) := R6.1 0 (by simp); have p6_1 : w6.cell? ⟨w.heap.size, 1, none⟩ = some (.int .u8 x.rd) := R6.1 1 (by simp); have p6_2 : w6.cell? ⟨w.heap.size, 2, none⟩ = some (.int .u8 x.rs1) := R6.1 2 (by simp); have p6_3 : w6.cell? ⟨w.heap.size, 3, none⟩ = some (.int .u8 x.rs2) := R6.1 3 (by simp); have p6_4 : w6.cell? ⟨w.heap.size, 4, none⟩ = some (.int .i64 x.imm) := R6.1 4 (by simp))))
  go_ret
  exact ⟨by rw [hsum]; rfl, B6⟩
set_option maxRecDepth 100000 in
set_option maxHeartbeats 4000000 in
theorem rtxt_3 (x : In) (h : x.wf) (ho : x.ok = true) (hf : formT x.op = 3) (w : World) :
    Calls Tryd.prog 10 #[.agg (inC x)] w fun e w' => e = .returned (.string (str (txtB x))) ∧ Below w.heap.size w w' := by
  unfold inC
  have hE := rency x h ho
  obtain ⟨k1, k2, k3, k4, k5, k6⟩ := ok_parts ho
  have hop := op_of ho
  have hO := rof_any x.op hop.1 hop.2
  have hN := rnam_any x.op hop.1 hop.2
  have zn := name_len x.op k1
  have hlow := imm_low (formT x.op) (form_le x.op k1) k2 x.imm k6
  obtain ⟨hw0, hw1, hw2, hw3, hw4, hw5⟩ := h
  have nD := num_nat x.rd (by omega)
  have nE := num_nat x.rs1 (by omega)
  have nG := num_nat x.rs2 (by omega)
  have nI := num_int x.imm (by omega) hw5
  have zD := dig_len x.rd (by omega)
  have zE := dig_len x.rs1 (by omega)
  have zG := dig_len x.rs2 (by omega)
  have zI : (Lib.itoa x.imm).length ≤ 21 := Lib.itoa_length_le x.imm hw4 (by omega)
  have hsum : str (txtB x) = str (nameB x.op) ++ ⟨#[32, 120]⟩ ++ str (Lib.decDigits x.rd) ++ ⟨#[32, 120]⟩ ++ str (Lib.decDigits x.rs1) ++ ⟨#[32]⟩ ++ str (Lib.itoa x.imm) := by
    unfold txtB
    rw [hf]
    show str (nameB x.op ++ regT true x.rd ++ regT true x.rs1 ++ regT false x.rs2 ++ (if true then 32 :: Lib.itoa x.imm else [])) = _
    apply ByteArray.ext
    simp [str, regT]
  rw [hf] at hO
  rw [← str_size] at zn zD zE zG zI
  obtain ⟨A0, hA0⟩ : ∃ s, str (nameB x.op) = s := ⟨_, rfl⟩
  obtain ⟨D, hD⟩ : ∃ s, str (Lib.decDigits x.rd) = s := ⟨_, rfl⟩
  obtain ⟨E, hE'⟩ : ∃ s, str (Lib.decDigits x.rs1) = s := ⟨_, rfl⟩
  obtain ⟨G, hG⟩ : ∃ s, str (Lib.decDigits x.rs2) = s := ⟨_, rfl⟩
  obtain ⟨I, hI⟩ : ∃ s, str (Lib.itoa x.imm) = s := ⟨_, rfl⟩
  obtain ⟨sT, hsT⟩ : ∃ s, str (txtB x) = s := ⟨_, rfl⟩
  rw [hsT]
  simp only [hA0, hD, hE', hG, hI, hsT] at hsum zn zD zE zG zI nD nE nG nI hN
  clear hA0 hD hE' hG hI hsT k2 k3 k4 k5 k6 hf
  go_enter Tryd.func10, Tryd.ntmps10
  go_wp2_with (first | (go_at_call 20; (with_reducible refine (hE _).mono ?_); (rintro e w1 ⟨rfl, b1⟩); have B0 := (Below.refl w.heap.size w).alloc (Nat.le_refl _) (.cells #[.int .u8 x.op, .int .u8 x.rd, .int .u8 x.rs1, .int .u8 x.rs2, .int .i64 x.imm] 24); have B1 := below_trans' B0 (Nat.le_refl _) (b1.mono (by simp)); have R1 := rowG_below (rowG_new #[.int .u8 x.op, .int .u8 x.rd, .int .u8 x.rs1, .int .u8 x.rs2, .int .i64 x.imm] 24 w) b1 (by simp); have g1 := R1.2.2; have c0 : w1.cell? ⟨w.heap.size, 0, none⟩ = some (.int .u8 x.op) := R1.1 0 (by simp); have c1 : w1.cell? ⟨w.heap.size, 1, none⟩ = some (.int .u8 x.rd) := R1.1 1 (by simp); have c2 : w1.cell? ⟨w.heap.size, 2, none⟩ = some (.int .u8 x.rs1) := R1.1 2 (by simp); have c3 : w1.cell? ⟨w.heap.size, 3, none⟩ = some (.int .u8 x.rs2) := R1.1 3 (by simp); have c4 : w1.cell? ⟨w.heap.size, 4, none⟩ = some (.int .i64 x.imm) := R1.1 4 (by simp)) | (go_at_call 18; (with_reducible refine (hO _).mono ?_); (rintro e w2 ⟨rfl, b2⟩); have B2 := below_trans' B1 (Nat.le_refl _) (b2.alloc b2.size (.cells #[.int .u32 (codeT x.op : Nat), .int .u32 (f3T x.op : Nat), .int .u32 (f7T x.op : Nat), .int .i64 3] 46)); have R2 := rowG_alloc (rowG_below R1 b2 R1.2.2) (.cells #[.int .u32 (codeT x.op : Nat), .int .u32 (f3T x.op : Nat), .int .u32 (f7T x.op : Nat), .int .i64 3] 46); have R2' := rowG_below R1 b2 R1.2.2; have g2 := R2'.2.2; have d0 : w2.cell? ⟨w.heap.size, 0, none⟩ = some (.int .u8 x.op) := R2'.1 0 (by simp); have d1 : w2.cell? ⟨w.heap.size, 1, none⟩ = some (.int .u8 x.rd) := R2'.1 1 (by simp); have d2 : w2.cell? ⟨w.heap.size, 2, none⟩ = some (.int .u8 x.rs1) := R2'.1 2 (by simp); have d3 : w2.cell? ⟨w.heap.size, 3, none⟩ = some (.int .u8 x.rs2) := R2'.1 3 (by simp); have d4 : w2.cell? ⟨w.heap.size, 4, none⟩ = some (.int .i64 x.imm) := R2'.1 4 (by simp)) | (go_at_call 24; (with_reducible refine (hN _).mono ?_); (rintro e w3 ⟨rfl, b3⟩); have B3 := below_trans' B2 (Nat.le_refl _) b3; have R3 := rowG_below R2 b3 R2.2.2; have g3 := R3.2.2; have e0 : w3.cell? ⟨w.heap.size, 0, none⟩ = some (.int .u8 x.op) := R3.1 0 (by simp); have e1 : w3.cell? ⟨w.heap.size, 1, none⟩ = some (.int .u8 x.rd) := R3.1 1 (by simp); have e2 : w3.cell? ⟨w.heap.size, 2, none⟩ = some (.int .u8 x.rs1) := R3.1 2 (by simp); have e3 : w3.cell? ⟨w.heap.size, 3, none⟩ = some (.int .u8 x.rs2) := R3.1 3 (by simp); have e4 : w3.cell? ⟨w.heap.size, 4, none⟩ = some (.int .i64 x.imm) := R3.1 4 (by simp)) | (go_at_call 25; first | ((with_reducible refine (nD _).mono ?_); (rintro e w4 ⟨rfl, b4⟩); have B4 := below_trans' B3 (Nat.le_refl _) b4; have R4 := rowG_below R3 b4 R3.2.2; have g4 := R4.2.2; have p4_0 : w4.cell? ⟨w.heap.size, 0, none⟩ = some (.int .u8 x.op) := R4.1 0 (by simp); have p4_1 : w4.cell? ⟨w.heap.size, 1, none⟩ = some (.int .u8 x.rd) := R4.1 1 (by simp); have p4_2 : w4.cell? ⟨w.heap.size, 2, none⟩ = some (.int .u8 x.rs1) := R4.1 2 (by simp); have p4_3 : w4.cell? ⟨w.heap.size, 3, none⟩ = some (.int .u8 x.rs2) := R4.1 3 (by simp); have p4_4 : w4.cell? ⟨w.heap.size, 4, none⟩ = some (.int .i64 x.imm) := R4.1 4 (by simp)) | ((with_reducible refine (nE _).mono ?_); (rintro e w5 ⟨rfl, b5⟩); have B5 := below_trans' B4 (Nat.le_refl _) b5; have R5 := rowG_below R4 b5 R4.2.2; have g5 := R5.2.2; have p5_0 : w5.cell? ⟨w.heap.size, 0, none⟩ = some (.int .u8 x.op) := R5.1 0 (by simp); have p5_1 : w5.cell? ⟨w.heap.size, 1, none⟩ = some (.int .u8 x.rd) := R5.1 1 (by simp); have p5_2 : w5.cell? ⟨w.heap.size, 2, none⟩ = some (.int .u8 x.rs1) := R5.1 2 (by simp); have p5_3 : w5.cell? ⟨w.heap.size, 3, none⟩ = some (.int .u8 x.rs2) := R5.1 3 (by simp); have p5_4 : w5.cell? ⟨w.heap.size, 4, none⟩ = some (.int .i64 x.imm) := R5.1 4 (by simp)) | ((with_reducible refine (nI _).mono ?_); (rintro e w6 ⟨rfl, b6⟩); have B6 := below_trans' B5 (Nat.le_refl _) b6; have R6 := rowG_below R5 b6 R5.2.2; have g6 := R6.2.2; have p6_0 : w6.cell? ⟨w.heap.size, 0, none⟩ = some (.int .u8 x.op) := R6.1 0 (by simp); have p6_1 : w6.cell? ⟨w.heap.size, 1, none⟩ = some (.int .u8 x.rd) := R6.1 1 (by simp); have p6_2 : w6.cell? ⟨w.heap.size, 2, none⟩ = some (.int .u8 x.rs1) := R6.1 2 (by simp); have p6_3 : w6.cell? ⟨w.heap.size, 3, none⟩ = some (.int .u8 x.rs2) := R6.1 3 (by simp); have p6_4 : w6.cell? ⟨w.heap.size, 4, none⟩ = some (.int .i64 x.imm) := R6.1 4 (by simp))))
  go_ret
  exact ⟨by rw [hsum]; rfl, B6⟩
set_option maxRecDepth 100000 in
set_option maxHeartbeats 4000000 in
theorem rtxt_4 (x : In) (h : x.wf) (ho : x.ok = true) (hf : formT x.op = 4) (w : World) :
    Calls Tryd.prog 10 #[.agg (inC x)] w fun e w' => e = .returned (.string (str (txtB x))) ∧ Below w.heap.size w w' := by
  unfold inC
  have hE := rency x h ho
  obtain ⟨k1, k2, k3, k4, k5, k6⟩ := ok_parts ho
  have hop := op_of ho
  have hO := rof_any x.op hop.1 hop.2
  have hN := rnam_any x.op hop.1 hop.2
  have zn := name_len x.op k1
  have hlow := imm_low (formT x.op) (form_le x.op k1) k2 x.imm k6
  obtain ⟨hw0, hw1, hw2, hw3, hw4, hw5⟩ := h
  have nD := num_nat x.rd (by omega)
  have nE := num_nat x.rs1 (by omega)
  have nG := num_nat x.rs2 (by omega)
  have nI := num_int x.imm (by omega) hw5
  have zD := dig_len x.rd (by omega)
  have zE := dig_len x.rs1 (by omega)
  have zG := dig_len x.rs2 (by omega)
  have zI : (Lib.itoa x.imm).length ≤ 21 := Lib.itoa_length_le x.imm hw4 (by omega)
  have hsum : str (txtB x) = str (nameB x.op) ++ ⟨#[32, 120]⟩ ++ str (Lib.decDigits x.rd) ++ ⟨#[32]⟩ ++ str (Lib.itoa x.imm) := by
    unfold txtB
    rw [hf]
    show str (nameB x.op ++ regT true x.rd ++ regT false x.rs1 ++ regT false x.rs2 ++ (if true then 32 :: Lib.itoa x.imm else [])) = _
    apply ByteArray.ext
    simp [str, regT]
  rw [hf] at hO
  rw [← str_size] at zn zD zE zG zI
  obtain ⟨A0, hA0⟩ : ∃ s, str (nameB x.op) = s := ⟨_, rfl⟩
  obtain ⟨D, hD⟩ : ∃ s, str (Lib.decDigits x.rd) = s := ⟨_, rfl⟩
  obtain ⟨E, hE'⟩ : ∃ s, str (Lib.decDigits x.rs1) = s := ⟨_, rfl⟩
  obtain ⟨G, hG⟩ : ∃ s, str (Lib.decDigits x.rs2) = s := ⟨_, rfl⟩
  obtain ⟨I, hI⟩ : ∃ s, str (Lib.itoa x.imm) = s := ⟨_, rfl⟩
  obtain ⟨sT, hsT⟩ : ∃ s, str (txtB x) = s := ⟨_, rfl⟩
  rw [hsT]
  simp only [hA0, hD, hE', hG, hI, hsT] at hsum zn zD zE zG zI nD nE nG nI hN
  clear hA0 hD hE' hG hI hsT k2 k3 k4 k5 k6 hf
  go_enter Tryd.func10, Tryd.ntmps10
  go_wp2_with (first | (go_at_call 20; (with_reducible refine (hE _).mono ?_); (rintro e w1 ⟨rfl, b1⟩); have B0 := (Below.refl w.heap.size w).alloc (Nat.le_refl _) (.cells #[.int .u8 x.op, .int .u8 x.rd, .int .u8 x.rs1, .int .u8 x.rs2, .int .i64 x.imm] 24); have B1 := below_trans' B0 (Nat.le_refl _) (b1.mono (by simp)); have R1 := rowG_below (rowG_new #[.int .u8 x.op, .int .u8 x.rd, .int .u8 x.rs1, .int .u8 x.rs2, .int .i64 x.imm] 24 w) b1 (by simp); have g1 := R1.2.2; have c0 : w1.cell? ⟨w.heap.size, 0, none⟩ = some (.int .u8 x.op) := R1.1 0 (by simp); have c1 : w1.cell? ⟨w.heap.size, 1, none⟩ = some (.int .u8 x.rd) := R1.1 1 (by simp); have c2 : w1.cell? ⟨w.heap.size, 2, none⟩ = some (.int .u8 x.rs1) := R1.1 2 (by simp); have c3 : w1.cell? ⟨w.heap.size, 3, none⟩ = some (.int .u8 x.rs2) := R1.1 3 (by simp); have c4 : w1.cell? ⟨w.heap.size, 4, none⟩ = some (.int .i64 x.imm) := R1.1 4 (by simp)) | (go_at_call 18; (with_reducible refine (hO _).mono ?_); (rintro e w2 ⟨rfl, b2⟩); have B2 := below_trans' B1 (Nat.le_refl _) (b2.alloc b2.size (.cells #[.int .u32 (codeT x.op : Nat), .int .u32 (f3T x.op : Nat), .int .u32 (f7T x.op : Nat), .int .i64 4] 46)); have R2 := rowG_alloc (rowG_below R1 b2 R1.2.2) (.cells #[.int .u32 (codeT x.op : Nat), .int .u32 (f3T x.op : Nat), .int .u32 (f7T x.op : Nat), .int .i64 4] 46); have R2' := rowG_below R1 b2 R1.2.2; have g2 := R2'.2.2; have d0 : w2.cell? ⟨w.heap.size, 0, none⟩ = some (.int .u8 x.op) := R2'.1 0 (by simp); have d1 : w2.cell? ⟨w.heap.size, 1, none⟩ = some (.int .u8 x.rd) := R2'.1 1 (by simp); have d2 : w2.cell? ⟨w.heap.size, 2, none⟩ = some (.int .u8 x.rs1) := R2'.1 2 (by simp); have d3 : w2.cell? ⟨w.heap.size, 3, none⟩ = some (.int .u8 x.rs2) := R2'.1 3 (by simp); have d4 : w2.cell? ⟨w.heap.size, 4, none⟩ = some (.int .i64 x.imm) := R2'.1 4 (by simp)) | (go_at_call 24; (with_reducible refine (hN _).mono ?_); (rintro e w3 ⟨rfl, b3⟩); have B3 := below_trans' B2 (Nat.le_refl _) b3; have R3 := rowG_below R2 b3 R2.2.2; have g3 := R3.2.2; have e0 : w3.cell? ⟨w.heap.size, 0, none⟩ = some (.int .u8 x.op) := R3.1 0 (by simp); have e1 : w3.cell? ⟨w.heap.size, 1, none⟩ = some (.int .u8 x.rd) := R3.1 1 (by simp); have e2 : w3.cell? ⟨w.heap.size, 2, none⟩ = some (.int .u8 x.rs1) := R3.1 2 (by simp); have e3 : w3.cell? ⟨w.heap.size, 3, none⟩ = some (.int .u8 x.rs2) := R3.1 3 (by simp); have e4 : w3.cell? ⟨w.heap.size, 4, none⟩ = some (.int .i64 x.imm) := R3.1 4 (by simp)) | (go_at_call 25; first | ((with_reducible refine (nD _).mono ?_); (rintro e w4 ⟨rfl, b4⟩); have B4 := below_trans' B3 (Nat.le_refl _) b4; have R4 := rowG_below R3 b4 R3.2.2; have g4 := R4.2.2; have p4_0 : w4.cell? ⟨w.heap.size, 0, none⟩ = some (.int .u8 x.op) := R4.1 0 (by simp); have p4_1 : w4.cell? ⟨w.heap.size, 1, none⟩ = some (.int .u8 x.rd) := R4.1 1 (by simp); have p4_2 : w4.cell? ⟨w.heap.size, 2, none⟩ = some (.int .u8 x.rs1) := R4.1 2 (by simp); have p4_3 : w4.cell? ⟨w.heap.size, 3, none⟩ = some (.int .u8 x.rs2) := R4.1 3 (by simp); have p4_4 : w4.cell? ⟨w.heap.size, 4, none⟩ = some (.int .i64 x.imm) := R4.1 4 (by simp)) | ((with_reducible refine (nI _).mono ?_); (rintro e w5 ⟨rfl, b5⟩); have B5 := below_trans' B4 (Nat.le_refl _) b5; have R5 := rowG_below R4 b5 R4.2.2; have g5 := R5.2.2; have p5_0 : w5.cell? ⟨w.heap.size, 0, none⟩ = some (.int .u8 x.op) := R5.1 0 (by simp); have p5_1 : w5.cell? ⟨w.heap.size, 1, none⟩ = some (.int .u8 x.rd) := R5.1 1 (by simp); have p5_2 : w5.cell? ⟨w.heap.size, 2, none⟩ = some (.int .u8 x.rs1) := R5.1 2 (by simp); have p5_3 : w5.cell? ⟨w.heap.size, 3, none⟩ = some (.int .u8 x.rs2) := R5.1 3 (by simp); have p5_4 : w5.cell? ⟨w.heap.size, 4, none⟩ = some (.int .i64 x.imm) := R5.1 4 (by simp))))
  go_ret
  exact ⟨by rw [hsum]; rfl, B5⟩
set_option maxRecDepth 100000 in
set_option maxHeartbeats 4000000 in
theorem rtxt_5 (x : In) (h : x.wf) (ho : x.ok = true) (hf : formT x.op = 5) (w : World) :
    Calls Tryd.prog 10 #[.agg (inC x)] w fun e w' => e = .returned (.string (str (txtB x))) ∧ Below w.heap.size w w' := by
  unfold inC
  have hE := rency x h ho
  obtain ⟨k1, k2, k3, k4, k5, k6⟩ := ok_parts ho
  have hop := op_of ho
  have hO := rof_any x.op hop.1 hop.2
  have hN := rnam_any x.op hop.1 hop.2
  have zn := name_len x.op k1
  have hlow := imm_low (formT x.op) (form_le x.op k1) k2 x.imm k6
  obtain ⟨hw0, hw1, hw2, hw3, hw4, hw5⟩ := h
  have nD := num_nat x.rd (by omega)
  have nE := num_nat x.rs1 (by omega)
  have nG := num_nat x.rs2 (by omega)
  have nI := num_int x.imm (by omega) hw5
  have zD := dig_len x.rd (by omega)
  have zE := dig_len x.rs1 (by omega)
  have zG := dig_len x.rs2 (by omega)
  have zI : (Lib.itoa x.imm).length ≤ 21 := Lib.itoa_length_le x.imm hw4 (by omega)
  have hsum : str (txtB x) = str (nameB x.op) ++ ⟨#[32, 120]⟩ ++ str (Lib.decDigits x.rs1) ++ ⟨#[32, 120]⟩ ++ str (Lib.decDigits x.rs2) ++ ⟨#[32]⟩ ++ str (Lib.itoa x.imm) := by
    unfold txtB
    rw [hf]
    show str (nameB x.op ++ regT false x.rd ++ regT true x.rs1 ++ regT true x.rs2 ++ (if true then 32 :: Lib.itoa x.imm else [])) = _
    apply ByteArray.ext
    simp [str, regT]
  rw [hf] at hO
  rw [← str_size] at zn zD zE zG zI
  obtain ⟨A0, hA0⟩ : ∃ s, str (nameB x.op) = s := ⟨_, rfl⟩
  obtain ⟨D, hD⟩ : ∃ s, str (Lib.decDigits x.rd) = s := ⟨_, rfl⟩
  obtain ⟨E, hE'⟩ : ∃ s, str (Lib.decDigits x.rs1) = s := ⟨_, rfl⟩
  obtain ⟨G, hG⟩ : ∃ s, str (Lib.decDigits x.rs2) = s := ⟨_, rfl⟩
  obtain ⟨I, hI⟩ : ∃ s, str (Lib.itoa x.imm) = s := ⟨_, rfl⟩
  obtain ⟨sT, hsT⟩ : ∃ s, str (txtB x) = s := ⟨_, rfl⟩
  rw [hsT]
  simp only [hA0, hD, hE', hG, hI, hsT] at hsum zn zD zE zG zI nD nE nG nI hN
  clear hA0 hD hE' hG hI hsT k2 k3 k4 k5 k6 hf
  go_enter Tryd.func10, Tryd.ntmps10
  go_wp2_with (first | (go_at_call 20; (with_reducible refine (hE _).mono ?_); (rintro e w1 ⟨rfl, b1⟩); have B0 := (Below.refl w.heap.size w).alloc (Nat.le_refl _) (.cells #[.int .u8 x.op, .int .u8 x.rd, .int .u8 x.rs1, .int .u8 x.rs2, .int .i64 x.imm] 24); have B1 := below_trans' B0 (Nat.le_refl _) (b1.mono (by simp)); have R1 := rowG_below (rowG_new #[.int .u8 x.op, .int .u8 x.rd, .int .u8 x.rs1, .int .u8 x.rs2, .int .i64 x.imm] 24 w) b1 (by simp); have g1 := R1.2.2; have c0 : w1.cell? ⟨w.heap.size, 0, none⟩ = some (.int .u8 x.op) := R1.1 0 (by simp); have c1 : w1.cell? ⟨w.heap.size, 1, none⟩ = some (.int .u8 x.rd) := R1.1 1 (by simp); have c2 : w1.cell? ⟨w.heap.size, 2, none⟩ = some (.int .u8 x.rs1) := R1.1 2 (by simp); have c3 : w1.cell? ⟨w.heap.size, 3, none⟩ = some (.int .u8 x.rs2) := R1.1 3 (by simp); have c4 : w1.cell? ⟨w.heap.size, 4, none⟩ = some (.int .i64 x.imm) := R1.1 4 (by simp)) | (go_at_call 18; (with_reducible refine (hO _).mono ?_); (rintro e w2 ⟨rfl, b2⟩); have B2 := below_trans' B1 (Nat.le_refl _) (b2.alloc b2.size (.cells #[.int .u32 (codeT x.op : Nat), .int .u32 (f3T x.op : Nat), .int .u32 (f7T x.op : Nat), .int .i64 5] 46)); have R2 := rowG_alloc (rowG_below R1 b2 R1.2.2) (.cells #[.int .u32 (codeT x.op : Nat), .int .u32 (f3T x.op : Nat), .int .u32 (f7T x.op : Nat), .int .i64 5] 46); have R2' := rowG_below R1 b2 R1.2.2; have g2 := R2'.2.2; have d0 : w2.cell? ⟨w.heap.size, 0, none⟩ = some (.int .u8 x.op) := R2'.1 0 (by simp); have d1 : w2.cell? ⟨w.heap.size, 1, none⟩ = some (.int .u8 x.rd) := R2'.1 1 (by simp); have d2 : w2.cell? ⟨w.heap.size, 2, none⟩ = some (.int .u8 x.rs1) := R2'.1 2 (by simp); have d3 : w2.cell? ⟨w.heap.size, 3, none⟩ = some (.int .u8 x.rs2) := R2'.1 3 (by simp); have d4 : w2.cell? ⟨w.heap.size, 4, none⟩ = some (.int .i64 x.imm) := R2'.1 4 (by simp)) | (go_at_call 24; (with_reducible refine (hN _).mono ?_); (rintro e w3 ⟨rfl, b3⟩); have B3 := below_trans' B2 (Nat.le_refl _) b3; have R3 := rowG_below R2 b3 R2.2.2; have g3 := R3.2.2; have e0 : w3.cell? ⟨w.heap.size, 0, none⟩ = some (.int .u8 x.op) := R3.1 0 (by simp); have e1 : w3.cell? ⟨w.heap.size, 1, none⟩ = some (.int .u8 x.rd) := R3.1 1 (by simp); have e2 : w3.cell? ⟨w.heap.size, 2, none⟩ = some (.int .u8 x.rs1) := R3.1 2 (by simp); have e3 : w3.cell? ⟨w.heap.size, 3, none⟩ = some (.int .u8 x.rs2) := R3.1 3 (by simp); have e4 : w3.cell? ⟨w.heap.size, 4, none⟩ = some (.int .i64 x.imm) := R3.1 4 (by simp)) | (go_at_call 25; first | ((with_reducible refine (nE _).mono ?_); (rintro e w4 ⟨rfl, b4⟩); have B4 := below_trans' B3 (Nat.le_refl _) b4; have R4 := rowG_below R3 b4 R3.2.2; have g4 := R4.2.2; have p4_0 : w4.cell? ⟨w.heap.size, 0, none⟩ = some (.int .u8 x.op) := R4.1 0 (by simp); have p4_1 : w4.cell? ⟨w.heap.size, 1, none⟩ = some (.int .u8 x.rd) := R4.1 1 (by simp); have p4_2 : w4.cell? ⟨w.heap.size, 2, none⟩ = some (.int .u8 x.rs1) := R4.1 2 (by simp); have p4_3 : w4.cell? ⟨w.heap.size, 3, none⟩ = some (.int .u8 x.rs2) := R4.1 3 (by simp); have p4_4 : w4.cell? ⟨w.heap.size, 4, none⟩ = some (.int .i64 x.imm) := R4.1 4 (by simp)) | ((with_reducible refine (nG _).mono ?_); (rintro e w5 ⟨rfl, b5⟩); have B5 := below_trans' B4 (Nat.le_refl _) b5; have R5 := rowG_below R4 b5 R4.2.2; have g5 := R5.2.2; have p5_0 : w5.cell? ⟨w.heap.size, 0, none⟩ = some (.int .u8 x.op) := R5.1 0 (by simp); have p5_1 : w5.cell? ⟨w.heap.size, 1, none⟩ = some (.int .u8 x.rd) := R5.1 1 (by simp); have p5_2 : w5.cell? ⟨w.heap.size, 2, none⟩ = some (.int .u8 x.rs1) := R5.1 2 (by simp); have p5_3 : w5.cell? ⟨w.heap.size, 3, none⟩ = some (.int .u8 x.rs2) := R5.1 3 (by simp); have p5_4 : w5.cell? ⟨w.heap.size, 4, none⟩ = some (.int .i64 x.imm) := R5.1 4 (by simp)) | ((with_reducible refine (nI _).mono ?_); (rintro e w6 ⟨rfl, b6⟩); have B6 := below_trans' B5 (Nat.le_refl _) b6; have R6 := rowG_below R5 b6 R5.2.2; have g6 := R6.2.2; have p6_0 : w6.cell? ⟨w.heap.size, 0, none⟩ = some (.int .u8 x.op) := R6.1 0 (by simp); have p6_1 : w6.cell? ⟨w.heap.size, 1, none⟩ = some (.int .u8 x.rd) := R6.1 1 (by simp); have p6_2 : w6.cell? ⟨w.heap.size, 2, none⟩ = some (.int .u8 x.rs1) := R6.1 2 (by simp); have p6_3 : w6.cell? ⟨w.heap.size, 3, none⟩ = some (.int .u8 x.rs2) := R6.1 3 (by simp); have p6_4 : w6.cell? ⟨w.heap.size, 4, none⟩ = some (.int .i64 x.imm) := R6.1 4 (by simp))))
  go_ret
  exact ⟨by rw [hsum]; rfl, B6⟩
set_option maxRecDepth 100000 in
set_option maxHeartbeats 4000000 in
theorem rtxt_6 (x : In) (h : x.wf) (ho : x.ok = true) (hf : formT x.op = 6) (w : World) :
    Calls Tryd.prog 10 #[.agg (inC x)] w fun e w' => e = .returned (.string (str (txtB x))) ∧ Below w.heap.size w w' := by
  unfold inC
  have hE := rency x h ho
  obtain ⟨k1, k2, k3, k4, k5, k6⟩ := ok_parts ho
  have hop := op_of ho
  have hO := rof_any x.op hop.1 hop.2
  have hN := rnam_any x.op hop.1 hop.2
  have zn := name_len x.op k1
  have hlow := imm_low (formT x.op) (form_le x.op k1) k2 x.imm k6
  obtain ⟨hw0, hw1, hw2, hw3, hw4, hw5⟩ := h
  have nD := num_nat x.rd (by omega)
  have nE := num_nat x.rs1 (by omega)
  have nG := num_nat x.rs2 (by omega)
  have nI := num_int x.imm (by omega) hw5
  have zD := dig_len x.rd (by omega)
  have zE := dig_len x.rs1 (by omega)
  have zG := dig_len x.rs2 (by omega)
  have zI : (Lib.itoa x.imm).length ≤ 21 := Lib.itoa_length_le x.imm hw4 (by omega)
  have hsum : str (txtB x) = str (nameB x.op) ++ ⟨#[32, 120]⟩ ++ str (Lib.decDigits x.rs1) ++ ⟨#[32, 120]⟩ ++ str (Lib.decDigits x.rs2) ++ ⟨#[32]⟩ ++ str (Lib.itoa x.imm) := by
    unfold txtB
    rw [hf]
    show str (nameB x.op ++ regT false x.rd ++ regT true x.rs1 ++ regT true x.rs2 ++ (if true then 32 :: Lib.itoa x.imm else [])) = _
    apply ByteArray.ext
    simp [str, regT]
  rw [hf] at hO
  rw [← str_size] at zn zD zE zG zI
  obtain ⟨A0, hA0⟩ : ∃ s, str (nameB x.op) = s := ⟨_, rfl⟩
  obtain ⟨D, hD⟩ : ∃ s, str (Lib.decDigits x.rd) = s := ⟨_, rfl⟩
  obtain ⟨E, hE'⟩ : ∃ s, str (Lib.decDigits x.rs1) = s := ⟨_, rfl⟩
  obtain ⟨G, hG⟩ : ∃ s, str (Lib.decDigits x.rs2) = s := ⟨_, rfl⟩
  obtain ⟨I, hI⟩ : ∃ s, str (Lib.itoa x.imm) = s := ⟨_, rfl⟩
  obtain ⟨sT, hsT⟩ : ∃ s, str (txtB x) = s := ⟨_, rfl⟩
  rw [hsT]
  simp only [hA0, hD, hE', hG, hI, hsT] at hsum zn zD zE zG zI nD nE nG nI hN
  clear hA0 hD hE' hG hI hsT k2 k3 k4 k5 k6 hf
  go_enter Tryd.func10, Tryd.ntmps10
  go_wp2_with (first | (go_at_call 20; (with_reducible refine (hE _).mono ?_); (rintro e w1 ⟨rfl, b1⟩); have B0 := (Below.refl w.heap.size w).alloc (Nat.le_refl _) (.cells #[.int .u8 x.op, .int .u8 x.rd, .int .u8 x.rs1, .int .u8 x.rs2, .int .i64 x.imm] 24); have B1 := below_trans' B0 (Nat.le_refl _) (b1.mono (by simp)); have R1 := rowG_below (rowG_new #[.int .u8 x.op, .int .u8 x.rd, .int .u8 x.rs1, .int .u8 x.rs2, .int .i64 x.imm] 24 w) b1 (by simp); have g1 := R1.2.2; have c0 : w1.cell? ⟨w.heap.size, 0, none⟩ = some (.int .u8 x.op) := R1.1 0 (by simp); have c1 : w1.cell? ⟨w.heap.size, 1, none⟩ = some (.int .u8 x.rd) := R1.1 1 (by simp); have c2 : w1.cell? ⟨w.heap.size, 2, none⟩ = some (.int .u8 x.rs1) := R1.1 2 (by simp); have c3 : w1.cell? ⟨w.heap.size, 3, none⟩ = some (.int .u8 x.rs2) := R1.1 3 (by simp); have c4 : w1.cell? ⟨w.heap.size, 4, none⟩ = some (.int .i64 x.imm) := R1.1 4 (by simp)) | (go_at_call 18; (with_reducible refine (hO _).mono ?_); (rintro e w2 ⟨rfl, b2⟩); have B2 := below_trans' B1 (Nat.le_refl _) (b2.alloc b2.size (.cells #[.int .u32 (codeT x.op : Nat), .int .u32 (f3T x.op : Nat), .int .u32 (f7T x.op : Nat), .int .i64 6] 46)); have R2 := rowG_alloc (rowG_below R1 b2 R1.2.2) (.cells #[.int .u32 (codeT x.op : Nat), .int .u32 (f3T x.op : Nat), .int .u32 (f7T x.op : Nat), .int .i64 6] 46); have R2' := rowG_below R1 b2 R1.2.2; have g2 := R2'.2.2; have d0 : w2.cell? ⟨w.heap.size, 0, none⟩ = some (.int .u8 x.op) := R2'.1 0 (by simp); have d1 : w2.cell? ⟨w.heap.size, 1, none⟩ = some (.int .u8 x.rd) := R2'.1 1 (by simp); have d2 : w2.cell? ⟨w.heap.size, 2, none⟩ = some (.int .u8 x.rs1) := R2'.1 2 (by simp); have d3 : w2.cell? ⟨w.heap.size, 3, none⟩ = some (.int .u8 x.rs2) := R2'.1 3 (by simp); have d4 : w2.cell? ⟨w.heap.size, 4, none⟩ = some (.int .i64 x.imm) := R2'.1 4 (by simp)) | (go_at_call 24; (with_reducible refine (hN _).mono ?_); (rintro e w3 ⟨rfl, b3⟩); have B3 := below_trans' B2 (Nat.le_refl _) b3; have R3 := rowG_below R2 b3 R2.2.2; have g3 := R3.2.2; have e0 : w3.cell? ⟨w.heap.size, 0, none⟩ = some (.int .u8 x.op) := R3.1 0 (by simp); have e1 : w3.cell? ⟨w.heap.size, 1, none⟩ = some (.int .u8 x.rd) := R3.1 1 (by simp); have e2 : w3.cell? ⟨w.heap.size, 2, none⟩ = some (.int .u8 x.rs1) := R3.1 2 (by simp); have e3 : w3.cell? ⟨w.heap.size, 3, none⟩ = some (.int .u8 x.rs2) := R3.1 3 (by simp); have e4 : w3.cell? ⟨w.heap.size, 4, none⟩ = some (.int .i64 x.imm) := R3.1 4 (by simp)) | (go_at_call 25; first | ((with_reducible refine (nE _).mono ?_); (rintro e w4 ⟨rfl, b4⟩); have B4 := below_trans' B3 (Nat.le_refl _) b4; have R4 := rowG_below R3 b4 R3.2.2; have g4 := R4.2.2; have p4_0 : w4.cell? ⟨w.heap.size, 0, none⟩ = some (.int .u8 x.op) := R4.1 0 (by simp); have p4_1 : w4.cell? ⟨w.heap.size, 1, none⟩ = some (.int .u8 x.rd) := R4.1 1 (by simp); have p4_2 : w4.cell? ⟨w.heap.size, 2, none⟩ = some (.int .u8 x.rs1) := R4.1 2 (by simp); have p4_3 : w4.cell? ⟨w.heap.size, 3, none⟩ = some (.int .u8 x.rs2) := R4.1 3 (by simp); have p4_4 : w4.cell? ⟨w.heap.size, 4, none⟩ = some (.int .i64 x.imm) := R4.1 4 (by simp)) | ((with_reducible refine (nG _).mono ?_); (rintro e w5 ⟨rfl, b5⟩); have B5 := below_trans' B4 (Nat.le_refl _) b5; have R5 := rowG_below R4 b5 R4.2.2; have g5 := R5.2.2; have p5_0 : w5.cell? ⟨w.heap.size, 0, none⟩ = some (.int .u8 x.op) := R5.1 0 (by simp); have p5_1 : w5.cell? ⟨w.heap.size, 1, none⟩ = some (.int .u8 x.rd) := R5.1 1 (by simp); have p5_2 : w5.cell? ⟨w.heap.size, 2, none⟩ = some (.int .u8 x.rs1) := R5.1 2 (by simp); have p5_3 : w5.cell? ⟨w.heap.size, 3, none⟩ = some (.int .u8 x.rs2) := R5.1 3 (by simp); have p5_4 : w5.cell? ⟨w.heap.size, 4, none⟩ = some (.int .i64 x.imm) := R5.1 4 (by simp)) | ((with_reducible refine (nI _).mono ?_); (rintro e w6 ⟨rfl, b6⟩); have B6 := below_trans' B5 (Nat.le_refl _) b6; have R6 := rowG_below R5 b6 R5.2.2; have g6 := R6.2.2; have p6_0 : w6.cell? ⟨w.heap.size, 0, none⟩ = some (.int .u8 x.op) := R6.1 0 (by simp); have p6_1 : w6.cell? ⟨w.heap.size, 1, none⟩ = some (.int .u8 x.rd) := R6.1 1 (by simp); have p6_2 : w6.cell? ⟨w.heap.size, 2, none⟩ = some (.int .u8 x.rs1) := R6.1 2 (by simp); have p6_3 : w6.cell? ⟨w.heap.size, 3, none⟩ = some (.int .u8 x.rs2) := R6.1 3 (by simp); have p6_4 : w6.cell? ⟨w.heap.size, 4, none⟩ = some (.int .i64 x.imm) := R6.1 4 (by simp))))
  go_ret
  exact ⟨by rw [hsum]; rfl, B6⟩
set_option maxRecDepth 100000 in
set_option maxHeartbeats 4000000 in
theorem rtxt_7 (x : In) (h : x.wf) (ho : x.ok = true) (hf : formT x.op = 7) (w : World) :
    Calls Tryd.prog 10 #[.agg (inC x)] w fun e w' => e = .returned (.string (str (txtB x))) ∧ Below w.heap.size w w' := by
  unfold inC
  have hE := rency x h ho
  obtain ⟨k1, k2, k3, k4, k5, k6⟩ := ok_parts ho
  have hop := op_of ho
  have hO := rof_any x.op hop.1 hop.2
  have hN := rnam_any x.op hop.1 hop.2
  have zn := name_len x.op k1
  have hlow := imm_low (formT x.op) (form_le x.op k1) k2 x.imm k6
  obtain ⟨hw0, hw1, hw2, hw3, hw4, hw5⟩ := h
  have nD := num_nat x.rd (by omega)
  have nE := num_nat x.rs1 (by omega)
  have nG := num_nat x.rs2 (by omega)
  have nI := num_int x.imm (by omega) hw5
  have zD := dig_len x.rd (by omega)
  have zE := dig_len x.rs1 (by omega)
  have zG := dig_len x.rs2 (by omega)
  have zI : (Lib.itoa x.imm).length ≤ 21 := Lib.itoa_length_le x.imm hw4 (by omega)
  have hsum : str (txtB x) = str (nameB x.op) ++ ⟨#[32, 120]⟩ ++ str (Lib.decDigits x.rd) ++ ⟨#[32]⟩ ++ str (Lib.itoa x.imm) := by
    unfold txtB
    rw [hf]
    show str (nameB x.op ++ regT true x.rd ++ regT false x.rs1 ++ regT false x.rs2 ++ (if true then 32 :: Lib.itoa x.imm else [])) = _
    apply ByteArray.ext
    simp [str, regT]
  rw [hf] at hO
  rw [← str_size] at zn zD zE zG zI
  obtain ⟨A0, hA0⟩ : ∃ s, str (nameB x.op) = s := ⟨_, rfl⟩
  obtain ⟨D, hD⟩ : ∃ s, str (Lib.decDigits x.rd) = s := ⟨_, rfl⟩
  obtain ⟨E, hE'⟩ : ∃ s, str (Lib.decDigits x.rs1) = s := ⟨_, rfl⟩
  obtain ⟨G, hG⟩ : ∃ s, str (Lib.decDigits x.rs2) = s := ⟨_, rfl⟩
  obtain ⟨I, hI⟩ : ∃ s, str (Lib.itoa x.imm) = s := ⟨_, rfl⟩
  obtain ⟨sT, hsT⟩ : ∃ s, str (txtB x) = s := ⟨_, rfl⟩
  rw [hsT]
  simp only [hA0, hD, hE', hG, hI, hsT] at hsum zn zD zE zG zI nD nE nG nI hN
  clear hA0 hD hE' hG hI hsT k2 k3 k4 k5 k6 hf
  go_enter Tryd.func10, Tryd.ntmps10
  go_wp2_with (first | (go_at_call 20; (with_reducible refine (hE _).mono ?_); (rintro e w1 ⟨rfl, b1⟩); have B0 := (Below.refl w.heap.size w).alloc (Nat.le_refl _) (.cells #[.int .u8 x.op, .int .u8 x.rd, .int .u8 x.rs1, .int .u8 x.rs2, .int .i64 x.imm] 24); have B1 := below_trans' B0 (Nat.le_refl _) (b1.mono (by simp)); have R1 := rowG_below (rowG_new #[.int .u8 x.op, .int .u8 x.rd, .int .u8 x.rs1, .int .u8 x.rs2, .int .i64 x.imm] 24 w) b1 (by simp); have g1 := R1.2.2; have c0 : w1.cell? ⟨w.heap.size, 0, none⟩ = some (.int .u8 x.op) := R1.1 0 (by simp); have c1 : w1.cell? ⟨w.heap.size, 1, none⟩ = some (.int .u8 x.rd) := R1.1 1 (by simp); have c2 : w1.cell? ⟨w.heap.size, 2, none⟩ = some (.int .u8 x.rs1) := R1.1 2 (by simp); have c3 : w1.cell? ⟨w.heap.size, 3, none⟩ = some (.int .u8 x.rs2) := R1.1 3 (by simp); have c4 : w1.cell? ⟨w.heap.size, 4, none⟩ = some (.int .i64 x.imm) := R1.1 4 (by simp)) | (go_at_call 18; (with_reducible refine (hO _).mono ?_); (rintro e w2 ⟨rfl, b2⟩); have B2 := below_trans' B1 (Nat.le_refl _) (b2.alloc b2.size (.cells #[.int .u32 (codeT x.op : Nat), .int .u32 (f3T x.op : Nat), .int .u32 (f7T x.op : Nat), .int .i64 7] 46)); have R2 := rowG_alloc (rowG_below R1 b2 R1.2.2) (.cells #[.int .u32 (codeT x.op : Nat), .int .u32 (f3T x.op : Nat), .int .u32 (f7T x.op : Nat), .int .i64 7] 46); have R2' := rowG_below R1 b2 R1.2.2; have g2 := R2'.2.2; have d0 : w2.cell? ⟨w.heap.size, 0, none⟩ = some (.int .u8 x.op) := R2'.1 0 (by simp); have d1 : w2.cell? ⟨w.heap.size, 1, none⟩ = some (.int .u8 x.rd) := R2'.1 1 (by simp); have d2 : w2.cell? ⟨w.heap.size, 2, none⟩ = some (.int .u8 x.rs1) := R2'.1 2 (by simp); have d3 : w2.cell? ⟨w.heap.size, 3, none⟩ = some (.int .u8 x.rs2) := R2'.1 3 (by simp); have d4 : w2.cell? ⟨w.heap.size, 4, none⟩ = some (.int .i64 x.imm) := R2'.1 4 (by simp)) | (go_at_call 24; (with_reducible refine (hN _).mono ?_); (rintro e w3 ⟨rfl, b3⟩); have B3 := below_trans' B2 (Nat.le_refl _) b3; have R3 := rowG_below R2 b3 R2.2.2; have g3 := R3.2.2; have e0 : w3.cell? ⟨w.heap.size, 0, none⟩ = some (.int .u8 x.op) := R3.1 0 (by simp); have e1 : w3.cell? ⟨w.heap.size, 1, none⟩ = some (.int .u8 x.rd) := R3.1 1 (by simp); have e2 : w3.cell? ⟨w.heap.size, 2, none⟩ = some (.int .u8 x.rs1) := R3.1 2 (by simp); have e3 : w3.cell? ⟨w.heap.size, 3, none⟩ = some (.int .u8 x.rs2) := R3.1 3 (by simp); have e4 : w3.cell? ⟨w.heap.size, 4, none⟩ = some (.int .i64 x.imm) := R3.1 4 (by simp)) | (go_at_call 25; first | ((with_reducible refine (nD _).mono ?_); (rintro e w4 ⟨rfl, b4⟩); have B4 := below_trans' B3 (Nat.le_refl _) b4; have R4 := rowG_below R3 b4 R3.2.2; have g4 := R4.2.2; have p4_0 : w4.cell? ⟨w.heap.size, 0, none⟩ = some (.int .u8 x.op) := R4.1 0 (by simp); have p4_1 : w4.cell? ⟨w.heap.size, 1, none⟩ = some (.int .u8 x.rd) := R4.1 1 (by simp); have p4_2 : w4.cell? ⟨w.heap.size, 2, none⟩ = some (.int .u8 x.rs1) := R4.1 2 (by simp); have p4_3 : w4.cell? ⟨w.heap.size, 3, none⟩ = some (.int .u8 x.rs2) := R4.1 3 (by simp); have p4_4 : w4.cell? ⟨w.heap.size, 4, none⟩ = some (.int .i64 x.imm) := R4.1 4 (by simp)) | ((with_reducible refine (nI _).mono ?_); (rintro e w5 ⟨rfl, b5⟩); have B5 := below_trans' B4 (Nat.le_refl _) b5; have R5 := rowG_below R4 b5 R4.2.2; have g5 := R5.2.2; have p5_0 : w5.cell? ⟨w.heap.size, 0, none⟩ = some (.int .u8 x.op) := R5.1 0 (by simp); have p5_1 : w5.cell? ⟨w.heap.size, 1, none⟩ = some (.int .u8 x.rd) := R5.1 1 (by simp); have p5_2 : w5.cell? ⟨w.heap.size, 2, none⟩ = some (.int .u8 x.rs1) := R5.1 2 (by simp); have p5_3 : w5.cell? ⟨w.heap.size, 3, none⟩ = some (.int .u8 x.rs2) := R5.1 3 (by simp); have p5_4 : w5.cell? ⟨w.heap.size, 4, none⟩ = some (.int .i64 x.imm) := R5.1 4 (by simp))))
  go_ret
  exact ⟨by rw [hsum]; rfl, B5⟩
set_option maxRecDepth 100000 in
set_option maxHeartbeats 4000000 in
theorem rtxt_8 (x : In) (h : x.wf) (ho : x.ok = true) (hf : formT x.op = 8) (w : World) :
    Calls Tryd.prog 10 #[.agg (inC x)] w fun e w' => e = .returned (.string (str (txtB x))) ∧ Below w.heap.size w w' := by
  unfold inC
  have hE := rency x h ho
  obtain ⟨k1, k2, k3, k4, k5, k6⟩ := ok_parts ho
  have hop := op_of ho
  have hO := rof_any x.op hop.1 hop.2
  have hN := rnam_any x.op hop.1 hop.2
  have zn := name_len x.op k1
  have hlow := imm_low (formT x.op) (form_le x.op k1) k2 x.imm k6
  obtain ⟨hw0, hw1, hw2, hw3, hw4, hw5⟩ := h
  have nD := num_nat x.rd (by omega)
  have nE := num_nat x.rs1 (by omega)
  have nG := num_nat x.rs2 (by omega)
  have nI := num_int x.imm (by omega) hw5
  have zD := dig_len x.rd (by omega)
  have zE := dig_len x.rs1 (by omega)
  have zG := dig_len x.rs2 (by omega)
  have zI : (Lib.itoa x.imm).length ≤ 21 := Lib.itoa_length_le x.imm hw4 (by omega)
  have hsum : str (txtB x) = str (nameB x.op) := by
    unfold txtB
    rw [hf]
    show str (nameB x.op ++ regT false x.rd ++ regT false x.rs1 ++ regT false x.rs2 ++ (if false then 32 :: Lib.itoa x.imm else [])) = _
    apply ByteArray.ext
    simp [str, regT]
  rw [hf] at hO
  rw [← str_size] at zn zD zE zG zI
  obtain ⟨A0, hA0⟩ : ∃ s, str (nameB x.op) = s := ⟨_, rfl⟩
  obtain ⟨D, hD⟩ : ∃ s, str (Lib.decDigits x.rd) = s := ⟨_, rfl⟩
  obtain ⟨E, hE'⟩ : ∃ s, str (Lib.decDigits x.rs1) = s := ⟨_, rfl⟩
  obtain ⟨G, hG⟩ : ∃ s, str (Lib.decDigits x.rs2) = s := ⟨_, rfl⟩
  obtain ⟨I, hI⟩ : ∃ s, str (Lib.itoa x.imm) = s := ⟨_, rfl⟩
  obtain ⟨sT, hsT⟩ : ∃ s, str (txtB x) = s := ⟨_, rfl⟩
  rw [hsT]
  simp only [hA0, hD, hE', hG, hI, hsT] at hsum zn zD zE zG zI nD nE nG nI hN
  clear hA0 hD hE' hG hI hsT k2 k3 k4 k5 k6 hf
  go_enter Tryd.func10, Tryd.ntmps10
  go_wp2_with (first | (go_at_call 20; (with_reducible refine (hE _).mono ?_); (rintro e w1 ⟨rfl, b1⟩); have B0 := (Below.refl w.heap.size w).alloc (Nat.le_refl _) (.cells #[.int .u8 x.op, .int .u8 x.rd, .int .u8 x.rs1, .int .u8 x.rs2, .int .i64 x.imm] 24); have B1 := below_trans' B0 (Nat.le_refl _) (b1.mono (by simp)); have R1 := rowG_below (rowG_new #[.int .u8 x.op, .int .u8 x.rd, .int .u8 x.rs1, .int .u8 x.rs2, .int .i64 x.imm] 24 w) b1 (by simp); have g1 := R1.2.2; have c0 : w1.cell? ⟨w.heap.size, 0, none⟩ = some (.int .u8 x.op) := R1.1 0 (by simp); have c1 : w1.cell? ⟨w.heap.size, 1, none⟩ = some (.int .u8 x.rd) := R1.1 1 (by simp); have c2 : w1.cell? ⟨w.heap.size, 2, none⟩ = some (.int .u8 x.rs1) := R1.1 2 (by simp); have c3 : w1.cell? ⟨w.heap.size, 3, none⟩ = some (.int .u8 x.rs2) := R1.1 3 (by simp); have c4 : w1.cell? ⟨w.heap.size, 4, none⟩ = some (.int .i64 x.imm) := R1.1 4 (by simp)) | (go_at_call 18; (with_reducible refine (hO _).mono ?_); (rintro e w2 ⟨rfl, b2⟩); have B2 := below_trans' B1 (Nat.le_refl _) (b2.alloc b2.size (.cells #[.int .u32 (codeT x.op : Nat), .int .u32 (f3T x.op : Nat), .int .u32 (f7T x.op : Nat), .int .i64 8] 46)); have R2 := rowG_alloc (rowG_below R1 b2 R1.2.2) (.cells #[.int .u32 (codeT x.op : Nat), .int .u32 (f3T x.op : Nat), .int .u32 (f7T x.op : Nat), .int .i64 8] 46); have R2' := rowG_below R1 b2 R1.2.2; have g2 := R2'.2.2; have d0 : w2.cell? ⟨w.heap.size, 0, none⟩ = some (.int .u8 x.op) := R2'.1 0 (by simp); have d1 : w2.cell? ⟨w.heap.size, 1, none⟩ = some (.int .u8 x.rd) := R2'.1 1 (by simp); have d2 : w2.cell? ⟨w.heap.size, 2, none⟩ = some (.int .u8 x.rs1) := R2'.1 2 (by simp); have d3 : w2.cell? ⟨w.heap.size, 3, none⟩ = some (.int .u8 x.rs2) := R2'.1 3 (by simp); have d4 : w2.cell? ⟨w.heap.size, 4, none⟩ = some (.int .i64 x.imm) := R2'.1 4 (by simp)) | (go_at_call 24; (with_reducible refine (hN _).mono ?_); (rintro e w3 ⟨rfl, b3⟩); have B3 := below_trans' B2 (Nat.le_refl _) b3; have R3 := rowG_below R2 b3 R2.2.2; have g3 := R3.2.2; have e0 : w3.cell? ⟨w.heap.size, 0, none⟩ = some (.int .u8 x.op) := R3.1 0 (by simp); have e1 : w3.cell? ⟨w.heap.size, 1, none⟩ = some (.int .u8 x.rd) := R3.1 1 (by simp); have e2 : w3.cell? ⟨w.heap.size, 2, none⟩ = some (.int .u8 x.rs1) := R3.1 2 (by simp); have e3 : w3.cell? ⟨w.heap.size, 3, none⟩ = some (.int .u8 x.rs2) := R3.1 3 (by simp); have e4 : w3.cell? ⟨w.heap.size, 4, none⟩ = some (.int .i64 x.imm) := R3.1 4 (by simp)))
  go_ret
  exact ⟨by rw [hsum]; rfl, B3⟩
theorem rtxt_yes (x : In) (h : x.wf) (ho : x.ok = true) (w : World) :
    Calls Tryd.prog 10 #[.agg (inC x)] w fun e w' => e = .returned (.string (str (txtB x))) ∧ Below w.heap.size w w' := by
  obtain ⟨k1, k2, _⟩ := ok_parts ho
  rcases form_cases (form_le x.op k1) k2 with hf | hf | hf | hf | hf | hf | hf | hf
  · exact rtxt_1 x h ho hf w
  · exact rtxt_2 x h ho hf w
  · exact rtxt_3 x h ho hf w
  · exact rtxt_4 x h ho hf w
  · exact rtxt_5 x h ho hf w
  · exact rtxt_6 x h ho hf w
  · exact rtxt_7 x h ho hf w
  · exact rtxt_8 x h ho hf w
end Go.Proofs.YtjkagpmepokihaaDoor
