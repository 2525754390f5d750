/- What is proved: DisasWords returns true for any word and any instruction, which stay as they were (its own card). Conditions: none beyond the row's own; the laid tables are tied to the program's text. -/
import Derived.Test.YtjkagpmepokihaaDoorAlv
import Derived.Test.YtjkagpmepokihaaDoorAlR
import Derived.Test.YtjkagpmepokihaaDoorRTx
import Derived.Test.YtjkagpmepokihaaDoorCards
import Derived.Test.YtjkagpmepokihaaDoorTie
import Derived.SevenTiedAt
namespace Go.Proofs.YtjkagpmepokihaaDoor.disasWords
open Go.ChangeShapes Go.WideShapes Go.ChangeAt Go.RowKit
set_option linter.unusedVariables false
def txtA (x : In) : ByteArray := if x.ok then str (txtB x) else str [63]
theorem txt_any (x : In) (h : x.wf) (w : World) (hT : Tb w) : Calls Tryd.prog 9 #[.agg (inC x)] w fun e w' => e = .returned (.string (txtA x)) ∧ Below w.heap.size w w' := by
  unfold txtA
  cases ho : x.ok
  · exact txt_no x h ho w hT
  · exact txt_yes x h ho w hT
theorem rtxt_any (x : In) (h : x.wf) (w : World) : Calls Tryd.prog 10 #[.agg (inC x)] w fun e w' => e = .returned (.string (txtA x)) ∧ Below w.heap.size w w' := by
  unfold txtA
  cases ho : x.ok
  · exact rtxt_no x h ho w
  · exact rtxt_yes x h ho w
set_option maxRecDepth 100000 in
set_option maxHeartbeats 16000000 in
theorem walk (v : Nat) (hv : v < 4294967296) (x : In) (hx : x.wf) (w : World) (h : Tb w) :
    Calls Tryd.prog 3 #[.int .u32 v, .agg #[.int .u8 x.op, .int .u8 x.rd, .int .u8 x.rs1, .int .u8 x.rs2, .int .i64 x.imm]] w fun e w' => e = .returned (.bool true) ∧ Below w.heap.size w w' := by
  obtain ⟨y, hy⟩ : ∃ y, decA v = y := ⟨_, rfl⟩
  obtain ⟨E, hE⟩ : ∃ E, decE v = E := ⟨_, rfl⟩
  have hyw : y.wf := by
    rw [← hy]; unfold decA
    cases hd : decN v with
    | none => unfold In.wf; decide
    | some z => rw [← back_w (decN_is hd)]; exact fldF_wf _ _ _ hv (by have := op_of (decN_is hd).1; simp; omega)
  have kD := dec_any v hv
  have kR := rdec_any v hv
  rw [hy, hE] at kD kR
  have tX := txt_any x hx
  have rX := rtxt_any x hx
  have tY := txt_any y hyw
  have rY := rtxt_any y hyw
  unfold inC at kD kR tX rX tY rY
  clear hy hE
  generalize txtA x = sx at *
  generalize txtA y = sy at *
  have B0 : Below w.heap.size w (w.alloc (.cells #[.int .u8 x.op, .int .u8 x.rd, .int .u8 x.rs1, .int .u8 x.rs2, .int .i64 x.imm] 24)) := (Below.refl _ _).alloc (Nat.le_refl _) _
  have T0 := h.of B0
  have R0 := rowG_new #[.int .u8 x.op, .int .u8 x.rd, .int .u8 x.rs1, .int .u8 x.rs2, .int .i64 x.imm] 24 w
  go_enter Tryd.func3, Tryd.ntmps3
  go_wp2_with (first | (go_at_call 7; (with_reducible refine (kD _ T0).mono ?_); (rintro e w1 ⟨rfl, b1⟩)) | (go_at_call 8; (with_reducible refine (kR _).mono ?_); (rintro e w2 ⟨rfl, b2⟩)))
  clear kD kR
  obtain ⟨w0, hw0⟩ : ∃ w0, (w2.alloc (.cells #[.int .u8 y.op, .int .u8 y.rd, .int .u8 y.rs1, .int .u8 y.rs2, .int .i64 y.imm] 24)).drew = w0 := ⟨_, rfl⟩
  obtain ⟨gx, hgx⟩ : ∃ g, w.heap.size = g := ⟨_, rfl⟩
  obtain ⟨g1, hg1⟩ : ∃ g, w1.heap.size = g := ⟨_, rfl⟩
  obtain ⟨g2, hg2⟩ : ∃ g, w2.heap.size = g := ⟨_, rfl⟩
  have R1 := rowG_below R0 b1 R0.2.2
  have B1 := b1.alloc b1.size (.cells #[.int .u8 y.op, .int .u8 y.rd, .int .u8 y.rs1, .int .u8 y.rs2, .int .i64 y.imm] 24)
  have BB : Below w.heap.size w w2 := below_trans' (below_trans' B0 (Nat.le_refl _) B1) (Nat.le_refl _) b2
  have BW : Below w.heap.size w w0 := by rw [← hw0]; exact (BB.alloc BB.size _).drew
  have RX : rowG #[.int .u8 x.op, .int .u8 x.rd, .int .u8 x.rs1, .int .u8 x.rs2, .int .i64 x.imm] w0 gx := by
    rw [← hw0, ← hgx]; exact rowG_alloc (rowG_below (rowG_alloc R1 _) b2 (by have := R1.2.2; simp; omega)) _
  have RY : rowG #[.int .u8 y.op, .int .u8 y.rd, .int .u8 y.rs1, .int .u8 y.rs2, .int .i64 y.imm] w0 g1 := by
    rw [← hw0, ← hg1]; exact rowG_alloc (rowG_below (rowG_new _ _ _) b2 (by simp)) _
  have RZ : rowG #[.int .u8 y.op, .int .u8 y.rd, .int .u8 y.rs1, .int .u8 y.rs2, .int .i64 y.imm] w0 g2 := by
    rw [← hw0, ← hg2]; exact rowG_new _ _ _
  have TW := h.of BW
  have x_0 : w0.cell? ⟨gx, 0, none⟩ = some (.int .u8 x.op) := RX.1 0 (by simp)
  have x_1 : w0.cell? ⟨gx, 1, none⟩ = some (.int .u8 x.rd) := RX.1 1 (by simp)
  have x_2 : w0.cell? ⟨gx, 2, none⟩ = some (.int .u8 x.rs1) := RX.1 2 (by simp)
  have x_3 : w0.cell? ⟨gx, 3, none⟩ = some (.int .u8 x.rs2) := RX.1 3 (by simp)
  have x_4 : w0.cell? ⟨gx, 4, none⟩ = some (.int .i64 x.imm) := RX.1 4 (by simp)
  have y_0 : w0.cell? ⟨g1, 0, none⟩ = some (.int .u8 y.op) := RY.1 0 (by simp)
  have y_1 : w0.cell? ⟨g1, 1, none⟩ = some (.int .u8 y.rd) := RY.1 1 (by simp)
  have y_2 : w0.cell? ⟨g1, 2, none⟩ = some (.int .u8 y.rs1) := RY.1 2 (by simp)
  have y_3 : w0.cell? ⟨g1, 3, none⟩ = some (.int .u8 y.rs2) := RY.1 3 (by simp)
  have y_4 : w0.cell? ⟨g1, 4, none⟩ = some (.int .i64 y.imm) := RY.1 4 (by simp)
  have z_0 : w0.cell? ⟨g2, 0, none⟩ = some (.int .u8 y.op) := RZ.1 0 (by simp)
  have z_1 : w0.cell? ⟨g2, 1, none⟩ = some (.int .u8 y.rd) := RZ.1 1 (by simp)
  have z_2 : w0.cell? ⟨g2, 2, none⟩ = some (.int .u8 y.rs1) := RZ.1 2 (by simp)
  have z_3 : w0.cell? ⟨g2, 3, none⟩ = some (.int .u8 y.rs2) := RZ.1 3 (by simp)
  have z_4 : w0.cell? ⟨g2, 4, none⟩ = some (.int .i64 y.imm) := RZ.1 4 (by simp)
  refine wp_mono (Q := fun e a w9 => e = .normal ∧ a = ⟨#[.int .u32 v, .agg #[.int .u8 x.op, .int .u8 x.rd, .int .u8 x.rs1, .int .u8 x.rs2, .int .i64 x.imm], undef, .pointer (some ⟨gx, 0, none⟩), .bool true, .pointer (some ⟨g1, 0, none⟩), .int .i64 E, .pointer (some ⟨g2, 0, none⟩), .int .i64 E, .tuple #[.agg #[.int .u8 y.op, .int .u8 y.rd, .int .u8 y.rs1, .int .u8 y.rs2, .int .i64 y.imm], .int .i64 E], .int .u32 v, .tuple #[.agg #[.int .u8 y.op, .int .u8 y.rd, .int .u8 y.rs1, .int .u8 y.rs2, .int .i64 y.imm], .int .i64 E], .agg #[.int .u8 y.op, .int .u8 y.rd, .int .u8 y.rs1, .int .u8 y.rs2, .int .i64 y.imm], .int .i64 E, .tuple #[.agg #[.int .u8 y.op, .int .u8 y.rd, .int .u8 y.rs1, .int .u8 y.rs2, .int .i64 y.imm], .int .i64 E], .int .u32 v, .tuple #[.agg #[.int .u8 y.op, .int .u8 y.rd, .int .u8 y.rs1, .int .u8 y.rs2, .int .i64 y.imm], .int .i64 E], .agg #[.int .u8 y.op, .int .u8 y.rd, .int .u8 y.rs1, .int .u8 y.rs2, .int .i64 y.imm], .int .i64 E, .agg #[.int .u8 y.op, .int .u8 y.rd, .int .u8 y.rs1, .int .u8 y.rs2, .int .i64 y.imm], .agg #[.int .u8 y.op, .int .u8 y.rd, .int .u8 y.rs1, .int .u8 y.rs2, .int .i64 y.imm], .bool true, .bool true, .int .i64 E, .int .i64 E, .bool true, .bool true, .bool true, .agg #[.int .u8 x.op, .int .u8 x.rd, .int .u8 x.rs1, .int .u8 x.rs2, .int .i64 x.imm], .string sx, .agg #[.int .u8 x.op, .int .u8 x.rd, .int .u8 x.rs1, .int .u8 x.rs2, .int .i64 x.imm], .string sx, .bool true, .bool true, .bool true, .agg #[.int .u8 y.op, .int .u8 y.rd, .int .u8 y.rs1, .int .u8 y.rs2, .int .i64 y.imm], .string sy, .agg #[.int .u8 y.op, .int .u8 y.rd, .int .u8 y.rs1, .int .u8 y.rs2, .int .i64 y.imm], .string sy, .bool true, .bool true, .bool true, .bool true, .bool true], []⟩ ∧ Below w0.heap.size w0 w9) ?_ ?_
  rotate_left
  · rintro e a w9 ⟨rfl, rfl, hBe⟩
    try dsimp only
    have hB2 := below_trans' BW (Nat.le_refl _) hBe
    go_wp2
    go_ret
    exact ⟨rfl, hB2⟩
  refine wp_region_any (by kernel_rfl) ?_
  show wpAny _ _ _ _ _ _ _ (World.drew _)
  rw [hw0]
  try simp only [hgx, hg1, hg2]
  clear hw0 hgx hg1 hg2 R0 R1 B0 B1 b1 b2 BB T0
  refine wpAny_inv (fun fu L a w => ∃ (b0 b1 b2 b3 b4 b5 b6 b7 b8 b9 b10 b11 b12 b13 b14 b15 b16 b17 b18 b19 b20 b21 b22 b23 b24 : Bool), fu = 1 + (tg b0 + tg b1 + tg b2 + tg b3 + tg b4 + tg b5 + tg b6 + tg b7 + tg b8 + tg b9 + tg b10 + tg b11 + tg b12 + tg b13 + tg b14 + tg b15 + tg b16 + tg b17 + tg b18 + tg b19 + tg b20 + tg b21 + tg b22 + tg b23 + tg b24) ∧ L = #[b0, b1, b2, b3, b4, b5, b6, b7, b8, b9, b10, b11, b12, b13, b14, b15, b16, b17, b18, b19, b20, b21, b22, b23, b24, false] ∧ a = ⟨#[.int .u32 v, .agg #[.int .u8 x.op, .int .u8 x.rd, .int .u8 x.rs1, .int .u8 x.rs2, .int .i64 x.imm], undef, .pointer (some ⟨gx, 0, none⟩), .bool false, .pointer (some ⟨g1, 0, none⟩), .int .i64 E, .pointer (some ⟨g2, 0, none⟩), .int .i64 E, .tuple #[.agg #[.int .u8 y.op, .int .u8 y.rd, .int .u8 y.rs1, .int .u8 y.rs2, .int .i64 y.imm], .int .i64 E], .int .u32 v, .tuple #[.agg #[.int .u8 y.op, .int .u8 y.rd, .int .u8 y.rs1, .int .u8 y.rs2, .int .i64 y.imm], .int .i64 E], .agg #[.int .u8 y.op, .int .u8 y.rd, .int .u8 y.rs1, .int .u8 y.rs2, .int .i64 y.imm], .int .i64 E, .tuple #[.agg #[.int .u8 y.op, .int .u8 y.rd, .int .u8 y.rs1, .int .u8 y.rs2, .int .i64 y.imm], .int .i64 E], .int .u32 v, .tuple #[.agg #[.int .u8 y.op, .int .u8 y.rd, .int .u8 y.rs1, .int .u8 y.rs2, .int .i64 y.imm], .int .i64 E], .agg #[.int .u8 y.op, .int .u8 y.rd, .int .u8 y.rs1, .int .u8 y.rs2, .int .i64 y.imm], .int .i64 E, (bif b0 then .agg #[.int .u8 y.op, .int .u8 y.rd, .int .u8 y.rs1, .int .u8 y.rs2, .int .i64 y.imm] else undef), (bif b1 then .agg #[.int .u8 y.op, .int .u8 y.rd, .int .u8 y.rs1, .int .u8 y.rs2, .int .i64 y.imm] else undef), (bif b2 then .bool true else undef), (bif b3 then .bool true else undef), (bif b4 then .int .i64 E else undef), (bif b5 then .int .i64 E else undef), (bif b6 then .bool true else undef), (bif b7 then .bool true else undef), (bif b8 then .bool true else undef), (bif b9 then .agg #[.int .u8 x.op, .int .u8 x.rd, .int .u8 x.rs1, .int .u8 x.rs2, .int .i64 x.imm] else undef), (bif b10 then .string sx else undef), (bif b11 then .agg #[.int .u8 x.op, .int .u8 x.rd, .int .u8 x.rs1, .int .u8 x.rs2, .int .i64 x.imm] else undef), (bif b12 then .string sx else undef), (bif b13 then .bool true else undef), (bif b14 then .bool true else undef), (bif b15 then .bool true else undef), (bif b16 then .agg #[.int .u8 y.op, .int .u8 y.rd, .int .u8 y.rs1, .int .u8 y.rs2, .int .i64 y.imm] else undef), (bif b17 then .string sy else undef), (bif b18 then .agg #[.int .u8 y.op, .int .u8 y.rd, .int .u8 y.rs1, .int .u8 y.rs2, .int .i64 y.imm] else undef), (bif b19 then .string sy else undef), (bif b20 then .bool true else undef), (bif b21 then .bool true else undef), (bif b22 then .bool true else undef), (bif b23 then .bool true else undef), (bif b24 then .bool true else undef)], []⟩ ∧ ((b2 = true → b0 = true) ∧ (b2 = true → b1 = true) ∧ (b3 = true → b2 = true) ∧ (b4 = true → b3 = true) ∧ (b5 = true → b3 = true) ∧ (b6 = true → b4 = true) ∧ (b6 = true → b5 = true) ∧ (b6 = true → b3 = true) ∧ (b7 = true → b3 = true) ∧ (b7 = true → b6 = true) ∧ (b8 = true → b7 = true) ∧ (b8 = true → b3 = true) ∧ (b9 = true → b8 = true) ∧ (b10 = true → b9 = true) ∧ (b10 = true → b8 = true) ∧ (b11 = true → b8 = true) ∧ (b12 = true → b11 = true) ∧ (b12 = true → b10 = true) ∧ (b12 = true → b8 = true) ∧ (b13 = true → b10 = true) ∧ (b13 = true → b12 = true) ∧ (b13 = true → b8 = true) ∧ (b14 = true → b8 = true) ∧ (b14 = true → b13 = true) ∧ (b15 = true → b14 = true) ∧ (b15 = true → b12 = true) ∧ (b16 = true → b15 = true) ∧ (b17 = true → b16 = true) ∧ (b17 = true → b15 = true) ∧ (b18 = true → b15 = true) ∧ (b19 = true → b18 = true) ∧ (b19 = true → b17 = true) ∧ (b19 = true → b15 = true) ∧ (b20 = true → b17 = true) ∧ (b20 = true → b19 = true) ∧ (b20 = true → b15 = true) ∧ (b21 = true → b15 = true) ∧ (b21 = true → b20 = true) ∧ (b22 = true → b21 = true) ∧ (b22 = true → b19 = true) ∧ (b23 = true → b22 = true) ∧ (b24 = true → b22 = true) ∧ (b24 = true → b23 = true)) ∧ Below w0.heap.size w0 w ∧ (True) ∧ (True)) ?_ _ _ _ _ ⟨false, false, false, false, false, false, false, false, false, false, false, false, false, false, false, false, false, false, false, false, false, false, false, false, false, rfl, rfl, rfl, ⟨(by simp), (by simp), (by simp), (by simp), (by simp), (by simp), (by simp), (by simp), (by simp), (by simp), (by simp), (by simp), (by simp), (by simp), (by simp), (by simp), (by simp), (by simp), (by simp), (by simp), (by simp), (by simp), (by simp), (by simp), (by simp), (by simp), (by simp), (by simp), (by simp), (by simp), (by simp), (by simp), (by simp), (by simp), (by simp), (by simp), (by simp), (by simp), (by simp), (by simp), (by simp), (by simp), (by simp)⟩, Below.refl _ _, trivial, trivial⟩
  intro fu L a w hI
  obtain ⟨b0, b1, b2, b3, b4, b5, b6, b7, b8, b9, b10, b11, b12, b13, b14, b15, b16, b17, b18, b19, b20, b21, b22, b23, b24, rfl, rfl, rfl, ⟨e0, e1, e2, e3, e4, e5, e6, e7, e8, e9, e10, e11, e12, e13, e14, e15, e16, e17, e18, e19, e20, e21, e22, e23, e24, e25, e26, e27, e28, e29, e30, e31, e32, e33, e34, e35, e36, e37, e38, e39, e40, e41, e42⟩, hBe, _, _⟩ := hI
  by_cases hall : (b0 = true ∧ b1 = true ∧ b2 = true ∧ b3 = true ∧ b4 = true ∧ b5 = true ∧ b6 = true ∧ b7 = true ∧ b8 = true ∧ b9 = true ∧ b10 = true ∧ b11 = true ∧ b12 = true ∧ b13 = true ∧ b14 = true ∧ b15 = true ∧ b16 = true ∧ b17 = true ∧ b18 = true ∧ b19 = true ∧ b20 = true ∧ b21 = true ∧ b22 = true ∧ b23 = true ∧ b24 = true)
  rotate_left
  · right
    refine ⟨0 + (tg b0 + tg b1 + tg b2 + tg b3 + tg b4 + tg b5 + tg b6 + tg b7 + tg b8 + tg b9 + tg b10 + tg b11 + tg b12 + tg b13 + tg b14 + tg b15 + tg b16 + tg b17 + tg b18 + tg b19 + tg b20 + tg b21 + tg b22 + tg b23 + tg b24), by omega, ?_, ?_⟩
    · intro hr
      have nin : ∀ j, j ∉ Region.ready _ _ _ := fun j hj => by rw [hr] at hj; cases hj
      have t0 : b0 = true := by
        cases b0 with
        | true => rfl
        | false => exact absurd (mem_ready.2 ⟨rfl, _, rfl, by intro e he hb; simp at he; (try (rcases he with rfl | rfl | rfl <;> first | rfl | (simp [Region.binds] at hb))); (try (rcases he with rfl | rfl <;> first | rfl | (simp [Region.binds] at hb))); (try (subst he; first | rfl | (simp [Region.binds] at hb)))⟩) (nin 0)
      subst t0
      have t1 : b1 = true := by
        cases b1 with
        | true => rfl
        | false => exact absurd (mem_ready.2 ⟨rfl, _, rfl, by intro e he hb; simp at he; (try (rcases he with rfl | rfl | rfl <;> first | rfl | (simp [Region.binds] at hb))); (try (rcases he with rfl | rfl <;> first | rfl | (simp [Region.binds] at hb))); (try (subst he; first | rfl | (simp [Region.binds] at hb)))⟩) (nin 1)
      subst t1
      have t2 : b2 = true := by
        cases b2 with
        | true => rfl
        | false => exact absurd (mem_ready.2 ⟨rfl, _, rfl, by intro e he hb; simp at he; (try (rcases he with rfl | rfl | rfl <;> first | rfl | (simp [Region.binds] at hb))); (try (rcases he with rfl | rfl <;> first | rfl | (simp [Region.binds] at hb))); (try (subst he; first | rfl | (simp [Region.binds] at hb)))⟩) (nin 2)
      subst t2
      have t3 : b3 = true := by
        cases b3 with
        | true => rfl
        | false => exact absurd (mem_ready.2 ⟨rfl, _, rfl, by intro e he hb; simp at he; (try (rcases he with rfl | rfl | rfl <;> first | rfl | (simp [Region.binds] at hb))); (try (rcases he with rfl | rfl <;> first | rfl | (simp [Region.binds] at hb))); (try (subst he; first | rfl | (simp [Region.binds] at hb)))⟩) (nin 3)
      subst t3
      have t4 : b4 = true := by
        cases b4 with
        | true => rfl
        | false => exact absurd (mem_ready.2 ⟨rfl, _, rfl, by intro e he hb; simp at he; (try (rcases he with rfl | rfl | rfl <;> first | rfl | (simp [Region.binds] at hb))); (try (rcases he with rfl | rfl <;> first | rfl | (simp [Region.binds] at hb))); (try (subst he; first | rfl | (simp [Region.binds] at hb)))⟩) (nin 4)
      subst t4
      have t5 : b5 = true := by
        cases b5 with
        | true => rfl
        | false => exact absurd (mem_ready.2 ⟨rfl, _, rfl, by intro e he hb; simp at he; (try (rcases he with rfl | rfl | rfl <;> first | rfl | (simp [Region.binds] at hb))); (try (rcases he with rfl | rfl <;> first | rfl | (simp [Region.binds] at hb))); (try (subst he; first | rfl | (simp [Region.binds] at hb)))⟩) (nin 5)
      subst t5
      have t6 : b6 = true := by
        cases b6 with
        | true => rfl
        | false => exact absurd (mem_ready.2 ⟨rfl, _, rfl, by intro e he hb; simp at he; (try (rcases he with rfl | rfl | rfl <;> first | rfl | (simp [Region.binds] at hb))); (try (rcases he with rfl | rfl <;> first | rfl | (simp [Region.binds] at hb))); (try (subst he; first | rfl | (simp [Region.binds] at hb)))⟩) (nin 6)
      subst t6
      have t7 : b7 = true := by
        cases b7 with
        | true => rfl
        | false => exact absurd (mem_ready.2 ⟨rfl, _, rfl, by intro e he hb; simp at he; (try (rcases he with rfl | rfl | rfl <;> first | rfl | (simp [Region.binds] at hb))); (try (rcases he with rfl | rfl <;> first | rfl | (simp [Region.binds] at hb))); (try (subst he; first | rfl | (simp [Region.binds] at hb)))⟩) (nin 7)
      subst t7
      have t8 : b8 = true := by
        cases b8 with
        | true => rfl
        | false => exact absurd (mem_ready.2 ⟨rfl, _, rfl, by intro e he hb; simp at he; (try (rcases he with rfl | rfl | rfl <;> first | rfl | (simp [Region.binds] at hb))); (try (rcases he with rfl | rfl <;> first | rfl | (simp [Region.binds] at hb))); (try (subst he; first | rfl | (simp [Region.binds] at hb)))⟩) (nin 8)
      subst t8
      have t9 : b9 = true := by
        cases b9 with
        | true => rfl
        | false => exact absurd (mem_ready.2 ⟨rfl, _, rfl, by intro e he hb; simp at he; (try (rcases he with rfl | rfl | rfl <;> first | rfl | (simp [Region.binds] at hb))); (try (rcases he with rfl | rfl <;> first | rfl | (simp [Region.binds] at hb))); (try (subst he; first | rfl | (simp [Region.binds] at hb)))⟩) (nin 9)
      subst t9
      have t10 : b10 = true := by
        cases b10 with
        | true => rfl
        | false => exact absurd (mem_ready.2 ⟨rfl, _, rfl, by intro e he hb; simp at he; (try (rcases he with rfl | rfl | rfl <;> first | rfl | (simp [Region.binds] at hb))); (try (rcases he with rfl | rfl <;> first | rfl | (simp [Region.binds] at hb))); (try (subst he; first | rfl | (simp [Region.binds] at hb)))⟩) (nin 10)
      subst t10
      have t11 : b11 = true := by
        cases b11 with
        | true => rfl
        | false => exact absurd (mem_ready.2 ⟨rfl, _, rfl, by intro e he hb; simp at he; (try (rcases he with rfl | rfl | rfl <;> first | rfl | (simp [Region.binds] at hb))); (try (rcases he with rfl | rfl <;> first | rfl | (simp [Region.binds] at hb))); (try (subst he; first | rfl | (simp [Region.binds] at hb)))⟩) (nin 11)
      subst t11
      have t12 : b12 = true := by
        cases b12 with
        | true => rfl
        | false => exact absurd (mem_ready.2 ⟨rfl, _, rfl, by intro e he hb; simp at he; (try (rcases he with rfl | rfl | rfl <;> first | rfl | (simp [Region.binds] at hb))); (try (rcases he with rfl | rfl <;> first | rfl | (simp [Region.binds] at hb))); (try (subst he; first | rfl | (simp [Region.binds] at hb)))⟩) (nin 12)
      subst t12
      have t13 : b13 = true := by
        cases b13 with
        | true => rfl
        | false => exact absurd (mem_ready.2 ⟨rfl, _, rfl, by intro e he hb; simp at he; (try (rcases he with rfl | rfl | rfl <;> first | rfl | (simp [Region.binds] at hb))); (try (rcases he with rfl | rfl <;> first | rfl | (simp [Region.binds] at hb))); (try (subst he; first | rfl | (simp [Region.binds] at hb)))⟩) (nin 13)
      subst t13
      have t14 : b14 = true := by
        cases b14 with
        | true => rfl
        | false => exact absurd (mem_ready.2 ⟨rfl, _, rfl, by intro e he hb; simp at he; (try (rcases he with rfl | rfl | rfl <;> first | rfl | (simp [Region.binds] at hb))); (try (rcases he with rfl | rfl <;> first | rfl | (simp [Region.binds] at hb))); (try (subst he; first | rfl | (simp [Region.binds] at hb)))⟩) (nin 14)
      subst t14
      have t15 : b15 = true := by
        cases b15 with
        | true => rfl
        | false => exact absurd (mem_ready.2 ⟨rfl, _, rfl, by intro e he hb; simp at he; (try (rcases he with rfl | rfl | rfl <;> first | rfl | (simp [Region.binds] at hb))); (try (rcases he with rfl | rfl <;> first | rfl | (simp [Region.binds] at hb))); (try (subst he; first | rfl | (simp [Region.binds] at hb)))⟩) (nin 15)
      subst t15
      have t16 : b16 = true := by
        cases b16 with
        | true => rfl
        | false => exact absurd (mem_ready.2 ⟨rfl, _, rfl, by intro e he hb; simp at he; (try (rcases he with rfl | rfl | rfl <;> first | rfl | (simp [Region.binds] at hb))); (try (rcases he with rfl | rfl <;> first | rfl | (simp [Region.binds] at hb))); (try (subst he; first | rfl | (simp [Region.binds] at hb)))⟩) (nin 16)
      subst t16
      have t17 : b17 = true := by
        cases b17 with
        | true => rfl
        | false => exact absurd (mem_ready.2 ⟨rfl, _, rfl, by intro e he hb; simp at he; (try (rcases he with rfl | rfl | rfl <;> first | rfl | (simp [Region.binds] at hb))); (try (rcases he with rfl | rfl <;> first | rfl | (simp [Region.binds] at hb))); (try (subst he; first | rfl | (simp [Region.binds] at hb)))⟩) (nin 17)
      subst t17
      have t18 : b18 = true := by
        cases b18 with
        | true => rfl
        | false => exact absurd (mem_ready.2 ⟨rfl, _, rfl, by intro e he hb; simp at he; (try (rcases he with rfl | rfl | rfl <;> first | rfl | (simp [Region.binds] at hb))); (try (rcases he with rfl | rfl <;> first | rfl | (simp [Region.binds] at hb))); (try (subst he; first | rfl | (simp [Region.binds] at hb)))⟩) (nin 18)
      subst t18
      have t19 : b19 = true := by
        cases b19 with
        | true => rfl
        | false => exact absurd (mem_ready.2 ⟨rfl, _, rfl, by intro e he hb; simp at he; (try (rcases he with rfl | rfl | rfl <;> first | rfl | (simp [Region.binds] at hb))); (try (rcases he with rfl | rfl <;> first | rfl | (simp [Region.binds] at hb))); (try (subst he; first | rfl | (simp [Region.binds] at hb)))⟩) (nin 19)
      subst t19
      have t20 : b20 = true := by
        cases b20 with
        | true => rfl
        | false => exact absurd (mem_ready.2 ⟨rfl, _, rfl, by intro e he hb; simp at he; (try (rcases he with rfl | rfl | rfl <;> first | rfl | (simp [Region.binds] at hb))); (try (rcases he with rfl | rfl <;> first | rfl | (simp [Region.binds] at hb))); (try (subst he; first | rfl | (simp [Region.binds] at hb)))⟩) (nin 20)
      subst t20
      have t21 : b21 = true := by
        cases b21 with
        | true => rfl
        | false => exact absurd (mem_ready.2 ⟨rfl, _, rfl, by intro e he hb; simp at he; (try (rcases he with rfl | rfl | rfl <;> first | rfl | (simp [Region.binds] at hb))); (try (rcases he with rfl | rfl <;> first | rfl | (simp [Region.binds] at hb))); (try (subst he; first | rfl | (simp [Region.binds] at hb)))⟩) (nin 21)
      subst t21
      have t22 : b22 = true := by
        cases b22 with
        | true => rfl
        | false => exact absurd (mem_ready.2 ⟨rfl, _, rfl, by intro e he hb; simp at he; (try (rcases he with rfl | rfl | rfl <;> first | rfl | (simp [Region.binds] at hb))); (try (rcases he with rfl | rfl <;> first | rfl | (simp [Region.binds] at hb))); (try (subst he; first | rfl | (simp [Region.binds] at hb)))⟩) (nin 22)
      subst t22
      have t23 : b23 = true := by
        cases b23 with
        | true => rfl
        | false => exact absurd (mem_ready.2 ⟨rfl, _, rfl, by intro e he hb; simp at he; (try (rcases he with rfl | rfl | rfl <;> first | rfl | (simp [Region.binds] at hb))); (try (rcases he with rfl | rfl <;> first | rfl | (simp [Region.binds] at hb))); (try (subst he; first | rfl | (simp [Region.binds] at hb)))⟩) (nin 23)
      subst t23
      have t24 : b24 = true := by
        cases b24 with
        | true => rfl
        | false => exact absurd (mem_ready.2 ⟨rfl, _, rfl, by intro e he hb; simp at he; (try (rcases he with rfl | rfl | rfl <;> first | rfl | (simp [Region.binds] at hb))); (try (rcases he with rfl | rfl <;> first | rfl | (simp [Region.binds] at hb))); (try (subst he; first | rfl | (simp [Region.binds] at hb)))⟩) (nin 24)
      subst t24
      exact hall ⟨rfl, rfl, rfl, rfl, rfl, rfl, rfl, rfl, rfl, rfl, rfl, rfl, rfl, rfl, rfl, rfl, rfl, rfl, rfl, rfl, rfl, rfl, rfl, rfl, rfl⟩
    · intro i hi
      obtain ⟨h0, o, ho, hd⟩ := mem_ready.1 hi
      have hiN : i < 26 := by simpa using (Array.getElem?_eq_some_iff.1 ho).1
      have hcN : i = 0 ∨ i = 1 ∨ i = 2 ∨ i = 3 ∨ i = 4 ∨ i = 5 ∨ i = 6 ∨ i = 7 ∨ i = 8 ∨ i = 9 ∨ i = 10 ∨ i = 11 ∨ i = 12 ∨ i = 13 ∨ i = 14 ∨ i = 15 ∨ i = 16 ∨ i = 17 ∨ i = 18 ∨ i = 19 ∨ i = 20 ∨ i = 21 ∨ i = 22 ∨ i = 23 ∨ i = 24 ∨ i = 25 := by omega
      clear hi hiN
      rcases hcN with rfl | rfl | rfl | rfl | rfl | rfl | rfl | rfl | rfl | rfl | rfl | rfl | rfl | rfl | rfl | rfl | rfl | rfl | rfl | rfl | rfl | rfl | rfl | rfl | rfl | rfl
      · simp at ho h0
        subst ho
        simp [Region.binds] at hd
        subst h0
        refine wpOp_step rfl (fun K' hK => ?_)
        have l0 := stay hBe y_0
        have l1 := stay hBe y_1
        have l2 := stay hBe y_2
        have l3 := stay hBe y_3
        have l4 := stay hBe y_4
        go_simp
        exact hK _ _ ⟨true, b1, b2, b3, b4, b5, b6, b7, b8, b9, b10, b11, b12, b13, b14, b15, b16, b17, b18, b19, b20, b21, b22, b23, b24, by first | (simp only [tg_t, tg_f]; done) | (simp only [tg_t, tg_f]; omega), rfl, rfl, ⟨(by intro h; first | exact e0 h | rfl), (by intro h; first | exact e1 h | rfl), (by intro h; first | exact e2 h | rfl), (by intro h; first | exact e3 h | rfl), (by intro h; first | exact e4 h | rfl), (by intro h; first | exact e5 h | rfl), (by intro h; first | exact e6 h | rfl), (by intro h; first | exact e7 h | rfl), (by intro h; first | exact e8 h | rfl), (by intro h; first | exact e9 h | rfl), (by intro h; first | exact e10 h | rfl), (by intro h; first | exact e11 h | rfl), (by intro h; first | exact e12 h | rfl), (by intro h; first | exact e13 h | rfl), (by intro h; first | exact e14 h | rfl), (by intro h; first | exact e15 h | rfl), (by intro h; first | exact e16 h | rfl), (by intro h; first | exact e17 h | rfl), (by intro h; first | exact e18 h | rfl), (by intro h; first | exact e19 h | rfl), (by intro h; first | exact e20 h | rfl), (by intro h; first | exact e21 h | rfl), (by intro h; first | exact e22 h | rfl), (by intro h; first | exact e23 h | rfl), (by intro h; first | exact e24 h | rfl), (by intro h; first | exact e25 h | rfl), (by intro h; first | exact e26 h | rfl), (by intro h; first | exact e27 h | rfl), (by intro h; first | exact e28 h | rfl), (by intro h; first | exact e29 h | rfl), (by intro h; first | exact e30 h | rfl), (by intro h; first | exact e31 h | rfl), (by intro h; first | exact e32 h | rfl), (by intro h; first | exact e33 h | rfl), (by intro h; first | exact e34 h | rfl), (by intro h; first | exact e35 h | rfl), (by intro h; first | exact e36 h | rfl), (by intro h; first | exact e37 h | rfl), (by intro h; first | exact e38 h | rfl), (by intro h; first | exact e39 h | rfl), (by intro h; first | exact e40 h | rfl), (by intro h; first | exact e41 h | rfl), (by intro h; first | exact e42 h | rfl)⟩, hBe, trivial, trivial⟩
      · simp at ho h0
        subst ho
        simp [Region.binds] at hd
        subst h0
        refine wpOp_step rfl (fun K' hK => ?_)
        have l0 := stay hBe z_0
        have l1 := stay hBe z_1
        have l2 := stay hBe z_2
        have l3 := stay hBe z_3
        have l4 := stay hBe z_4
        go_simp
        exact hK _ _ ⟨b0, true, b2, b3, b4, b5, b6, b7, b8, b9, b10, b11, b12, b13, b14, b15, b16, b17, b18, b19, b20, b21, b22, b23, b24, by first | (simp only [tg_t, tg_f]; done) | (simp only [tg_t, tg_f]; omega), rfl, rfl, ⟨(by intro h; first | exact e0 h | rfl), (by intro h; first | exact e1 h | rfl), (by intro h; first | exact e2 h | rfl), (by intro h; first | exact e3 h | rfl), (by intro h; first | exact e4 h | rfl), (by intro h; first | exact e5 h | rfl), (by intro h; first | exact e6 h | rfl), (by intro h; first | exact e7 h | rfl), (by intro h; first | exact e8 h | rfl), (by intro h; first | exact e9 h | rfl), (by intro h; first | exact e10 h | rfl), (by intro h; first | exact e11 h | rfl), (by intro h; first | exact e12 h | rfl), (by intro h; first | exact e13 h | rfl), (by intro h; first | exact e14 h | rfl), (by intro h; first | exact e15 h | rfl), (by intro h; first | exact e16 h | rfl), (by intro h; first | exact e17 h | rfl), (by intro h; first | exact e18 h | rfl), (by intro h; first | exact e19 h | rfl), (by intro h; first | exact e20 h | rfl), (by intro h; first | exact e21 h | rfl), (by intro h; first | exact e22 h | rfl), (by intro h; first | exact e23 h | rfl), (by intro h; first | exact e24 h | rfl), (by intro h; first | exact e25 h | rfl), (by intro h; first | exact e26 h | rfl), (by intro h; first | exact e27 h | rfl), (by intro h; first | exact e28 h | rfl), (by intro h; first | exact e29 h | rfl), (by intro h; first | exact e30 h | rfl), (by intro h; first | exact e31 h | rfl), (by intro h; first | exact e32 h | rfl), (by intro h; first | exact e33 h | rfl), (by intro h; first | exact e34 h | rfl), (by intro h; first | exact e35 h | rfl), (by intro h; first | exact e36 h | rfl), (by intro h; first | exact e37 h | rfl), (by intro h; first | exact e38 h | rfl), (by intro h; first | exact e39 h | rfl), (by intro h; first | exact e40 h | rfl), (by intro h; first | exact e41 h | rfl), (by intro h; first | exact e42 h | rfl)⟩, hBe, trivial, trivial⟩
      · simp at ho h0
        subst ho
        simp [Region.binds] at hd
        subst h0
        refine wpOp_step rfl (fun K' hK => ?_)
        have g0 : b0 = true := by first | exact hd | exact hd.1 | exact hd.2 | exact hd.2.1 | exact hd.2.2 | exact hd.2.2.1 | exact hd.2.2.2
        have g1 : b1 = true := by first | exact hd | exact hd.1 | exact hd.2 | exact hd.2.1 | exact hd.2.2 | exact hd.2.2.1 | exact hd.2.2.2
        clear hd
        subst g0 g1
        go_simp
        exact hK _ _ ⟨true, true, true, b3, b4, b5, b6, b7, b8, b9, b10, b11, b12, b13, b14, b15, b16, b17, b18, b19, b20, b21, b22, b23, b24, by first | (simp only [tg_t, tg_f]; done) | (simp only [tg_t, tg_f]; omega), rfl, rfl, ⟨(by intro h; first | exact e0 h | rfl), (by intro h; first | exact e1 h | rfl), (by intro h; first | exact e2 h | rfl), (by intro h; first | exact e3 h | rfl), (by intro h; first | exact e4 h | rfl), (by intro h; first | exact e5 h | rfl), (by intro h; first | exact e6 h | rfl), (by intro h; first | exact e7 h | rfl), (by intro h; first | exact e8 h | rfl), (by intro h; first | exact e9 h | rfl), (by intro h; first | exact e10 h | rfl), (by intro h; first | exact e11 h | rfl), (by intro h; first | exact e12 h | rfl), (by intro h; first | exact e13 h | rfl), (by intro h; first | exact e14 h | rfl), (by intro h; first | exact e15 h | rfl), (by intro h; first | exact e16 h | rfl), (by intro h; first | exact e17 h | rfl), (by intro h; first | exact e18 h | rfl), (by intro h; first | exact e19 h | rfl), (by intro h; first | exact e20 h | rfl), (by intro h; first | exact e21 h | rfl), (by intro h; first | exact e22 h | rfl), (by intro h; first | exact e23 h | rfl), (by intro h; first | exact e24 h | rfl), (by intro h; first | exact e25 h | rfl), (by intro h; first | exact e26 h | rfl), (by intro h; first | exact e27 h | rfl), (by intro h; first | exact e28 h | rfl), (by intro h; first | exact e29 h | rfl), (by intro h; first | exact e30 h | rfl), (by intro h; first | exact e31 h | rfl), (by intro h; first | exact e32 h | rfl), (by intro h; first | exact e33 h | rfl), (by intro h; first | exact e34 h | rfl), (by intro h; first | exact e35 h | rfl), (by intro h; first | exact e36 h | rfl), (by intro h; first | exact e37 h | rfl), (by intro h; first | exact e38 h | rfl), (by intro h; first | exact e39 h | rfl), (by intro h; first | exact e40 h | rfl), (by intro h; first | exact e41 h | rfl), (by intro h; first | exact e42 h | rfl)⟩, hBe, trivial, trivial⟩
      · simp at ho h0
        subst ho
        simp [Region.binds] at hd
        subst h0
        refine wpOp_step rfl (fun K' hK => ?_)
        have g2 : b2 = true := by first | exact hd | exact hd.1 | exact hd.2 | exact hd.2.1 | exact hd.2.2 | exact hd.2.2.1 | exact hd.2.2.2
        clear hd
        subst g2
        obtain rfl := e0 rfl
        obtain rfl := e1 rfl
        go_simp
        exact hK _ _ ⟨true, true, true, true, b4, b5, b6, b7, b8, b9, b10, b11, b12, b13, b14, b15, b16, b17, b18, b19, b20, b21, b22, b23, b24, by first | (simp only [tg_t, tg_f]; done) | (simp only [tg_t, tg_f]; omega), rfl, rfl, ⟨(by intro h; first | exact e0 h | rfl), (by intro h; first | exact e1 h | rfl), (by intro h; first | exact e2 h | rfl), (by intro h; first | exact e3 h | rfl), (by intro h; first | exact e4 h | rfl), (by intro h; first | exact e5 h | rfl), (by intro h; first | exact e6 h | rfl), (by intro h; first | exact e7 h | rfl), (by intro h; first | exact e8 h | rfl), (by intro h; first | exact e9 h | rfl), (by intro h; first | exact e10 h | rfl), (by intro h; first | exact e11 h | rfl), (by intro h; first | exact e12 h | rfl), (by intro h; first | exact e13 h | rfl), (by intro h; first | exact e14 h | rfl), (by intro h; first | exact e15 h | rfl), (by intro h; first | exact e16 h | rfl), (by intro h; first | exact e17 h | rfl), (by intro h; first | exact e18 h | rfl), (by intro h; first | exact e19 h | rfl), (by intro h; first | exact e20 h | rfl), (by intro h; first | exact e21 h | rfl), (by intro h; first | exact e22 h | rfl), (by intro h; first | exact e23 h | rfl), (by intro h; first | exact e24 h | rfl), (by intro h; first | exact e25 h | rfl), (by intro h; first | exact e26 h | rfl), (by intro h; first | exact e27 h | rfl), (by intro h; first | exact e28 h | rfl), (by intro h; first | exact e29 h | rfl), (by intro h; first | exact e30 h | rfl), (by intro h; first | exact e31 h | rfl), (by intro h; first | exact e32 h | rfl), (by intro h; first | exact e33 h | rfl), (by intro h; first | exact e34 h | rfl), (by intro h; first | exact e35 h | rfl), (by intro h; first | exact e36 h | rfl), (by intro h; first | exact e37 h | rfl), (by intro h; first | exact e38 h | rfl), (by intro h; first | exact e39 h | rfl), (by intro h; first | exact e40 h | rfl), (by intro h; first | exact e41 h | rfl), (by intro h; first | exact e42 h | rfl)⟩, hBe, trivial, trivial⟩
      · simp at ho h0
        subst ho
        simp [Region.binds] at hd
        subst h0
        refine wpOp_step rfl (fun K' hK => ?_)
        have g3 : b3 = true := by first | exact hd | exact hd.1 | exact hd.2 | exact hd.2.1 | exact hd.2.2 | exact hd.2.2.1 | exact hd.2.2.2
        clear hd
        subst g3
        obtain rfl := e2 rfl
        obtain rfl := e0 rfl
        obtain rfl := e1 rfl
        go_simp
        exact hK _ _ ⟨true, true, true, true, true, b5, b6, b7, b8, b9, b10, b11, b12, b13, b14, b15, b16, b17, b18, b19, b20, b21, b22, b23, b24, by first | (simp only [tg_t, tg_f]; done) | (simp only [tg_t, tg_f]; omega), rfl, rfl, ⟨(by intro h; first | exact e0 h | rfl), (by intro h; first | exact e1 h | rfl), (by intro h; first | exact e2 h | rfl), (by intro h; first | exact e3 h | rfl), (by intro h; first | exact e4 h | rfl), (by intro h; first | exact e5 h | rfl), (by intro h; first | exact e6 h | rfl), (by intro h; first | exact e7 h | rfl), (by intro h; first | exact e8 h | rfl), (by intro h; first | exact e9 h | rfl), (by intro h; first | exact e10 h | rfl), (by intro h; first | exact e11 h | rfl), (by intro h; first | exact e12 h | rfl), (by intro h; first | exact e13 h | rfl), (by intro h; first | exact e14 h | rfl), (by intro h; first | exact e15 h | rfl), (by intro h; first | exact e16 h | rfl), (by intro h; first | exact e17 h | rfl), (by intro h; first | exact e18 h | rfl), (by intro h; first | exact e19 h | rfl), (by intro h; first | exact e20 h | rfl), (by intro h; first | exact e21 h | rfl), (by intro h; first | exact e22 h | rfl), (by intro h; first | exact e23 h | rfl), (by intro h; first | exact e24 h | rfl), (by intro h; first | exact e25 h | rfl), (by intro h; first | exact e26 h | rfl), (by intro h; first | exact e27 h | rfl), (by intro h; first | exact e28 h | rfl), (by intro h; first | exact e29 h | rfl), (by intro h; first | exact e30 h | rfl), (by intro h; first | exact e31 h | rfl), (by intro h; first | exact e32 h | rfl), (by intro h; first | exact e33 h | rfl), (by intro h; first | exact e34 h | rfl), (by intro h; first | exact e35 h | rfl), (by intro h; first | exact e36 h | rfl), (by intro h; first | exact e37 h | rfl), (by intro h; first | exact e38 h | rfl), (by intro h; first | exact e39 h | rfl), (by intro h; first | exact e40 h | rfl), (by intro h; first | exact e41 h | rfl), (by intro h; first | exact e42 h | rfl)⟩, hBe, trivial, trivial⟩
      · simp at ho h0
        subst ho
        simp [Region.binds] at hd
        subst h0
        refine wpOp_step rfl (fun K' hK => ?_)
        have g3 : b3 = true := by first | exact hd | exact hd.1 | exact hd.2 | exact hd.2.1 | exact hd.2.2 | exact hd.2.2.1 | exact hd.2.2.2
        clear hd
        subst g3
        obtain rfl := e2 rfl
        obtain rfl := e0 rfl
        obtain rfl := e1 rfl
        go_simp
        exact hK _ _ ⟨true, true, true, true, b4, true, b6, b7, b8, b9, b10, b11, b12, b13, b14, b15, b16, b17, b18, b19, b20, b21, b22, b23, b24, by first | (simp only [tg_t, tg_f]; done) | (simp only [tg_t, tg_f]; omega), rfl, rfl, ⟨(by intro h; first | exact e0 h | rfl), (by intro h; first | exact e1 h | rfl), (by intro h; first | exact e2 h | rfl), (by intro h; first | exact e3 h | rfl), (by intro h; first | exact e4 h | rfl), (by intro h; first | exact e5 h | rfl), (by intro h; first | exact e6 h | rfl), (by intro h; first | exact e7 h | rfl), (by intro h; first | exact e8 h | rfl), (by intro h; first | exact e9 h | rfl), (by intro h; first | exact e10 h | rfl), (by intro h; first | exact e11 h | rfl), (by intro h; first | exact e12 h | rfl), (by intro h; first | exact e13 h | rfl), (by intro h; first | exact e14 h | rfl), (by intro h; first | exact e15 h | rfl), (by intro h; first | exact e16 h | rfl), (by intro h; first | exact e17 h | rfl), (by intro h; first | exact e18 h | rfl), (by intro h; first | exact e19 h | rfl), (by intro h; first | exact e20 h | rfl), (by intro h; first | exact e21 h | rfl), (by intro h; first | exact e22 h | rfl), (by intro h; first | exact e23 h | rfl), (by intro h; first | exact e24 h | rfl), (by intro h; first | exact e25 h | rfl), (by intro h; first | exact e26 h | rfl), (by intro h; first | exact e27 h | rfl), (by intro h; first | exact e28 h | rfl), (by intro h; first | exact e29 h | rfl), (by intro h; first | exact e30 h | rfl), (by intro h; first | exact e31 h | rfl), (by intro h; first | exact e32 h | rfl), (by intro h; first | exact e33 h | rfl), (by intro h; first | exact e34 h | rfl), (by intro h; first | exact e35 h | rfl), (by intro h; first | exact e36 h | rfl), (by intro h; first | exact e37 h | rfl), (by intro h; first | exact e38 h | rfl), (by intro h; first | exact e39 h | rfl), (by intro h; first | exact e40 h | rfl), (by intro h; first | exact e41 h | rfl), (by intro h; first | exact e42 h | rfl)⟩, hBe, trivial, trivial⟩
      · simp at ho h0
        subst ho
        simp [Region.binds] at hd
        subst h0
        refine wpOp_step rfl (fun K' hK => ?_)
        have g4 : b4 = true := by first | exact hd | exact hd.1 | exact hd.2 | exact hd.2.1 | exact hd.2.2 | exact hd.2.2.1 | exact hd.2.2.2
        have g5 : b5 = true := by first | exact hd | exact hd.1 | exact hd.2 | exact hd.2.1 | exact hd.2.2 | exact hd.2.2.1 | exact hd.2.2.2
        have g3 : b3 = true := by first | exact hd | exact hd.1 | exact hd.2 | exact hd.2.1 | exact hd.2.2 | exact hd.2.2.1 | exact hd.2.2.2
        clear hd
        subst g4 g5 g3
        obtain rfl := e2 rfl
        obtain rfl := e0 rfl
        obtain rfl := e1 rfl
        go_simp
        exact hK _ _ ⟨true, true, true, true, true, true, true, b7, b8, b9, b10, b11, b12, b13, b14, b15, b16, b17, b18, b19, b20, b21, b22, b23, b24, by first | (simp only [tg_t, tg_f]; done) | (simp only [tg_t, tg_f]; omega), rfl, rfl, ⟨(by intro h; first | exact e0 h | rfl), (by intro h; first | exact e1 h | rfl), (by intro h; first | exact e2 h | rfl), (by intro h; first | exact e3 h | rfl), (by intro h; first | exact e4 h | rfl), (by intro h; first | exact e5 h | rfl), (by intro h; first | exact e6 h | rfl), (by intro h; first | exact e7 h | rfl), (by intro h; first | exact e8 h | rfl), (by intro h; first | exact e9 h | rfl), (by intro h; first | exact e10 h | rfl), (by intro h; first | exact e11 h | rfl), (by intro h; first | exact e12 h | rfl), (by intro h; first | exact e13 h | rfl), (by intro h; first | exact e14 h | rfl), (by intro h; first | exact e15 h | rfl), (by intro h; first | exact e16 h | rfl), (by intro h; first | exact e17 h | rfl), (by intro h; first | exact e18 h | rfl), (by intro h; first | exact e19 h | rfl), (by intro h; first | exact e20 h | rfl), (by intro h; first | exact e21 h | rfl), (by intro h; first | exact e22 h | rfl), (by intro h; first | exact e23 h | rfl), (by intro h; first | exact e24 h | rfl), (by intro h; first | exact e25 h | rfl), (by intro h; first | exact e26 h | rfl), (by intro h; first | exact e27 h | rfl), (by intro h; first | exact e28 h | rfl), (by intro h; first | exact e29 h | rfl), (by intro h; first | exact e30 h | rfl), (by intro h; first | exact e31 h | rfl), (by intro h; first | exact e32 h | rfl), (by intro h; first | exact e33 h | rfl), (by intro h; first | exact e34 h | rfl), (by intro h; first | exact e35 h | rfl), (by intro h; first | exact e36 h | rfl), (by intro h; first | exact e37 h | rfl), (by intro h; first | exact e38 h | rfl), (by intro h; first | exact e39 h | rfl), (by intro h; first | exact e40 h | rfl), (by intro h; first | exact e41 h | rfl), (by intro h; first | exact e42 h | rfl)⟩, hBe, trivial, trivial⟩
      · simp at ho h0
        subst ho
        simp [Region.binds] at hd
        subst h0
        refine wpOp_step rfl (fun K' hK => ?_)
        have g3 : b3 = true := by first | exact hd | exact hd.1 | exact hd.2 | exact hd.2.1 | exact hd.2.2 | exact hd.2.2.1 | exact hd.2.2.2
        have g6 : b6 = true := by first | exact hd | exact hd.1 | exact hd.2 | exact hd.2.1 | exact hd.2.2 | exact hd.2.2.1 | exact hd.2.2.2
        clear hd
        subst g3 g6
        obtain rfl := e2 rfl
        obtain rfl := e5 rfl
        obtain rfl := e6 rfl
        obtain rfl := e0 rfl
        obtain rfl := e1 rfl
        go_simp
        exact hK _ _ ⟨true, true, true, true, true, true, true, true, b8, b9, b10, b11, b12, b13, b14, b15, b16, b17, b18, b19, b20, b21, b22, b23, b24, by first | (simp only [tg_t, tg_f]; done) | (simp only [tg_t, tg_f]; omega), rfl, rfl, ⟨(by intro h; first | exact e0 h | rfl), (by intro h; first | exact e1 h | rfl), (by intro h; first | exact e2 h | rfl), (by intro h; first | exact e3 h | rfl), (by intro h; first | exact e4 h | rfl), (by intro h; first | exact e5 h | rfl), (by intro h; first | exact e6 h | rfl), (by intro h; first | exact e7 h | rfl), (by intro h; first | exact e8 h | rfl), (by intro h; first | exact e9 h | rfl), (by intro h; first | exact e10 h | rfl), (by intro h; first | exact e11 h | rfl), (by intro h; first | exact e12 h | rfl), (by intro h; first | exact e13 h | rfl), (by intro h; first | exact e14 h | rfl), (by intro h; first | exact e15 h | rfl), (by intro h; first | exact e16 h | rfl), (by intro h; first | exact e17 h | rfl), (by intro h; first | exact e18 h | rfl), (by intro h; first | exact e19 h | rfl), (by intro h; first | exact e20 h | rfl), (by intro h; first | exact e21 h | rfl), (by intro h; first | exact e22 h | rfl), (by intro h; first | exact e23 h | rfl), (by intro h; first | exact e24 h | rfl), (by intro h; first | exact e25 h | rfl), (by intro h; first | exact e26 h | rfl), (by intro h; first | exact e27 h | rfl), (by intro h; first | exact e28 h | rfl), (by intro h; first | exact e29 h | rfl), (by intro h; first | exact e30 h | rfl), (by intro h; first | exact e31 h | rfl), (by intro h; first | exact e32 h | rfl), (by intro h; first | exact e33 h | rfl), (by intro h; first | exact e34 h | rfl), (by intro h; first | exact e35 h | rfl), (by intro h; first | exact e36 h | rfl), (by intro h; first | exact e37 h | rfl), (by intro h; first | exact e38 h | rfl), (by intro h; first | exact e39 h | rfl), (by intro h; first | exact e40 h | rfl), (by intro h; first | exact e41 h | rfl), (by intro h; first | exact e42 h | rfl)⟩, hBe, trivial, trivial⟩
      · simp at ho h0
        subst ho
        simp [Region.binds] at hd
        subst h0
        refine wpOp_step rfl (fun K' hK => ?_)
        have g7 : b7 = true := by first | exact hd | exact hd.1 | exact hd.2 | exact hd.2.1 | exact hd.2.2 | exact hd.2.2.1 | exact hd.2.2.2
        have g3 : b3 = true := by first | exact hd | exact hd.1 | exact hd.2 | exact hd.2.1 | exact hd.2.2 | exact hd.2.2.1 | exact hd.2.2.2
        clear hd
        subst g7 g3
        obtain rfl := e9 rfl
        obtain rfl := e2 rfl
        obtain rfl := e5 rfl
        obtain rfl := e6 rfl
        obtain rfl := e0 rfl
        obtain rfl := e1 rfl
        go_simp
        exact hK _ _ ⟨true, true, true, true, true, true, true, true, true, b9, b10, b11, b12, b13, b14, b15, b16, b17, b18, b19, b20, b21, b22, b23, b24, by first | (simp only [tg_t, tg_f]; done) | (simp only [tg_t, tg_f]; omega), rfl, rfl, ⟨(by intro h; first | exact e0 h | rfl), (by intro h; first | exact e1 h | rfl), (by intro h; first | exact e2 h | rfl), (by intro h; first | exact e3 h | rfl), (by intro h; first | exact e4 h | rfl), (by intro h; first | exact e5 h | rfl), (by intro h; first | exact e6 h | rfl), (by intro h; first | exact e7 h | rfl), (by intro h; first | exact e8 h | rfl), (by intro h; first | exact e9 h | rfl), (by intro h; first | exact e10 h | rfl), (by intro h; first | exact e11 h | rfl), (by intro h; first | exact e12 h | rfl), (by intro h; first | exact e13 h | rfl), (by intro h; first | exact e14 h | rfl), (by intro h; first | exact e15 h | rfl), (by intro h; first | exact e16 h | rfl), (by intro h; first | exact e17 h | rfl), (by intro h; first | exact e18 h | rfl), (by intro h; first | exact e19 h | rfl), (by intro h; first | exact e20 h | rfl), (by intro h; first | exact e21 h | rfl), (by intro h; first | exact e22 h | rfl), (by intro h; first | exact e23 h | rfl), (by intro h; first | exact e24 h | rfl), (by intro h; first | exact e25 h | rfl), (by intro h; first | exact e26 h | rfl), (by intro h; first | exact e27 h | rfl), (by intro h; first | exact e28 h | rfl), (by intro h; first | exact e29 h | rfl), (by intro h; first | exact e30 h | rfl), (by intro h; first | exact e31 h | rfl), (by intro h; first | exact e32 h | rfl), (by intro h; first | exact e33 h | rfl), (by intro h; first | exact e34 h | rfl), (by intro h; first | exact e35 h | rfl), (by intro h; first | exact e36 h | rfl), (by intro h; first | exact e37 h | rfl), (by intro h; first | exact e38 h | rfl), (by intro h; first | exact e39 h | rfl), (by intro h; first | exact e40 h | rfl), (by intro h; first | exact e41 h | rfl), (by intro h; first | exact e42 h | rfl)⟩, hBe, trivial, trivial⟩
      · simp at ho h0
        subst ho
        simp [Region.binds] at hd
        subst h0
        refine wpOp_step rfl (fun K' hK => ?_)
        have g8 : b8 = true := by first | exact hd | exact hd.1 | exact hd.2 | exact hd.2.1 | exact hd.2.2 | exact hd.2.2.1 | exact hd.2.2.2
        clear hd
        subst g8
        obtain rfl := e10 rfl
        obtain rfl := e11 rfl
        obtain rfl := e9 rfl
        obtain rfl := e2 rfl
        obtain rfl := e5 rfl
        obtain rfl := e6 rfl
        obtain rfl := e0 rfl
        obtain rfl := e1 rfl
        have l0 := stay hBe x_0
        have l1 := stay hBe x_1
        have l2 := stay hBe x_2
        have l3 := stay hBe x_3
        have l4 := stay hBe x_4
        go_simp
        exact hK _ _ ⟨true, true, true, true, true, true, true, true, true, true, b10, b11, b12, b13, b14, b15, b16, b17, b18, b19, b20, b21, b22, b23, b24, by first | (simp only [tg_t, tg_f]; done) | (simp only [tg_t, tg_f]; omega), rfl, rfl, ⟨(by intro h; first | exact e0 h | rfl), (by intro h; first | exact e1 h | rfl), (by intro h; first | exact e2 h | rfl), (by intro h; first | exact e3 h | rfl), (by intro h; first | exact e4 h | rfl), (by intro h; first | exact e5 h | rfl), (by intro h; first | exact e6 h | rfl), (by intro h; first | exact e7 h | rfl), (by intro h; first | exact e8 h | rfl), (by intro h; first | exact e9 h | rfl), (by intro h; first | exact e10 h | rfl), (by intro h; first | exact e11 h | rfl), (by intro h; first | exact e12 h | rfl), (by intro h; first | exact e13 h | rfl), (by intro h; first | exact e14 h | rfl), (by intro h; first | exact e15 h | rfl), (by intro h; first | exact e16 h | rfl), (by intro h; first | exact e17 h | rfl), (by intro h; first | exact e18 h | rfl), (by intro h; first | exact e19 h | rfl), (by intro h; first | exact e20 h | rfl), (by intro h; first | exact e21 h | rfl), (by intro h; first | exact e22 h | rfl), (by intro h; first | exact e23 h | rfl), (by intro h; first | exact e24 h | rfl), (by intro h; first | exact e25 h | rfl), (by intro h; first | exact e26 h | rfl), (by intro h; first | exact e27 h | rfl), (by intro h; first | exact e28 h | rfl), (by intro h; first | exact e29 h | rfl), (by intro h; first | exact e30 h | rfl), (by intro h; first | exact e31 h | rfl), (by intro h; first | exact e32 h | rfl), (by intro h; first | exact e33 h | rfl), (by intro h; first | exact e34 h | rfl), (by intro h; first | exact e35 h | rfl), (by intro h; first | exact e36 h | rfl), (by intro h; first | exact e37 h | rfl), (by intro h; first | exact e38 h | rfl), (by intro h; first | exact e39 h | rfl), (by intro h; first | exact e40 h | rfl), (by intro h; first | exact e41 h | rfl), (by intro h; first | exact e42 h | rfl)⟩, hBe, trivial, trivial⟩
      · simp at ho h0
        subst ho
        simp [Region.binds] at hd
        subst h0
        refine wpOp_step rfl (fun K' hK => ?_)
        have g9 : b9 = true := by first | exact hd | exact hd.1 | exact hd.2 | exact hd.2.1 | exact hd.2.2 | exact hd.2.2.1 | exact hd.2.2.2
        have g8 : b8 = true := by first | exact hd | exact hd.1 | exact hd.2 | exact hd.2.1 | exact hd.2.2 | exact hd.2.2.1 | exact hd.2.2.2
        clear hd
        subst g9 g8
        obtain rfl := e10 rfl
        obtain rfl := e11 rfl
        obtain rfl := e9 rfl
        obtain rfl := e2 rfl
        obtain rfl := e5 rfl
        obtain rfl := e6 rfl
        obtain rfl := e0 rfl
        obtain rfl := e1 rfl
        go_simp
        go_at_call 9; (with_reducible refine (tX _ (TW.of hBe)).mono ?_); rintro e w3 ⟨rfl, hbc⟩
        exact hK _ _ ⟨true, true, true, true, true, true, true, true, true, true, true, b11, b12, b13, b14, b15, b16, b17, b18, b19, b20, b21, b22, b23, b24, by first | (simp only [tg_t, tg_f]; done) | (simp only [tg_t, tg_f]; omega), rfl, rfl, ⟨(by intro h; first | exact e0 h | rfl), (by intro h; first | exact e1 h | rfl), (by intro h; first | exact e2 h | rfl), (by intro h; first | exact e3 h | rfl), (by intro h; first | exact e4 h | rfl), (by intro h; first | exact e5 h | rfl), (by intro h; first | exact e6 h | rfl), (by intro h; first | exact e7 h | rfl), (by intro h; first | exact e8 h | rfl), (by intro h; first | exact e9 h | rfl), (by intro h; first | exact e10 h | rfl), (by intro h; first | exact e11 h | rfl), (by intro h; first | exact e12 h | rfl), (by intro h; first | exact e13 h | rfl), (by intro h; first | exact e14 h | rfl), (by intro h; first | exact e15 h | rfl), (by intro h; first | exact e16 h | rfl), (by intro h; first | exact e17 h | rfl), (by intro h; first | exact e18 h | rfl), (by intro h; first | exact e19 h | rfl), (by intro h; first | exact e20 h | rfl), (by intro h; first | exact e21 h | rfl), (by intro h; first | exact e22 h | rfl), (by intro h; first | exact e23 h | rfl), (by intro h; first | exact e24 h | rfl), (by intro h; first | exact e25 h | rfl), (by intro h; first | exact e26 h | rfl), (by intro h; first | exact e27 h | rfl), (by intro h; first | exact e28 h | rfl), (by intro h; first | exact e29 h | rfl), (by intro h; first | exact e30 h | rfl), (by intro h; first | exact e31 h | rfl), (by intro h; first | exact e32 h | rfl), (by intro h; first | exact e33 h | rfl), (by intro h; first | exact e34 h | rfl), (by intro h; first | exact e35 h | rfl), (by intro h; first | exact e36 h | rfl), (by intro h; first | exact e37 h | rfl), (by intro h; first | exact e38 h | rfl), (by intro h; first | exact e39 h | rfl), (by intro h; first | exact e40 h | rfl), (by intro h; first | exact e41 h | rfl), (by intro h; first | exact e42 h | rfl)⟩, (below_trans' hBe (Nat.le_refl _) hbc), trivial, trivial⟩
      · simp at ho h0
        subst ho
        simp [Region.binds] at hd
        subst h0
        refine wpOp_step rfl (fun K' hK => ?_)
        have g8 : b8 = true := by first | exact hd | exact hd.1 | exact hd.2 | exact hd.2.1 | exact hd.2.2 | exact hd.2.2.1 | exact hd.2.2.2
        clear hd
        subst g8
        obtain rfl := e10 rfl
        obtain rfl := e11 rfl
        obtain rfl := e9 rfl
        obtain rfl := e2 rfl
        obtain rfl := e5 rfl
        obtain rfl := e6 rfl
        obtain rfl := e0 rfl
        obtain rfl := e1 rfl
        have l0 := stay hBe x_0
        have l1 := stay hBe x_1
        have l2 := stay hBe x_2
        have l3 := stay hBe x_3
        have l4 := stay hBe x_4
        go_simp
        exact hK _ _ ⟨true, true, true, true, true, true, true, true, true, b9, b10, true, b12, b13, b14, b15, b16, b17, b18, b19, b20, b21, b22, b23, b24, by first | (simp only [tg_t, tg_f]; done) | (simp only [tg_t, tg_f]; omega), rfl, rfl, ⟨(by intro h; first | exact e0 h | rfl), (by intro h; first | exact e1 h | rfl), (by intro h; first | exact e2 h | rfl), (by intro h; first | exact e3 h | rfl), (by intro h; first | exact e4 h | rfl), (by intro h; first | exact e5 h | rfl), (by intro h; first | exact e6 h | rfl), (by intro h; first | exact e7 h | rfl), (by intro h; first | exact e8 h | rfl), (by intro h; first | exact e9 h | rfl), (by intro h; first | exact e10 h | rfl), (by intro h; first | exact e11 h | rfl), (by intro h; first | exact e12 h | rfl), (by intro h; first | exact e13 h | rfl), (by intro h; first | exact e14 h | rfl), (by intro h; first | exact e15 h | rfl), (by intro h; first | exact e16 h | rfl), (by intro h; first | exact e17 h | rfl), (by intro h; first | exact e18 h | rfl), (by intro h; first | exact e19 h | rfl), (by intro h; first | exact e20 h | rfl), (by intro h; first | exact e21 h | rfl), (by intro h; first | exact e22 h | rfl), (by intro h; first | exact e23 h | rfl), (by intro h; first | exact e24 h | rfl), (by intro h; first | exact e25 h | rfl), (by intro h; first | exact e26 h | rfl), (by intro h; first | exact e27 h | rfl), (by intro h; first | exact e28 h | rfl), (by intro h; first | exact e29 h | rfl), (by intro h; first | exact e30 h | rfl), (by intro h; first | exact e31 h | rfl), (by intro h; first | exact e32 h | rfl), (by intro h; first | exact e33 h | rfl), (by intro h; first | exact e34 h | rfl), (by intro h; first | exact e35 h | rfl), (by intro h; first | exact e36 h | rfl), (by intro h; first | exact e37 h | rfl), (by intro h; first | exact e38 h | rfl), (by intro h; first | exact e39 h | rfl), (by intro h; first | exact e40 h | rfl), (by intro h; first | exact e41 h | rfl), (by intro h; first | exact e42 h | rfl)⟩, hBe, trivial, trivial⟩
      · simp at ho h0
        subst ho
        simp [Region.binds] at hd
        subst h0
        refine wpOp_step rfl (fun K' hK => ?_)
        have g11 : b11 = true := by first | exact hd | exact hd.1 | exact hd.2 | exact hd.2.1 | exact hd.2.2 | exact hd.2.2.1 | exact hd.2.2.2
        have g10 : b10 = true := by first | exact hd | exact hd.1 | exact hd.2 | exact hd.2.1 | exact hd.2.2 | exact hd.2.2.1 | exact hd.2.2.2
        have g8 : b8 = true := by first | exact hd | exact hd.1 | exact hd.2 | exact hd.2.1 | exact hd.2.2 | exact hd.2.2.1 | exact hd.2.2.2
        clear hd
        subst g11 g10 g8
        obtain rfl := e13 rfl
        obtain rfl := e10 rfl
        obtain rfl := e11 rfl
        obtain rfl := e9 rfl
        obtain rfl := e2 rfl
        obtain rfl := e5 rfl
        obtain rfl := e6 rfl
        obtain rfl := e0 rfl
        obtain rfl := e1 rfl
        go_simp
        go_at_call 10; (with_reducible refine (rX _).mono ?_); rintro e w3 ⟨rfl, hbc⟩
        exact hK _ _ ⟨true, true, true, true, true, true, true, true, true, true, true, true, true, b13, b14, b15, b16, b17, b18, b19, b20, b21, b22, b23, b24, by first | (simp only [tg_t, tg_f]; done) | (simp only [tg_t, tg_f]; omega), rfl, rfl, ⟨(by intro h; first | exact e0 h | rfl), (by intro h; first | exact e1 h | rfl), (by intro h; first | exact e2 h | rfl), (by intro h; first | exact e3 h | rfl), (by intro h; first | exact e4 h | rfl), (by intro h; first | exact e5 h | rfl), (by intro h; first | exact e6 h | rfl), (by intro h; first | exact e7 h | rfl), (by intro h; first | exact e8 h | rfl), (by intro h; first | exact e9 h | rfl), (by intro h; first | exact e10 h | rfl), (by intro h; first | exact e11 h | rfl), (by intro h; first | exact e12 h | rfl), (by intro h; first | exact e13 h | rfl), (by intro h; first | exact e14 h | rfl), (by intro h; first | exact e15 h | rfl), (by intro h; first | exact e16 h | rfl), (by intro h; first | exact e17 h | rfl), (by intro h; first | exact e18 h | rfl), (by intro h; first | exact e19 h | rfl), (by intro h; first | exact e20 h | rfl), (by intro h; first | exact e21 h | rfl), (by intro h; first | exact e22 h | rfl), (by intro h; first | exact e23 h | rfl), (by intro h; first | exact e24 h | rfl), (by intro h; first | exact e25 h | rfl), (by intro h; first | exact e26 h | rfl), (by intro h; first | exact e27 h | rfl), (by intro h; first | exact e28 h | rfl), (by intro h; first | exact e29 h | rfl), (by intro h; first | exact e30 h | rfl), (by intro h; first | exact e31 h | rfl), (by intro h; first | exact e32 h | rfl), (by intro h; first | exact e33 h | rfl), (by intro h; first | exact e34 h | rfl), (by intro h; first | exact e35 h | rfl), (by intro h; first | exact e36 h | rfl), (by intro h; first | exact e37 h | rfl), (by intro h; first | exact e38 h | rfl), (by intro h; first | exact e39 h | rfl), (by intro h; first | exact e40 h | rfl), (by intro h; first | exact e41 h | rfl), (by intro h; first | exact e42 h | rfl)⟩, (below_trans' hBe (Nat.le_refl _) hbc), trivial, trivial⟩
      · simp at ho h0
        subst ho
        simp [Region.binds] at hd
        subst h0
        refine wpOp_step rfl (fun K' hK => ?_)
        have g10 : b10 = true := by first | exact hd | exact hd.1 | exact hd.2 | exact hd.2.1 | exact hd.2.2 | exact hd.2.2.1 | exact hd.2.2.2
        have g12 : b12 = true := by first | exact hd | exact hd.1 | exact hd.2 | exact hd.2.1 | exact hd.2.2 | exact hd.2.2.1 | exact hd.2.2.2
        have g8 : b8 = true := by first | exact hd | exact hd.1 | exact hd.2 | exact hd.2.1 | exact hd.2.2 | exact hd.2.2.1 | exact hd.2.2.2
        clear hd
        subst g10 g12 g8
        obtain rfl := e13 rfl
        obtain rfl := e16 rfl
        obtain rfl := e10 rfl
        obtain rfl := e11 rfl
        obtain rfl := e9 rfl
        obtain rfl := e2 rfl
        obtain rfl := e5 rfl
        obtain rfl := e6 rfl
        obtain rfl := e0 rfl
        obtain rfl := e1 rfl
        go_simp
        exact hK _ _ ⟨true, true, true, true, true, true, true, true, true, true, true, true, true, true, b14, b15, b16, b17, b18, b19, b20, b21, b22, b23, b24, by first | (simp only [tg_t, tg_f]; done) | (simp only [tg_t, tg_f]; omega), rfl, rfl, ⟨(by intro h; first | exact e0 h | rfl), (by intro h; first | exact e1 h | rfl), (by intro h; first | exact e2 h | rfl), (by intro h; first | exact e3 h | rfl), (by intro h; first | exact e4 h | rfl), (by intro h; first | exact e5 h | rfl), (by intro h; first | exact e6 h | rfl), (by intro h; first | exact e7 h | rfl), (by intro h; first | exact e8 h | rfl), (by intro h; first | exact e9 h | rfl), (by intro h; first | exact e10 h | rfl), (by intro h; first | exact e11 h | rfl), (by intro h; first | exact e12 h | rfl), (by intro h; first | exact e13 h | rfl), (by intro h; first | exact e14 h | rfl), (by intro h; first | exact e15 h | rfl), (by intro h; first | exact e16 h | rfl), (by intro h; first | exact e17 h | rfl), (by intro h; first | exact e18 h | rfl), (by intro h; first | exact e19 h | rfl), (by intro h; first | exact e20 h | rfl), (by intro h; first | exact e21 h | rfl), (by intro h; first | exact e22 h | rfl), (by intro h; first | exact e23 h | rfl), (by intro h; first | exact e24 h | rfl), (by intro h; first | exact e25 h | rfl), (by intro h; first | exact e26 h | rfl), (by intro h; first | exact e27 h | rfl), (by intro h; first | exact e28 h | rfl), (by intro h; first | exact e29 h | rfl), (by intro h; first | exact e30 h | rfl), (by intro h; first | exact e31 h | rfl), (by intro h; first | exact e32 h | rfl), (by intro h; first | exact e33 h | rfl), (by intro h; first | exact e34 h | rfl), (by intro h; first | exact e35 h | rfl), (by intro h; first | exact e36 h | rfl), (by intro h; first | exact e37 h | rfl), (by intro h; first | exact e38 h | rfl), (by intro h; first | exact e39 h | rfl), (by intro h; first | exact e40 h | rfl), (by intro h; first | exact e41 h | rfl), (by intro h; first | exact e42 h | rfl)⟩, hBe, trivial, trivial⟩
      · simp at ho h0
        subst ho
        simp [Region.binds] at hd
        subst h0
        refine wpOp_step rfl (fun K' hK => ?_)
        have g8 : b8 = true := by first | exact hd | exact hd.1 | exact hd.2 | exact hd.2.1 | exact hd.2.2 | exact hd.2.2.1 | exact hd.2.2.2
        have g13 : b13 = true := by first | exact hd | exact hd.1 | exact hd.2 | exact hd.2.1 | exact hd.2.2 | exact hd.2.2.1 | exact hd.2.2.2
        clear hd
        subst g8 g13
        obtain rfl := e10 rfl
        obtain rfl := e11 rfl
        obtain rfl := e19 rfl
        obtain rfl := e20 rfl
        obtain rfl := e9 rfl
        obtain rfl := e2 rfl
        obtain rfl := e13 rfl
        obtain rfl := e16 rfl
        obtain rfl := e5 rfl
        obtain rfl := e6 rfl
        obtain rfl := e0 rfl
        obtain rfl := e1 rfl
        go_simp
        exact hK _ _ ⟨true, true, true, true, true, true, true, true, true, true, true, true, true, true, true, b15, b16, b17, b18, b19, b20, b21, b22, b23, b24, by first | (simp only [tg_t, tg_f]; done) | (simp only [tg_t, tg_f]; omega), rfl, rfl, ⟨(by intro h; first | exact e0 h | rfl), (by intro h; first | exact e1 h | rfl), (by intro h; first | exact e2 h | rfl), (by intro h; first | exact e3 h | rfl), (by intro h; first | exact e4 h | rfl), (by intro h; first | exact e5 h | rfl), (by intro h; first | exact e6 h | rfl), (by intro h; first | exact e7 h | rfl), (by intro h; first | exact e8 h | rfl), (by intro h; first | exact e9 h | rfl), (by intro h; first | exact e10 h | rfl), (by intro h; first | exact e11 h | rfl), (by intro h; first | exact e12 h | rfl), (by intro h; first | exact e13 h | rfl), (by intro h; first | exact e14 h | rfl), (by intro h; first | exact e15 h | rfl), (by intro h; first | exact e16 h | rfl), (by intro h; first | exact e17 h | rfl), (by intro h; first | exact e18 h | rfl), (by intro h; first | exact e19 h | rfl), (by intro h; first | exact e20 h | rfl), (by intro h; first | exact e21 h | rfl), (by intro h; first | exact e22 h | rfl), (by intro h; first | exact e23 h | rfl), (by intro h; first | exact e24 h | rfl), (by intro h; first | exact e25 h | rfl), (by intro h; first | exact e26 h | rfl), (by intro h; first | exact e27 h | rfl), (by intro h; first | exact e28 h | rfl), (by intro h; first | exact e29 h | rfl), (by intro h; first | exact e30 h | rfl), (by intro h; first | exact e31 h | rfl), (by intro h; first | exact e32 h | rfl), (by intro h; first | exact e33 h | rfl), (by intro h; first | exact e34 h | rfl), (by intro h; first | exact e35 h | rfl), (by intro h; first | exact e36 h | rfl), (by intro h; first | exact e37 h | rfl), (by intro h; first | exact e38 h | rfl), (by intro h; first | exact e39 h | rfl), (by intro h; first | exact e40 h | rfl), (by intro h; first | exact e41 h | rfl), (by intro h; first | exact e42 h | rfl)⟩, hBe, trivial, trivial⟩
      · simp at ho h0
        subst ho
        simp [Region.binds] at hd
        subst h0
        refine wpOp_step rfl (fun K' hK => ?_)
        have g14 : b14 = true := by first | exact hd | exact hd.1 | exact hd.2 | exact hd.2.1 | exact hd.2.2 | exact hd.2.2.1 | exact hd.2.2.2
        have g12 : b12 = true := by first | exact hd | exact hd.1 | exact hd.2 | exact hd.2.1 | exact hd.2.2 | exact hd.2.2.1 | exact hd.2.2.2
        clear hd
        subst g14 g12
        obtain rfl := e22 rfl
        obtain rfl := e23 rfl
        obtain rfl := e16 rfl
        obtain rfl := e17 rfl
        obtain rfl := e10 rfl
        obtain rfl := e11 rfl
        obtain rfl := e13 rfl
        obtain rfl := e9 rfl
        obtain rfl := e2 rfl
        obtain rfl := e5 rfl
        obtain rfl := e6 rfl
        obtain rfl := e0 rfl
        obtain rfl := e1 rfl
        go_simp
        exact hK _ _ ⟨true, true, true, true, true, true, true, true, true, true, true, true, true, true, true, true, b16, b17, b18, b19, b20, b21, b22, b23, b24, by first | (simp only [tg_t, tg_f]; done) | (simp only [tg_t, tg_f]; omega), rfl, rfl, ⟨(by intro h; first | exact e0 h | rfl), (by intro h; first | exact e1 h | rfl), (by intro h; first | exact e2 h | rfl), (by intro h; first | exact e3 h | rfl), (by intro h; first | exact e4 h | rfl), (by intro h; first | exact e5 h | rfl), (by intro h; first | exact e6 h | rfl), (by intro h; first | exact e7 h | rfl), (by intro h; first | exact e8 h | rfl), (by intro h; first | exact e9 h | rfl), (by intro h; first | exact e10 h | rfl), (by intro h; first | exact e11 h | rfl), (by intro h; first | exact e12 h | rfl), (by intro h; first | exact e13 h | rfl), (by intro h; first | exact e14 h | rfl), (by intro h; first | exact e15 h | rfl), (by intro h; first | exact e16 h | rfl), (by intro h; first | exact e17 h | rfl), (by intro h; first | exact e18 h | rfl), (by intro h; first | exact e19 h | rfl), (by intro h; first | exact e20 h | rfl), (by intro h; first | exact e21 h | rfl), (by intro h; first | exact e22 h | rfl), (by intro h; first | exact e23 h | rfl), (by intro h; first | exact e24 h | rfl), (by intro h; first | exact e25 h | rfl), (by intro h; first | exact e26 h | rfl), (by intro h; first | exact e27 h | rfl), (by intro h; first | exact e28 h | rfl), (by intro h; first | exact e29 h | rfl), (by intro h; first | exact e30 h | rfl), (by intro h; first | exact e31 h | rfl), (by intro h; first | exact e32 h | rfl), (by intro h; first | exact e33 h | rfl), (by intro h; first | exact e34 h | rfl), (by intro h; first | exact e35 h | rfl), (by intro h; first | exact e36 h | rfl), (by intro h; first | exact e37 h | rfl), (by intro h; first | exact e38 h | rfl), (by intro h; first | exact e39 h | rfl), (by intro h; first | exact e40 h | rfl), (by intro h; first | exact e41 h | rfl), (by intro h; first | exact e42 h | rfl)⟩, hBe, trivial, trivial⟩
      · simp at ho h0
        subst ho
        simp [Region.binds] at hd
        subst h0
        refine wpOp_step rfl (fun K' hK => ?_)
        have g15 : b15 = true := by first | exact hd | exact hd.1 | exact hd.2 | exact hd.2.1 | exact hd.2.2 | exact hd.2.2.1 | exact hd.2.2.2
        clear hd
        subst g15
        obtain rfl := e24 rfl
        obtain rfl := e25 rfl
        obtain rfl := e22 rfl
        obtain rfl := e23 rfl
        obtain rfl := e16 rfl
        obtain rfl := e17 rfl
        obtain rfl := e10 rfl
        obtain rfl := e11 rfl
        obtain rfl := e13 rfl
        obtain rfl := e9 rfl
        obtain rfl := e2 rfl
        obtain rfl := e5 rfl
        obtain rfl := e6 rfl
        obtain rfl := e0 rfl
        obtain rfl := e1 rfl
        have l0 := stay hBe y_0
        have l1 := stay hBe y_1
        have l2 := stay hBe y_2
        have l3 := stay hBe y_3
        have l4 := stay hBe y_4
        go_simp
        exact hK _ _ ⟨true, true, true, true, true, true, true, true, true, true, true, true, true, true, true, true, true, b17, b18, b19, b20, b21, b22, b23, b24, by first | (simp only [tg_t, tg_f]; done) | (simp only [tg_t, tg_f]; omega), rfl, rfl, ⟨(by intro h; first | exact e0 h | rfl), (by intro h; first | exact e1 h | rfl), (by intro h; first | exact e2 h | rfl), (by intro h; first | exact e3 h | rfl), (by intro h; first | exact e4 h | rfl), (by intro h; first | exact e5 h | rfl), (by intro h; first | exact e6 h | rfl), (by intro h; first | exact e7 h | rfl), (by intro h; first | exact e8 h | rfl), (by intro h; first | exact e9 h | rfl), (by intro h; first | exact e10 h | rfl), (by intro h; first | exact e11 h | rfl), (by intro h; first | exact e12 h | rfl), (by intro h; first | exact e13 h | rfl), (by intro h; first | exact e14 h | rfl), (by intro h; first | exact e15 h | rfl), (by intro h; first | exact e16 h | rfl), (by intro h; first | exact e17 h | rfl), (by intro h; first | exact e18 h | rfl), (by intro h; first | exact e19 h | rfl), (by intro h; first | exact e20 h | rfl), (by intro h; first | exact e21 h | rfl), (by intro h; first | exact e22 h | rfl), (by intro h; first | exact e23 h | rfl), (by intro h; first | exact e24 h | rfl), (by intro h; first | exact e25 h | rfl), (by intro h; first | exact e26 h | rfl), (by intro h; first | exact e27 h | rfl), (by intro h; first | exact e28 h | rfl), (by intro h; first | exact e29 h | rfl), (by intro h; first | exact e30 h | rfl), (by intro h; first | exact e31 h | rfl), (by intro h; first | exact e32 h | rfl), (by intro h; first | exact e33 h | rfl), (by intro h; first | exact e34 h | rfl), (by intro h; first | exact e35 h | rfl), (by intro h; first | exact e36 h | rfl), (by intro h; first | exact e37 h | rfl), (by intro h; first | exact e38 h | rfl), (by intro h; first | exact e39 h | rfl), (by intro h; first | exact e40 h | rfl), (by intro h; first | exact e41 h | rfl), (by intro h; first | exact e42 h | rfl)⟩, hBe, trivial, trivial⟩
      · simp at ho h0
        subst ho
        simp [Region.binds] at hd
        subst h0
        refine wpOp_step rfl (fun K' hK => ?_)
        have g16 : b16 = true := by first | exact hd | exact hd.1 | exact hd.2 | exact hd.2.1 | exact hd.2.2 | exact hd.2.2.1 | exact hd.2.2.2
        have g15 : b15 = true := by first | exact hd | exact hd.1 | exact hd.2 | exact hd.2.1 | exact hd.2.2 | exact hd.2.2.1 | exact hd.2.2.2
        clear hd
        subst g16 g15
        obtain rfl := e24 rfl
        obtain rfl := e25 rfl
        obtain rfl := e22 rfl
        obtain rfl := e23 rfl
        obtain rfl := e16 rfl
        obtain rfl := e17 rfl
        obtain rfl := e10 rfl
        obtain rfl := e11 rfl
        obtain rfl := e13 rfl
        obtain rfl := e9 rfl
        obtain rfl := e2 rfl
        obtain rfl := e5 rfl
        obtain rfl := e6 rfl
        obtain rfl := e0 rfl
        obtain rfl := e1 rfl
        go_simp
        go_at_call 9; (with_reducible refine (tY _ (TW.of hBe)).mono ?_); rintro e w3 ⟨rfl, hbc⟩
        exact hK _ _ ⟨true, true, true, true, true, true, true, true, true, true, true, true, true, true, true, true, true, true, b18, b19, b20, b21, b22, b23, b24, by first | (simp only [tg_t, tg_f]; done) | (simp only [tg_t, tg_f]; omega), rfl, rfl, ⟨(by intro h; first | exact e0 h | rfl), (by intro h; first | exact e1 h | rfl), (by intro h; first | exact e2 h | rfl), (by intro h; first | exact e3 h | rfl), (by intro h; first | exact e4 h | rfl), (by intro h; first | exact e5 h | rfl), (by intro h; first | exact e6 h | rfl), (by intro h; first | exact e7 h | rfl), (by intro h; first | exact e8 h | rfl), (by intro h; first | exact e9 h | rfl), (by intro h; first | exact e10 h | rfl), (by intro h; first | exact e11 h | rfl), (by intro h; first | exact e12 h | rfl), (by intro h; first | exact e13 h | rfl), (by intro h; first | exact e14 h | rfl), (by intro h; first | exact e15 h | rfl), (by intro h; first | exact e16 h | rfl), (by intro h; first | exact e17 h | rfl), (by intro h; first | exact e18 h | rfl), (by intro h; first | exact e19 h | rfl), (by intro h; first | exact e20 h | rfl), (by intro h; first | exact e21 h | rfl), (by intro h; first | exact e22 h | rfl), (by intro h; first | exact e23 h | rfl), (by intro h; first | exact e24 h | rfl), (by intro h; first | exact e25 h | rfl), (by intro h; first | exact e26 h | rfl), (by intro h; first | exact e27 h | rfl), (by intro h; first | exact e28 h | rfl), (by intro h; first | exact e29 h | rfl), (by intro h; first | exact e30 h | rfl), (by intro h; first | exact e31 h | rfl), (by intro h; first | exact e32 h | rfl), (by intro h; first | exact e33 h | rfl), (by intro h; first | exact e34 h | rfl), (by intro h; first | exact e35 h | rfl), (by intro h; first | exact e36 h | rfl), (by intro h; first | exact e37 h | rfl), (by intro h; first | exact e38 h | rfl), (by intro h; first | exact e39 h | rfl), (by intro h; first | exact e40 h | rfl), (by intro h; first | exact e41 h | rfl), (by intro h; first | exact e42 h | rfl)⟩, (below_trans' hBe (Nat.le_refl _) hbc), trivial, trivial⟩
      · simp at ho h0
        subst ho
        simp [Region.binds] at hd
        subst h0
        refine wpOp_step rfl (fun K' hK => ?_)
        have g15 : b15 = true := by first | exact hd | exact hd.1 | exact hd.2 | exact hd.2.1 | exact hd.2.2 | exact hd.2.2.1 | exact hd.2.2.2
        clear hd
        subst g15
        obtain rfl := e24 rfl
        obtain rfl := e25 rfl
        obtain rfl := e22 rfl
        obtain rfl := e23 rfl
        obtain rfl := e16 rfl
        obtain rfl := e17 rfl
        obtain rfl := e10 rfl
        obtain rfl := e11 rfl
        obtain rfl := e13 rfl
        obtain rfl := e9 rfl
        obtain rfl := e2 rfl
        obtain rfl := e5 rfl
        obtain rfl := e6 rfl
        obtain rfl := e0 rfl
        obtain rfl := e1 rfl
        have l0 := stay hBe z_0
        have l1 := stay hBe z_1
        have l2 := stay hBe z_2
        have l3 := stay hBe z_3
        have l4 := stay hBe z_4
        go_simp
        exact hK _ _ ⟨true, true, true, true, true, true, true, true, true, true, true, true, true, true, true, true, b16, b17, true, b19, b20, b21, b22, b23, b24, by first | (simp only [tg_t, tg_f]; done) | (simp only [tg_t, tg_f]; omega), rfl, rfl, ⟨(by intro h; first | exact e0 h | rfl), (by intro h; first | exact e1 h | rfl), (by intro h; first | exact e2 h | rfl), (by intro h; first | exact e3 h | rfl), (by intro h; first | exact e4 h | rfl), (by intro h; first | exact e5 h | rfl), (by intro h; first | exact e6 h | rfl), (by intro h; first | exact e7 h | rfl), (by intro h; first | exact e8 h | rfl), (by intro h; first | exact e9 h | rfl), (by intro h; first | exact e10 h | rfl), (by intro h; first | exact e11 h | rfl), (by intro h; first | exact e12 h | rfl), (by intro h; first | exact e13 h | rfl), (by intro h; first | exact e14 h | rfl), (by intro h; first | exact e15 h | rfl), (by intro h; first | exact e16 h | rfl), (by intro h; first | exact e17 h | rfl), (by intro h; first | exact e18 h | rfl), (by intro h; first | exact e19 h | rfl), (by intro h; first | exact e20 h | rfl), (by intro h; first | exact e21 h | rfl), (by intro h; first | exact e22 h | rfl), (by intro h; first | exact e23 h | rfl), (by intro h; first | exact e24 h | rfl), (by intro h; first | exact e25 h | rfl), (by intro h; first | exact e26 h | rfl), (by intro h; first | exact e27 h | rfl), (by intro h; first | exact e28 h | rfl), (by intro h; first | exact e29 h | rfl), (by intro h; first | exact e30 h | rfl), (by intro h; first | exact e31 h | rfl), (by intro h; first | exact e32 h | rfl), (by intro h; first | exact e33 h | rfl), (by intro h; first | exact e34 h | rfl), (by intro h; first | exact e35 h | rfl), (by intro h; first | exact e36 h | rfl), (by intro h; first | exact e37 h | rfl), (by intro h; first | exact e38 h | rfl), (by intro h; first | exact e39 h | rfl), (by intro h; first | exact e40 h | rfl), (by intro h; first | exact e41 h | rfl), (by intro h; first | exact e42 h | rfl)⟩, hBe, trivial, trivial⟩
      · simp at ho h0
        subst ho
        simp [Region.binds] at hd
        subst h0
        refine wpOp_step rfl (fun K' hK => ?_)
        have g18 : b18 = true := by first | exact hd | exact hd.1 | exact hd.2 | exact hd.2.1 | exact hd.2.2 | exact hd.2.2.1 | exact hd.2.2.2
        have g17 : b17 = true := by first | exact hd | exact hd.1 | exact hd.2 | exact hd.2.1 | exact hd.2.2 | exact hd.2.2.1 | exact hd.2.2.2
        have g15 : b15 = true := by first | exact hd | exact hd.1 | exact hd.2 | exact hd.2.1 | exact hd.2.2 | exact hd.2.2.1 | exact hd.2.2.2
        clear hd
        subst g18 g17 g15
        obtain rfl := e27 rfl
        obtain rfl := e24 rfl
        obtain rfl := e25 rfl
        obtain rfl := e22 rfl
        obtain rfl := e23 rfl
        obtain rfl := e16 rfl
        obtain rfl := e17 rfl
        obtain rfl := e10 rfl
        obtain rfl := e11 rfl
        obtain rfl := e13 rfl
        obtain rfl := e9 rfl
        obtain rfl := e2 rfl
        obtain rfl := e5 rfl
        obtain rfl := e6 rfl
        obtain rfl := e0 rfl
        obtain rfl := e1 rfl
        go_simp
        go_at_call 10; (with_reducible refine (rY _).mono ?_); rintro e w3 ⟨rfl, hbc⟩
        exact hK _ _ ⟨true, true, true, true, true, true, true, true, true, true, true, true, true, true, true, true, true, true, true, true, b20, b21, b22, b23, b24, by first | (simp only [tg_t, tg_f]; done) | (simp only [tg_t, tg_f]; omega), rfl, rfl, ⟨(by intro h; first | exact e0 h | rfl), (by intro h; first | exact e1 h | rfl), (by intro h; first | exact e2 h | rfl), (by intro h; first | exact e3 h | rfl), (by intro h; first | exact e4 h | rfl), (by intro h; first | exact e5 h | rfl), (by intro h; first | exact e6 h | rfl), (by intro h; first | exact e7 h | rfl), (by intro h; first | exact e8 h | rfl), (by intro h; first | exact e9 h | rfl), (by intro h; first | exact e10 h | rfl), (by intro h; first | exact e11 h | rfl), (by intro h; first | exact e12 h | rfl), (by intro h; first | exact e13 h | rfl), (by intro h; first | exact e14 h | rfl), (by intro h; first | exact e15 h | rfl), (by intro h; first | exact e16 h | rfl), (by intro h; first | exact e17 h | rfl), (by intro h; first | exact e18 h | rfl), (by intro h; first | exact e19 h | rfl), (by intro h; first | exact e20 h | rfl), (by intro h; first | exact e21 h | rfl), (by intro h; first | exact e22 h | rfl), (by intro h; first | exact e23 h | rfl), (by intro h; first | exact e24 h | rfl), (by intro h; first | exact e25 h | rfl), (by intro h; first | exact e26 h | rfl), (by intro h; first | exact e27 h | rfl), (by intro h; first | exact e28 h | rfl), (by intro h; first | exact e29 h | rfl), (by intro h; first | exact e30 h | rfl), (by intro h; first | exact e31 h | rfl), (by intro h; first | exact e32 h | rfl), (by intro h; first | exact e33 h | rfl), (by intro h; first | exact e34 h | rfl), (by intro h; first | exact e35 h | rfl), (by intro h; first | exact e36 h | rfl), (by intro h; first | exact e37 h | rfl), (by intro h; first | exact e38 h | rfl), (by intro h; first | exact e39 h | rfl), (by intro h; first | exact e40 h | rfl), (by intro h; first | exact e41 h | rfl), (by intro h; first | exact e42 h | rfl)⟩, (below_trans' hBe (Nat.le_refl _) hbc), trivial, trivial⟩
      · simp at ho h0
        subst ho
        simp [Region.binds] at hd
        subst h0
        refine wpOp_step rfl (fun K' hK => ?_)
        have g17 : b17 = true := by first | exact hd | exact hd.1 | exact hd.2 | exact hd.2.1 | exact hd.2.2 | exact hd.2.2.1 | exact hd.2.2.2
        have g19 : b19 = true := by first | exact hd | exact hd.1 | exact hd.2 | exact hd.2.1 | exact hd.2.2 | exact hd.2.2.1 | exact hd.2.2.2
        have g15 : b15 = true := by first | exact hd | exact hd.1 | exact hd.2 | exact hd.2.1 | exact hd.2.2 | exact hd.2.2.1 | exact hd.2.2.2
        clear hd
        subst g17 g19 g15
        obtain rfl := e27 rfl
        obtain rfl := e30 rfl
        obtain rfl := e24 rfl
        obtain rfl := e25 rfl
        obtain rfl := e22 rfl
        obtain rfl := e23 rfl
        obtain rfl := e16 rfl
        obtain rfl := e17 rfl
        obtain rfl := e10 rfl
        obtain rfl := e11 rfl
        obtain rfl := e13 rfl
        obtain rfl := e9 rfl
        obtain rfl := e2 rfl
        obtain rfl := e5 rfl
        obtain rfl := e6 rfl
        obtain rfl := e0 rfl
        obtain rfl := e1 rfl
        go_simp
        exact hK _ _ ⟨true, true, true, true, true, true, true, true, true, true, true, true, true, true, true, true, true, true, true, true, true, b21, b22, b23, b24, by first | (simp only [tg_t, tg_f]; done) | (simp only [tg_t, tg_f]; omega), rfl, rfl, ⟨(by intro h; first | exact e0 h | rfl), (by intro h; first | exact e1 h | rfl), (by intro h; first | exact e2 h | rfl), (by intro h; first | exact e3 h | rfl), (by intro h; first | exact e4 h | rfl), (by intro h; first | exact e5 h | rfl), (by intro h; first | exact e6 h | rfl), (by intro h; first | exact e7 h | rfl), (by intro h; first | exact e8 h | rfl), (by intro h; first | exact e9 h | rfl), (by intro h; first | exact e10 h | rfl), (by intro h; first | exact e11 h | rfl), (by intro h; first | exact e12 h | rfl), (by intro h; first | exact e13 h | rfl), (by intro h; first | exact e14 h | rfl), (by intro h; first | exact e15 h | rfl), (by intro h; first | exact e16 h | rfl), (by intro h; first | exact e17 h | rfl), (by intro h; first | exact e18 h | rfl), (by intro h; first | exact e19 h | rfl), (by intro h; first | exact e20 h | rfl), (by intro h; first | exact e21 h | rfl), (by intro h; first | exact e22 h | rfl), (by intro h; first | exact e23 h | rfl), (by intro h; first | exact e24 h | rfl), (by intro h; first | exact e25 h | rfl), (by intro h; first | exact e26 h | rfl), (by intro h; first | exact e27 h | rfl), (by intro h; first | exact e28 h | rfl), (by intro h; first | exact e29 h | rfl), (by intro h; first | exact e30 h | rfl), (by intro h; first | exact e31 h | rfl), (by intro h; first | exact e32 h | rfl), (by intro h; first | exact e33 h | rfl), (by intro h; first | exact e34 h | rfl), (by intro h; first | exact e35 h | rfl), (by intro h; first | exact e36 h | rfl), (by intro h; first | exact e37 h | rfl), (by intro h; first | exact e38 h | rfl), (by intro h; first | exact e39 h | rfl), (by intro h; first | exact e40 h | rfl), (by intro h; first | exact e41 h | rfl), (by intro h; first | exact e42 h | rfl)⟩, hBe, trivial, trivial⟩
      · simp at ho h0
        subst ho
        simp [Region.binds] at hd
        subst h0
        refine wpOp_step rfl (fun K' hK => ?_)
        have g15 : b15 = true := by first | exact hd | exact hd.1 | exact hd.2 | exact hd.2.1 | exact hd.2.2 | exact hd.2.2.1 | exact hd.2.2.2
        have g20 : b20 = true := by first | exact hd | exact hd.1 | exact hd.2 | exact hd.2.1 | exact hd.2.2 | exact hd.2.2.1 | exact hd.2.2.2
        clear hd
        subst g15 g20
        obtain rfl := e24 rfl
        obtain rfl := e25 rfl
        obtain rfl := e33 rfl
        obtain rfl := e34 rfl
        obtain rfl := e22 rfl
        obtain rfl := e23 rfl
        obtain rfl := e16 rfl
        obtain rfl := e17 rfl
        obtain rfl := e27 rfl
        obtain rfl := e30 rfl
        obtain rfl := e10 rfl
        obtain rfl := e11 rfl
        obtain rfl := e13 rfl
        obtain rfl := e9 rfl
        obtain rfl := e2 rfl
        obtain rfl := e5 rfl
        obtain rfl := e6 rfl
        obtain rfl := e0 rfl
        obtain rfl := e1 rfl
        go_simp
        exact hK _ _ ⟨true, true, true, true, true, true, true, true, true, true, true, true, true, true, true, true, true, true, true, true, true, true, b22, b23, b24, by first | (simp only [tg_t, tg_f]; done) | (simp only [tg_t, tg_f]; omega), rfl, rfl, ⟨(by intro h; first | exact e0 h | rfl), (by intro h; first | exact e1 h | rfl), (by intro h; first | exact e2 h | rfl), (by intro h; first | exact e3 h | rfl), (by intro h; first | exact e4 h | rfl), (by intro h; first | exact e5 h | rfl), (by intro h; first | exact e6 h | rfl), (by intro h; first | exact e7 h | rfl), (by intro h; first | exact e8 h | rfl), (by intro h; first | exact e9 h | rfl), (by intro h; first | exact e10 h | rfl), (by intro h; first | exact e11 h | rfl), (by intro h; first | exact e12 h | rfl), (by intro h; first | exact e13 h | rfl), (by intro h; first | exact e14 h | rfl), (by intro h; first | exact e15 h | rfl), (by intro h; first | exact e16 h | rfl), (by intro h; first | exact e17 h | rfl), (by intro h; first | exact e18 h | rfl), (by intro h; first | exact e19 h | rfl), (by intro h; first | exact e20 h | rfl), (by intro h; first | exact e21 h | rfl), (by intro h; first | exact e22 h | rfl), (by intro h; first | exact e23 h | rfl), (by intro h; first | exact e24 h | rfl), (by intro h; first | exact e25 h | rfl), (by intro h; first | exact e26 h | rfl), (by intro h; first | exact e27 h | rfl), (by intro h; first | exact e28 h | rfl), (by intro h; first | exact e29 h | rfl), (by intro h; first | exact e30 h | rfl), (by intro h; first | exact e31 h | rfl), (by intro h; first | exact e32 h | rfl), (by intro h; first | exact e33 h | rfl), (by intro h; first | exact e34 h | rfl), (by intro h; first | exact e35 h | rfl), (by intro h; first | exact e36 h | rfl), (by intro h; first | exact e37 h | rfl), (by intro h; first | exact e38 h | rfl), (by intro h; first | exact e39 h | rfl), (by intro h; first | exact e40 h | rfl), (by intro h; first | exact e41 h | rfl), (by intro h; first | exact e42 h | rfl)⟩, hBe, trivial, trivial⟩
      · simp at ho h0
        subst ho
        simp [Region.binds] at hd
        subst h0
        refine wpOp_step rfl (fun K' hK => ?_)
        have g21 : b21 = true := by first | exact hd | exact hd.1 | exact hd.2 | exact hd.2.1 | exact hd.2.2 | exact hd.2.2.1 | exact hd.2.2.2
        have g19 : b19 = true := by first | exact hd | exact hd.1 | exact hd.2 | exact hd.2.1 | exact hd.2.2 | exact hd.2.2.1 | exact hd.2.2.2
        clear hd
        subst g21 g19
        obtain rfl := e36 rfl
        obtain rfl := e37 rfl
        obtain rfl := e30 rfl
        obtain rfl := e31 rfl
        obtain rfl := e24 rfl
        obtain rfl := e25 rfl
        obtain rfl := e27 rfl
        obtain rfl := e22 rfl
        obtain rfl := e23 rfl
        obtain rfl := e16 rfl
        obtain rfl := e17 rfl
        obtain rfl := e10 rfl
        obtain rfl := e11 rfl
        obtain rfl := e13 rfl
        obtain rfl := e9 rfl
        obtain rfl := e2 rfl
        obtain rfl := e5 rfl
        obtain rfl := e6 rfl
        obtain rfl := e0 rfl
        obtain rfl := e1 rfl
        go_simp
        exact hK _ _ ⟨true, true, true, true, true, true, true, true, true, true, true, true, true, true, true, true, true, true, true, true, true, true, true, b23, b24, by first | (simp only [tg_t, tg_f]; done) | (simp only [tg_t, tg_f]; omega), rfl, rfl, ⟨(by intro h; first | exact e0 h | rfl), (by intro h; first | exact e1 h | rfl), (by intro h; first | exact e2 h | rfl), (by intro h; first | exact e3 h | rfl), (by intro h; first | exact e4 h | rfl), (by intro h; first | exact e5 h | rfl), (by intro h; first | exact e6 h | rfl), (by intro h; first | exact e7 h | rfl), (by intro h; first | exact e8 h | rfl), (by intro h; first | exact e9 h | rfl), (by intro h; first | exact e10 h | rfl), (by intro h; first | exact e11 h | rfl), (by intro h; first | exact e12 h | rfl), (by intro h; first | exact e13 h | rfl), (by intro h; first | exact e14 h | rfl), (by intro h; first | exact e15 h | rfl), (by intro h; first | exact e16 h | rfl), (by intro h; first | exact e17 h | rfl), (by intro h; first | exact e18 h | rfl), (by intro h; first | exact e19 h | rfl), (by intro h; first | exact e20 h | rfl), (by intro h; first | exact e21 h | rfl), (by intro h; first | exact e22 h | rfl), (by intro h; first | exact e23 h | rfl), (by intro h; first | exact e24 h | rfl), (by intro h; first | exact e25 h | rfl), (by intro h; first | exact e26 h | rfl), (by intro h; first | exact e27 h | rfl), (by intro h; first | exact e28 h | rfl), (by intro h; first | exact e29 h | rfl), (by intro h; first | exact e30 h | rfl), (by intro h; first | exact e31 h | rfl), (by intro h; first | exact e32 h | rfl), (by intro h; first | exact e33 h | rfl), (by intro h; first | exact e34 h | rfl), (by intro h; first | exact e35 h | rfl), (by intro h; first | exact e36 h | rfl), (by intro h; first | exact e37 h | rfl), (by intro h; first | exact e38 h | rfl), (by intro h; first | exact e39 h | rfl), (by intro h; first | exact e40 h | rfl), (by intro h; first | exact e41 h | rfl), (by intro h; first | exact e42 h | rfl)⟩, hBe, trivial, trivial⟩
      · simp at ho h0
        subst ho
        simp [Region.binds] at hd
        subst h0
        refine wpOp_step rfl (fun K' hK => ?_)
        have g22 : b22 = true := by first | exact hd | exact hd.1 | exact hd.2 | exact hd.2.1 | exact hd.2.2 | exact hd.2.2.1 | exact hd.2.2.2
        clear hd
        subst g22
        obtain rfl := e38 rfl
        obtain rfl := e39 rfl
        obtain rfl := e36 rfl
        obtain rfl := e37 rfl
        obtain rfl := e30 rfl
        obtain rfl := e31 rfl
        obtain rfl := e24 rfl
        obtain rfl := e25 rfl
        obtain rfl := e27 rfl
        obtain rfl := e22 rfl
        obtain rfl := e23 rfl
        obtain rfl := e16 rfl
        obtain rfl := e17 rfl
        obtain rfl := e10 rfl
        obtain rfl := e11 rfl
        obtain rfl := e13 rfl
        obtain rfl := e9 rfl
        obtain rfl := e2 rfl
        obtain rfl := e5 rfl
        obtain rfl := e6 rfl
        obtain rfl := e0 rfl
        obtain rfl := e1 rfl
        go_simp
        go_at_call 11; (with_reducible refine (alive_any _ (TW.of hBe)).mono ?_); rintro e w3 ⟨rfl, hbc⟩
        exact hK _ _ ⟨true, true, true, true, true, true, true, true, true, true, true, true, true, true, true, true, true, true, true, true, true, true, true, true, b24, by first | (simp only [tg_t, tg_f]; done) | (simp only [tg_t, tg_f]; omega), rfl, rfl, ⟨(by intro h; first | exact e0 h | rfl), (by intro h; first | exact e1 h | rfl), (by intro h; first | exact e2 h | rfl), (by intro h; first | exact e3 h | rfl), (by intro h; first | exact e4 h | rfl), (by intro h; first | exact e5 h | rfl), (by intro h; first | exact e6 h | rfl), (by intro h; first | exact e7 h | rfl), (by intro h; first | exact e8 h | rfl), (by intro h; first | exact e9 h | rfl), (by intro h; first | exact e10 h | rfl), (by intro h; first | exact e11 h | rfl), (by intro h; first | exact e12 h | rfl), (by intro h; first | exact e13 h | rfl), (by intro h; first | exact e14 h | rfl), (by intro h; first | exact e15 h | rfl), (by intro h; first | exact e16 h | rfl), (by intro h; first | exact e17 h | rfl), (by intro h; first | exact e18 h | rfl), (by intro h; first | exact e19 h | rfl), (by intro h; first | exact e20 h | rfl), (by intro h; first | exact e21 h | rfl), (by intro h; first | exact e22 h | rfl), (by intro h; first | exact e23 h | rfl), (by intro h; first | exact e24 h | rfl), (by intro h; first | exact e25 h | rfl), (by intro h; first | exact e26 h | rfl), (by intro h; first | exact e27 h | rfl), (by intro h; first | exact e28 h | rfl), (by intro h; first | exact e29 h | rfl), (by intro h; first | exact e30 h | rfl), (by intro h; first | exact e31 h | rfl), (by intro h; first | exact e32 h | rfl), (by intro h; first | exact e33 h | rfl), (by intro h; first | exact e34 h | rfl), (by intro h; first | exact e35 h | rfl), (by intro h; first | exact e36 h | rfl), (by intro h; first | exact e37 h | rfl), (by intro h; first | exact e38 h | rfl), (by intro h; first | exact e39 h | rfl), (by intro h; first | exact e40 h | rfl), (by intro h; first | exact e41 h | rfl), (by intro h; first | exact e42 h | rfl)⟩, (below_trans' hBe (Nat.le_refl _) hbc), trivial, trivial⟩
      · simp at ho h0
        subst ho
        simp [Region.binds] at hd
        subst h0
        refine wpOp_step rfl (fun K' hK => ?_)
        have g22 : b22 = true := by first | exact hd | exact hd.1 | exact hd.2 | exact hd.2.1 | exact hd.2.2 | exact hd.2.2.1 | exact hd.2.2.2
        have g23 : b23 = true := by first | exact hd | exact hd.1 | exact hd.2 | exact hd.2.1 | exact hd.2.2 | exact hd.2.2.1 | exact hd.2.2.2
        clear hd
        subst g22 g23
        obtain rfl := e38 rfl
        obtain rfl := e39 rfl
        obtain rfl := e36 rfl
        obtain rfl := e37 rfl
        obtain rfl := e30 rfl
        obtain rfl := e31 rfl
        obtain rfl := e24 rfl
        obtain rfl := e25 rfl
        obtain rfl := e27 rfl
        obtain rfl := e22 rfl
        obtain rfl := e23 rfl
        obtain rfl := e16 rfl
        obtain rfl := e17 rfl
        obtain rfl := e10 rfl
        obtain rfl := e11 rfl
        obtain rfl := e13 rfl
        obtain rfl := e9 rfl
        obtain rfl := e2 rfl
        obtain rfl := e5 rfl
        obtain rfl := e6 rfl
        obtain rfl := e0 rfl
        obtain rfl := e1 rfl
        go_simp
        exact hK _ _ ⟨true, true, true, true, true, true, true, true, true, true, true, true, true, true, true, true, true, true, true, true, true, true, true, true, true, by first | (simp only [tg_t, tg_f]; done) | (simp only [tg_t, tg_f]; omega), rfl, rfl, ⟨(by intro h; first | exact e0 h | rfl), (by intro h; first | exact e1 h | rfl), (by intro h; first | exact e2 h | rfl), (by intro h; first | exact e3 h | rfl), (by intro h; first | exact e4 h | rfl), (by intro h; first | exact e5 h | rfl), (by intro h; first | exact e6 h | rfl), (by intro h; first | exact e7 h | rfl), (by intro h; first | exact e8 h | rfl), (by intro h; first | exact e9 h | rfl), (by intro h; first | exact e10 h | rfl), (by intro h; first | exact e11 h | rfl), (by intro h; first | exact e12 h | rfl), (by intro h; first | exact e13 h | rfl), (by intro h; first | exact e14 h | rfl), (by intro h; first | exact e15 h | rfl), (by intro h; first | exact e16 h | rfl), (by intro h; first | exact e17 h | rfl), (by intro h; first | exact e18 h | rfl), (by intro h; first | exact e19 h | rfl), (by intro h; first | exact e20 h | rfl), (by intro h; first | exact e21 h | rfl), (by intro h; first | exact e22 h | rfl), (by intro h; first | exact e23 h | rfl), (by intro h; first | exact e24 h | rfl), (by intro h; first | exact e25 h | rfl), (by intro h; first | exact e26 h | rfl), (by intro h; first | exact e27 h | rfl), (by intro h; first | exact e28 h | rfl), (by intro h; first | exact e29 h | rfl), (by intro h; first | exact e30 h | rfl), (by intro h; first | exact e31 h | rfl), (by intro h; first | exact e32 h | rfl), (by intro h; first | exact e33 h | rfl), (by intro h; first | exact e34 h | rfl), (by intro h; first | exact e35 h | rfl), (by intro h; first | exact e36 h | rfl), (by intro h; first | exact e37 h | rfl), (by intro h; first | exact e38 h | rfl), (by intro h; first | exact e39 h | rfl), (by intro h; first | exact e40 h | rfl), (by intro h; first | exact e41 h | rfl), (by intro h; first | exact e42 h | rfl)⟩, hBe, trivial, trivial⟩
      · exact (hall (by simp at ho; subst ho; simp [Region.binds] at hd <;> simp_all)).elim
  obtain ⟨rfl, rfl, rfl, rfl, rfl, rfl, rfl, rfl, rfl, rfl, rfl, rfl, rfl, rfl, rfl, rfl, rfl, rfl, rfl, rfl, rfl, rfl, rfl, rfl, rfl⟩ := hall
  left
  clear e0 e1 e2 e3 e4 e5 e6 e7 e8 e9 e10 e11 e12 e13 e14 e15 e16 e17 e18 e19 e20 e21 e22 e23 e24 e25 e26 e27 e28 e29 e30 e31 e32 e33 e34 e35 e36 e37 e38 e39 e40 e41 e42
  simp only [tg_t, Nat.add_zero]
  refine wpAny_ready (rs := [25]) (by kernel_rfl) (by simp) (AllReady.cons rfl (fun K hK => ?_) AllReady.nil)
  go_simp
  refine hK _ _ ?_
  clear hK K
  refine wpAny_done (by kernel_rfl) ?_ _
  exact ⟨rfl, rfl, hBe⟩
theorem walkI (m : Int) (wm : (Lit.int .u32 m).wf = true) (n0 n1 n2 n3 n4 : Int) (w0 : (Lit.int .u8 n0).wf = true) (w1 : (Lit.int .u8 n1).wf = true) (w2 : (Lit.int .u8 n2).wf = true) (w3 : (Lit.int .u8 n3).wf = true) (w4 : (Lit.int .i64 n4).wf = true) (w : World) (h : Tb w) :
    Calls Tryd.prog 3 #[.int .u32 m, .agg #[.int .u8 n0, .int .u8 n1, .int .u8 n2, .int .u8 n3, .int .i64 n4]] w fun e w' => e = .returned (.bool true) ∧ Below w.heap.size w w' := by
  obtain ⟨x, hx, rfl, rfl, rfl, rfl, rfl⟩ := to_in w0 w1 w2 w3 w4
  have bm := bounds_u32 wm
  obtain ⟨v, rfl⟩ := Int.eq_ofNat_of_zero_le bm.1
  exact walk v (by omega) x hx w h
theorem own : ownKnob Tryd.prog.godebug = none := by kernel_rfl
set_option maxRecDepth 100000 in
theorem lifted (os : Os) (started : os.Started) (H : Type) (enc : TypeId × Value → H) :
    ReturnsInHanded {} Tryd.checked os 3 .any (fun w args => (Rows.disasWordsSpec.pre enc Tryd.prog Tryd.f3 [] false w args ∧ laidMetH Tryd.prog laidAll w) ∧ sizedMet enc Tryd.prog Tryd.f3 (OpenSpec.ofChange Rows.disasWordsSpec) false w args)
      (Rows.disasWordsSpec.post enc Tryd.prog Tryd.f3 false true false false) := by
  refine returnsInHanded_of_change_and (C := Tryd.checked) (X := fun w _ => laidMetH Tryd.prog laidAll w) (fun _ _ _ hh h => h.of_heap hh) own started (by kernel_rfl) Tryd.func3
    (ChangeSpec.witness_shaped (enc := enc) (C := Tryd.checked) (os := os) (X := fun w _ => laidMetH Tryd.prog laidAll w) false (World.doorLaid Tryd.prog 400 os) #[.int .u32 0, .agg #[.int .u8 0, .int .u8 0, .int .u8 0, .int .u8 0, .int .i64 0]] 8 rfl (World.shaped_of_RefB (by kernel_rfl) (by kernel_rfl)) (by kernel_rfl) (by kernel_rfl) (by kernel_rfl) (door_met os _)) ?_
  intro W base args ds gs before hval0 hW _ _ hL _
  have hval : ∀ (j : Nat) t v, Tryd.f3.params[j]? = some t → args[j]? = some v → Value.okWide Tryd.prog W .any base t v := hval0
  have hW' := hW
  obtain ⟨p, q, hA0, hV, rfl, hfz, hnd⟩ := hW
  have hA : DataW.TrodAll enc Tryd.prog W 0 (fun _ => true) true Tryd.f3.params.toList args.toList ds p := hA0
  rw [Tryd.params3] at hA hval
  obtain ⟨v0, vs0, d0, ds0, p0, q0, hargs, rfl, rfl, h0, r0⟩ := trodAll_cons hA
  obtain ⟨v1, vs1, d1, ds1, p1, q1, rfl, rfl, rfl, h1, r1⟩ := trodAll_cons r0
  obtain ⟨rfl, rfl, rfl⟩ := trodAll_nil r1
  obtain rfl : args = #[v0, v1] := by cases args; simp_all
  obtain ⟨rfl, rfl⟩ := trodVars_none hV
  obtain ⟨m0, rfl, rfl, rfl, y0⟩ := open_int Tryd.underlying22 (hval 0 22 v0 rfl rfl) h0
  obtain ⟨m10, m11, m12, m13, m14, rfl, rfl, rfl, y10, y11, y12, y13, y14⟩ := open_insn (hval 1 24 v1 rfl rfl) h1
  clear hA0 hval0
  simp only [List.append_nil] at hW'
  refine (walkI m0 y0 m10 m11 m12 m13 m14 y10 y11 y12 y13 y14 W (tb_of_laid hL)).mono fun e W' ⟨he, hg⟩ => ?_
  subst he
  exact ⟨_, rfl, _, _, _, [], _, [], hW', trodAll_mk1 (shut_bool Tryd.underlying4 _), (trodAll_cons_mk (shut_int Tryd.underlying22 y0) (trodAll_cons_mk (shut_insn y10 y11 y12 y13 y14) trodAll_mk0)), rfl, hg.frame _, fun h => by cases h⟩
theorem over : Rows.DisasWordsSaid :=
  OpenClaim.holds_of_wide 3 Tryd.f3 rfl rfl rfl rfl rfl rfl rfl ⟨rfl, rfl, rfl, rfl, rfl⟩ rfl rfl rfl rfl rfl (by kernel_rfl) Tryd.func3 (by kernel_rfl)
    (of_decide_eq_true (by kernel_rfl)) (by unfold Func.isWrapper; first | (rw [if_pos (by decide +kernel)]; kernel_rfl) | (rw [if_neg (by decide +kernel)]; exact ⟨rfl, rfl⟩))
    (fun os started H enc _ => lifted os started H enc)
/-- The card: the row, its listed tables tied to the text of the program. -/
theorem proved : Rows.DisasWordsCardSaid :=
  Claim7.holds_tied_plain_at .later [] [.data, .data, .data, .data, .data, .data, .data] true Rows.disasWordsCard.stood.harness Rows.disasWordsCard.stood.looks
    over (fun _ h => by cases h) (by kernel_rfl) (fun _ h => by cases h) disasWords_row_tie rfl ⟨rfl, rfl⟩ (by kernel_rfl) rfl
    (fun f fn hf hfn => by
      obtain rfl : f = 3 := Option.some.inj ((show Tryd.prog.funcNamed "sacristy/sacristylaw03.DisasWords" = some 3 by kernel_rfl).symm.trans hf) |>.symm
      obtain rfl : fn = Tryd.f3 := (Option.some.inj (Tryd.func3.symm.trans hfn)).symm
      exact ⟨by kernel_rfl, fun j t ht => by
        rw [Tryd.params3] at ht
        have hm : t ∈ [22, 24] := by simpa using Array.mem_of_getElem? ht
        have hall : ([22, 24].all fun u => !Tryd.prog.wantsStandIn u) = true := by kernel_rfl
        exact (show Tryd.prog.wantsStandIn t = false by simpa using List.all_eq_true.1 hall t hm)⟩)
    (by kernel_rfl)
end Go.Proofs.YtjkagpmepokihaaDoor.disasWords
