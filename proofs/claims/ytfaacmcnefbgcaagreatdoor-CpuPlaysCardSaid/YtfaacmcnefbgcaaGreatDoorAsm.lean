/- Contract of insn.assemble: what its regions draw makes no difference; the pieces are laid one behind the other, by the form. -/
import Derived.Test.YtfaacmcnefbgcaaGreatDoorJc
namespace Go.Proofs.YtfaacmcnefbgcaaGreatDoor
open Go.ChangeShapes Go.WideShapes Go.ChangeAt Go.RowKit
set_option linter.unusedVariables false
set_option maxRecDepth 100000 in
set_option maxHeartbeats 8000000 in
theorem asm_any (c f3 f7 fm op rd rs1 rs2 : Nat) (imm : Int) (hc : c < 256) (h3 : f3 < 256) (h7 : f7 < 256) (hfm : 1 ≤ fm ∧ fm ≤ 8) (hrd : rd < 256) (hr1 : rs1 < 256) (hr2 : rs2 < 256) (hi0 : -9223372036854775808 ≤ imm) (hi1 : imm < 9223372036854775808) (w0 : World) :
    Calls Tryz.prog 118 #[.agg #[.int .u8 c, .int .u8 f3, .int .u8 f7, .int .u8 fm], .agg #[.int .u8 op, .int .u8 rd, .int .u8 rs1, .int .u8 rs2, .int .i64 imm]] w0 fun e w' => e = .returned (.int .u32 (layv (piecesv fm c f3 f7 rd rs1 rs2 imm) : Nat)) ∧ Below w0.heap.size w0 w' := by
  go_enter Tryz.func118, Tryz.ntmps118
  go_wp2
  obtain ⟨g, hg⟩ : ∃ g, w0.heap.size = g := ⟨_, rfl⟩
  obtain ⟨w1, hw1⟩ : ∃ w1, ((w0.alloc (.cells #[.int .u8 c, .int .u8 f3, .int .u8 f7, .int .u8 fm] 172)).alloc (.cells #[.int .u8 op, .int .u8 rd, .int .u8 rs1, .int .u8 rs2, .int .i64 imm] 48)).drew = w1 := ⟨_, rfl⟩
  have q0 : w1.cell? ⟨g, 0, none⟩ = some (.int .u8 c) := by rw [← hw1, ← hg]; simp
  have q1 : w1.cell? ⟨g, 1, none⟩ = some (.int .u8 f3) := by rw [← hw1, ← hg]; simp
  have q2 : w1.cell? ⟨g, 2, none⟩ = some (.int .u8 f7) := by rw [← hw1, ← hg]; simp
  have q3 : w1.cell? ⟨g, 3, none⟩ = some (.int .u8 fm) := by rw [← hw1, ← hg]; simp
  have r1 : w1.cell? ⟨g + 1, 1, none⟩ = some (.int .u8 rd) := by rw [← hw1, ← hg]; simp
  have r2 : w1.cell? ⟨g + 1, 2, none⟩ = some (.int .u8 rs1) := by rw [← hw1, ← hg]; simp
  have r3 : w1.cell? ⟨g + 1, 3, none⟩ = some (.int .u8 rs2) := by rw [← hw1, ← hg]; simp
  have r4 : w1.cell? ⟨g + 1, 4, none⟩ = some (.int .i64 imm) := by rw [← hw1, ← hg]; simp
  have hB : Below w0.heap.size w0 w1 := by rw [← hw1]; exact (((Below.refl _ _).alloc (Nat.le_refl _) _).alloc (by simp) _).drew
  refine wp_region_any (by kernel_rfl) ?_
  show wpAny _ _ _ _ _ _ _ (World.drew _)
  rw [hw1]
  try simp only [hg]
  clear hw1
  refine wpAny_inv (fun f L a w => ∃ (b0 b1 b2 b3 b4 b5 b6 b7 b8 b9 b10 b11 : Bool) (j1 j2 j3 : Nat), f = 3 + (tg b0 + tg b1 + tg b2 + tg b3 + tg b4 + tg b5 + tg b6 + tg b7 + tg b8 + tg b9 + tg b10 + tg b11) ∧ L = #[b0, b1, b2, b3, b4, b5, b6, b7, b8, b9, b10, b11, false, false, false] ∧ a = ⟨#[.agg #[.int .u8 c, .int .u8 f3, .int .u8 f7, .int .u8 fm], .agg #[.int .u8 op, .int .u8 rd, .int .u8 rs1, .int .u8 rs2, .int .i64 imm], .pointer (some ⟨g, 0, none⟩), .pointer (some ⟨g + 1, 0, none⟩), .int .u32 0, (bif b9 then .pointer (some ⟨j1, 0, none⟩) else undef), (bif b10 then .pointer (some ⟨j2, 0, none⟩) else undef), (bif b11 then .pointer (some ⟨j3, 0, none⟩) else undef), undef, undef, undef, undef, (bif b0 then .pointer (some ⟨g, 0, none⟩) else undef), (bif b1 then .int .u8 c else undef), (bif b2 then .agg #[.int .u32 c, .int .i64 7] else undef), (bif b3 then .pointer (some ⟨g, 1, none⟩) else undef), (bif b4 then .int .u8 f3 else undef), (bif b5 then .agg #[.int .u32 f3, .int .i64 3] else undef), (bif b6 then .pointer (some ⟨g, 2, none⟩) else undef), (bif b7 then .int .u8 f7 else undef), (bif b8 then .agg #[.int .u32 f7, .int .i64 7] else undef), undef, undef, undef, undef, undef, undef, undef, undef, undef, undef, undef, undef, undef, undef, undef, undef, undef, undef, undef, undef, undef, undef, undef, undef, undef, undef, undef, undef, undef, undef, undef, undef, undef, undef, undef, undef, undef, undef, undef, undef, undef, undef, undef, undef, undef, undef, undef, undef, undef, undef, undef, undef, undef, undef, undef, undef, undef, undef, undef, undef, undef, undef, undef, undef, undef, undef, undef, undef, undef, undef, undef, undef, undef, undef, undef, undef, undef, undef, undef, undef, undef, undef, undef, undef, undef, undef, undef, undef, undef, undef, undef, undef, undef, undef], []⟩ ∧ ((b1 = true → b0 = true) ∧ (b2 = true → b1 = true) ∧ (b4 = true → b3 = true) ∧ (b5 = true → b4 = true) ∧ (b7 = true → b6 = true) ∧ (b8 = true → b7 = true ∧ b5 = true)) ∧ Below w1.heap.size w1 w ∧ ((b9 = true → blk w1 j1 w) ∧ (b10 = true → blk w1 j2 w) ∧ (b11 = true → blk w1 j3 w)) ∧ ((b9 = true → b10 = true → j1 ≠ j2) ∧ (b9 = true → b11 = true → j1 ≠ j3) ∧ (b10 = true → b11 = true → j2 ≠ j3))) ?_ _ _ _ _ ⟨false, false, false, false, false, false, false, false, false, false, false, false, 0, 0, 0, rfl, rfl, rfl, ⟨(by simp), (by simp), (by simp), (by simp), (by simp), (by simp)⟩, Below.refl _ _, ⟨(by simp), (by simp), (by simp)⟩, ⟨(by simp), (by simp), (by simp)⟩⟩
  intro f L a w hI
  obtain ⟨b0, b1, b2, b3, b4, b5, b6, b7, b8, b9, b10, b11, j1, j2, j3, rfl, rfl, rfl, ⟨e1, e2, e3, e4, e5, e6⟩, hBe, ⟨a1, a2, a3⟩, ⟨n1, n2, n3⟩⟩ := hI
  by_cases hall : (b0 = true ∧ b1 = true ∧ b2 = true ∧ b3 = true ∧ b4 = true ∧ b5 = true ∧ b6 = true ∧ b7 = true ∧ b8 = true ∧ b9 = true ∧ b10 = true ∧ b11 = true)
  rotate_left
  · right
    refine ⟨2 + (tg b0 + tg b1 + tg b2 + tg b3 + tg b4 + tg b5 + tg b6 + tg b7 + tg b8 + tg b9 + tg b10 + tg b11), by omega, ?_, ?_⟩
    · intro hr
      have nin : ∀ j, j ∉ Region.ready _ _ _ := fun j hj => by rw [hr] at hj; cases hj
      have t0 : b0 = true := by
        cases b0 with
        | true => rfl
        | false => exact absurd (mem_ready.2 ⟨rfl, _, rfl, by intro e he _; simp at he; try (rcases he with rfl | rfl <;> rfl)⟩) (nin 0)
      subst t0
      have t1 : b1 = true := by
        cases b1 with
        | true => rfl
        | false => exact absurd (mem_ready.2 ⟨rfl, _, rfl, by intro e he _; simp at he; try (rcases he with rfl | rfl <;> rfl)⟩) (nin 1)
      subst t1
      have t2 : b2 = true := by
        cases b2 with
        | true => rfl
        | false => exact absurd (mem_ready.2 ⟨rfl, _, rfl, by intro e he _; simp at he; try (rcases he with rfl | rfl <;> rfl)⟩) (nin 2)
      subst t2
      have t3 : b3 = true := by
        cases b3 with
        | true => rfl
        | false => exact absurd (mem_ready.2 ⟨rfl, _, rfl, by intro e he _; simp at he; try (rcases he with rfl | rfl <;> rfl)⟩) (nin 3)
      subst t3
      have t4 : b4 = true := by
        cases b4 with
        | true => rfl
        | false => exact absurd (mem_ready.2 ⟨rfl, _, rfl, by intro e he _; simp at he; try (rcases he with rfl | rfl <;> rfl)⟩) (nin 4)
      subst t4
      have t5 : b5 = true := by
        cases b5 with
        | true => rfl
        | false => exact absurd (mem_ready.2 ⟨rfl, _, rfl, by intro e he _; simp at he; try (rcases he with rfl | rfl <;> rfl)⟩) (nin 5)
      subst t5
      have t6 : b6 = true := by
        cases b6 with
        | true => rfl
        | false => exact absurd (mem_ready.2 ⟨rfl, _, rfl, by intro e he _; simp at he; try (rcases he with rfl | rfl <;> rfl)⟩) (nin 6)
      subst t6
      have t7 : b7 = true := by
        cases b7 with
        | true => rfl
        | false => exact absurd (mem_ready.2 ⟨rfl, _, rfl, by intro e he _; simp at he; try (rcases he with rfl | rfl <;> rfl)⟩) (nin 7)
      subst t7
      have t8 : b8 = true := by
        cases b8 with
        | true => rfl
        | false => exact absurd (mem_ready.2 ⟨rfl, _, rfl, by intro e he _; simp at he; try (rcases he with rfl | rfl <;> rfl)⟩) (nin 8)
      subst t8
      have t9 : b9 = true := by
        cases b9 with
        | true => rfl
        | false => exact absurd (mem_ready.2 ⟨rfl, _, rfl, by intro e he _; simp at he; try (rcases he with rfl | rfl <;> rfl)⟩) (nin 9)
      subst t9
      have t10 : b10 = true := by
        cases b10 with
        | true => rfl
        | false => exact absurd (mem_ready.2 ⟨rfl, _, rfl, by intro e he _; simp at he; try (rcases he with rfl | rfl <;> rfl)⟩) (nin 10)
      subst t10
      have t11 : b11 = true := by
        cases b11 with
        | true => rfl
        | false => exact absurd (mem_ready.2 ⟨rfl, _, rfl, by intro e he _; simp at he; try (rcases he with rfl | rfl <;> rfl)⟩) (nin 11)
      subst t11
      exact hall ⟨rfl, rfl, rfl, rfl, rfl, rfl, rfl, rfl, rfl, rfl, rfl, rfl⟩
    · intro i hi
      obtain ⟨h0, o, ho, hd⟩ := mem_ready.1 hi
      have hi15 : i < 15 := by simpa using (Array.getElem?_eq_some_iff.1 ho).1
      have hc15 : i = 0 ∨ i = 1 ∨ i = 2 ∨ i = 3 ∨ i = 4 ∨ i = 5 ∨ i = 6 ∨ i = 7 ∨ i = 8 ∨ i = 9 ∨ i = 10 ∨ i = 11 ∨ i = 12 ∨ i = 13 ∨ i = 14 := by omega
      clear hi hi15
      rcases hc15 with rfl | rfl | rfl | rfl | rfl | rfl | rfl | rfl | rfl | rfl | rfl | rfl | rfl | rfl | rfl
      · simp at ho h0
        subst ho
        simp [Region.binds] at hd
        subst h0
        refine wpOp_step rfl (fun K' hK => ?_)
        go_simp
        exact hK _ _ ⟨true, b1, b2, b3, b4, b5, b6, b7, b8, b9, b10, b11, j1, j2, j3, by simp only [tg_t, tg_f]; omega, rfl, rfl, ⟨(by intro h; first | exact e1 h | rfl), (by intro h; first | exact e2 h | rfl), (by intro h; first | exact e3 h | rfl), (by intro h; first | exact e4 h | rfl), (by intro h; first | exact e5 h | rfl), (by intro h; first | exact e6 h | exact ⟨rfl, rfl⟩ | exact ⟨rfl, (e6 h).2⟩ | exact ⟨(e6 h).1, rfl⟩)⟩, hBe, ⟨a1, a2, a3⟩, ⟨n1, n2, n3⟩⟩
      · simp at ho h0
        subst ho
        simp [Region.binds] at hd
        subst h0
        refine wpOp_step rfl (fun K' hK => ?_)
        subst hd
        have cc := bk hBe q0
        go_simp
        exact hK _ _ ⟨true, true, b2, b3, b4, b5, b6, b7, b8, b9, b10, b11, j1, j2, j3, by simp only [tg_t, tg_f]; omega, rfl, rfl, ⟨(by intro h; first | exact e1 h | rfl), (by intro h; first | exact e2 h | rfl), (by intro h; first | exact e3 h | rfl), (by intro h; first | exact e4 h | rfl), (by intro h; first | exact e5 h | rfl), (by intro h; first | exact e6 h | exact ⟨rfl, rfl⟩ | exact ⟨rfl, (e6 h).2⟩ | exact ⟨(e6 h).1, rfl⟩)⟩, hBe, ⟨a1, a2, a3⟩, ⟨n1, n2, n3⟩⟩
      · simp at ho h0
        subst ho
        simp [Region.binds] at hd
        subst h0
        refine wpOp_step rfl (fun K' hK => ?_)
        subst hd
        obtain rfl := e1 rfl
        go_simp
        go_at_call 131; refine (whole_any _ _ (by omega) (by omega) (by omega) (by omega) _).mono ?_; rintro e w' ⟨rfl, rfl⟩
        exact hK _ _ ⟨true, true, true, b3, b4, b5, b6, b7, b8, b9, b10, b11, j1, j2, j3, by simp only [tg_t, tg_f]; omega, rfl, rfl, ⟨(by intro h; first | exact e1 h | rfl), (by intro h; first | exact e2 h | rfl), (by intro h; first | exact e3 h | rfl), (by intro h; first | exact e4 h | rfl), (by intro h; first | exact e5 h | rfl), (by intro h; first | exact e6 h | exact ⟨rfl, rfl⟩ | exact ⟨rfl, (e6 h).2⟩ | exact ⟨(e6 h).1, rfl⟩)⟩, hBe.alloc hBe.size _, ⟨fun h => blk_alloc _ (a1 h), fun h => blk_alloc _ (a2 h), fun h => blk_alloc _ (a3 h)⟩, ⟨n1, n2, n3⟩⟩
      · simp at ho h0
        subst ho
        simp [Region.binds] at hd
        subst h0
        refine wpOp_step rfl (fun K' hK => ?_)
        go_simp
        exact hK _ _ ⟨b0, b1, b2, true, b4, b5, b6, b7, b8, b9, b10, b11, j1, j2, j3, by simp only [tg_t, tg_f]; omega, rfl, rfl, ⟨(by intro h; first | exact e1 h | rfl), (by intro h; first | exact e2 h | rfl), (by intro h; first | exact e3 h | rfl), (by intro h; first | exact e4 h | rfl), (by intro h; first | exact e5 h | rfl), (by intro h; first | exact e6 h | exact ⟨rfl, rfl⟩ | exact ⟨rfl, (e6 h).2⟩ | exact ⟨(e6 h).1, rfl⟩)⟩, hBe, ⟨a1, a2, a3⟩, ⟨n1, n2, n3⟩⟩
      · simp at ho h0
        subst ho
        simp [Region.binds] at hd
        subst h0
        refine wpOp_step rfl (fun K' hK => ?_)
        subst hd
        have cc := bk hBe q1
        go_simp
        exact hK _ _ ⟨b0, b1, b2, true, true, b5, b6, b7, b8, b9, b10, b11, j1, j2, j3, by simp only [tg_t, tg_f]; omega, rfl, rfl, ⟨(by intro h; first | exact e1 h | rfl), (by intro h; first | exact e2 h | rfl), (by intro h; first | exact e3 h | rfl), (by intro h; first | exact e4 h | rfl), (by intro h; first | exact e5 h | rfl), (by intro h; first | exact e6 h | exact ⟨rfl, rfl⟩ | exact ⟨rfl, (e6 h).2⟩ | exact ⟨(e6 h).1, rfl⟩)⟩, hBe, ⟨a1, a2, a3⟩, ⟨n1, n2, n3⟩⟩
      · simp at ho h0
        subst ho
        simp [Region.binds] at hd
        subst h0
        refine wpOp_step rfl (fun K' hK => ?_)
        obtain ⟨rfl, rfl⟩ := hd
        obtain rfl := e3 rfl
        obtain rfl := e2 rfl
        obtain rfl := e1 rfl
        go_simp
        go_at_call 131; refine (whole_any _ _ (by omega) (by omega) (by omega) (by omega) _).mono ?_; rintro e w' ⟨rfl, rfl⟩
        exact hK _ _ ⟨true, true, true, true, true, true, b6, b7, b8, b9, b10, b11, j1, j2, j3, by simp only [tg_t, tg_f]; omega, rfl, rfl, ⟨(by intro h; first | exact e1 h | rfl), (by intro h; first | exact e2 h | rfl), (by intro h; first | exact e3 h | rfl), (by intro h; first | exact e4 h | rfl), (by intro h; first | exact e5 h | rfl), (by intro h; first | exact e6 h | exact ⟨rfl, rfl⟩ | exact ⟨rfl, (e6 h).2⟩ | exact ⟨(e6 h).1, rfl⟩)⟩, hBe.alloc hBe.size _, ⟨fun h => blk_alloc _ (a1 h), fun h => blk_alloc _ (a2 h), fun h => blk_alloc _ (a3 h)⟩, ⟨n1, n2, n3⟩⟩
      · simp at ho h0
        subst ho
        simp [Region.binds] at hd
        subst h0
        refine wpOp_step rfl (fun K' hK => ?_)
        go_simp
        exact hK _ _ ⟨b0, b1, b2, b3, b4, b5, true, b7, b8, b9, b10, b11, j1, j2, j3, by simp only [tg_t, tg_f]; omega, rfl, rfl, ⟨(by intro h; first | exact e1 h | rfl), (by intro h; first | exact e2 h | rfl), (by intro h; first | exact e3 h | rfl), (by intro h; first | exact e4 h | rfl), (by intro h; first | exact e5 h | rfl), (by intro h; first | exact e6 h | exact ⟨rfl, rfl⟩ | exact ⟨rfl, (e6 h).2⟩ | exact ⟨(e6 h).1, rfl⟩)⟩, hBe, ⟨a1, a2, a3⟩, ⟨n1, n2, n3⟩⟩
      · simp at ho h0
        subst ho
        simp [Region.binds] at hd
        subst h0
        refine wpOp_step rfl (fun K' hK => ?_)
        subst hd
        have cc := bk hBe q2
        go_simp
        exact hK _ _ ⟨b0, b1, b2, b3, b4, b5, true, true, b8, b9, b10, b11, j1, j2, j3, by simp only [tg_t, tg_f]; omega, rfl, rfl, ⟨(by intro h; first | exact e1 h | rfl), (by intro h; first | exact e2 h | rfl), (by intro h; first | exact e3 h | rfl), (by intro h; first | exact e4 h | rfl), (by intro h; first | exact e5 h | rfl), (by intro h; first | exact e6 h | exact ⟨rfl, rfl⟩ | exact ⟨rfl, (e6 h).2⟩ | exact ⟨(e6 h).1, rfl⟩)⟩, hBe, ⟨a1, a2, a3⟩, ⟨n1, n2, n3⟩⟩
      · simp at ho h0
        subst ho
        simp [Region.binds] at hd
        subst h0
        refine wpOp_step rfl (fun K' hK => ?_)
        obtain ⟨rfl, rfl⟩ := hd
        obtain rfl := e5 rfl
        obtain rfl := e4 rfl
        obtain rfl := e3 rfl
        go_simp
        go_at_call 131; refine (whole_any _ _ (by omega) (by omega) (by omega) (by omega) _).mono ?_; rintro e w' ⟨rfl, rfl⟩
        exact hK _ _ ⟨b0, b1, b2, true, true, true, true, true, true, b9, b10, b11, j1, j2, j3, by simp only [tg_t, tg_f]; omega, rfl, rfl, ⟨(by intro h; first | exact e1 h | rfl), (by intro h; first | exact e2 h | rfl), (by intro h; first | exact e3 h | rfl), (by intro h; first | exact e4 h | rfl), (by intro h; first | exact e5 h | rfl), (by intro h; first | exact e6 h | exact ⟨rfl, rfl⟩ | exact ⟨rfl, (e6 h).2⟩ | exact ⟨(e6 h).1, rfl⟩)⟩, hBe.alloc hBe.size _, ⟨fun h => blk_alloc _ (a1 h), fun h => blk_alloc _ (a2 h), fun h => blk_alloc _ (a3 h)⟩, ⟨n1, n2, n3⟩⟩
      · simp at ho h0
        subst ho
        simp [Region.binds] at hd
        subst h0
        refine wpOp_step rfl (fun K' hK => ?_)
        go_simp
        exact hK _ _ ⟨b0, b1, b2, b3, b4, b5, b6, b7, b8, true, b10, b11, w.heap.size, j2, j3, by simp only [tg_t, tg_f]; omega, rfl, rfl, ⟨(by intro h; first | exact e1 h | rfl), (by intro h; first | exact e2 h | rfl), (by intro h; first | exact e3 h | rfl), (by intro h; first | exact e4 h | rfl), (by intro h; first | exact e5 h | rfl), (by intro h; first | exact e6 h | exact ⟨rfl, rfl⟩ | exact ⟨rfl, (e6 h).2⟩ | exact ⟨(e6 h).1, rfl⟩)⟩, hBe.alloc hBe.size _, ⟨fun _ => blk_new hBe.size, fun h => blk_alloc _ (a2 h), fun h => blk_alloc _ (a3 h)⟩, ⟨fun _ h => Nat.ne_of_gt (blk_lt (a2 h)), fun _ h => Nat.ne_of_gt (blk_lt (a3 h)), n3⟩⟩
      · simp at ho h0
        subst ho
        simp [Region.binds] at hd
        subst h0
        refine wpOp_step rfl (fun K' hK => ?_)
        go_simp
        exact hK _ _ ⟨b0, b1, b2, b3, b4, b5, b6, b7, b8, b9, true, b11, j1, w.heap.size, j3, by simp only [tg_t, tg_f]; omega, rfl, rfl, ⟨(by intro h; first | exact e1 h | rfl), (by intro h; first | exact e2 h | rfl), (by intro h; first | exact e3 h | rfl), (by intro h; first | exact e4 h | rfl), (by intro h; first | exact e5 h | rfl), (by intro h; first | exact e6 h | exact ⟨rfl, rfl⟩ | exact ⟨rfl, (e6 h).2⟩ | exact ⟨(e6 h).1, rfl⟩)⟩, hBe.alloc hBe.size _, ⟨fun h => blk_alloc _ (a1 h), fun _ => blk_new hBe.size, fun h => blk_alloc _ (a3 h)⟩, ⟨fun h _ => Nat.ne_of_lt (blk_lt (a1 h)), n2, fun _ h => Nat.ne_of_gt (blk_lt (a3 h))⟩⟩
      · simp at ho h0
        subst ho
        simp [Region.binds] at hd
        subst h0
        refine wpOp_step rfl (fun K' hK => ?_)
        go_simp
        exact hK _ _ ⟨b0, b1, b2, b3, b4, b5, b6, b7, b8, b9, b10, true, j1, j2, w.heap.size, by simp only [tg_t, tg_f]; omega, rfl, rfl, ⟨(by intro h; first | exact e1 h | rfl), (by intro h; first | exact e2 h | rfl), (by intro h; first | exact e3 h | rfl), (by intro h; first | exact e4 h | rfl), (by intro h; first | exact e5 h | rfl), (by intro h; first | exact e6 h | exact ⟨rfl, rfl⟩ | exact ⟨rfl, (e6 h).2⟩ | exact ⟨(e6 h).1, rfl⟩)⟩, hBe.alloc hBe.size _, ⟨fun h => blk_alloc _ (a1 h), fun h => blk_alloc _ (a2 h), fun _ => blk_new hBe.size⟩, ⟨n1, fun h _ => Nat.ne_of_lt (blk_lt (a1 h)), fun h _ => Nat.ne_of_lt (blk_lt (a2 h))⟩⟩
      · simp at ho h0
        subst ho
        simp [Region.binds] at hd
        exact (hall (by simp_all)).elim
      · simp at ho h0
        subst ho
        simp [Region.binds] at hd
      · simp at ho h0
        subst ho
        simp [Region.binds] at hd
  obtain ⟨rfl, rfl, rfl, rfl, rfl, rfl, rfl, rfl, rfl, rfl, rfl, rfl⟩ := hall
  left
  have d1 := a1 rfl; have d2 := a2 rfl; have d3 := a3 rfl; have m1 := n1 rfl rfl; have m2 := n2 rfl rfl; have m3 := n3 rfl rfl; have m1s := m1.symm; have m2s := m2.symm; have m3s := m3.symm
  clear a1 a2 a3 n1 n2 n3 e1 e2 e3 e4 e5 e6
  have s1 := d1.1; have s2 := d2.1; have s3 := d3.1
  have c1 := blk_c0 d1; have c1' := blk_c1 d1; have z1 := blk_fr d1 0; have z1' := blk_fr d1 1
  have c2 := blk_c0 d2; have c2' := blk_c1 d2; have z2 := blk_fr d2 0; have z2' := blk_fr d2 1
  have c3 := blk_c0 d3; have c3' := blk_c1 d3; have z3 := blk_fr d3 0; have z3' := blk_fr d3 1
  simp only [tg_t, Nat.add_zero]
  refine wpAny_ready (rs := [12]) (by kernel_rfl) (by simp) (AllReady.cons rfl (fun K hK => ?_) AllReady.nil)
  go_simp
  refine hK _ _ ?_
  clear hK K
  refine wpAny_ready (rs := [13]) (by kernel_rfl) (by simp) (AllReady.cons rfl (fun K hK => ?_) AllReady.nil)
  go_simp
  refine hK _ _ ?_
  clear hK K
  refine wpAny_ready (rs := [14]) (by kernel_rfl) (by simp) (AllReady.cons rfl (fun K hK => ?_) AllReady.nil)
  go_simp
  refine hK _ _ ?_
  clear hK K
  refine wpAny_done (by kernel_rfl) ?_ _
  obtain ⟨w1n, hNW⟩ : ∃ x, ((((((w.setCell ⟨j1, 0, none⟩ (.int .u32 c)).setCell ⟨j1, 1, none⟩ (.int .i64 7)).setCell ⟨j2, 0, none⟩ (.int .u32 f3)).setCell ⟨j2, 1, none⟩ (.int .i64 3)).setCell ⟨j3, 0, none⟩ (.int .u32 f7)).setCell ⟨j3, 1, none⟩ (.int .i64 7)) = x := ⟨_, rfl⟩
  rw [hNW]
  have j1_0 : w1n.cell? ⟨j1, 0, none⟩ = some (.int .u32 c) := by rw [← hNW]; clear hNW; go_simp
  have j1_1 : w1n.cell? ⟨j1, 1, none⟩ = some (.int .i64 7) := by rw [← hNW]; clear hNW; go_simp
  have j2_0 : w1n.cell? ⟨j2, 0, none⟩ = some (.int .u32 f3) := by rw [← hNW]; clear hNW; go_simp
  have j2_1 : w1n.cell? ⟨j2, 1, none⟩ = some (.int .i64 3) := by rw [← hNW]; clear hNW; go_simp
  have j3_0 : w1n.cell? ⟨j3, 0, none⟩ = some (.int .u32 f7) := by rw [← hNW]; clear hNW; go_simp
  have j3_1 : w1n.cell? ⟨j3, 1, none⟩ = some (.int .i64 7) := by rw [← hNW]; clear hNW; go_simp
  have hBw1n : Below w1.heap.size w1 w1n := by rw [← hNW]; exact ((((((hBe.setCell s1 _).setCell s1 _).setCell s2 _).setCell s2 _).setCell s3 _).setCell s3 _)
  clear hNW d1 d2 d3 c1 c2 c3 c1' c2' c3' z1 z2 z3 z1' z2' z3' hBe w
  go_wp2
  obtain ⟨w2, hw2⟩ : ∃ w2, w1n.drew = w2 := ⟨_, rfl⟩
  have hX : Below w1.heap.size w1 w2 := by rw [← hw2]; exact hBw1n.drew
  have hY : Below w1n.heap.size w1n w2 := by rw [← hw2]; exact (Below.refl _ _).drew
  have hB2 : Below w0.heap.size w0 w2 := below_trans' hB (Nat.le_refl _) hX
  have q2 := bk hX q2
  have q3 := bk hX q3
  have r1 := bk hX r1
  have r2 := bk hX r2
  have r3 := bk hX r3
  have r4 := bk hX r4
  have j1_0 := bk hY j1_0
  have j1_1 := bk hY j1_1
  have j2_0 := bk hY j2_0
  have j2_1 := bk hY j2_1
  have j3_0 := bk hY j3_0
  have j3_1 := bk hY j3_1
  refine wp_region_any (by kernel_rfl) ?_
  show wpAny _ _ _ _ _ _ _ (World.drew _)
  rw [hw2]
  clear hw2 hX hY hBw1n hB q0 q1
  refine wpAny_inv (fun f L a w => ∃ (b0 b1 b2 b3 b4 b5 b6 b7 b8 b9 b10 b11 : Bool) (k1 k2 k3 : Nat), f = 3 + (tg b0 + tg b1 + tg b2 + tg b3 + tg b4 + tg b5 + tg b6 + tg b7 + tg b8 + tg b9 + tg b10 + tg b11) ∧ L = #[b0, b1, b2, b3, b4, b5, b6, b7, b8, b9, b10, b11, false, false, false] ∧ a = ⟨#[.agg #[.int .u8 c, .int .u8 f3, .int .u8 f7, .int .u8 fm], .agg #[.int .u8 op, .int .u8 rd, .int .u8 rs1, .int .u8 rs2, .int .i64 imm], .pointer (some ⟨g, 0, none⟩), .pointer (some ⟨g + 1, 0, none⟩), .int .u32 0, .pointer (some ⟨j1, 0, none⟩), .pointer (some ⟨j2, 0, none⟩), .pointer (some ⟨j3, 0, none⟩), (bif b9 then .pointer (some ⟨k1, 0, none⟩) else undef), (bif b10 then .pointer (some ⟨k2, 0, none⟩) else undef), (bif b11 then .pointer (some ⟨k3, 0, none⟩) else undef), undef, .pointer (some ⟨g, 0, none⟩), .int .u8 c, .agg #[.int .u32 c, .int .i64 7], .pointer (some ⟨g, 1, none⟩), .int .u8 f3, .agg #[.int .u32 f3, .int .i64 3], .pointer (some ⟨g, 2, none⟩), .int .u8 f7, .agg #[.int .u32 f7, .int .i64 7], (bif b0 then .pointer (some ⟨g + 1, 1, none⟩) else undef), (bif b1 then .int .u8 rd else undef), (bif b2 then .agg #[.int .u32 rd, .int .i64 5] else undef), (bif b3 then .pointer (some ⟨g + 1, 2, none⟩) else undef), (bif b4 then .int .u8 rs1 else undef), (bif b5 then .agg #[.int .u32 rs1, .int .i64 5] else undef), (bif b6 then .pointer (some ⟨g + 1, 3, none⟩) else undef), (bif b7 then .int .u8 rs2 else undef), (bif b8 then .agg #[.int .u32 rs2, .int .i64 5] else undef), undef, undef, undef, undef, undef, undef, undef, undef, undef, undef, undef, undef, undef, undef, undef, undef, undef, undef, undef, undef, undef, undef, undef, undef, undef, undef, undef, undef, undef, undef, undef, undef, undef, undef, undef, undef, undef, undef, undef, undef, undef, undef, undef, undef, undef, undef, undef, undef, undef, undef, undef, undef, undef, undef, undef, undef, undef, undef, undef, undef, undef, undef, undef, undef, undef, undef, undef, undef, undef, undef, undef, undef, undef, undef, undef, undef, undef, undef, undef, undef, undef, undef, undef, undef, undef], []⟩ ∧ ((b1 = true → b0 = true) ∧ (b2 = true → b1 = true) ∧ (b4 = true → b3 = true) ∧ (b5 = true → b4 = true) ∧ (b7 = true → b6 = true) ∧ (b8 = true → b7 = true ∧ b5 = true)) ∧ Below w2.heap.size w2 w ∧ ((b9 = true → blk w2 k1 w) ∧ (b10 = true → blk w2 k2 w) ∧ (b11 = true → blk w2 k3 w)) ∧ ((b9 = true → b10 = true → k1 ≠ k2) ∧ (b9 = true → b11 = true → k1 ≠ k3) ∧ (b10 = true → b11 = true → k2 ≠ k3))) ?_ _ _ _ _ ⟨false, false, false, false, false, false, false, false, false, false, false, false, 0, 0, 0, rfl, rfl, rfl, ⟨(by simp), (by simp), (by simp), (by simp), (by simp), (by simp)⟩, Below.refl _ _, ⟨(by simp), (by simp), (by simp)⟩, ⟨(by simp), (by simp), (by simp)⟩⟩
  intro f L a w hI
  obtain ⟨b0, b1, b2, b3, b4, b5, b6, b7, b8, b9, b10, b11, k1, k2, k3, rfl, rfl, rfl, ⟨e1, e2, e3, e4, e5, e6⟩, hBe, ⟨a1, a2, a3⟩, ⟨n1, n2, n3⟩⟩ := hI
  by_cases hall : (b0 = true ∧ b1 = true ∧ b2 = true ∧ b3 = true ∧ b4 = true ∧ b5 = true ∧ b6 = true ∧ b7 = true ∧ b8 = true ∧ b9 = true ∧ b10 = true ∧ b11 = true)
  rotate_left
  · right
    refine ⟨2 + (tg b0 + tg b1 + tg b2 + tg b3 + tg b4 + tg b5 + tg b6 + tg b7 + tg b8 + tg b9 + tg b10 + tg b11), by omega, ?_, ?_⟩
    · intro hr
      have nin : ∀ j, j ∉ Region.ready _ _ _ := fun j hj => by rw [hr] at hj; cases hj
      have t0 : b0 = true := by
        cases b0 with
        | true => rfl
        | false => exact absurd (mem_ready.2 ⟨rfl, _, rfl, by intro e he _; simp at he; try (rcases he with rfl | rfl <;> rfl)⟩) (nin 0)
      subst t0
      have t1 : b1 = true := by
        cases b1 with
        | true => rfl
        | false => exact absurd (mem_ready.2 ⟨rfl, _, rfl, by intro e he _; simp at he; try (rcases he with rfl | rfl <;> rfl)⟩) (nin 1)
      subst t1
      have t2 : b2 = true := by
        cases b2 with
        | true => rfl
        | false => exact absurd (mem_ready.2 ⟨rfl, _, rfl, by intro e he _; simp at he; try (rcases he with rfl | rfl <;> rfl)⟩) (nin 2)
      subst t2
      have t3 : b3 = true := by
        cases b3 with
        | true => rfl
        | false => exact absurd (mem_ready.2 ⟨rfl, _, rfl, by intro e he _; simp at he; try (rcases he with rfl | rfl <;> rfl)⟩) (nin 3)
      subst t3
      have t4 : b4 = true := by
        cases b4 with
        | true => rfl
        | false => exact absurd (mem_ready.2 ⟨rfl, _, rfl, by intro e he _; simp at he; try (rcases he with rfl | rfl <;> rfl)⟩) (nin 4)
      subst t4
      have t5 : b5 = true := by
        cases b5 with
        | true => rfl
        | false => exact absurd (mem_ready.2 ⟨rfl, _, rfl, by intro e he _; simp at he; try (rcases he with rfl | rfl <;> rfl)⟩) (nin 5)
      subst t5
      have t6 : b6 = true := by
        cases b6 with
        | true => rfl
        | false => exact absurd (mem_ready.2 ⟨rfl, _, rfl, by intro e he _; simp at he; try (rcases he with rfl | rfl <;> rfl)⟩) (nin 6)
      subst t6
      have t7 : b7 = true := by
        cases b7 with
        | true => rfl
        | false => exact absurd (mem_ready.2 ⟨rfl, _, rfl, by intro e he _; simp at he; try (rcases he with rfl | rfl <;> rfl)⟩) (nin 7)
      subst t7
      have t8 : b8 = true := by
        cases b8 with
        | true => rfl
        | false => exact absurd (mem_ready.2 ⟨rfl, _, rfl, by intro e he _; simp at he; try (rcases he with rfl | rfl <;> rfl)⟩) (nin 8)
      subst t8
      have t9 : b9 = true := by
        cases b9 with
        | true => rfl
        | false => exact absurd (mem_ready.2 ⟨rfl, _, rfl, by intro e he _; simp at he; try (rcases he with rfl | rfl <;> rfl)⟩) (nin 9)
      subst t9
      have t10 : b10 = true := by
        cases b10 with
        | true => rfl
        | false => exact absurd (mem_ready.2 ⟨rfl, _, rfl, by intro e he _; simp at he; try (rcases he with rfl | rfl <;> rfl)⟩) (nin 10)
      subst t10
      have t11 : b11 = true := by
        cases b11 with
        | true => rfl
        | false => exact absurd (mem_ready.2 ⟨rfl, _, rfl, by intro e he _; simp at he; try (rcases he with rfl | rfl <;> rfl)⟩) (nin 11)
      subst t11
      exact hall ⟨rfl, rfl, rfl, rfl, rfl, rfl, rfl, rfl, rfl, rfl, rfl, rfl⟩
    · intro i hi
      obtain ⟨h0, o, ho, hd⟩ := mem_ready.1 hi
      have hi15 : i < 15 := by simpa using (Array.getElem?_eq_some_iff.1 ho).1
      have hc15 : i = 0 ∨ i = 1 ∨ i = 2 ∨ i = 3 ∨ i = 4 ∨ i = 5 ∨ i = 6 ∨ i = 7 ∨ i = 8 ∨ i = 9 ∨ i = 10 ∨ i = 11 ∨ i = 12 ∨ i = 13 ∨ i = 14 := by omega
      clear hi hi15
      rcases hc15 with rfl | rfl | rfl | rfl | rfl | rfl | rfl | rfl | rfl | rfl | rfl | rfl | rfl | rfl | rfl
      · simp at ho h0
        subst ho
        simp [Region.binds] at hd
        subst h0
        refine wpOp_step rfl (fun K' hK => ?_)
        go_simp
        exact hK _ _ ⟨true, b1, b2, b3, b4, b5, b6, b7, b8, b9, b10, b11, k1, k2, k3, by simp only [tg_t, tg_f]; omega, rfl, rfl, ⟨(by intro h; first | exact e1 h | rfl), (by intro h; first | exact e2 h | rfl), (by intro h; first | exact e3 h | rfl), (by intro h; first | exact e4 h | rfl), (by intro h; first | exact e5 h | rfl), (by intro h; first | exact e6 h | exact ⟨rfl, rfl⟩ | exact ⟨rfl, (e6 h).2⟩ | exact ⟨(e6 h).1, rfl⟩)⟩, hBe, ⟨a1, a2, a3⟩, ⟨n1, n2, n3⟩⟩
      · simp at ho h0
        subst ho
        simp [Region.binds] at hd
        subst h0
        refine wpOp_step rfl (fun K' hK => ?_)
        subst hd
        have cc := bk hBe r1
        go_simp
        exact hK _ _ ⟨true, true, b2, b3, b4, b5, b6, b7, b8, b9, b10, b11, k1, k2, k3, by simp only [tg_t, tg_f]; omega, rfl, rfl, ⟨(by intro h; first | exact e1 h | rfl), (by intro h; first | exact e2 h | rfl), (by intro h; first | exact e3 h | rfl), (by intro h; first | exact e4 h | rfl), (by intro h; first | exact e5 h | rfl), (by intro h; first | exact e6 h | exact ⟨rfl, rfl⟩ | exact ⟨rfl, (e6 h).2⟩ | exact ⟨(e6 h).1, rfl⟩)⟩, hBe, ⟨a1, a2, a3⟩, ⟨n1, n2, n3⟩⟩
      · simp at ho h0
        subst ho
        simp [Region.binds] at hd
        subst h0
        refine wpOp_step rfl (fun K' hK => ?_)
        subst hd
        obtain rfl := e1 rfl
        go_simp
        go_at_call 131; refine (whole_any _ _ (by omega) (by omega) (by omega) (by omega) _).mono ?_; rintro e w' ⟨rfl, rfl⟩
        exact hK _ _ ⟨true, true, true, b3, b4, b5, b6, b7, b8, b9, b10, b11, k1, k2, k3, by simp only [tg_t, tg_f]; omega, rfl, rfl, ⟨(by intro h; first | exact e1 h | rfl), (by intro h; first | exact e2 h | rfl), (by intro h; first | exact e3 h | rfl), (by intro h; first | exact e4 h | rfl), (by intro h; first | exact e5 h | rfl), (by intro h; first | exact e6 h | exact ⟨rfl, rfl⟩ | exact ⟨rfl, (e6 h).2⟩ | exact ⟨(e6 h).1, rfl⟩)⟩, hBe.alloc hBe.size _, ⟨fun h => blk_alloc _ (a1 h), fun h => blk_alloc _ (a2 h), fun h => blk_alloc _ (a3 h)⟩, ⟨n1, n2, n3⟩⟩
      · simp at ho h0
        subst ho
        simp [Region.binds] at hd
        subst h0
        refine wpOp_step rfl (fun K' hK => ?_)
        go_simp
        exact hK _ _ ⟨b0, b1, b2, true, b4, b5, b6, b7, b8, b9, b10, b11, k1, k2, k3, by simp only [tg_t, tg_f]; omega, rfl, rfl, ⟨(by intro h; first | exact e1 h | rfl), (by intro h; first | exact e2 h | rfl), (by intro h; first | exact e3 h | rfl), (by intro h; first | exact e4 h | rfl), (by intro h; first | exact e5 h | rfl), (by intro h; first | exact e6 h | exact ⟨rfl, rfl⟩ | exact ⟨rfl, (e6 h).2⟩ | exact ⟨(e6 h).1, rfl⟩)⟩, hBe, ⟨a1, a2, a3⟩, ⟨n1, n2, n3⟩⟩
      · simp at ho h0
        subst ho
        simp [Region.binds] at hd
        subst h0
        refine wpOp_step rfl (fun K' hK => ?_)
        subst hd
        have cc := bk hBe r2
        go_simp
        exact hK _ _ ⟨b0, b1, b2, true, true, b5, b6, b7, b8, b9, b10, b11, k1, k2, k3, by simp only [tg_t, tg_f]; omega, rfl, rfl, ⟨(by intro h; first | exact e1 h | rfl), (by intro h; first | exact e2 h | rfl), (by intro h; first | exact e3 h | rfl), (by intro h; first | exact e4 h | rfl), (by intro h; first | exact e5 h | rfl), (by intro h; first | exact e6 h | exact ⟨rfl, rfl⟩ | exact ⟨rfl, (e6 h).2⟩ | exact ⟨(e6 h).1, rfl⟩)⟩, hBe, ⟨a1, a2, a3⟩, ⟨n1, n2, n3⟩⟩
      · simp at ho h0
        subst ho
        simp [Region.binds] at hd
        subst h0
        refine wpOp_step rfl (fun K' hK => ?_)
        obtain ⟨rfl, rfl⟩ := hd
        obtain rfl := e3 rfl
        obtain rfl := e2 rfl
        obtain rfl := e1 rfl
        go_simp
        go_at_call 131; refine (whole_any _ _ (by omega) (by omega) (by omega) (by omega) _).mono ?_; rintro e w' ⟨rfl, rfl⟩
        exact hK _ _ ⟨true, true, true, true, true, true, b6, b7, b8, b9, b10, b11, k1, k2, k3, by simp only [tg_t, tg_f]; omega, rfl, rfl, ⟨(by intro h; first | exact e1 h | rfl), (by intro h; first | exact e2 h | rfl), (by intro h; first | exact e3 h | rfl), (by intro h; first | exact e4 h | rfl), (by intro h; first | exact e5 h | rfl), (by intro h; first | exact e6 h | exact ⟨rfl, rfl⟩ | exact ⟨rfl, (e6 h).2⟩ | exact ⟨(e6 h).1, rfl⟩)⟩, hBe.alloc hBe.size _, ⟨fun h => blk_alloc _ (a1 h), fun h => blk_alloc _ (a2 h), fun h => blk_alloc _ (a3 h)⟩, ⟨n1, n2, n3⟩⟩
      · simp at ho h0
        subst ho
        simp [Region.binds] at hd
        subst h0
        refine wpOp_step rfl (fun K' hK => ?_)
        go_simp
        exact hK _ _ ⟨b0, b1, b2, b3, b4, b5, true, b7, b8, b9, b10, b11, k1, k2, k3, by simp only [tg_t, tg_f]; omega, rfl, rfl, ⟨(by intro h; first | exact e1 h | rfl), (by intro h; first | exact e2 h | rfl), (by intro h; first | exact e3 h | rfl), (by intro h; first | exact e4 h | rfl), (by intro h; first | exact e5 h | rfl), (by intro h; first | exact e6 h | exact ⟨rfl, rfl⟩ | exact ⟨rfl, (e6 h).2⟩ | exact ⟨(e6 h).1, rfl⟩)⟩, hBe, ⟨a1, a2, a3⟩, ⟨n1, n2, n3⟩⟩
      · simp at ho h0
        subst ho
        simp [Region.binds] at hd
        subst h0
        refine wpOp_step rfl (fun K' hK => ?_)
        subst hd
        have cc := bk hBe r3
        go_simp
        exact hK _ _ ⟨b0, b1, b2, b3, b4, b5, true, true, b8, b9, b10, b11, k1, k2, k3, by simp only [tg_t, tg_f]; omega, rfl, rfl, ⟨(by intro h; first | exact e1 h | rfl), (by intro h; first | exact e2 h | rfl), (by intro h; first | exact e3 h | rfl), (by intro h; first | exact e4 h | rfl), (by intro h; first | exact e5 h | rfl), (by intro h; first | exact e6 h | exact ⟨rfl, rfl⟩ | exact ⟨rfl, (e6 h).2⟩ | exact ⟨(e6 h).1, rfl⟩)⟩, hBe, ⟨a1, a2, a3⟩, ⟨n1, n2, n3⟩⟩
      · simp at ho h0
        subst ho
        simp [Region.binds] at hd
        subst h0
        refine wpOp_step rfl (fun K' hK => ?_)
        obtain ⟨rfl, rfl⟩ := hd
        obtain rfl := e5 rfl
        obtain rfl := e4 rfl
        obtain rfl := e3 rfl
        go_simp
        go_at_call 131; refine (whole_any _ _ (by omega) (by omega) (by omega) (by omega) _).mono ?_; rintro e w' ⟨rfl, rfl⟩
        exact hK _ _ ⟨b0, b1, b2, true, true, true, true, true, true, b9, b10, b11, k1, k2, k3, by simp only [tg_t, tg_f]; omega, rfl, rfl, ⟨(by intro h; first | exact e1 h | rfl), (by intro h; first | exact e2 h | rfl), (by intro h; first | exact e3 h | rfl), (by intro h; first | exact e4 h | rfl), (by intro h; first | exact e5 h | rfl), (by intro h; first | exact e6 h | exact ⟨rfl, rfl⟩ | exact ⟨rfl, (e6 h).2⟩ | exact ⟨(e6 h).1, rfl⟩)⟩, hBe.alloc hBe.size _, ⟨fun h => blk_alloc _ (a1 h), fun h => blk_alloc _ (a2 h), fun h => blk_alloc _ (a3 h)⟩, ⟨n1, n2, n3⟩⟩
      · simp at ho h0
        subst ho
        simp [Region.binds] at hd
        subst h0
        refine wpOp_step rfl (fun K' hK => ?_)
        go_simp
        exact hK _ _ ⟨b0, b1, b2, b3, b4, b5, b6, b7, b8, true, b10, b11, w.heap.size, k2, k3, by simp only [tg_t, tg_f]; omega, rfl, rfl, ⟨(by intro h; first | exact e1 h | rfl), (by intro h; first | exact e2 h | rfl), (by intro h; first | exact e3 h | rfl), (by intro h; first | exact e4 h | rfl), (by intro h; first | exact e5 h | rfl), (by intro h; first | exact e6 h | exact ⟨rfl, rfl⟩ | exact ⟨rfl, (e6 h).2⟩ | exact ⟨(e6 h).1, rfl⟩)⟩, hBe.alloc hBe.size _, ⟨fun _ => blk_new hBe.size, fun h => blk_alloc _ (a2 h), fun h => blk_alloc _ (a3 h)⟩, ⟨fun _ h => Nat.ne_of_gt (blk_lt (a2 h)), fun _ h => Nat.ne_of_gt (blk_lt (a3 h)), n3⟩⟩
      · simp at ho h0
        subst ho
        simp [Region.binds] at hd
        subst h0
        refine wpOp_step rfl (fun K' hK => ?_)
        go_simp
        exact hK _ _ ⟨b0, b1, b2, b3, b4, b5, b6, b7, b8, b9, true, b11, k1, w.heap.size, k3, by simp only [tg_t, tg_f]; omega, rfl, rfl, ⟨(by intro h; first | exact e1 h | rfl), (by intro h; first | exact e2 h | rfl), (by intro h; first | exact e3 h | rfl), (by intro h; first | exact e4 h | rfl), (by intro h; first | exact e5 h | rfl), (by intro h; first | exact e6 h | exact ⟨rfl, rfl⟩ | exact ⟨rfl, (e6 h).2⟩ | exact ⟨(e6 h).1, rfl⟩)⟩, hBe.alloc hBe.size _, ⟨fun h => blk_alloc _ (a1 h), fun _ => blk_new hBe.size, fun h => blk_alloc _ (a3 h)⟩, ⟨fun h _ => Nat.ne_of_lt (blk_lt (a1 h)), n2, fun _ h => Nat.ne_of_gt (blk_lt (a3 h))⟩⟩
      · simp at ho h0
        subst ho
        simp [Region.binds] at hd
        subst h0
        refine wpOp_step rfl (fun K' hK => ?_)
        go_simp
        exact hK _ _ ⟨b0, b1, b2, b3, b4, b5, b6, b7, b8, b9, b10, true, k1, k2, w.heap.size, by simp only [tg_t, tg_f]; omega, rfl, rfl, ⟨(by intro h; first | exact e1 h | rfl), (by intro h; first | exact e2 h | rfl), (by intro h; first | exact e3 h | rfl), (by intro h; first | exact e4 h | rfl), (by intro h; first | exact e5 h | rfl), (by intro h; first | exact e6 h | exact ⟨rfl, rfl⟩ | exact ⟨rfl, (e6 h).2⟩ | exact ⟨(e6 h).1, rfl⟩)⟩, hBe.alloc hBe.size _, ⟨fun h => blk_alloc _ (a1 h), fun h => blk_alloc _ (a2 h), fun _ => blk_new hBe.size⟩, ⟨n1, fun h _ => Nat.ne_of_lt (blk_lt (a1 h)), fun h _ => Nat.ne_of_lt (blk_lt (a2 h))⟩⟩
      · simp at ho h0
        subst ho
        simp [Region.binds] at hd
        exact (hall (by simp_all)).elim
      · simp at ho h0
        subst ho
        simp [Region.binds] at hd
      · simp at ho h0
        subst ho
        simp [Region.binds] at hd
  obtain ⟨rfl, rfl, rfl, rfl, rfl, rfl, rfl, rfl, rfl, rfl, rfl, rfl⟩ := hall
  left
  have d1 := a1 rfl; have d2 := a2 rfl; have d3 := a3 rfl; have m1 := n1 rfl rfl; have m2 := n2 rfl rfl; have m3 := n3 rfl rfl; have m1s := m1.symm; have m2s := m2.symm; have m3s := m3.symm
  clear a1 a2 a3 n1 n2 n3 e1 e2 e3 e4 e5 e6
  have s1 := d1.1; have s2 := d2.1; have s3 := d3.1
  have c1 := blk_c0 d1; have c1' := blk_c1 d1; have z1 := blk_fr d1 0; have z1' := blk_fr d1 1
  have c2 := blk_c0 d2; have c2' := blk_c1 d2; have z2 := blk_fr d2 0; have z2' := blk_fr d2 1
  have c3 := blk_c0 d3; have c3' := blk_c1 d3; have z3 := blk_fr d3 0; have z3' := blk_fr d3 1
  simp only [tg_t, Nat.add_zero]
  refine wpAny_ready (rs := [12]) (by kernel_rfl) (by simp) (AllReady.cons rfl (fun K hK => ?_) AllReady.nil)
  go_simp
  refine hK _ _ ?_
  clear hK K
  refine wpAny_ready (rs := [13]) (by kernel_rfl) (by simp) (AllReady.cons rfl (fun K hK => ?_) AllReady.nil)
  go_simp
  refine hK _ _ ?_
  clear hK K
  refine wpAny_ready (rs := [14]) (by kernel_rfl) (by simp) (AllReady.cons rfl (fun K hK => ?_) AllReady.nil)
  go_simp
  refine hK _ _ ?_
  clear hK K
  refine wpAny_done (by kernel_rfl) ?_ _
  obtain ⟨w2n, hNW⟩ : ∃ x, ((((((w.setCell ⟨k1, 0, none⟩ (.int .u32 rd)).setCell ⟨k1, 1, none⟩ (.int .i64 5)).setCell ⟨k2, 0, none⟩ (.int .u32 rs1)).setCell ⟨k2, 1, none⟩ (.int .i64 5)).setCell ⟨k3, 0, none⟩ (.int .u32 rs2)).setCell ⟨k3, 1, none⟩ (.int .i64 5)) = x := ⟨_, rfl⟩
  rw [hNW]
  have k1_0 : w2n.cell? ⟨k1, 0, none⟩ = some (.int .u32 rd) := by rw [← hNW]; clear hNW; go_simp
  have k1_1 : w2n.cell? ⟨k1, 1, none⟩ = some (.int .i64 5) := by rw [← hNW]; clear hNW; go_simp
  have k2_0 : w2n.cell? ⟨k2, 0, none⟩ = some (.int .u32 rs1) := by rw [← hNW]; clear hNW; go_simp
  have k2_1 : w2n.cell? ⟨k2, 1, none⟩ = some (.int .i64 5) := by rw [← hNW]; clear hNW; go_simp
  have k3_0 : w2n.cell? ⟨k3, 0, none⟩ = some (.int .u32 rs2) := by rw [← hNW]; clear hNW; go_simp
  have k3_1 : w2n.cell? ⟨k3, 1, none⟩ = some (.int .i64 5) := by rw [← hNW]; clear hNW; go_simp
  have hBw2n : Below w2.heap.size w2 w2n := by rw [← hNW]; exact ((((((hBe.setCell s1 _).setCell s1 _).setCell s2 _).setCell s2 _).setCell s3 _).setCell s3 _)
  clear hNW d1 d2 d3 c1 c2 c3 c1' c2' c3' z1 z2 z3 z1' z2' z3' hBe w
  have hB3 : Below w0.heap.size w0 w2n := below_trans' hB2 (Nat.le_refl _) hBw2n
  have q2 := bk hBw2n q2
  have q3 := bk hBw2n q3
  have r4 := bk hBw2n r4
  have j1_0 := bk hBw2n j1_0
  have j1_1 := bk hBw2n j1_1
  have j2_0 := bk hBw2n j2_0
  have j2_1 := bk hBw2n j2_1
  have j3_0 := bk hBw2n j3_0
  have j3_1 := bk hBw2n j3_1
  clear hB2 hBw2n r1 r2 r3
  have hf8 : fm = 1 ∨ fm = 2 ∨ fm = 3 ∨ fm = 4 ∨ fm = 5 ∨ fm = 6 ∨ fm = 7 ∨ fm = 8 := by omega
  clear hfm
  rcases hf8 with rfl | rfl | rfl | rfl | rfl | rfl | rfl | rfl
  · have hpl : ∀ p ∈ ([(c, 7), (rd, 5), (f3, 3), (rs1, 5), (rs2, 5), (f7, 7)] : List (Nat × Nat)), p.1 < 4294967296 := by
      intro p hp
      simp only [List.mem_cons, List.not_mem_nil, or_false] at hp
      rcases hp with rfl | rfl | rfl | rfl | rfl | rfl <;> first | exact cutN_lt _ _ | (simp only []; omega)
    go_wp2_with (go_at_call 134; (refine (lay_any [(c, 7), (rd, 5), (f3, 3), (rs1, 5), (rs2, 5), (f7, 7)] _ hpl (by simp only [pw]; omega) (by simp only [List.length_cons, List.length_nil]; omega) _ ?h0 ?h1 ?hb).mono ?_); (case h0 => exact (by intro i hi; simp only [List.length_cons, List.length_nil] at hi; have hc : i = 0 ∨ i = 1 ∨ i = 2 ∨ i = 3 ∨ i = 4 ∨ i = 5 := (by omega); rcases hc with rfl | rfl | rfl | rfl | rfl | rfl <;> ((first | rw [cb _ _ _ _ _ (by simp)] | rw [cb' _ _ _ _ _ (by simp)]); simp))); (case h1 => exact (by intro i hi; simp only [List.length_cons, List.length_nil] at hi; have hc : i = 0 ∨ i = 1 ∨ i = 2 ∨ i = 3 ∨ i = 4 ∨ i = 5 := (by omega); rcases hc with rfl | rfl | rfl | rfl | rfl | rfl <;> ((first | rw [cb _ _ _ _ _ (by simp)] | rw [cb' _ _ _ _ _ (by simp)]); simp))); (case hb => simp); rintro e w' ⟨rfl, hb⟩)
    go_ret
    have hpv : piecesv 1 c f3 f7 rd rs1 rs2 imm = [(c, 7), (rd, 5), (f3, 3), (rs1, 5), (rs2, 5), (f7, 7)] := rfl
    refine ⟨by rw [hpv]; rfl, below_trans' hB3 (Nat.le_refl _) (below_trans' (B := w2n.heap.size) ?_ (Nat.le_refl _) hb)⟩
    repeat (first | exact Below.refl _ _ | refine Below.drew ?_ | (refine Below.alloc ?_ (by first | exact Nat.le_refl _ | (simp; done) | (simp; omega)) _))
  · have hpl : ∀ p ∈ ([(c, 7), (rd, 5), (f3, 3), (rs1, 5), (cutN imm 0, 12)] : List (Nat × Nat)), p.1 < 4294967296 := by
      intro p hp
      simp only [List.mem_cons, List.not_mem_nil, or_false] at hp
      rcases hp with rfl | rfl | rfl | rfl | rfl <;> first | exact cutN_lt _ _ | (simp only []; omega)
    go_wp2
    go_region_held3 (fun w' => w'.cell? ⟨g, 2, none⟩ = some (.int .u8 f7) ∧ w'.cell? ⟨g + 1, 4, none⟩ = some (.int .i64 imm) ∧ w'.cell? ⟨j1, 0, none⟩ = some (.int .u32 c) ∧ w'.cell? ⟨j1, 1, none⟩ = some (.int .i64 7) ∧ w'.cell? ⟨j2, 0, none⟩ = some (.int .u32 f3) ∧ w'.cell? ⟨j2, 1, none⟩ = some (.int .i64 3) ∧ w'.cell? ⟨j3, 0, none⟩ = some (.int .u32 f7) ∧ w'.cell? ⟨j3, 1, none⟩ = some (.int .i64 7) ∧ w'.cell? ⟨k1, 0, none⟩ = some (.int .u32 rd) ∧ w'.cell? ⟨k1, 1, none⟩ = some (.int .i64 5) ∧ w'.cell? ⟨k2, 0, none⟩ = some (.int .u32 rs1) ∧ w'.cell? ⟨k2, 1, none⟩ = some (.int .i64 5) ∧ w'.cell? ⟨k3, 0, none⟩ = some (.int .u32 rs2) ∧ w'.cell? ⟨k3, 1, none⟩ = some (.int .i64 5)) ((go_split_ands; (repeat' apply And.intro) <;> (repeat (first | (with_reducible assumption) | (with_reducible refine ba _ ?_) | (with_reducible refine bd ?_) | (with_reducible refine bk hb ?_))))) (first | (go_at_call 132; (refine (imm_any (g + 1) imm _ _ hi0 hi1 (by omega) (by omega) (by omega) (by omega) _ (by go_split_ands; with_reducible assumption)).mono ?_); rintro e w' ⟨rfl, rfl⟩) | (go_at_call 131; refine (whole_any _ _ (by omega) (by omega) (by omega) (by omega) _).mono ?_; rintro e w' ⟨rfl, rfl⟩) | (go_at_call 134; (refine (lay_any [(c, 7), (rd, 5), (f3, 3), (rs1, 5), (cutN imm 0, 12)] _ hpl (by simp only [pw]; omega) (by simp only [List.length_cons, List.length_nil]; omega) _ ?h0 ?h1 ?hb).mono ?_); (case h0 => exact (by intro i hi; simp only [List.length_cons, List.length_nil] at hi; have hc : i = 0 ∨ i = 1 ∨ i = 2 ∨ i = 3 ∨ i = 4 := (by omega); rcases hc with rfl | rfl | rfl | rfl | rfl <;> ((first | rw [cb _ _ _ _ _ (by simp)] | rw [cb' _ _ _ _ _ (by simp)]); simp))); (case h1 => exact (by intro i hi; simp only [List.length_cons, List.length_nil] at hi; have hc : i = 0 ∨ i = 1 ∨ i = 2 ∨ i = 3 ∨ i = 4 := (by omega); rcases hc with rfl | rfl | rfl | rfl | rfl <;> ((first | rw [cb _ _ _ _ _ (by simp)] | rw [cb' _ _ _ _ _ (by simp)]); simp))); (case hb => simp); rintro e w' ⟨rfl, hb⟩))
    go_wp2
    go_ret
    have hpv : piecesv 2 c f3 f7 rd rs1 rs2 imm = [(c, 7), (rd, 5), (f3, 3), (rs1, 5), (cutN imm 0, 12)] := rfl
    refine ⟨by rw [hpv]; rfl, below_trans' hB3 (Nat.le_refl _) (below_trans' (B := w2n.heap.size) ?_ (Nat.le_refl _) hb)⟩
    repeat (first | exact Below.refl _ _ | refine Below.drew ?_ | (refine Below.alloc ?_ (by first | exact Nat.le_refl _ | (simp; done) | (simp; omega)) _))
  · have hpl : ∀ p ∈ ([(c, 7), (rd, 5), (f3, 3), (rs1, 5), (cutN imm 0, 6), (f7 / 2, 6)] : List (Nat × Nat)), p.1 < 4294967296 := by
      intro p hp
      simp only [List.mem_cons, List.not_mem_nil, or_false] at hp
      rcases hp with rfl | rfl | rfl | rfl | rfl | rfl <;> first | exact cutN_lt _ _ | (simp only []; omega)
    go_wp2
    go_region_held3 (fun w' => w'.cell? ⟨g, 2, none⟩ = some (.int .u8 f7) ∧ w'.cell? ⟨g + 1, 4, none⟩ = some (.int .i64 imm) ∧ w'.cell? ⟨j1, 0, none⟩ = some (.int .u32 c) ∧ w'.cell? ⟨j1, 1, none⟩ = some (.int .i64 7) ∧ w'.cell? ⟨j2, 0, none⟩ = some (.int .u32 f3) ∧ w'.cell? ⟨j2, 1, none⟩ = some (.int .i64 3) ∧ w'.cell? ⟨j3, 0, none⟩ = some (.int .u32 f7) ∧ w'.cell? ⟨j3, 1, none⟩ = some (.int .i64 7) ∧ w'.cell? ⟨k1, 0, none⟩ = some (.int .u32 rd) ∧ w'.cell? ⟨k1, 1, none⟩ = some (.int .i64 5) ∧ w'.cell? ⟨k2, 0, none⟩ = some (.int .u32 rs1) ∧ w'.cell? ⟨k2, 1, none⟩ = some (.int .i64 5) ∧ w'.cell? ⟨k3, 0, none⟩ = some (.int .u32 rs2) ∧ w'.cell? ⟨k3, 1, none⟩ = some (.int .i64 5)) ((go_split_ands; (repeat' apply And.intro) <;> (repeat (first | (with_reducible assumption) | (with_reducible refine ba _ ?_) | (with_reducible refine bd ?_) | (with_reducible refine bk hb ?_))))) (first | (go_at_call 132; (refine (imm_any (g + 1) imm _ _ hi0 hi1 (by omega) (by omega) (by omega) (by omega) _ (by go_split_ands; with_reducible assumption)).mono ?_); rintro e w' ⟨rfl, rfl⟩) | (go_at_call 131; refine (whole_any _ _ (by omega) (by omega) (by omega) (by omega) _).mono ?_; rintro e w' ⟨rfl, rfl⟩) | (go_at_call 134; (refine (lay_any [(c, 7), (rd, 5), (f3, 3), (rs1, 5), (cutN imm 0, 6), (f7 / 2, 6)] _ hpl (by simp only [pw]; omega) (by simp only [List.length_cons, List.length_nil]; omega) _ ?h0 ?h1 ?hb).mono ?_); (case h0 => exact (by intro i hi; simp only [List.length_cons, List.length_nil] at hi; have hc : i = 0 ∨ i = 1 ∨ i = 2 ∨ i = 3 ∨ i = 4 ∨ i = 5 := (by omega); rcases hc with rfl | rfl | rfl | rfl | rfl | rfl <;> ((first | rw [cb _ _ _ _ _ (by simp)] | rw [cb' _ _ _ _ _ (by simp)]); simp))); (case h1 => exact (by intro i hi; simp only [List.length_cons, List.length_nil] at hi; have hc : i = 0 ∨ i = 1 ∨ i = 2 ∨ i = 3 ∨ i = 4 ∨ i = 5 := (by omega); rcases hc with rfl | rfl | rfl | rfl | rfl | rfl <;> ((first | rw [cb _ _ _ _ _ (by simp)] | rw [cb' _ _ _ _ _ (by simp)]); simp))); (case hb => simp); rintro e w' ⟨rfl, hb⟩))
    go_wp2
    go_ret
    have hpv : piecesv 3 c f3 f7 rd rs1 rs2 imm = [(c, 7), (rd, 5), (f3, 3), (rs1, 5), (cutN imm 0, 6), (f7 / 2, 6)] := rfl
    refine ⟨by rw [hpv]; rfl, below_trans' hB3 (Nat.le_refl _) (below_trans' (B := w2n.heap.size) ?_ (Nat.le_refl _) hb)⟩
    repeat (first | exact Below.refl _ _ | refine Below.drew ?_ | (refine Below.alloc ?_ (by first | exact Nat.le_refl _ | (simp; done) | (simp; omega)) _))
  · have hpl : ∀ p ∈ ([(c, 7), (rd, 5), (cutN imm 12, 20)] : List (Nat × Nat)), p.1 < 4294967296 := by
      intro p hp
      simp only [List.mem_cons, List.not_mem_nil, or_false] at hp
      rcases hp with rfl | rfl | rfl <;> first | exact cutN_lt _ _ | (simp only []; omega)
    go_wp2
    go_region_held3 (fun w' => w'.cell? ⟨g, 2, none⟩ = some (.int .u8 f7) ∧ w'.cell? ⟨g + 1, 4, none⟩ = some (.int .i64 imm) ∧ w'.cell? ⟨j1, 0, none⟩ = some (.int .u32 c) ∧ w'.cell? ⟨j1, 1, none⟩ = some (.int .i64 7) ∧ w'.cell? ⟨j2, 0, none⟩ = some (.int .u32 f3) ∧ w'.cell? ⟨j2, 1, none⟩ = some (.int .i64 3) ∧ w'.cell? ⟨j3, 0, none⟩ = some (.int .u32 f7) ∧ w'.cell? ⟨j3, 1, none⟩ = some (.int .i64 7) ∧ w'.cell? ⟨k1, 0, none⟩ = some (.int .u32 rd) ∧ w'.cell? ⟨k1, 1, none⟩ = some (.int .i64 5) ∧ w'.cell? ⟨k2, 0, none⟩ = some (.int .u32 rs1) ∧ w'.cell? ⟨k2, 1, none⟩ = some (.int .i64 5) ∧ w'.cell? ⟨k3, 0, none⟩ = some (.int .u32 rs2) ∧ w'.cell? ⟨k3, 1, none⟩ = some (.int .i64 5)) ((go_split_ands; (repeat' apply And.intro) <;> (repeat (first | (with_reducible assumption) | (with_reducible refine ba _ ?_) | (with_reducible refine bd ?_) | (with_reducible refine bk hb ?_))))) (first | (go_at_call 132; (refine (imm_any (g + 1) imm _ _ hi0 hi1 (by omega) (by omega) (by omega) (by omega) _ (by go_split_ands; with_reducible assumption)).mono ?_); rintro e w' ⟨rfl, rfl⟩) | (go_at_call 131; refine (whole_any _ _ (by omega) (by omega) (by omega) (by omega) _).mono ?_; rintro e w' ⟨rfl, rfl⟩) | (go_at_call 134; (refine (lay_any [(c, 7), (rd, 5), (cutN imm 12, 20)] _ hpl (by simp only [pw]; omega) (by simp only [List.length_cons, List.length_nil]; omega) _ ?h0 ?h1 ?hb).mono ?_); (case h0 => exact (by intro i hi; simp only [List.length_cons, List.length_nil] at hi; have hc : i = 0 ∨ i = 1 ∨ i = 2 := (by omega); rcases hc with rfl | rfl | rfl <;> ((first | rw [cb _ _ _ _ _ (by simp)] | rw [cb' _ _ _ _ _ (by simp)]); simp))); (case h1 => exact (by intro i hi; simp only [List.length_cons, List.length_nil] at hi; have hc : i = 0 ∨ i = 1 ∨ i = 2 := (by omega); rcases hc with rfl | rfl | rfl <;> ((first | rw [cb _ _ _ _ _ (by simp)] | rw [cb' _ _ _ _ _ (by simp)]); simp))); (case hb => simp); rintro e w' ⟨rfl, hb⟩))
    go_wp2
    go_ret
    have hpv : piecesv 4 c f3 f7 rd rs1 rs2 imm = [(c, 7), (rd, 5), (cutN imm 12, 20)] := rfl
    refine ⟨by rw [hpv]; rfl, below_trans' hB3 (Nat.le_refl _) (below_trans' (B := w2n.heap.size) ?_ (Nat.le_refl _) hb)⟩
    repeat (first | exact Below.refl _ _ | refine Below.drew ?_ | (refine Below.alloc ?_ (by first | exact Nat.le_refl _ | (simp; done) | (simp; omega)) _))
  · have hpl : ∀ p ∈ ([(c, 7), (cutN imm 0, 5), (f3, 3), (rs1, 5), (rs2, 5), (cutN imm 5, 7)] : List (Nat × Nat)), p.1 < 4294967296 := by
      intro p hp
      simp only [List.mem_cons, List.not_mem_nil, or_false] at hp
      rcases hp with rfl | rfl | rfl | rfl | rfl | rfl <;> first | exact cutN_lt _ _ | (simp only []; omega)
    go_wp2
    go_region_held3 (fun w' => w'.cell? ⟨g, 2, none⟩ = some (.int .u8 f7) ∧ w'.cell? ⟨g + 1, 4, none⟩ = some (.int .i64 imm) ∧ w'.cell? ⟨j1, 0, none⟩ = some (.int .u32 c) ∧ w'.cell? ⟨j1, 1, none⟩ = some (.int .i64 7) ∧ w'.cell? ⟨j2, 0, none⟩ = some (.int .u32 f3) ∧ w'.cell? ⟨j2, 1, none⟩ = some (.int .i64 3) ∧ w'.cell? ⟨j3, 0, none⟩ = some (.int .u32 f7) ∧ w'.cell? ⟨j3, 1, none⟩ = some (.int .i64 7) ∧ w'.cell? ⟨k1, 0, none⟩ = some (.int .u32 rd) ∧ w'.cell? ⟨k1, 1, none⟩ = some (.int .i64 5) ∧ w'.cell? ⟨k2, 0, none⟩ = some (.int .u32 rs1) ∧ w'.cell? ⟨k2, 1, none⟩ = some (.int .i64 5) ∧ w'.cell? ⟨k3, 0, none⟩ = some (.int .u32 rs2) ∧ w'.cell? ⟨k3, 1, none⟩ = some (.int .i64 5)) ((go_split_ands; (repeat' apply And.intro) <;> (repeat (first | (with_reducible assumption) | (with_reducible refine ba _ ?_) | (with_reducible refine bd ?_) | (with_reducible refine bk hb ?_))))) (first | (go_at_call 132; (refine (imm_any (g + 1) imm _ _ hi0 hi1 (by omega) (by omega) (by omega) (by omega) _ (by go_split_ands; with_reducible assumption)).mono ?_); rintro e w' ⟨rfl, rfl⟩) | (go_at_call 131; refine (whole_any _ _ (by omega) (by omega) (by omega) (by omega) _).mono ?_; rintro e w' ⟨rfl, rfl⟩) | (go_at_call 134; (refine (lay_any [(c, 7), (cutN imm 0, 5), (f3, 3), (rs1, 5), (rs2, 5), (cutN imm 5, 7)] _ hpl (by simp only [pw]; omega) (by simp only [List.length_cons, List.length_nil]; omega) _ ?h0 ?h1 ?hb).mono ?_); (case h0 => exact (by intro i hi; simp only [List.length_cons, List.length_nil] at hi; have hc : i = 0 ∨ i = 1 ∨ i = 2 ∨ i = 3 ∨ i = 4 ∨ i = 5 := (by omega); rcases hc with rfl | rfl | rfl | rfl | rfl | rfl <;> ((first | rw [cb _ _ _ _ _ (by simp)] | rw [cb' _ _ _ _ _ (by simp)]); simp))); (case h1 => exact (by intro i hi; simp only [List.length_cons, List.length_nil] at hi; have hc : i = 0 ∨ i = 1 ∨ i = 2 ∨ i = 3 ∨ i = 4 ∨ i = 5 := (by omega); rcases hc with rfl | rfl | rfl | rfl | rfl | rfl <;> ((first | rw [cb _ _ _ _ _ (by simp)] | rw [cb' _ _ _ _ _ (by simp)]); simp))); (case hb => simp); rintro e w' ⟨rfl, hb⟩))
    go_wp2
    go_ret
    have hpv : piecesv 5 c f3 f7 rd rs1 rs2 imm = [(c, 7), (cutN imm 0, 5), (f3, 3), (rs1, 5), (rs2, 5), (cutN imm 5, 7)] := rfl
    refine ⟨by rw [hpv]; rfl, below_trans' hB3 (Nat.le_refl _) (below_trans' (B := w2n.heap.size) ?_ (Nat.le_refl _) hb)⟩
    repeat (first | exact Below.refl _ _ | refine Below.drew ?_ | (refine Below.alloc ?_ (by first | exact Nat.le_refl _ | (simp; done) | (simp; omega)) _))
  · have hpl : ∀ p ∈ ([(c, 7), (cutN imm 11, 1), (cutN imm 1, 4), (f3, 3), (rs1, 5), (rs2, 5), (cutN imm 5, 6), (cutN imm 12, 1)] : List (Nat × Nat)), p.1 < 4294967296 := by
      intro p hp
      simp only [List.mem_cons, List.not_mem_nil, or_false] at hp
      rcases hp with rfl | rfl | rfl | rfl | rfl | rfl | rfl | rfl <;> first | exact cutN_lt _ _ | (simp only []; omega)
    go_wp2
    go_region_held3 (fun w' => w'.cell? ⟨g, 2, none⟩ = some (.int .u8 f7) ∧ w'.cell? ⟨g + 1, 4, none⟩ = some (.int .i64 imm) ∧ w'.cell? ⟨j1, 0, none⟩ = some (.int .u32 c) ∧ w'.cell? ⟨j1, 1, none⟩ = some (.int .i64 7) ∧ w'.cell? ⟨j2, 0, none⟩ = some (.int .u32 f3) ∧ w'.cell? ⟨j2, 1, none⟩ = some (.int .i64 3) ∧ w'.cell? ⟨j3, 0, none⟩ = some (.int .u32 f7) ∧ w'.cell? ⟨j3, 1, none⟩ = some (.int .i64 7) ∧ w'.cell? ⟨k1, 0, none⟩ = some (.int .u32 rd) ∧ w'.cell? ⟨k1, 1, none⟩ = some (.int .i64 5) ∧ w'.cell? ⟨k2, 0, none⟩ = some (.int .u32 rs1) ∧ w'.cell? ⟨k2, 1, none⟩ = some (.int .i64 5) ∧ w'.cell? ⟨k3, 0, none⟩ = some (.int .u32 rs2) ∧ w'.cell? ⟨k3, 1, none⟩ = some (.int .i64 5)) ((go_split_ands; (repeat' apply And.intro) <;> (repeat (first | (with_reducible assumption) | (with_reducible refine ba _ ?_) | (with_reducible refine bd ?_) | (with_reducible refine bk hb ?_))))) (first | (go_at_call 132; (refine (imm_any (g + 1) imm _ _ hi0 hi1 (by omega) (by omega) (by omega) (by omega) _ (by go_split_ands; with_reducible assumption)).mono ?_); rintro e w' ⟨rfl, rfl⟩) | (go_at_call 131; refine (whole_any _ _ (by omega) (by omega) (by omega) (by omega) _).mono ?_; rintro e w' ⟨rfl, rfl⟩) | (go_at_call 134; (refine (lay_any [(c, 7), (cutN imm 11, 1), (cutN imm 1, 4), (f3, 3), (rs1, 5), (rs2, 5), (cutN imm 5, 6), (cutN imm 12, 1)] _ hpl (by simp only [pw]; omega) (by simp only [List.length_cons, List.length_nil]; omega) _ ?h0 ?h1 ?hb).mono ?_); (case h0 => exact (by intro i hi; simp only [List.length_cons, List.length_nil] at hi; have hc : i = 0 ∨ i = 1 ∨ i = 2 ∨ i = 3 ∨ i = 4 ∨ i = 5 ∨ i = 6 ∨ i = 7 := (by omega); rcases hc with rfl | rfl | rfl | rfl | rfl | rfl | rfl | rfl <;> ((first | rw [cb _ _ _ _ _ (by simp)] | rw [cb' _ _ _ _ _ (by simp)]); simp))); (case h1 => exact (by intro i hi; simp only [List.length_cons, List.length_nil] at hi; have hc : i = 0 ∨ i = 1 ∨ i = 2 ∨ i = 3 ∨ i = 4 ∨ i = 5 ∨ i = 6 ∨ i = 7 := (by omega); rcases hc with rfl | rfl | rfl | rfl | rfl | rfl | rfl | rfl <;> ((first | rw [cb _ _ _ _ _ (by simp)] | rw [cb' _ _ _ _ _ (by simp)]); simp))); (case hb => simp); rintro e w' ⟨rfl, hb⟩))
    go_wp2
    go_ret
    have hpv : piecesv 6 c f3 f7 rd rs1 rs2 imm = [(c, 7), (cutN imm 11, 1), (cutN imm 1, 4), (f3, 3), (rs1, 5), (rs2, 5), (cutN imm 5, 6), (cutN imm 12, 1)] := rfl
    refine ⟨by rw [hpv]; rfl, below_trans' hB3 (Nat.le_refl _) (below_trans' (B := w2n.heap.size) ?_ (Nat.le_refl _) hb)⟩
    repeat (first | exact Below.refl _ _ | refine Below.drew ?_ | (refine Below.alloc ?_ (by first | exact Nat.le_refl _ | (simp; done) | (simp; omega)) _))
  · have hpl : ∀ p ∈ ([(c, 7), (rd, 5), (cutN imm 12, 8), (cutN imm 11, 1), (cutN imm 1, 10), (cutN imm 20, 1)] : List (Nat × Nat)), p.1 < 4294967296 := by
      intro p hp
      simp only [List.mem_cons, List.not_mem_nil, or_false] at hp
      rcases hp with rfl | rfl | rfl | rfl | rfl | rfl <;> first | exact cutN_lt _ _ | (simp only []; omega)
    go_wp2
    go_region_held3 (fun w' => w'.cell? ⟨g, 2, none⟩ = some (.int .u8 f7) ∧ w'.cell? ⟨g + 1, 4, none⟩ = some (.int .i64 imm) ∧ w'.cell? ⟨j1, 0, none⟩ = some (.int .u32 c) ∧ w'.cell? ⟨j1, 1, none⟩ = some (.int .i64 7) ∧ w'.cell? ⟨j2, 0, none⟩ = some (.int .u32 f3) ∧ w'.cell? ⟨j2, 1, none⟩ = some (.int .i64 3) ∧ w'.cell? ⟨j3, 0, none⟩ = some (.int .u32 f7) ∧ w'.cell? ⟨j3, 1, none⟩ = some (.int .i64 7) ∧ w'.cell? ⟨k1, 0, none⟩ = some (.int .u32 rd) ∧ w'.cell? ⟨k1, 1, none⟩ = some (.int .i64 5) ∧ w'.cell? ⟨k2, 0, none⟩ = some (.int .u32 rs1) ∧ w'.cell? ⟨k2, 1, none⟩ = some (.int .i64 5) ∧ w'.cell? ⟨k3, 0, none⟩ = some (.int .u32 rs2) ∧ w'.cell? ⟨k3, 1, none⟩ = some (.int .i64 5)) ((go_split_ands; (repeat' apply And.intro) <;> (repeat (first | (with_reducible assumption) | (with_reducible refine ba _ ?_) | (with_reducible refine bd ?_) | (with_reducible refine bk hb ?_))))) (first | (go_at_call 132; (refine (imm_any (g + 1) imm _ _ hi0 hi1 (by omega) (by omega) (by omega) (by omega) _ (by go_split_ands; with_reducible assumption)).mono ?_); rintro e w' ⟨rfl, rfl⟩) | (go_at_call 131; refine (whole_any _ _ (by omega) (by omega) (by omega) (by omega) _).mono ?_; rintro e w' ⟨rfl, rfl⟩) | (go_at_call 134; (refine (lay_any [(c, 7), (rd, 5), (cutN imm 12, 8), (cutN imm 11, 1), (cutN imm 1, 10), (cutN imm 20, 1)] _ hpl (by simp only [pw]; omega) (by simp only [List.length_cons, List.length_nil]; omega) _ ?h0 ?h1 ?hb).mono ?_); (case h0 => exact (by intro i hi; simp only [List.length_cons, List.length_nil] at hi; have hc : i = 0 ∨ i = 1 ∨ i = 2 ∨ i = 3 ∨ i = 4 ∨ i = 5 := (by omega); rcases hc with rfl | rfl | rfl | rfl | rfl | rfl <;> ((first | rw [cb _ _ _ _ _ (by simp)] | rw [cb' _ _ _ _ _ (by simp)]); simp))); (case h1 => exact (by intro i hi; simp only [List.length_cons, List.length_nil] at hi; have hc : i = 0 ∨ i = 1 ∨ i = 2 ∨ i = 3 ∨ i = 4 ∨ i = 5 := (by omega); rcases hc with rfl | rfl | rfl | rfl | rfl | rfl <;> ((first | rw [cb _ _ _ _ _ (by simp)] | rw [cb' _ _ _ _ _ (by simp)]); simp))); (case hb => simp); rintro e w' ⟨rfl, hb⟩))
    go_wp2
    go_ret
    have hpv : piecesv 7 c f3 f7 rd rs1 rs2 imm = [(c, 7), (rd, 5), (cutN imm 12, 8), (cutN imm 11, 1), (cutN imm 1, 10), (cutN imm 20, 1)] := rfl
    refine ⟨by rw [hpv]; rfl, below_trans' hB3 (Nat.le_refl _) (below_trans' (B := w2n.heap.size) ?_ (Nat.le_refl _) hb)⟩
    repeat (first | exact Below.refl _ _ | refine Below.drew ?_ | (refine Below.alloc ?_ (by first | exact Nat.le_refl _ | (simp; done) | (simp; omega)) _))
  · have hpl : ∀ p ∈ ([(c, 7), (rd, 5), (f3, 3), (rs1, 5), (rs2, 5), (f7, 7)] : List (Nat × Nat)), p.1 < 4294967296 := by
      intro p hp
      simp only [List.mem_cons, List.not_mem_nil, or_false] at hp
      rcases hp with rfl | rfl | rfl | rfl | rfl | rfl <;> first | exact cutN_lt _ _ | (simp only []; omega)
    go_wp2_with (go_at_call 134; (refine (lay_any [(c, 7), (rd, 5), (f3, 3), (rs1, 5), (rs2, 5), (f7, 7)] _ hpl (by simp only [pw]; omega) (by simp only [List.length_cons, List.length_nil]; omega) _ ?h0 ?h1 ?hb).mono ?_); (case h0 => exact (by intro i hi; simp only [List.length_cons, List.length_nil] at hi; have hc : i = 0 ∨ i = 1 ∨ i = 2 ∨ i = 3 ∨ i = 4 ∨ i = 5 := (by omega); rcases hc with rfl | rfl | rfl | rfl | rfl | rfl <;> ((first | rw [cb _ _ _ _ _ (by simp)] | rw [cb' _ _ _ _ _ (by simp)]); simp))); (case h1 => exact (by intro i hi; simp only [List.length_cons, List.length_nil] at hi; have hc : i = 0 ∨ i = 1 ∨ i = 2 ∨ i = 3 ∨ i = 4 ∨ i = 5 := (by omega); rcases hc with rfl | rfl | rfl | rfl | rfl | rfl <;> ((first | rw [cb _ _ _ _ _ (by simp)] | rw [cb' _ _ _ _ _ (by simp)]); simp))); (case hb => simp); rintro e w' ⟨rfl, hb⟩)
    go_ret
    have hpv : piecesv 8 c f3 f7 rd rs1 rs2 imm = [(c, 7), (rd, 5), (f3, 3), (rs1, 5), (rs2, 5), (f7, 7)] := rfl
    refine ⟨by rw [hpv]; rfl, below_trans' hB3 (Nat.le_refl _) (below_trans' (B := w2n.heap.size) ?_ (Nat.le_refl _) hb)⟩
    repeat (first | exact Below.refl _ _ | refine Below.drew ?_ | (refine Below.alloc ?_ (by first | exact Nat.le_refl _ | (simp; done) | (simp; omega)) _))
end Go.Proofs.YtfaacmcnefbgcaaGreatDoor
