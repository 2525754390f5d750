/- The iterator of disas.readings hands over what a word would be, Op by Op. -/
import Derived.Test.YtjkagpmepokihaaDoorDeF
import Derived.Test.YtjkagpmepokihaaDoorRng
import Derived.Shelf.Abstract
import Derived.Shelf.RegionOpen
import Derived.WalkKit
import Derived.OwnWalkIn
import Derived.TacticsInMore
import Derived.LoopNIn
import Derived.LoopIn
namespace Go.Proofs.YtjkagpmepokihaaDoor
open Go.ChangeShapes Go.WideShapes Go.ChangeAt Go.RowKit
set_option linter.unusedVariables false
attribute [local go_sem] Oper.semAt_some
/-- What the word would be, as an instruction of Op k + 1. -/
def rdE (v : Nat) (k : Nat) : Array Value := #[.agg #[.int .u8 ((k : Int) + 1), .int .u8 (fldW v 0).rd, .int .u8 (fldW v 0).rs1, .int .u8 (fldW v 0).rs2, .int .i64 (numW (formW v) v)]]
def cellN (w : World) (k : Nat) : Nat := match w.cell? ⟨k, 0, none⟩ with | some (.int _ n) => n.toNat | _ => 0
theorem rowG_stay {B : Nat} {C : Array Value} {X Y : World} {k : Nat} (h : rowG C X k) (hs : Stay B X Y) (hB : B ≤ k) : rowG C Y k := by
  obtain ⟨h1, h2, h3⟩ := h
  have e := hs.2 k hB h3
  refine ⟨fun i hi => ?_, fun i => ?_, Nat.lt_of_lt_of_le h3 hs.1⟩
  · rw [← h1 i hi]; unfold World.cell?; simp only [e]
  · rw [← h2 i]; unfold World.frozen?; simp only [e]
theorem row_set0 {c0 c1 c2 c3 c4 : Value} (v : Value) {w : World} {k : Nat} (h : rowG #[c0, c1, c2, c3, c4] w k) : rowG #[v, c1, c2, c3, c4] (w.setCell ⟨k, 0, none⟩ v) k := by
  have a0 : w.cell? ⟨k, 0, none⟩ = some c0 := h.1 0 (by simp)
  have a1 : w.cell? ⟨k, 1, none⟩ = some c1 := h.1 1 (by simp)
  have a2 : w.cell? ⟨k, 2, none⟩ = some c2 := h.1 2 (by simp)
  have a3 : w.cell? ⟨k, 3, none⟩ = some c3 := h.1 3 (by simp)
  have a4 : w.cell? ⟨k, 4, none⟩ = some c4 := h.1 4 (by simp)
  refine ⟨?_, ?_, ?_⟩
  · intro i hi
    have hi' : i < 5 := hi
    have hc : i = 0 ∨ i = 1 ∨ i = 2 ∨ i = 3 ∨ i = 4 := by omega
    clear hi hi'
    rcases hc with rfl | rfl | rfl | rfl | rfl <;> go_simp
  · intro i; simp only [World.frozen?_setCell]; exact h.2.1 i
  · simp only [World.size_setCell]; exact h.2.2
theorem cellN_row {n : Int} {c1 c2 c3 c4 : Value} {w : World} {k : Nat} (h : rowG #[.int .u8 n, c1, c2, c3, c4] w k) : cellN w k = n.toNat := by
  have a0 : w.cell? ⟨k, 0, none⟩ = some (.int .u8 n) := h.1 0 (by simp)
  unfold cellN; rw [a0]
set_option maxRecDepth 100000 in
set_option maxHeartbeats 8000000 in
theorem rdg_seq (v q : Nat) (hv : v < 4294967296) (n : Nat) (hn : 1 ≤ n) :
    SeqN n Tryd.prog 31 #[.pointer (some ⟨q, 0, none⟩)] (rdE v) 34 (fun W => W.cell? ⟨q, 0, none⟩ = some (.int .u32 v) ∧ DshOk W) := by
  intro l J Jx W ⟨hq, hT⟩ hJ hJx hY h0
  have hqs : q < W.heap.size := World.block_lt_of_cell? W _ hq
  refine callsIn_of_wp Tryd.func31 rfl trivial ?_
  simp only [Tryd.ntmps31, List.size_toArray, List.length_cons, List.length_nil, Nat.reduceAdd, Nat.reduceSub, Array.replicate_succ, Array.replicate_zero, List.push_toArray, List.append_toArray, List.nil_append, List.cons_append]
  gi_wp2
  obtain ⟨w1, hw1⟩ : ∃ w1, W.drew = w1 := ⟨_, rfl⟩
  have hB : Below W.heap.size W w1 := by rw [← hw1]; exact (Below.refl _ _).drew
  have hq1 := stay hB hq
  have hT1 := hT.of hB
  have hFm := formOf_any v hv
  have hFl := fields_any (formW v) v (formW_le v) hv
  have hE : ∀ k, rdE v k = #[.agg #[.int .u8 ((k : Int) + 1), .int .u8 (fldF (formW v) v 0).rd, .int .u8 (fldF (formW v) v 0).rs1, .int .u8 (fldF (formW v) v 0).rs2, .int .i64 (numW (formW v) v)]] := fun _ => rfl
  generalize (fldF (formW v) v 0).rd = r0 at *
  generalize (fldF (formW v) v 0).rs1 = r1 at *
  generalize (fldF (formW v) v 0).rs2 = r2 at *
  generalize numW (formW v) v = nm at *
  refine wpIn_mono (Q := fun e a w => e = .normal ∧ ∃ kx : Nat, a = ⟨#[.func (.yield l) #[] #[], .pointer (some ⟨q, 0, none⟩), undef, .pointer (some ⟨kx, 0, none⟩), .int .u32 v, .int .u8 (formW v : Nat), .int .u32 v, .agg #[.int .u8 0, .int .u8 r0, .int .u8 r1, .int .u8 r2, .int .i64 nm], undef, undef, undef, undef, undef, undef, undef, undef, undef, undef, undef, undef], []⟩ ∧ Below w1.heap.size w1 w ∧ w1.heap.size ≤ kx ∧ rowG #[.int .u8 0, .int .u8 r0, .int .u8 r1, .int .u8 r2, .int .i64 nm] w kx) (wpIn_wide.2 ?_) ?_
  rotate_left
  · rintro e a w ⟨rfl, kx, rfl, hBe, sx, dx⟩
    try dsimp only
    have hx1 : w1.heap.size = W.heap.size := by rw [← hw1]; rfl
    have hB2 : Below W.heap.size W w := below_trans' hB (Nat.le_refl _) hBe
    have c_0 : w.cell? ⟨kx, 0, none⟩ = some (.int .u8 0) := dx.1 0 (by simp); have z_0 := dx.2.1 0
    have c_1 : w.cell? ⟨kx, 1, none⟩ = some (.int .u8 r0) := dx.1 1 (by simp); have z_1 := dx.2.1 1
    have c_2 : w.cell? ⟨kx, 2, none⟩ = some (.int .u8 r1) := dx.1 2 (by simp); have z_2 := dx.2.1 2
    have c_3 : w.cell? ⟨kx, 3, none⟩ = some (.int .u8 r2) := dx.1 3 (by simp); have z_3 := dx.2.1 3
    have c_4 : w.cell? ⟨kx, 4, none⟩ = some (.int .i64 nm) := dx.1 4 (by simp); have z_4 := dx.2.1 4
    have lx := dx.2.2
    have hJ0 := hJ 0 W w h0 hB2
    clear hFm hFl hq hT hq1 hT1 hB hw1
    gi_wp2
    gi_loopw [] (fun wr => ∃ i : Nat, i ≤ 34 ∧ rowG #[.int .u8 ((i : Int) + 1), .int .u8 r0, .int .u8 r1, .int .u8 r2, .int .i64 nm] wr kx ∧ J i wr ∧ W.heap.size ≤ wr.heap.size) (fun wr => 36 - cellN wr kx)
    case atStart => exact ⟨0, by omega, row_set0 _ dx, hJ 0 w _ hJ0 (sBelow (Below.refl _ _) (by omega)), by simp only [World.size_setCell]; exact hB2.size⟩
    case round =>
      obtain ⟨i, hi, hr, hj, hb⟩ := hrel
      clear c_0 z_0 c_1 z_1 c_2 z_2 c_3 z_3 c_4 z_4 dx lx hJ0 hB2 hBe h0
      have c_0 : wr.cell? ⟨kx, 0, none⟩ = some (.int .u8 ((i : Int) + 1)) := hr.1 0 (by simp); have z_0 := hr.2.1 0
      have c_1 : wr.cell? ⟨kx, 1, none⟩ = some (.int .u8 r0) := hr.1 1 (by simp); have z_1 := hr.2.1 1
      have c_2 : wr.cell? ⟨kx, 2, none⟩ = some (.int .u8 r1) := hr.1 2 (by simp); have z_2 := hr.2.1 2
      have c_3 : wr.cell? ⟨kx, 3, none⟩ = some (.int .u8 r2) := hr.1 3 (by simp); have z_3 := hr.2.1 3
      have c_4 : wr.cell? ⟨kx, 4, none⟩ = some (.int .i64 nm) := hr.1 4 (by simp); have z_4 := hr.2.1 4
      by_cases hlt : i < 34
      · obtain ⟨fn, tmps, assign, body, hy, hR⟩ := hY i wr hj hlt hb
        rw [hE] at hy
        have h34 : (i : Int) + 1 ≤ 34 := by omega
        clear hY
        gi_wp2
        refine hR.mono ?_
        rintro e W3 (⟨rfl, hj3, hs3⟩ | ⟨rfl, hx3⟩)
        · have hr3 := rowG_stay hr hs3 (by omega)
          have hb3 : W.heap.size ≤ W3.heap.size := Nat.le_trans hb hs3.1
          have l3 := hr3.2.2
          have hr4 := row_set0 (.int .u8 ((i : Int) + 1 + 1)) hr3
          have d_0 : W3.cell? ⟨kx, 0, none⟩ = some (.int .u8 ((i : Int) + 1)) := hr3.1 0 (by simp); have y_0 := hr3.2.1 0
          gi_wp2
          go_roundw
          have e4 : (((i + 1 : Nat) : Int) + 1) = (i : Int) + 1 + 1 := by omega
          case rel => exact ⟨i + 1, by omega, by rw [e4]; exact hr4, hJ _ _ _ hj3 (sBelow (Below.refl _ _) (by omega)), by simp only [World.size_setCell]; exact hb3⟩
          case measure => rw [cellN_row hr4, cellN_row hr]; omega
        · gi_wp2
          refine bodyPost_ret (results_none rfl _ _ _) rfl ?_
          exact ⟨⟨_, rfl⟩, .inr hx3⟩
      · obtain rfl : i = 34 := by omega
        gi_wp2
        go_end0
        exact ⟨⟨_, rfl⟩, .inl hj⟩
  refine wp_region_any (by kernel_rfl) ?_
  show wpAny _ _ _ _ _ _ _ (World.drew _)
  rw [hw1]
  clear hw1 hJ hJx hY h0
  refine wpAny_inv (fun fu L a w => ∃ (b0 b1 b2 b3 b4 : Bool) (kx : Nat), fu = 1 + (tg b0 + tg b1 + tg b2 + tg b3 + tg b4) ∧ L = #[b0, b1, b2, b3, b4, false] ∧ a = ⟨#[.func (.yield l) #[] #[], .pointer (some ⟨q, 0, none⟩), undef, (bif b4 then .pointer (some ⟨kx, 0, none⟩) else undef), (bif b0 then .int .u32 v else undef), (bif b1 then .int .u8 (formW v : Nat) else undef), (bif b2 then .int .u32 v else undef), (bif b3 then .agg #[.int .u8 0, .int .u8 r0, .int .u8 r1, .int .u8 r2, .int .i64 nm] else undef), undef, undef, undef, undef, undef, undef, undef, undef, undef, undef, undef, undef], []⟩ ∧ ((b1 = true → b0 = true) ∧ (b3 = true → b1 = true) ∧ (b3 = true → b2 = true)) ∧ Below w1.heap.size w1 w ∧ ((b4 = true → blkG #[.int .u8 0, .int .u8 0, .int .u8 0, .int .u8 0, .int .i64 0] 24 w1 kx w)) ∧ (True)) ?_ _ _ _ _ ⟨false, false, false, false, false, 0, rfl, rfl, rfl, ⟨(by simp), (by simp), (by simp)⟩, Below.refl _ _, (by simp), trivial⟩
  intro fu L a w hI
  obtain ⟨b0, b1, b2, b3, b4, kx, rfl, rfl, rfl, ⟨e0, e1, e2⟩, hBe, a0, _⟩ := hI
  by_cases hall : (b0 = true ∧ b1 = true ∧ b2 = true ∧ b3 = true ∧ b4 = true)
  rotate_left
  · right
    refine ⟨0 + (tg b0 + tg b1 + tg b2 + tg b3 + tg b4), by omega, ?_, ?_⟩
    · intro hr
      have nin : ∀ j, j ∉ Region.ready _ _ _ := fun j hj => by rw [hr] at hj; cases hj
      have t0 : b0 = true := by
        cases b0 with
        | true => rfl
        | false => exact absurd (mem_ready.2 ⟨rfl, _, rfl, by intro e he hb; simp at he; (try (rcases he with rfl | rfl | rfl <;> first | rfl | (simp [Region.binds] at hb))); (try (rcases he with rfl | rfl <;> first | rfl | (simp [Region.binds] at hb))); (try (subst he; first | rfl | (simp [Region.binds] at hb)))⟩) (nin 0)
      subst t0
      have t1 : b1 = true := by
        cases b1 with
        | true => rfl
        | false => exact absurd (mem_ready.2 ⟨rfl, _, rfl, by intro e he hb; simp at he; (try (rcases he with rfl | rfl | rfl <;> first | rfl | (simp [Region.binds] at hb))); (try (rcases he with rfl | rfl <;> first | rfl | (simp [Region.binds] at hb))); (try (subst he; first | rfl | (simp [Region.binds] at hb)))⟩) (nin 1)
      subst t1
      have t2 : b2 = true := by
        cases b2 with
        | true => rfl
        | false => exact absurd (mem_ready.2 ⟨rfl, _, rfl, by intro e he hb; simp at he; (try (rcases he with rfl | rfl | rfl <;> first | rfl | (simp [Region.binds] at hb))); (try (rcases he with rfl | rfl <;> first | rfl | (simp [Region.binds] at hb))); (try (subst he; first | rfl | (simp [Region.binds] at hb)))⟩) (nin 2)
      subst t2
      have t3 : b3 = true := by
        cases b3 with
        | true => rfl
        | false => exact absurd (mem_ready.2 ⟨rfl, _, rfl, by intro e he hb; simp at he; (try (rcases he with rfl | rfl | rfl <;> first | rfl | (simp [Region.binds] at hb))); (try (rcases he with rfl | rfl <;> first | rfl | (simp [Region.binds] at hb))); (try (subst he; first | rfl | (simp [Region.binds] at hb)))⟩) (nin 3)
      subst t3
      have t4 : b4 = true := by
        cases b4 with
        | true => rfl
        | false => exact absurd (mem_ready.2 ⟨rfl, _, rfl, by intro e he hb; simp at he; (try (rcases he with rfl | rfl | rfl <;> first | rfl | (simp [Region.binds] at hb))); (try (rcases he with rfl | rfl <;> first | rfl | (simp [Region.binds] at hb))); (try (subst he; first | rfl | (simp [Region.binds] at hb)))⟩) (nin 4)
      subst t4
      exact hall ⟨rfl, rfl, rfl, rfl, rfl⟩
    · intro i hi
      obtain ⟨h0, o, ho, hd⟩ := mem_ready.1 hi
      have hiN : i < 6 := by simpa using (Array.getElem?_eq_some_iff.1 ho).1
      have hcN : i = 0 ∨ i = 1 ∨ i = 2 ∨ i = 3 ∨ i = 4 ∨ i = 5 := by omega
      clear hi hiN
      rcases hcN with rfl | rfl | rfl | rfl | rfl | rfl
      · simp at ho h0
        subst ho
        simp [Region.binds] at hd
        subst h0
        refine wpOp_step rfl (fun K' hK => ?_)
        have c0 := stay hBe hq1
        go_simp
        exact hK _ _ ⟨true, b1, b2, b3, b4, kx, by simp only [tg_t, tg_f]; omega, rfl, rfl, ⟨(by intro h; first | exact e0 h | rfl), (by intro h; first | exact e1 h | rfl), (by intro h; first | exact e2 h | rfl)⟩, hBe, a0, trivial⟩
      · simp at ho h0
        subst ho
        simp [Region.binds] at hd
        subst h0
        refine wpOp_step rfl (fun K' hK => ?_)
        have g0 : b0 = true := by first | exact hd | exact hd.1 | exact hd.2 | exact hd.2.1 | exact hd.2.2 | exact hd.2.2.1 | exact hd.2.2.2
        clear hd
        subst g0
        go_simp
        go_at_call 21; (with_reducible refine (hFm _).mono ?_); rintro e w3 ⟨rfl, hbc⟩
        exact hK _ _ ⟨true, true, b2, b3, b4, kx, by simp only [tg_t, tg_f]; omega, rfl, rfl, ⟨(by intro h; first | exact e0 h | rfl), (by intro h; first | exact e1 h | rfl), (by intro h; first | exact e2 h | rfl)⟩, (below_trans' hBe (Nat.le_refl _) hbc), (fun h => blkG_of hbc (a0 h)), trivial⟩
      · simp at ho h0
        subst ho
        simp [Region.binds] at hd
        subst h0
        refine wpOp_step rfl (fun K' hK => ?_)
        have c0 := stay hBe hq1
        go_simp
        exact hK _ _ ⟨b0, b1, true, b3, b4, kx, by simp only [tg_t, tg_f]; omega, rfl, rfl, ⟨(by intro h; first | exact e0 h | rfl), (by intro h; first | exact e1 h | rfl), (by intro h; first | exact e2 h | rfl)⟩, hBe, a0, trivial⟩
      · simp at ho h0
        subst ho
        simp [Region.binds] at hd
        subst h0
        refine wpOp_step rfl (fun K' hK => ?_)
        have g1 : b1 = true := by first | exact hd | exact hd.1 | exact hd.2 | exact hd.2.1 | exact hd.2.2 | exact hd.2.2.1 | exact hd.2.2.2
        have g2 : b2 = true := by first | exact hd | exact hd.1 | exact hd.2 | exact hd.2.1 | exact hd.2.2 | exact hd.2.2.1 | exact hd.2.2.2
        clear hd
        subst g1 g2
        obtain rfl := e0 rfl
        go_simp
        go_at_call 32; (with_reducible refine (hFl _ (hT1.of hBe)).mono ?_); rintro e w3 ⟨rfl, hbc⟩
        exact hK _ _ ⟨true, true, true, true, b4, kx, by simp only [tg_t, tg_f]; omega, rfl, rfl, ⟨(by intro h; first | exact e0 h | rfl), (by intro h; first | exact e1 h | rfl), (by intro h; first | exact e2 h | rfl)⟩, (below_trans' hBe (Nat.le_refl _) hbc), (fun h => blkG_of hbc (a0 h)), trivial⟩
      · simp at ho h0
        subst ho
        simp [Region.binds] at hd
        subst h0
        refine wpOp_step rfl (fun K' hK => ?_)
        go_simp
        exact hK _ _ ⟨b0, b1, b2, b3, true, w.heap.size, by simp only [tg_t, tg_f]; omega, rfl, rfl, ⟨(by intro h; first | exact e0 h | rfl), (by intro h; first | exact e1 h | rfl), (by intro h; first | exact e2 h | rfl)⟩, (hBe.alloc hBe.size _), (fun _ => blkG_new _ _ hBe.size), trivial⟩
      · exact (hall (by simp at ho; subst ho; simp [Region.binds] at hd <;> simp_all)).elim
  obtain ⟨rfl, rfl, rfl, rfl, rfl⟩ := hall
  left
  have d0 := a0 rfl
  clear a0 e0 e1 e2
  have c_0 : w.cell? ⟨kx, 0, none⟩ = some (.int .u8 0) := blkG_c d0 0; have z_0 := blkG_fr d0 0
  have c_1 : w.cell? ⟨kx, 1, none⟩ = some (.int .u8 0) := blkG_c d0 1; have z_1 := blkG_fr d0 1
  have c_2 : w.cell? ⟨kx, 2, none⟩ = some (.int .u8 0) := blkG_c d0 2; have z_2 := blkG_fr d0 2
  have c_3 : w.cell? ⟨kx, 3, none⟩ = some (.int .u8 0) := blkG_c d0 3; have z_3 := blkG_fr d0 3
  have c_4 : w.cell? ⟨kx, 4, none⟩ = some (.int .i64 0) := blkG_c d0 4; have z_4 := blkG_fr d0 4
  simp only [tg_t, Nat.add_zero]
  have sx := d0.1
  refine wpAny_ready (rs := [5]) (by kernel_rfl) (by simp) (AllReady.cons rfl (fun K hK => ?_) AllReady.nil)
  go_simp
  refine hK _ _ ?_
  clear hK K
  refine wpAny_done (by kernel_rfl) ?_ _
  refine ⟨rfl, kx, rfl, ?_, sx, ⟨?_, ?_, ?_⟩⟩
  · repeat (first | (with_reducible exact hBe) | (with_reducible refine sBelow ?_ sx))
  · intro i hi
    have hi' : i < 5 := hi
    have hc : i = 0 ∨ i = 1 ∨ i = 2 ∨ i = 3 ∨ i = 4 := by omega
    clear hi hi'
    rcases hc with rfl | rfl | rfl | rfl | rfl <;> go_simp
  · intro i; simp only [World.frozen?_setCell]; exact blkG_fr d0 i
  · simp only [World.size_setCell]; exact blkG_lt d0
end Go.Proofs.YtjkagpmepokihaaDoor
