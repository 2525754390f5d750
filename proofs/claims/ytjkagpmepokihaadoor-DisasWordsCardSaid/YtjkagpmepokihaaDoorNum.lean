/- Contract of the document's own answer number of layer 3: a number in digits. -/
import Derived.Test.YtjkagpmepokihaaDoorDeC
import Derived.Test.YtjkagpmepokihaaDoorAlv
namespace Go.Proofs.YtjkagpmepokihaaDoor
open Go.ChangeShapes Go.WideShapes Go.ChangeAt Go.RowKit
set_option linter.unusedVariables false
theorem conv1 (c : Nat) (hc : c < 256) (g : Nat) (W : World) (h : W.cell? ⟨g, 0, none⟩ = some (.int .u8 c)) :
    (convert 67 9 (.slice (some ⟨g, 0, none⟩) 1 1)).run Tryd.prog W = .ok (.string (str [UInt8.ofNat c])) W := by
  have e : str [UInt8.ofNat c] = strOfNums [(c : Int)] := by
    apply ByteArray.ext
    simp [str, strOfNums]
  rw [e]
  refine run_convert_bytes_arg (P := Tryd.prog) _ 67 5 Tryd.underlying67 Tryd.underlying5 g 0 1 1 [(c : Int)] rfl ?_ 9 Tryd.underlying9
  intro i hi
  obtain rfl : i = 0 := by omega
  exact h
theorem conv1n (c : Nat) (hc : c < 256) (w : World) :
    (convert 67 9 (.slice (some ⟨w.heap.size, 0, none⟩) 1 1)).run Tryd.prog (w.alloc (.cells #[.int .u8 c] 5)) = .ok (.string (str [UInt8.ofNat c])) (w.alloc (.cells #[.int .u8 c] 5)) :=
  conv1 c hc _ _ ((rowG_new #[.int .u8 c] 5 w).1 0 (by simp))
theorem num_small (u : Nat) (hu : u < 10) (w : World) :
    Calls Tryd.prog 25 #[.int .i64 u] w fun e w' => e = .returned (.string (str (Lib.decDigits u))) ∧ Below w.heap.size w w' := by
  have hcv := conv1n (48 + u) (by omega)
  have e1 : ((48 + u : Nat) : Int) = 48 + (u : Int) := by omega
  rw [e1] at hcv
  rw [dd u hu]
  generalize str [UInt8.ofNat (48 + u)] = sd at *
  go_enter Tryd.func25, Tryd.ntmps25
  go_wp2
  go_ret
  exact ⟨rfl, (Below.refl _ _).alloc (Nat.le_refl _) _⟩
theorem dd_big (u : Nat) (hu : ¬ u < 10) : Lib.decDigits u = Lib.decDigits (u / 10) ++ [UInt8.ofNat (48 + u % 10)] := by rw [Lib.decDigits, dif_neg hu]
set_option maxRecDepth 100000 in
set_option maxHeartbeats 4000000 in
theorem num_big (u : Nat) (hu : ¬ u < 10) (hm : u < 9223372036854775808) (ih : ∀ w : World, Calls Tryd.prog 25 #[.int .i64 (u / 10 : Nat)] w fun e w' => e = .returned (.string (str (Lib.decDigits (u / 10)))) ∧ Below w.heap.size w w') (w : World) :
    Calls Tryd.prog 25 #[.int .i64 u] w fun e w' => e = .returned (.string (str (Lib.decDigits u))) ∧ Below w.heap.size w w' := by
  have hl := dig_len (u / 10) (by omega)
  rw [dd_big u hu, ← str_app]
  have hd : u % 10 < 10 := by omega
  have hq : (u : Int).tdiv 10 = ((u / 10 : Nat) : Int) := by rw [Int.tdiv_eq_ediv_of_nonneg (Int.natCast_nonneg _)]; omega
  have hr : (u : Int).tmod 10 = ((u % 10 : Nat) : Int) := by rw [Int.tmod_eq_emod_of_nonneg (Int.natCast_nonneg _)]; omega
  have hi1 : ¬ (u : Int) < 10 := by omega
  obtain ⟨sq, hsq⟩ : ∃ s, str (Lib.decDigits (u / 10)) = s := ⟨_, rfl⟩
  have hsl : sq.size ≤ 20 := by rw [← hsq, str_size]; exact hl
  rw [hsq] at ih ⊢
  obtain ⟨sd, hsd⟩ : ∃ s, str [UInt8.ofNat (48 + u % 10)] = s := ⟨_, rfl⟩
  have hsl2 : sd.size = 1 := by rw [← hsd, str_size]; rfl
  have hcv : ∀ (g : Nat) (W : World), W.cell? ⟨g, 0, none⟩ = some (.int .u8 (48 + (u % 10 : Nat))) → (convert 67 9 (.slice (some ⟨g, 0, none⟩) 1 1)).run Tryd.prog W = .ok (.string sd) W := fun g W h => by
    rw [← hsd]; exact conv1 (48 + u % 10) (by omega) g W (by rw [h]; simp)
  rw [hsd]
  clear hsq hsd hl
  go_enter Tryd.func25, Tryd.ntmps25
  go_wp2
  obtain ⟨w1, hw1⟩ : ∃ w1, w.drew = w1 := ⟨_, rfl⟩
  have hB : Below w.heap.size w w1 := by rw [← hw1]; exact (Below.refl _ _).drew
  have hs1 : w1.heap.size = w.heap.size := by rw [← hw1]; rfl
  try rw [hq]
  generalize hqq : u / 10 = q at *
  generalize hrr : u % 10 = r at *
  have hn1 : ¬ 9223372036854775807 < sq.size + 1 := by omega
  have hn2 : ¬ 9223372036854775807 < sq.size + sd.size := by omega
  have hq9 : (48 + (r : Int)) < 256 := by omega
  have ha1 : IntKind.i64.wrap (q : Int) = q := by rw [IntKind.wrap_i64]; omega
  have ha2 : IntKind.i64.wrap (48 + (r : Int)) = 48 + (r : Int) := by rw [IntKind.wrap_i64]; omega
  have ha3 : IntKind.u8.wrap (48 + (r : Int)) = 48 + (r : Int) := by rw [IntKind.wrap_u8']; omega
  have ha4 : IntKind.i64.wrap (r : Int) = r := by rw [IntKind.wrap_i64]; omega
  have ha5 : wrap64 (q : Int) = q := by unfold wrap64; omega
  have ha6 : wrap64 (48 + (r : Int)) = 48 + (r : Int) := by unfold wrap64; omega
  refine wp_mono (Q := fun e a w => e = .normal ∧ ∃ k7 : Nat, a = ⟨#[.int .i64 u, undef, .string (sq ++ sd), .int .i64 u, .bool (decide ((u : Int) < 0)), undef, undef, undef, undef, .int .i64 u, .bool false, undef, undef, undef, undef, undef, .int .i64 u, .int .i64 q, .string sq, .int .i64 u, .int .i64 r, .int .i64 (48 + (r : Int)), .int .u8 (48 + (r : Int)), .slice (some ⟨k7, 0, none⟩) 1 1, .string sd, .string (sq ++ sd)], []⟩ ∧ Below w1.heap.size w1 w) ?_ ?_
  rotate_left
  · rintro e a w9 ⟨rfl, k7, rfl, hBe⟩
    try dsimp only
    have hB2 := below_trans' hB (Nat.le_refl _) hBe
    clear hw1 hcv ih
    go_wp2
    go_ret
    exact ⟨rfl, hB2⟩
  refine wp_region_any (by kernel_rfl) ?_
  show wpAny _ _ _ _ _ _ _ (World.drew _)
  rw [hw1]
  clear hw1
  refine wpAny_inv (fun fu L a w => ∃ (b0 b1 b2 b3 b4 b5 b6 b7 b8 : Bool) (k7 : Nat), fu = 2 + (tg b0 + tg b1 + tg b2 + tg b3 + tg b4 + tg b5 + tg b6 + tg b7 + tg b8) ∧ L = #[b0, b1, b2, b3, b4, b5, b6, b7, b8, false, false] ∧ a = ⟨#[.int .i64 u, undef, .string ⟨#[]⟩, .int .i64 u, .bool (decide ((u : Int) < 0)), undef, undef, undef, undef, .int .i64 u, .bool false, undef, undef, undef, undef, undef, (bif b0 then .int .i64 u else undef), (bif b1 then .int .i64 q else undef), (bif b2 then .string sq else undef), (bif b3 then .int .i64 u else undef), (bif b4 then .int .i64 r else undef), (bif b5 then .int .i64 (48 + (r : Int)) else undef), (bif b6 then .int .u8 (48 + (r : Int)) else undef), (bif b7 then .slice (some ⟨k7, 0, none⟩) 1 1 else undef), (bif b8 then .string sd else undef), undef], []⟩ ∧ ((b1 = true → b0 = true) ∧ (b2 = true → b1 = true) ∧ (b4 = true → b3 = true) ∧ (b5 = true → b4 = true) ∧ (b6 = true → b5 = true) ∧ (b7 = true → b6 = true) ∧ (b8 = true → b7 = true)) ∧ Below w1.heap.size w1 w ∧ ((b7 = true → blkG #[.int .u8 (48 + (r : Int))] 5 w1 k7 w)) ∧ (True)) ?_ _ _ _ _ ⟨false, false, false, false, false, false, false, false, false, 0, rfl, rfl, rfl, ⟨(by simp), (by simp), (by simp), (by simp), (by simp), (by simp), (by simp)⟩, Below.refl _ _, (by simp), trivial⟩
  intro fu L a w hI
  obtain ⟨b0, b1, b2, b3, b4, b5, b6, b7, b8, k7, rfl, rfl, rfl, ⟨e0, e1, e2, e3, e4, e5, e6⟩, hBe, a0, _⟩ := hI
  by_cases hall : (b0 = true ∧ b1 = true ∧ b2 = true ∧ b3 = true ∧ b4 = true ∧ b5 = true ∧ b6 = true ∧ b7 = true ∧ b8 = true)
  rotate_left
  · right
    refine ⟨1 + (tg b0 + tg b1 + tg b2 + tg b3 + tg b4 + tg b5 + tg b6 + tg b7 + tg b8), by omega, ?_, ?_⟩
    · intro hr
      have nin : ∀ j, j ∉ Region.ready _ _ _ := fun j hj => by rw [hr] at hj; cases hj
      have t0 : b0 = true := by
        cases b0 with
        | true => rfl
        | false => exact absurd (mem_ready.2 ⟨rfl, _, rfl, by intro e he hb; simp at he; (try (rcases he with rfl | rfl | rfl <;> first | rfl | (simp [Region.binds] at hb))); (try (rcases he with rfl | rfl <;> first | rfl | (simp [Region.binds] at hb))); (try (subst he; first | rfl | (simp [Region.binds] at hb)))⟩) (nin 0)
      subst t0
      have t1 : b1 = true := by
        cases b1 with
        | true => rfl
        | false => exact absurd (mem_ready.2 ⟨rfl, _, rfl, by intro e he hb; simp at he; (try (rcases he with rfl | rfl | rfl <;> first | rfl | (simp [Region.binds] at hb))); (try (rcases he with rfl | rfl <;> first | rfl | (simp [Region.binds] at hb))); (try (subst he; first | rfl | (simp [Region.binds] at hb)))⟩) (nin 1)
      subst t1
      have t2 : b2 = true := by
        cases b2 with
        | true => rfl
        | false => exact absurd (mem_ready.2 ⟨rfl, _, rfl, by intro e he hb; simp at he; (try (rcases he with rfl | rfl | rfl <;> first | rfl | (simp [Region.binds] at hb))); (try (rcases he with rfl | rfl <;> first | rfl | (simp [Region.binds] at hb))); (try (subst he; first | rfl | (simp [Region.binds] at hb)))⟩) (nin 2)
      subst t2
      have t3 : b3 = true := by
        cases b3 with
        | true => rfl
        | false => exact absurd (mem_ready.2 ⟨rfl, _, rfl, by intro e he hb; simp at he; (try (rcases he with rfl | rfl | rfl <;> first | rfl | (simp [Region.binds] at hb))); (try (rcases he with rfl | rfl <;> first | rfl | (simp [Region.binds] at hb))); (try (subst he; first | rfl | (simp [Region.binds] at hb)))⟩) (nin 3)
      subst t3
      have t4 : b4 = true := by
        cases b4 with
        | true => rfl
        | false => exact absurd (mem_ready.2 ⟨rfl, _, rfl, by intro e he hb; simp at he; (try (rcases he with rfl | rfl | rfl <;> first | rfl | (simp [Region.binds] at hb))); (try (rcases he with rfl | rfl <;> first | rfl | (simp [Region.binds] at hb))); (try (subst he; first | rfl | (simp [Region.binds] at hb)))⟩) (nin 4)
      subst t4
      have t5 : b5 = true := by
        cases b5 with
        | true => rfl
        | false => exact absurd (mem_ready.2 ⟨rfl, _, rfl, by intro e he hb; simp at he; (try (rcases he with rfl | rfl | rfl <;> first | rfl | (simp [Region.binds] at hb))); (try (rcases he with rfl | rfl <;> first | rfl | (simp [Region.binds] at hb))); (try (subst he; first | rfl | (simp [Region.binds] at hb)))⟩) (nin 5)
      subst t5
      have t6 : b6 = true := by
        cases b6 with
        | true => rfl
        | false => exact absurd (mem_ready.2 ⟨rfl, _, rfl, by intro e he hb; simp at he; (try (rcases he with rfl | rfl | rfl <;> first | rfl | (simp [Region.binds] at hb))); (try (rcases he with rfl | rfl <;> first | rfl | (simp [Region.binds] at hb))); (try (subst he; first | rfl | (simp [Region.binds] at hb)))⟩) (nin 6)
      subst t6
      have t7 : b7 = true := by
        cases b7 with
        | true => rfl
        | false => exact absurd (mem_ready.2 ⟨rfl, _, rfl, by intro e he hb; simp at he; (try (rcases he with rfl | rfl | rfl <;> first | rfl | (simp [Region.binds] at hb))); (try (rcases he with rfl | rfl <;> first | rfl | (simp [Region.binds] at hb))); (try (subst he; first | rfl | (simp [Region.binds] at hb)))⟩) (nin 7)
      subst t7
      have t8 : b8 = true := by
        cases b8 with
        | true => rfl
        | false => exact absurd (mem_ready.2 ⟨rfl, _, rfl, by intro e he hb; simp at he; (try (rcases he with rfl | rfl | rfl <;> first | rfl | (simp [Region.binds] at hb))); (try (rcases he with rfl | rfl <;> first | rfl | (simp [Region.binds] at hb))); (try (subst he; first | rfl | (simp [Region.binds] at hb)))⟩) (nin 8)
      subst t8
      exact hall ⟨rfl, rfl, rfl, rfl, rfl, rfl, rfl, rfl, rfl⟩
    · intro i hi
      obtain ⟨h0, o, ho, hd⟩ := mem_ready.1 hi
      have hiN : i < 11 := by simpa using (Array.getElem?_eq_some_iff.1 ho).1
      have hcN : i = 0 ∨ i = 1 ∨ i = 2 ∨ i = 3 ∨ i = 4 ∨ i = 5 ∨ i = 6 ∨ i = 7 ∨ i = 8 ∨ i = 9 ∨ i = 10 := by omega
      clear hi hiN
      rcases hcN with rfl | rfl | rfl | rfl | rfl | rfl | rfl | rfl | rfl | rfl | rfl
      · simp at ho h0
        subst ho
        simp [Region.binds] at hd
        subst h0
        refine wpOp_step rfl (fun K' hK => ?_)
        go_simp
        exact hK _ _ ⟨true, b1, b2, b3, b4, b5, b6, b7, b8, k7, by simp only [tg_t, tg_f]; omega, rfl, rfl, ⟨(by intro h; first | exact e0 h | rfl), (by intro h; first | exact e1 h | rfl), (by intro h; first | exact e2 h | rfl), (by intro h; first | exact e3 h | rfl), (by intro h; first | exact e4 h | rfl), (by intro h; first | exact e5 h | rfl), (by intro h; first | exact e6 h | rfl)⟩, hBe, a0, trivial⟩
      · simp at ho h0
        subst ho
        simp [Region.binds] at hd
        subst h0
        refine wpOp_step rfl (fun K' hK => ?_)
        have g0 : b0 = true := by first | exact hd | exact hd.1 | exact hd.2 | exact hd.2.1 | exact hd.2.2 | exact hd.2.2.1 | exact hd.2.2.2
        clear hd
        subst g0
        go_simp
        exact hK _ _ ⟨true, true, b2, b3, b4, b5, b6, b7, b8, k7, by simp only [tg_t, tg_f]; omega, rfl, rfl, ⟨(by intro h; first | exact e0 h | rfl), (by intro h; first | exact e1 h | rfl), (by intro h; first | exact e2 h | rfl), (by intro h; first | exact e3 h | rfl), (by intro h; first | exact e4 h | rfl), (by intro h; first | exact e5 h | rfl), (by intro h; first | exact e6 h | rfl)⟩, hBe, a0, trivial⟩
      · simp at ho h0
        subst ho
        simp [Region.binds] at hd
        subst h0
        refine wpOp_step rfl (fun K' hK => ?_)
        have g1 : b1 = true := by first | exact hd | exact hd.1 | exact hd.2 | exact hd.2.1 | exact hd.2.2 | exact hd.2.2.1 | exact hd.2.2.2
        clear hd
        subst g1
        obtain rfl := e0 rfl
        go_simp
        go_at_call 25; (with_reducible refine (ih _).mono ?_); rintro e w3 ⟨rfl, hbc⟩
        exact hK _ _ ⟨true, true, true, b3, b4, b5, b6, b7, b8, k7, by simp only [tg_t, tg_f]; omega, rfl, rfl, ⟨(by intro h; first | exact e0 h | rfl), (by intro h; first | exact e1 h | rfl), (by intro h; first | exact e2 h | rfl), (by intro h; first | exact e3 h | rfl), (by intro h; first | exact e4 h | rfl), (by intro h; first | exact e5 h | rfl), (by intro h; first | exact e6 h | rfl)⟩, (below_trans' hBe (Nat.le_refl _) hbc), (fun h => blkG_of hbc (a0 h)), trivial⟩
      · simp at ho h0
        subst ho
        simp [Region.binds] at hd
        subst h0
        refine wpOp_step rfl (fun K' hK => ?_)
        go_simp
        exact hK _ _ ⟨b0, b1, b2, true, b4, b5, b6, b7, b8, k7, by simp only [tg_t, tg_f]; omega, rfl, rfl, ⟨(by intro h; first | exact e0 h | rfl), (by intro h; first | exact e1 h | rfl), (by intro h; first | exact e2 h | rfl), (by intro h; first | exact e3 h | rfl), (by intro h; first | exact e4 h | rfl), (by intro h; first | exact e5 h | rfl), (by intro h; first | exact e6 h | rfl)⟩, hBe, a0, trivial⟩
      · simp at ho h0
        subst ho
        simp [Region.binds] at hd
        subst h0
        refine wpOp_step rfl (fun K' hK => ?_)
        have g3 : b3 = true := by first | exact hd | exact hd.1 | exact hd.2 | exact hd.2.1 | exact hd.2.2 | exact hd.2.2.1 | exact hd.2.2.2
        clear hd
        subst g3
        go_simp
        exact hK _ _ ⟨b0, b1, b2, true, true, b5, b6, b7, b8, k7, by simp only [tg_t, tg_f]; omega, rfl, rfl, ⟨(by intro h; first | exact e0 h | rfl), (by intro h; first | exact e1 h | rfl), (by intro h; first | exact e2 h | rfl), (by intro h; first | exact e3 h | rfl), (by intro h; first | exact e4 h | rfl), (by intro h; first | exact e5 h | rfl), (by intro h; first | exact e6 h | rfl)⟩, hBe, a0, trivial⟩
      · simp at ho h0
        subst ho
        simp [Region.binds] at hd
        subst h0
        refine wpOp_step rfl (fun K' hK => ?_)
        have g4 : b4 = true := by first | exact hd | exact hd.1 | exact hd.2 | exact hd.2.1 | exact hd.2.2 | exact hd.2.2.1 | exact hd.2.2.2
        clear hd
        subst g4
        obtain rfl := e2 rfl
        go_simp
        exact hK _ _ ⟨b0, b1, b2, true, true, true, b6, b7, b8, k7, by simp only [tg_t, tg_f]; omega, rfl, rfl, ⟨(by intro h; first | exact e0 h | rfl), (by intro h; first | exact e1 h | rfl), (by intro h; first | exact e2 h | rfl), (by intro h; first | exact e3 h | rfl), (by intro h; first | exact e4 h | rfl), (by intro h; first | exact e5 h | rfl), (by intro h; first | exact e6 h | rfl)⟩, hBe, a0, trivial⟩
      · simp at ho h0
        subst ho
        simp [Region.binds] at hd
        subst h0
        refine wpOp_step rfl (fun K' hK => ?_)
        have g5 : b5 = true := by first | exact hd | exact hd.1 | exact hd.2 | exact hd.2.1 | exact hd.2.2 | exact hd.2.2.1 | exact hd.2.2.2
        clear hd
        subst g5
        obtain rfl := e3 rfl
        obtain rfl := e2 rfl
        go_simp
        exact hK _ _ ⟨b0, b1, b2, true, true, true, true, b7, b8, k7, by simp only [tg_t, tg_f]; omega, rfl, rfl, ⟨(by intro h; first | exact e0 h | rfl), (by intro h; first | exact e1 h | rfl), (by intro h; first | exact e2 h | rfl), (by intro h; first | exact e3 h | rfl), (by intro h; first | exact e4 h | rfl), (by intro h; first | exact e5 h | rfl), (by intro h; first | exact e6 h | rfl)⟩, hBe, a0, trivial⟩
      · simp at ho h0
        subst ho
        simp [Region.binds] at hd
        subst h0
        refine wpOp_step rfl (fun K' hK => ?_)
        have g6 : b6 = true := by first | exact hd | exact hd.1 | exact hd.2 | exact hd.2.1 | exact hd.2.2 | exact hd.2.2.1 | exact hd.2.2.2
        clear hd
        subst g6
        obtain rfl := e4 rfl
        obtain rfl := e3 rfl
        obtain rfl := e2 rfl
        go_simp
        exact hK _ _ ⟨b0, b1, b2, true, true, true, true, true, b8, w.heap.size, by simp only [tg_t, tg_f]; omega, rfl, rfl, ⟨(by intro h; first | exact e0 h | rfl), (by intro h; first | exact e1 h | rfl), (by intro h; first | exact e2 h | rfl), (by intro h; first | exact e3 h | rfl), (by intro h; first | exact e4 h | rfl), (by intro h; first | exact e5 h | rfl), (by intro h; first | exact e6 h | rfl)⟩, (hBe.alloc hBe.size _), (fun _ => blkG_new _ _ hBe.size), trivial⟩
      · simp at ho h0
        subst ho
        simp [Region.binds] at hd
        subst h0
        refine wpOp_step rfl (fun K' hK => ?_)
        have g7 : b7 = true := by first | exact hd | exact hd.1 | exact hd.2 | exact hd.2.1 | exact hd.2.2 | exact hd.2.2.1 | exact hd.2.2.2
        clear hd
        subst g7
        obtain rfl := e5 rfl
        obtain rfl := e4 rfl
        obtain rfl := e3 rfl
        obtain rfl := e2 rfl
        have cc := hcv k7 w (blkG_c (a0 rfl) 0)
        go_simp
        exact hK _ _ ⟨b0, b1, b2, true, true, true, true, true, true, k7, by simp only [tg_t, tg_f]; omega, rfl, rfl, ⟨(by intro h; first | exact e0 h | rfl), (by intro h; first | exact e1 h | rfl), (by intro h; first | exact e2 h | rfl), (by intro h; first | exact e3 h | rfl), (by intro h; first | exact e4 h | rfl), (by intro h; first | exact e5 h | rfl), (by intro h; first | exact e6 h | rfl)⟩, hBe, a0, trivial⟩
      · exact (hall (by simp at ho; subst ho; simp [Region.binds] at hd <;> simp_all)).elim
      · exact (hall (by simp at ho; subst ho; simp [Region.binds] at hd <;> simp_all)).elim
  obtain ⟨rfl, rfl, rfl, rfl, rfl, rfl, rfl, rfl, rfl⟩ := hall
  left
  have d0 := a0 rfl
  clear a0 e0 e1 e2 e3 e4 e5 e6
  simp only [tg_t, Nat.add_zero]
  refine wpAny_ready (rs := [9]) (by kernel_rfl) (by simp) (AllReady.cons rfl (fun K hK => ?_) AllReady.nil)
  go_simp
  refine hK _ _ ?_
  clear hK K
  refine wpAny_ready (rs := [10]) (by kernel_rfl) (by simp) (AllReady.cons rfl (fun K hK => ?_) AllReady.nil)
  go_simp
  refine hK _ _ ?_
  clear hK K
  refine wpAny_done (by kernel_rfl) ?_ _
  exact ⟨rfl, k7, rfl, hBe⟩
theorem num_nat (u : Nat) : u < 9223372036854775808 → ∀ w : World,
    Calls Tryd.prog 25 #[.int .i64 u] w fun e w' => e = .returned (.string (str (Lib.decDigits u))) ∧ Below w.heap.size w w' := by
  induction u using Nat.strongRecOn with
  | ind u ih =>
    intro hm w
    by_cases hu : u < 10
    · exact num_small u hu w
    · exact num_big u hu hm (ih (u / 10) (by omega) (by omega)) w
theorem num_int (n : Int) (h0 : -9223372036854775807 ≤ n) (h1 : n < 9223372036854775808) (w : World) :
    Calls Tryd.prog 25 #[.int .i64 n] w fun e w' => e = .returned (.string (str (Lib.itoa n))) ∧ Below w.heap.size w w' := by
  by_cases hn : n < 0
  · obtain ⟨u, rfl⟩ : ∃ u : Nat, n = -(u : Int) := ⟨n.natAbs, by omega⟩
    have hi : Lib.itoa (-(u : Int)) = 45 :: Lib.decDigits u := by
      unfold Lib.itoa
      rw [if_pos hn, show (-(u : Int)).natAbs = u by omega]
    rw [hi]
    have hc := num_nat u (by omega)
    have hl := dig_len u (by omega)
    rw [← str_size] at hl
    have hs : str (45 :: Lib.decDigits u) = ⟨#[45]⟩ ++ str (Lib.decDigits u) := (str_app [45] (Lib.decDigits u)).symm
    rw [hs]
    generalize str (Lib.decDigits u) = sq at *
    have hn1 : ¬ 9223372036854775807 < 1 + sq.size := by omega
    have hnn : - -(u : Int) = (u : Int) := by omega
    go_enter Tryd.func25, Tryd.ntmps25
    go_wp2_with (go_at_call 25; (with_reducible refine (hc _).mono ?_); rintro e w3 ⟨rfl, hbc⟩)
    go_ret
    exact ⟨rfl, hbc⟩
  · obtain ⟨u, rfl⟩ := Int.eq_ofNat_of_zero_le (show 0 ≤ n by omega)
    have hi : Lib.itoa (u : Int) = Lib.decDigits u := by
      unfold Lib.itoa
      rw [if_neg hn, Int.toNat_natCast]
    rw [hi]
    exact num_nat u (by omega) w
end Go.Proofs.YtjkagpmepokihaaDoor
