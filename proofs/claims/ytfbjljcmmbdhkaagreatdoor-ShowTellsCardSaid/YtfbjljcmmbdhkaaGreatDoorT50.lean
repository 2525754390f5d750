/- Contract of Large: how much there is of a program, and of each expression. -/
import Derived.Test.YtfbjljcmmbdhkaaGreatDoorT48
namespace Go.Proofs.YtfbjljcmmbdhkaaGreatDoor
set_option linter.unusedVariables false
set_option linter.unusedSimpArgs false
set_option maxRecDepth 100000
set_option maxHeartbeats 200000000
open Go Go.ChangeShapes Go.WideShapes Go.ChangeAt Go.RowKit
theorem sxs_at : ∀ (L : List Sx) (i : Nat) (h : i < L.length) (r : Nat) (hr : r < 9), (sxs L)[i * 9 + r]? = L[i].cells[r]? := by
 intro L
 induction L with
 | nil => intro i h; simp at h
 | cons K L ih =>
  intro i h r hr
  cases i with
  | zero =>
   have hc : r = 0 ∨ r = 1 ∨ r = 2 ∨ r = 3 ∨ r = 4 ∨ r = 5 ∨ r = 6 ∨ r = 7 ∨ r = 8 := by omega
   rcases hc with rfl | rfl | rfl | rfl | rfl | rfl | rfl | rfl | rfl <;> rfl
  | succ i =>
   have := ih i (by simpa using h) r hr
   rw [show (i + 1) * 9 + r = (i * 9 + r) + 1 + 1 + 1 + 1 + 1 + 1 + 1 + 1 + 1 by omega]
   exact this
theorem lg9_any (l : List Fd) (hlb : ∀ f ∈ l, f.bd.length ≤ 977343669105) (hl : l.length ≤ 1466015503658) (ma : Option Addr) (cap : Nat) (w : World) (hF : FdsAt (fun b => b < w.heap.size) w l ma) :
 Calls Tryz.prog 7 #[.agg #[.slice ma l.length cap]] w (LgQ w l) := by
 obtain ⟨i0, hi, hz0, hz1, hz2⟩ := info_parts infoS9
 have HF := Lib.hid hF
 have HLB := Lib.hid hlb
 obtain ⟨N, hN⟩ : ∃ N, N = l.length := ⟨_, rfl⟩
 rw [← hN] at hl ⊢
 have HL := Lib.hid hN
 clear hF hlb hN
 go_enter Tryz.func7, Tryz.ntmps7
 go_wp2
 obtain ⟨W, hW⟩ : ∃ W, w.alloc (.cells #[.slice ma N cap] 24) = W := ⟨_, rfl⟩
 have hBW : Below w.heap.size w W := by rw [← hW]; exact aB (Below.refl _ _) _
 have hrP : rowG #[.slice ma N cap] W w.heap.size := by rw [← hW]; exact rowG_at _ _ _ _ rfl
 have hsW : W.heap.size = w.heap.size + 1 := by rw [← hW]; simp
 rw [hW]
 clear hW
 go_loopw [3, 4, 5] (fun nv av iv wr => ∃ (k M : Nat) (L : List Sx) (n : Int) (a : Option Addr) (c : Nat), k ≤ N ∧ k ≤ 40 ∧ iv = .int .i64 (k : Int) ∧ nv = .int .i64 n ∧ av = .slice a M c ∧ M ≤ 900 ∧ wr.ownsRow W.heap.size 52 9 (.slice a M c) M (sxs L) ∧ Hid (M = L.length) ∧ Hid (szL (L.map (·.x)) = totS (l.take k)) ∧ Hid (ndS (L.map (·.x)) → ∀ f ∈ l.take k, ndS f.bd) ∧ Hid (∀ f ∈ l.take k, ∀ x ∈ f.rt, x.nodes ≤ 9000) ∧ Hid (∀ K ∈ L, K.is (fun b => b < w.heap.size) w) ∧ Below W.heap.size W wr) (fun _ _ iv _ => N - (intOf iv).toNat)
 case atStart => exact ⟨0, 0, [], 0, none, 0, Nat.zero_le _, by omega, rfl, rfl, rfl, by omega, World.ownsRow_nil _ _ _ _, Lib.hid rfl, Lib.hid (by simp [szL, totS]), Lib.hid (fun _ f hf => by simp at hf), Lib.hid (fun f hf => by simp at hf), Lib.hid (fun K hK => by simp at hK), Below.refl _ _⟩
 case round =>
  obtain ⟨k, M, L, n, a, c, hkN, hk40, rfl, rfl, rfl, hM9, hown, HM, HT, HQ, HR, HK, hBr⟩ := hrel
  have hB : Below w.heap.size w wr := tr hBW hBr
  have hrp := rowG_b hrP hBr
  have p0 := hrp.1 0 (by simp)
  have pl := hrp.2.2
  obtain ⟨B, hBd⟩ : ∃ B, B = decide (k < N ∧ k < 40) := ⟨_, rfl⟩
  go_upto_region 4 with fail
  go_cut [21] from 13 to 89 (fun cc wc => cc = .bool B ∧ wr = wc)
  case first =>
   subst hBd
   by_cases h1 : k < N
   ·by_cases h2 : k < 40
    ·go_wp2
     go_meet
     case rel => exact ⟨by first | (simp [h1, h2]; done) | (simp [h1, h2]; omega), rfl⟩
    ·go_wp2
     go_meet
     case rel => exact ⟨by first | (simp [h1, h2]; done) | (simp [h1, h2]; omega), rfl⟩
   ·go_wp2
    go_meet
    case rel => exact ⟨by simp [h1], rfl⟩
  case rest =>
   obtain ⟨rfl, rfl⟩ := hcut
   cases B
   ·have hBd' := hBd
    clear hBd
    have HE : Hid (N ≤ 30 → k = N) := Lib.hid (fun h => by have h2 : ¬ (k < N ∧ k < 40) := of_decide_eq_false hBd'.symm; omega)
    clear hBd'
    go_wp2
    go_loopw [3, 4, 9] (fun nv av iv wq => ∃ (j M1 : Nat) (L1 : List Sx) (n1 : Int) (a1 : Option Addr) (c1 : Nat), j ≤ M1 ∧ iv = .int .i64 (j : Int) ∧ nv = .int .i64 n1 ∧ av = .slice a1 M1 c1 ∧ M1 ≤ 900 ∧ wq.ownsRow W.heap.size 52 9 (.slice a1 M1 c1) M1 (sxs L1) ∧ Hid (M1 = L1.length) ∧ Hid (j + szL ((L1.drop j).map (·.x)) = totS (l.take k)) ∧ Hid (ndS ((L1.drop j).map (·.x)) → ∀ f ∈ l.take k, ndS f.bd) ∧ Hid (∀ K ∈ L1, K.is (fun b => b < w.heap.size) w) ∧ Below W.heap.size W wq) (fun _ _ iv _ => 901 - (intOf iv).toNat)
    case atStart => exact ⟨0, M, L, n, a, c, Nat.zero_le _, rfl, rfl, rfl, hM9, hown, HM, Lib.hid (by rw [List.drop_zero, Nat.zero_add]; exact HT.out), Lib.hid (by rw [List.drop_zero]; exact HQ.out), HK, hBr⟩
    case round =>
     clear hown HM HT HQ HK hBr hB hrp p0 pl hM9
     obtain ⟨j, M1, L1, n1, a1, c1, hj, rfl, rfl, rfl, hM1, hown, HM1, HT1, HQ1, HK1, hB0⟩ := hrel
     have hBw := tr hBW hB0
     have hrp := rowG_b hrP hB0
     by_cases hlt : j < M1
     ·obtain ⟨ga, cg, e, hg1, hg2⟩ := hown.form (by omega)
      obtain ⟨rfl, -, rfl⟩ := (Value.slice.injEq _ _ _ _ _ _).mp e
      clear e
      have hjl : j < L1.length := by rw [← HM1.out]; exact hlt
      have hKi := HK1.out _ (List.getElem_mem hjl)
      obtain ⟨hx1, hk, enx, ena, enb, enl, lx, la, lb, ll, hX, hA, hBd1, hEl1⟩ := sx_all hKi
      have hrg : wr.rangeAt ga (j * 9) [.int .u8 ((L1[j]).k : Int), .string (str (L1[j]).nm), .string (str (L1[j]).fr), .bool (L1[j]).sec, .bool (L1[j]).mu, .slice (L1[j]).mx (L1[j]).nx (L1[j]).cx, .slice (L1[j]).ma (L1[j]).na (L1[j]).ca, .slice (L1[j]).mb (L1[j]).nb (L1[j]).cb, .slice (L1[j]).ml (L1[j]).nl (L1[j]).cl] := fun r u hu => by
       have hr9 : r < 9 := by have := (List.getElem?_eq_some_iff.1 hu).1; simpa using this
       rw [hown.cellAt (j * 9 + r) (by omega), sxs_at L1 j hjl r hr9]
       exact hu
      obtain ⟨Lb, hLb1, hLb2, hLb3⟩ := sts_lie _ _ hBd1
      obtain ⟨Le, hLe1, hLe2, hLe3⟩ := sts_lie _ _ hEl1
      have HT3 := Lib.hid (bfs_step hjl hLb1 hLe1 rfl rfl HT1.out)
      have HQ3 : Hid ((∀ x ∈ (L1[j]).x.ex, x.nodes ≤ 9000) → ndS ((((L1 ++ Lb) ++ Le).drop (j + 1)).map (·.x)) → ∀ f ∈ l.take k, ndS f.bd) := Lib.hid (fun he hn => HQ1.out (bfs_nd hjl hLb1 hLe1 he hn))
      have HK3 : Hid (∀ K ∈ (L1 ++ Lb) ++ Le, K.is (fun b => b < w.heap.size) w) := Lib.hid (fun K hK => by
       rcases List.mem_append.1 hK with h1 | h1
       ·rcases List.mem_append.1 h1 with h2 | h2
        ·exact HK1.out K h2
        ·exact hLb2 K h2
       ·exact hLe2 K h1)
      have hlb : Lb.length = (L1[j]).nb := by rw [enb, ← hLb1]; simp
      have hle : Le.length = (L1[j]).nl := by rw [enl, ← hLe1]; simp
      have hsrcB : ∀ x, Below w.heap.size w x → 0 < (L1[j]).nb → ∃ ad, (L1[j]).mb = some ad ∧ ∀ i u, (sxs Lb)[i]? = some u → x.cell? (ad.add i) = some u := fun x hx h0 => by
       obtain ⟨b, o, e, -, hc⟩ := hLb3 (by omega)
       exact ⟨_, e, fun i u hu => by rw [addp]; exact stay hx (hc i u hu)⟩
      have hsrcE : ∀ x, Below w.heap.size w x → 0 < (L1[j]).nl → ∃ ad, (L1[j]).ml = some ad ∧ ∀ i u, (sxs Le)[i]? = some u → x.cell? (ad.add i) = some u := fun x hx h0 => by
       obtain ⟨b, o, e, -, hc⟩ := hLe3 (by omega)
       exact ⟨_, e, fun i u hu => by rw [addp]; exact stay hx (hc i u hu)⟩
      have HX := Lib.hid hX
      have HA := Lib.hid hA
      have HNX := Lib.hid enx
      have HNA := Lib.hid ena
      have HLB2 := Lib.hid hlb
      have HLE2 := Lib.hid hle
      clear hX hA hBd1 hEl1 hLb1 hLb2 hLb3 hLe1 hLe2 hLe3 hlb hle enx ena enb enl hx1 hk hKi HT1 HQ1 HK1
      generalize (L1[j]).k = sk at *
      generalize (L1[j]).nm = nm at *
      generalize (L1[j]).fr = fr at *
      generalize (L1[j]).sec = sec at *
      generalize (L1[j]).mu = mu at *
      generalize (L1[j]).mx = xx at *
      generalize (L1[j]).nx = nx at *
      generalize (L1[j]).cx = xc at *
      generalize (L1[j]).ma = xa at *
      generalize (L1[j]).na = na at *
      generalize (L1[j]).ca = xd at *
      generalize (L1[j]).mb = xb at *
      generalize (L1[j]).nb = nb at *
      generalize (L1[j]).cb = xe at *
      generalize (L1[j]).ml = xl at *
      generalize (L1[j]).nl = nl at *
      generalize (L1[j]).cl = xf at *
      have hwA : IntKind.i64.wrap ((M1 : Int) + (nb : Int)) = (M1 : Int) + (nb : Int) := by rw [IntKind.wrap_i64]; omega
      have hwB : IntKind.i64.wrap ((M1 : Int) + (nb : Int) + (nl : Int)) = (M1 : Int) + (nb : Int) + (nl : Int) := by rw [IntKind.wrap_i64]; omega
      have hgl : ga < wr.heap.size := hg2
      rcases Decidable.em ((900 : Int) < (M1 : Int) + (nb : Int) + (nl : Int)) with hAi | hAi
      rotate_left
      rcases Decidable.em ((40 : Int) < (nx : Int)) with hBi | hBi
      rotate_left
      rcases Decidable.em ((40 : Int) < (na : Int)) with hCi | hCi
      rotate_left
      rcases Decidable.em ((200 : Int) < wrap64 (((str nm).size : Int) + ((str fr).size : Int))) with hDi | hDi
      rotate_left
      all_goals go_wp2_with (first | (with_reducible refine ld9o rfl _ rfl ga (j * 9) rfl hrg ?_) | (with_reducible refine st9 rfl _ _ rfl (wr.heap.size) rfl rfl (rowG_at _ _ _ _ rfl) ?_; (intro wF hF hOF); (have hBF : Below wr.heap.size wr wF := (aB (Below.refl _ _) _).trans (hOF.below (B := wr.heap.size) (fun j hj => by omega) (by simp))); (have hB0F := tr hB0 hBF); (have hownF := own_of hown hBF); (have hTne : ∀ b, (Value.slice (some ⟨ga, 0, none⟩) M1 c1).ownBlock = some b → b ≠ wr.heap.size := fun b e => by have := (own_lt hown e).2; omega); (clear hrg hgl); (obtain ⟨z0, z1, z2, z3, z4, z5, z6, z7, z8, zf, zl⟩ := nine hF)))
      rotate_left
      iterate 4
       ·go_ret
        exact lgq_true (tr hBW hB0F)
      have hA9 : ¬ 900 < M1 + nb + nl := by omega
      have hB9 : ¬ 40 < nx := by omega
      have hC9 : ¬ 40 < na := by omega
      generalize hTe : wr.heap.size = T at *
      have HTE := Lib.hid hTe
      have hBwF := tr hBW hB0F
      clear hTe hrp hwA hwB hAi hBi hCi hDi z0 z1 z2 z3 z4 z5 z6 z7 z8 zf zl hBF hB0 hBw hOF hown
      go_loopw [11] (fun iv wq => ∃ k5 : Nat, k5 ≤ nx ∧ iv = .int .i64 (k5 : Int) ∧ Hid (∀ i (h : i < (L1[j]).x.ex.length), i < k5 → ((L1[j]).x.ex[i]).nodes ≤ 9000) ∧ Below wF.heap.size wF wq) (fun iv _ => nx - (intOf iv).toNat)
      case atStart => exact ⟨0, Nat.zero_le _, rfl, Lib.hid (fun i _ h => absurd h (Nat.not_lt_zero i)), Below.refl _ _⟩
      case round =>
       obtain ⟨k5, hk5, rfl, HE5, hBq⟩ := hrel
       have hs := rowG_b hF hBq
       obtain ⟨z0, z1, z2, z3, z4, z5, z6, z7, z8, zf, zl⟩ := nine hs
       have hBq0 := tr hBwF hBq
       by_cases hlt5 : k5 < nx
       ·have hl5 : k5 < (L1[j]).x.ex.length := by rw [← HNX.out]; exact hlt5
        obtain ⟨gr, go1, rfl⟩ := kids_some HX.out (by omega)
        obtain ⟨ma', cap', d0, d1, d2, d3, d4, hE1⟩ := (kids_at _ gr go1 HX.out k5 hl5).isE
        have hgl : gr < wr.heap.size := Nat.lt_of_lt_of_le (World.block_lt_of_cell? w _ d0) hBq0.size
        have e0 := stay hBq0 d0
        have e1 := stay hBq0 d1
        have e2 := stay hBq0 d2
        have e3 := stay hBq0 d3
        have e4 := stay hBq0 d4
        have hLg := large07 (L1[j]).x.ex[k5] _ wr ((hE1.of hBq0).mono (fun b hb => Nat.lt_of_lt_of_le hb hBq0.size))
        unfold LargeP at hLg
        clear d0 d1 d2 d3 d4 hE1
        go_wp2_with (go_at_call 16; ((with_reducible refine hLg.mono ?_); (rintro e w3 ⟨⟨bb, rfl, hbb⟩, hb3⟩); (have HBB := Lib.hid hbb); clear hbb; cases bb))
        ·have HE6 : Hid (∀ i (h : i < (L1[j]).x.ex.length), i < k5 + 1 → ((L1[j]).x.ex[i]).nodes ≤ 9000) := Lib.hid (nd_next HE5.out (HBB.out (by first | rfl | trivial)))
         clear HBB HE5
         go_roundw
         case rel => first | exact ⟨k5 + 1, by omega, by go_num, HE6, tr hBq hb3⟩ | ((repeat apply Exists.intro); exact ⟨⟨k5 + 1, by omega, by go_num, HE6, tr hBq hb3⟩, rfl⟩)
         case measure => simp [intOf]; omega
        ·go_ret
         exact lgq_true (tr hBq0 hb3)
       ·obtain rfl : nx = k5 := by omega
        have HQ4 : Hid (ndS ((((L1 ++ Lb) ++ Le).drop (j + 1)).map (·.x)) → ∀ f ∈ l.take k, ndS f.bd) := Lib.hid (HQ3.out (fun x hx => by
         obtain ⟨i, hi, rfl⟩ := List.getElem_of_mem hx
         exact HE5.out i hi (by rw [HNX.out]; exact hi)))
        clear HQ3 HE5
        have hs5 := hs
        have hown5 := own_of hownF hBq
        have hB5 := tr hB0F hBq
        go_wp2
        clear z0 z1 z2 z3 z4 z5 z6 z7 z8 zf zl hs hF hownF hBq hBq0 hB0F hBwF
        go_loopw [3, 12] (fun nv iv wq => ∃ (k6 : Nat) (n6 : Int), k6 ≤ na ∧ nv = .int .i64 n6 ∧ iv = .int .i64 (k6 : Int) ∧ Below wr.heap.size wr wq) (fun _ iv _ => na - (intOf iv).toNat)
        case atStart => exact ⟨0, _, Nat.zero_le _, rfl, rfl, Below.refl _ _⟩
        case round =>
         obtain ⟨k6, n6, hk6, rfl, rfl, hBy⟩ := hrel
         have hs := rowG_b hs5 hBy
         obtain ⟨z0, z1, z2, z3, z4, z5, z6, z7, z8, zf, zl⟩ := nine hs
         have hB6 := tr hB5 hBy
         have hB60 := tr hBW hB6
         by_cases hlt6 : k6 < na
         ·have hl6 : k6 < (L1[j]).x.ar.length := by rw [← HNA.out]; exact hlt6
          obtain ⟨gp, op1, rfl, -, d0⟩ := HA.out k6 hl6
          have hgl : gp < wr.heap.size := Nat.lt_of_lt_of_le (World.block_lt_of_cell? w _ d0) hB60.size
          have e0 := stay hB60 d0
          clear d0
          go_wp2
          go_roundw
          case rel => first | exact ⟨k6 + 1, _, by omega, rfl, by go_num, hBy⟩ | ((repeat apply Exists.intro); exact ⟨⟨k6 + 1, _, by omega, rfl, by go_num, hBy⟩, rfl⟩)
          case measure => simp [intOf]; omega
         ·obtain rfl : na = k6 := by omega
          have hown6 := own_of hown5 hBy
          go_wp2
          clear z0 z1 z2 z3 z4 z5 z6 z7 z8 zf zl
          have hDr : Below wr.heap.size wr wr.drew := bdd (Below.refl _ _)
          have hF0 : rowG #[.int .u8 (sk : Int), .string (str nm), .string (str fr), .bool sec, .bool mu, .slice xx nx xc, .slice xa na xd, .slice xb nb xe, .slice xl nl xf] wr.drew T := rowG_b hs hDr
          have hownD := own_of hown6 hDr
          have hB7 := tr hB6 hDr
          have hW7 := hB7.size
          refine region_K (fun w' => rowG #[.int .u8 (sk : Int), .string (str nm), .string (str fr), .bool sec, .bool mu, .slice xx nx xc, .slice xa na xd, .slice xb nb xe, .slice xl nl xf] w' T) (by kernel_rfl) ?_
          have q : Pq [0, 1, 2, 4, 5] := trivial
          iterate 5
           refine tkK q rfl (by kernel_rfl) (fun _ _ _ _ h => h) hF0 fun K hK => ?_
           replace q := q.tl
           apply Exists.intro
           refine ⟨Or.inl ⟨by kernel_rfl, fun w' hf => ?_⟩, ?_⟩
           ·obtain ⟨z0, z1, z2, z3, z4, z5, z6, z7, z8, zf, zl⟩ := nine hf
            go_simp
            try exact rfl
           go_simp
           refine hK _ ?_
           clear hK K
          refine wpAnyK_one (k := 3) (by kernel_rfl) ?_
          refine wpOp_step rfl (fun K hK => ?_)
          refine wp_append_row wr.drew _ _ 39 rfl W.heap.size 52 i0 _ 9 144 Tryz.underlying39 hi hz0 hz1 hz2 rfl (by decide) (.slice (some ⟨ga, 0, none⟩) M1 c1) M1 (sxs L1) rfl hownD xb nb xe (sxs Lb) rfl (by rw [sxs_len, HLB2.out]) (hsrcB _ (tr hBW hB7)) (sxs_one _) (by unfold maxLen; omega) (by omega) (by omega) ?_
          intro a5 c5 w5 hown7 hgrow5 hat5
          have hog5 := only_grown hgrow5
          have hFa : rowG #[.int .u8 (sk : Int), .string (str nm), .string (str fr), .bool sec, .bool mu, .slice xx nx xc, .slice xa na xd, .slice xb nb xe, .slice xl nl xf] w5 T := rowG_only hF0 hog5 (fun e => hTne T e.symm rfl)
          have hB8 : Below W.heap.size W w5 := hB7.trans (hog5.below (B := W.heap.size) (fun j hj => (own_lt hownD hj.symm).1) hB7.size)
          have hTn5 : ∀ b, (Value.slice a5 (M1 + nb) c5).ownBlock = some b → b ≠ T := fun b e => by
           rcases hat5 b e with h | h
           ·exact hTne b h
           ·have := hF0.2.2; omega
          have hW8 := hB8.size
          refine hK _ _ ⟨hFa, ?_⟩
          clear hK K
          refine wpAnyK_one (k := 6) (by kernel_rfl) ?_
          refine wpOp_step rfl (fun K hK => ?_)
          refine wp_append_row w5 _ _ 39 rfl W.heap.size 52 i0 _ 9 144 Tryz.underlying39 hi hz0 hz1 hz2 rfl (by decide) (.slice a5 (M1 + nb) c5) (M1 + nb) _ rfl hown7 xl nl xf (sxs Le) rfl (by rw [sxs_len, HLE2.out]) (hsrcE _ (tr hBW hB8)) (sxs_one _) (by unfold maxLen; omega) (by omega) (by omega) ?_
          intro a6 c6 w6 hown8 hgrow6 hat6
          have hog6 := only_grown hgrow6
          have hFb : rowG #[.int .u8 (sk : Int), .string (str nm), .string (str fr), .bool sec, .bool mu, .slice xx nx xc, .slice xa na xd, .slice xb nb xe, .slice xl nl xf] w6 T := rowG_only hFa hog6 (fun e => hTn5 T e.symm rfl)
          have hB9 : Below W.heap.size W w6 := hB8.trans (hog6.below (B := W.heap.size) (fun j hj => (own_lt hown7 hj.symm).1) hB8.size)
          refine hK _ _ ⟨hFb, ?_⟩
          clear hK K
          refine wpAnyK_one (k := 7) (by kernel_rfl) ?_
          refine wpOp_step rfl (fun K hK => ?_)
          go_simp
          refine hK _ _ ⟨hFb, ?_⟩
          clear hK K
          refine wpAnyK_done (by kernel_rfl) ?_
          go_wp2
          go_roundw
          case rel => first | exact ⟨j + 1, M1 + nb + nl, (L1 ++ Lb) ++ Le, _, a6, c6, by omega, by go_num, rfl, rfl, by omega, by rw [sxs_app, sxs_app]; exact hown8, Lib.hid (by rw [List.length_append, List.length_append, HLB2.out, HLE2.out, HM1.out]), HT3, HQ4, HK3, hB9⟩ | ((repeat apply Exists.intro); exact ⟨⟨j + 1, M1 + nb + nl, (L1 ++ Lb) ++ Le, _, a6, c6, by omega, by go_num, rfl, rfl, by omega, by rw [sxs_app, sxs_app]; exact hown8, Lib.hid (by rw [List.length_append, List.length_append, HLB2.out, HLE2.out, HM1.out]), HT3, HQ4, HK3, hB9⟩, rfl⟩)
          case measure => simp [intOf]; omega
     ·obtain rfl : j = M1 := by omega
      have p0 := hrp.1 0 (by simp)
      have pl := hrp.2.2
      have hT0 : totS (l.take k) ≤ 900 := by
       have h1 := HT1.out
       rw [List.drop_of_length_le (by rw [← HM1.out]; exact Nat.le_refl _)] at h1
       simp only [List.map_nil, szL] at h1
       omega
      have HT0 := Lib.hid hT0
      have HN0 : Hid (∀ f ∈ l.take k, ndS f.bd) := Lib.hid (HQ1.out (by rw [List.drop_of_length_le (by rw [← HM1.out]; exact Nat.le_refl _), List.map_nil, ndS]; trivial))
      clear hT0 HQ1
      by_cases h30 : 30 < N
      ·have h30i : (30 : Int) < (N : Int) := by omega
       go_wp2
       go_ret
       exact lgq_true hBw
      have h30i : ¬ (30 : Int) < (N : Int) := by omega
      by_cases h3k : (3000 : Int) < n1
      ·go_wp2
       go_ret
       exact lgq_true hBw
      go_wp2
      go_ret
      have hkN2 := HE.out (by omega)
      have h9 := HT0.out
      have h10 := HN0.out
      have h11 := HR.out
      rw [List.take_of_length_le (by rw [hkN2, HL.out]; exact Nat.le_refl _)] at h9 h10 h11
      exact lgq_false (by rw [← HL.out]; omega) h9 (fun f hf => ⟨h10 f hf, h11 f hf⟩) hBw
   ·have hkk : k < N ∧ k < 40 := by simpa using hBd.symm
    clear hBd
    have hlt' : k < l.length := by rw [← HL.out]; exact hkk.1
    obtain ⟨g1, o1, xp, xb, xr, xc, xd, xe, rfl, -, hw1, hP1, hB1, hR1, hp, hb, hr, hr1⟩ := fds_row HF.out k hlt'
    have hbl := HLB.out _ (List.getElem_mem hlt')
    obtain ⟨q0, q1, q2, q3, q4⟩ := fiveR (range_stay hr1 hB)
    have hw1 : g1 < wr.heap.size := Nat.lt_of_lt_of_le hw1 hB.size
    obtain ⟨Lb, hLb1, hLb2, hLb3⟩ := sts_lie _ _ hB1
    have HP1 := Lib.hid hP1
    have HR1 := Lib.hid hR1
    have HT2 : Hid (szL ((L ++ Lb).map (·.x)) = totS (l.take (k + 1))) := Lib.hid (by rw [List.map_append, szL_app, HT.out, hLb1, List.take_succ_eq_append_getElem hlt', totS_app]; simp [totS])
    have HQ2 : Hid (ndS ((L ++ Lb).map (·.x)) → ∀ f ∈ l.take (k + 1), ndS f.bd) := Lib.hid (nd_step hlt' hLb1 HQ.out)
    have HK2 : Hid (∀ K ∈ L ++ Lb, K.is (fun b => b < w.heap.size) w) := Lib.hid (fun K hK => by
     rcases List.mem_append.1 hK with h1 | h1
     ·exact HK.out K h1
     ·exact hLb2 K h1)
    have hsrc : ∀ x, Below w.heap.size w x → 0 < l[k].bd.length → ∃ ad, xb = some ad ∧ ∀ j u, (sxs Lb)[j]? = some u → x.cell? (ad.add j) = some u := fun x hx h0 => by
     obtain ⟨b, o, rfl, -, hc⟩ := hLb3 h0
     exact ⟨_, rfl, fun j u hu => by rw [addp]; exact stay hx (hc j u hu)⟩
    have hlen : Lb.length = l[k].bd.length := by rw [← hLb1]; simp
    clear hP1 hR1 hB1 hr1 hLb1 hLb2 hLb3 HT HQ HK
    generalize l[k].nm = nm at *
    generalize l[k].sec = sec at *
    obtain ⟨np, hnp⟩ : ∃ np, np = l[k].ps.length := ⟨_, rfl⟩
    obtain ⟨nb, hnb⟩ : ∃ nb, nb = l[k].bd.length := ⟨_, rfl⟩
    obtain ⟨nr, hnr⟩ : ∃ nr, nr = l[k].rt.length := ⟨_, rfl⟩
    simp only [← hnp, ← hnb, ← hnr] at hp hb hr q0 q1 q2 q3 q4 hbl hsrc hlen
    have HNP := Lib.hid hnp
    have HNR := Lib.hid hnr
    have HLEN := Lib.hid hlen
    clear hnp hnb hnr hlen
    obtain ⟨W1, hW1⟩ : ∃ W1, wr.alloc (.cells #[.string (str nm), .slice xp np xc, .slice xb nb xd, .bool sec, .slice xr nr xe] 43) = W1 := ⟨_, rfl⟩
    have hBW1 : Below wr.heap.size wr W1 := by rw [← hW1]; exact aB (Below.refl _ _) _
    have s1 : rowG #[.string (str nm), .slice xp np xc, .slice xb nb xd, .bool sec, .slice xr nr xe] W1 wr.heap.size := by rw [← hW1]; exact rowG_at _ _ _ _ rfl
    have hown1 := own_of hown hBW1
    have hsw := hB.size
    obtain ⟨z0, z1, z2, z3, z4, zf, zl⟩ := fiveF s1
    obtain ⟨hkN1, hk401⟩ := hkk
    go_wp2_with (at_builtin; refine wpList_append_rowW W1 rfl _ _ 39 rfl W.heap.size 52 i0 _ 9 144 Tryz.underlying39 hi hz0 hz1 hz2 rfl (by decide) (.slice a M c) M (sxs L) rfl hown1 xb nb xd (sxs Lb) rfl (by rw [sxs_len, HLEN.out]) (hsrc W1 (tr hB hBW1)) (sxs_one _) (by unfold maxLen; omega) (by omega) (by have := hBr.size; omega) ?_; (intro a2 c2 w2 hown2 hgrow2); (have hog := only_grown hgrow2); (have s2 := rowG_only s1 hog (fun e => by have := (own_lt hown e.symm).2; omega)); (have hbw2 : Below W.heap.size W w2 := (tr hBr hBW1).trans (hog.below (B := W.heap.size) (fun j hj => (own_lt hown hj.symm).1) (tr hBr hBW1).size)); (clear z0 z1 z2 z3 z4 zf zl q0 q1 q2 q3 q4 hown hown1 hrp p0 pl hBW1 s1 hog hgrow2 hW1); (obtain ⟨z0, z1, z2, z3, z4, zf, zl⟩ := fiveF s2))
    clear z0 z1 z2 z3 z4 zf zl
    go_loopw [7] (fun iv wq => ∃ k2 : Nat, k2 ≤ nr ∧ k2 ≤ 20 ∧ iv = .int .i64 (k2 : Int) ∧ Hid (∀ i (h : i < l[k].rt.length), i < k2 → (l[k].rt[i]).nodes ≤ 9000) ∧ Below w2.heap.size w2 wq) (fun iv _ => nr - (intOf iv).toNat)
    case atStart => exact ⟨0, Nat.zero_le _, by omega, rfl, Lib.hid (fun i _ h => absurd h (Nat.not_lt_zero i)), Below.refl _ _⟩
    case round =>
     obtain ⟨k2, hk2, hk220, rfl, HE3, hBq⟩ := hrel
     have hs := rowG_b s2 hBq
     obtain ⟨z0, z1, z2, z3, z4, zf, zl⟩ := fiveF hs
     obtain ⟨B2, hBd2⟩ : ∃ B2, B2 = decide (k2 < nr ∧ k2 < 20) := ⟨_, rfl⟩
     go_upto_region 10 with fail
     go_cut [51] from 43 to 59 (fun cc wc => cc = .bool B2 ∧ wr = wc)
     case first =>
      subst hBd2
      by_cases h1 : k2 < nr
      ·by_cases h2 : k2 < 20
       ·go_wp2
        go_meet
        case rel => exact ⟨by first | (simp [h1, h2]; done) | (simp [h1, h2]; omega), rfl⟩
       ·go_wp2
        go_meet
        case rel => exact ⟨by first | (simp [h1, h2]; done) | (simp [h1, h2]; omega), rfl⟩
      ·go_wp2
       go_meet
       case rel => exact ⟨by simp [h1], rfl⟩
     case rest =>
      obtain ⟨rfl, rfl⟩ := hcut
      cases B2
      ·have HE2 : Hid (nr ≤ 10 → k2 = nr) := Lib.hid (fun h => by have h2 : ¬ (k2 < nr ∧ k2 < 20) := of_decide_eq_false hBd2.symm; omega)
       clear hBd2
       have hBx : Below W.heap.size W wr := tr hbw2 hBq
       have hsx := hs
       have hox := own_of hown2 hBq
       clear hs z0 z1 z2 z3 z4 zf zl s2 hbw2 hBq
       go_wp2
       go_loopw [3, 8] (fun nv iv wq => ∃ (k3 : Nat) (n3 : Int), k3 ≤ np ∧ k3 ≤ 40 ∧ nv = .int .i64 n3 ∧ iv = .int .i64 (k3 : Int) ∧ Below wr.heap.size wr wq) (fun _ iv _ => np - (intOf iv).toNat)
       case atStart => exact ⟨0, _, Nat.zero_le _, by omega, rfl, rfl, Below.refl _ _⟩
       case round =>
        obtain ⟨k3, n3, hk3, hk340, rfl, rfl, hBy⟩ := hrel
        have hs := rowG_b hsx hBy
        obtain ⟨z0, z1, z2, z3, z4, zf, zl⟩ := fiveF hs
        obtain ⟨B3, hBd3⟩ : ∃ B3, B3 = decide (k3 < np ∧ k3 < 40) := ⟨_, rfl⟩
        go_upto_region 15 with fail
        go_cut [68] from 60 to 80 (fun cc wc => cc = .bool B3 ∧ wr = wc)
        case first =>
         subst hBd3
         by_cases h1 : k3 < np
         ·by_cases h2 : k3 < 40
          ·go_wp2
           go_meet
           case rel => exact ⟨by first | (simp [h1, h2]; done) | (simp [h1, h2]; omega), rfl⟩
          ·go_wp2
           go_meet
           case rel => exact ⟨by first | (simp [h1, h2]; done) | (simp [h1, h2]; omega), rfl⟩
         ·go_wp2
          go_meet
          case rel => exact ⟨by simp [h1], rfl⟩
        case rest =>
         obtain ⟨rfl, rfl⟩ := hcut
         cases B3
         ·clear hBd3
          have hBz := tr hBx hBy
          have hBz0 := tr hBW hBz
          by_cases hn10 : 10 < nr
          ·have hn10' : (10 : Int) < (nr : Int) := by omega
           go_wp2
           go_ret
           exact lgq_true hBz0
          ·have hn10' : ¬ (10 : Int) < (nr : Int) := by omega
           by_cases hM9' : 900 < M + nb
           ·have hMi : (900 : Int) < (M : Int) + (nb : Int) := by omega
            go_wp2
            go_ret
            exact lgq_true hBz0
           ·have hMi : ¬ (900 : Int) < (M : Int) + (nb : Int) := by omega
            have hown3 := own_of hox hBy
            have HR2 : Hid (∀ f ∈ l.take (k + 1), ∀ x ∈ f.rt, x.nodes ≤ 9000) := Lib.hid (rt_step hlt' HR.out (fun i hi => HE3.out i hi (by rw [HE2.out (by omega), HNR.out]; exact hi)))
            go_wp2
            go_roundw
            case rel => first | exact ⟨k + 1, M + nb, L ++ Lb, _, _, _, by omega, by omega, by go_num, rfl, rfl, by omega, by rw [sxs_app]; exact hown3, Lib.hid (by rw [List.length_append, HLEN.out, HM.out]), HT2, HQ2, HR2, HK2, hBz⟩ | ((repeat apply Exists.intro); exact ⟨⟨k + 1, M + nb, L ++ Lb, _, _, _, by omega, by omega, by go_num, rfl, rfl, by omega, by rw [sxs_app]; exact hown3, Lib.hid (by rw [List.length_append, HLEN.out, HM.out]), HT2, HQ2, HR2, HK2, hBz⟩, rfl⟩)
            case measure => simp [intOf]; omega
         ·obtain ⟨hk3a, hk3b⟩ : k3 < np ∧ k3 < 40 := by simpa using hBd3.symm
          clear hBd3
          have hlp : k3 < l[k].ps.length := by rw [← HNP.out]; exact hk3a
          obtain ⟨gp, op1, rfl, -, c0, -, -, -⟩ := HP1.out k3 hlp
          have hBz0 := tr hBW (tr hBx hBy)
          have hgl : gp < wr.heap.size := Nat.lt_of_lt_of_le (World.block_lt_of_cell? w _ c0) hBz0.size
          have e0 := stay hBz0 c0
          clear c0
          go_wp2
          go_roundw
          case rel => first | exact ⟨k3 + 1, _, by omega, by omega, rfl, by go_num, hBy⟩ | ((repeat apply Exists.intro); exact ⟨⟨k3 + 1, _, by omega, by omega, rfl, by go_num, hBy⟩, rfl⟩)
          case measure => simp [intOf]; omega
      ·obtain ⟨hk2a, hk2b⟩ : k2 < nr ∧ k2 < 20 := by simpa using hBd2.symm
       clear hBd2
       have hlr : k2 < l[k].rt.length := by rw [← HNR.out]; exact hk2a
       obtain ⟨gr, go1, rfl⟩ := kids_some HR1.out (by omega)
       obtain ⟨ma', cap', c0, c1, c2', c3, c4, hE1⟩ := (kids_at _ gr go1 HR1.out k2 hlr).isE
       have hBq2 : Below w.heap.size w wr := tr hBW (tr hbw2 hBq)
       have hgl : gr < wr.heap.size := Nat.lt_of_lt_of_le (World.block_lt_of_cell? w _ c0) hBq2.size
       have e0 := stay hBq2 c0
       have e1 := stay hBq2 c1
       have e2 := stay hBq2 c2'
       have e3 := stay hBq2 c3
       have e4 := stay hBq2 c4
       have hLg := large07 l[k].rt[k2] _ wr ((hE1.of hBq2).mono (fun b hb => Nat.lt_of_lt_of_le hb hBq2.size))
       unfold LargeP at hLg
       clear c0 c1 c2' c3 c4 hE1
       go_wp2_with (go_at_call 16; ((with_reducible refine hLg.mono ?_); (rintro e w3 ⟨⟨bb, rfl, hbb⟩, hb3⟩); (have HBB := Lib.hid hbb); clear hbb; cases bb))
       ·have HE6 : Hid (∀ i (h : i < l[k].rt.length), i < k2 + 1 → (l[k].rt[i]).nodes ≤ 9000) := Lib.hid (nd_next HE3.out (HBB.out (by first | rfl | trivial)))
        clear HBB HE3
        go_roundw
        case rel => first | exact ⟨k2 + 1, by omega, by omega, by go_num, HE6, tr hBq hb3⟩ | ((repeat apply Exists.intro); exact ⟨⟨k2 + 1, by omega, by omega, by go_num, HE6, tr hBq hb3⟩, rfl⟩)
        case measure => simp [intOf]; omega
       ·go_ret
        exact lgq_true (tr hBq2 hb3)
end Go.Proofs.YtfbjljcmmbdhkaaGreatDoor
