/- CpuApart: its walk. -/
import Derived.Test.YtcckgfablfgknaaGreatDoorAh
namespace Go.Proofs.YtcckgfablfgknaaGreatDoor.m4
open Go.ChangeShapes Go.WideShapes Go.ChangeAt Go.RowKit
set_option linter.unusedVariables false
set_option maxRecDepth 100000 in
set_option maxHeartbeats 16000000 in
theorem apart_walk (x : Su) (hx : x.small) (b : Nat) (hb : b < 18446744073709551616) (st : Nat) (hst : st < 65536) (w : World) (hT : Tb w) (hS : SuIn w x) : Calls Tryz.prog 5 #[x.val, .int .u64 (b : Nat), .int .u16 (st : Nat)] w fun e w' => e = .returned (.bool true) ∧ Below w.heap.size w w' := by
  have hHv := heavy_no x hx
  have hBt := built_cx x hx
  have hTu := turned_any x hx b hb
  have hBu : ∀ a2 c2 a3 c3 w, SuIn w (x.trn b a2 c2 a3 c3) → Calls Tryz.prog 10 #[(x.trn b a2 c2 a3 c3).val] w (BxP w x.l1.length (x.trn b a2 c2 a3 c3).ms) := fun a2 c2 a3 c3 w h => built_cx (x.trn b a2 c2 a3 c3) (trn_small hx b a2 c2 a3 c3) w h
  have hAg := ms_ag x hx.1 b
  have hx1 := hx.1
  have hm : (st : Int).tmod 300 = ((st % 300 : Nat) : Int) := by rw [Int.tmod_eq_emod_of_nonneg (by omega)]; omega
  obtain ⟨m, hme⟩ : ∃ m, st % 300 = m := ⟨_, rfl⟩
  rw [hme] at hm
  have hm3 : m < 300 := by omega
  clear hme
  obtain ⟨wb, hwb⟩ : ∃ wb, w.alloc (.cells #[.slice x.a1 x.l1.length x.c1, .slice x.a2 x.l2.length x.c2, .slice x.a3 x.l3.length x.c3] 25) = wb := ⟨_, rfl⟩
  have hBb : Below w.heap.size w wb := by rw [← hwb]; exact aBelow (Below.refl _ _) _
  have g0 : wb.cell? ⟨w.heap.size, 0, none⟩ = some (.slice x.a1 x.l1.length x.c1) := by rw [← hwb]; exact nwc _ _ _ _
  have g1 : wb.cell? ⟨w.heap.size, 1, none⟩ = some (.slice x.a2 x.l2.length x.c2) := by rw [← hwb]; exact nwc _ _ _ _
  have g2 : wb.cell? ⟨w.heap.size, 2, none⟩ = some (.slice x.a3 x.l3.length x.c3) := by rw [← hwb]; exact nwc _ _ _ _
  unfold Su.val at hHv hBt hTu hBu ⊢
  go_enter Tryz.func5, Tryz.ntmps5
  go_wp2_with (first
    | (go_at_call 8; (with_reducible refine (hHv _).mono ?_); (rintro e wc ⟨rfl, hbc⟩); have q0 := stay hbc g0; have q1 := stay hbc g1; have q2 := stay hbc g2; have hB1 := below_trans' hBb (Nat.le_refl _) hbc; have hTc := hT.of hB1; have hSc := hS.of hB1; have hb1 := hBt wc hSc)
    | (go_at_call 10; (with_reducible refine (hb1).mono ?_); (rintro e w2 ⟨M, rfl, hl, hC, hA⟩); have q0 := stay hC.b q0; have q1 := stay hC.b q1; have q2 := stay hC.b q2; have hS2 := hSc.of hC.b; have hb2 := hTu w2 hS2)
    | (go_at_call 24; (with_reducible refine (hb2).mono ?_); (rintro e w3 ⟨⟨a2, k2, a3, k3, rfl, hS3⟩, hb3⟩); have hC := hC.of hb3; have hb4 := hBu a2 k2 a3 k3 w3 hS3)
    | (go_at_call 10; (with_reducible refine (hb4).mono ?_); (rintro e w4 ⟨D, rfl, dl, hD, dA⟩); have hTm0 : Tm wc w4 M D x.ms (x.trn b a2 k2 a3 k3).ms := ⟨hC.of hD.b, hD.base hC.b, fun j hj hd => by have := hC.c.all_lt hj; have := dA j hd; omega⟩))
  have hTm := hTm0
  have hag := hAg a2 k2 a3 k3
  obtain ⟨s0, hs0⟩ : ∃ s0, x.ms = s0 := ⟨_, rfl⟩
  obtain ⟨t0, ht0⟩ : ∃ t0, (x.trn b a2 k2 a3 k3).ms = t0 := ⟨_, rfl⟩
  have htr0 : s0.tr.length = 0 := by rw [← hs0]; show ((x.rgM x.l2.length).tr).length = 0; rw [(rgM_bv x _).2.2.2.1]; rfl
  rw [hs0, ht0] at hTm hag
  obtain ⟨N, hN⟩ : ∃ N, x.l1.length = N := ⟨_, rfl⟩
  rw [hN] at hl dl hx1 hag
  clear hHv hBt hTu hBu hAg hs0 ht0 hN g0 g1 g2 hTm0 hC hD hA dA
  go_loopw [11] (fun i wr => ∃ (k : Nat) (M' D' : Mc) (s t : Ms), i = .int .i64 k ∧ k ≤ m ∧ Sp M M' ∧ Sp D D' ∧ Tm wc wr M' D' s t ∧ Ag N True s t ∧ s.tr.length = k) (fun i _ => m - (intOf i).toNat)
  case atStart => exact ⟨0, M, D, s0, t0, rfl, Nat.zero_le _, ⟨rfl, rfl⟩, ⟨rfl, rfl⟩, hTm, hag, htr0⟩
  case round =>
    clear hTm hag htr0
    obtain ⟨k, M', D', s, t, rfl, hk, hM, hD, hTm, hag, htr⟩ := hrel
    have lM : M'.x.l = rgs N := by rw [hM.2]; exact hl
    have lD : D'.x.l = rgs N := by rw [hD.2]; exact dl
    by_cases hlt : k < m
    · have i0 : (0 : Int) ≤ (k : Int) := by omega
      have i1 : (k : Int) < (m : Int) := by omega
      obtain ⟨e1, s1, hst1⟩ : ∃ e1 s1, stF (rgs N) s = (e1, s1) := ⟨_, _, rfl⟩
      have hSc := step_cx hTc hTm.a
      rw [lM, hst1, hM.1] at hSc
      by_cases he : e1 = 0
      · subst he
        obtain ⟨X, hX, hgo⟩ := st_ag hag hst1
        have hlen1 : s1.tr.length = k + 1 := by rw [hX, List.length_append, htr]; rfl
        have hlast : sng s1.tr k = X := by rw [hX, ← htr]; exact sng_snoc _ _
        have k1 : (((k + 1 : Nat) : Int)) = (k : Int) + 1 := by omega
        have i2 : (k : Int) < (k : Int) + 1 := by omega
        obtain ⟨Xp, Xk, Xa, Xb, Xt⟩ := X
        cases Xt with
        | true =>
          clear hgo hX
          go_wp2_with (first
            | (go_at_call 12; (with_reducible refine (hSc).mono ?_); (rintro e w5 ⟨M2, hn, rfl, hC2, hO2⟩); have hT5 := hTm.left hn hC2 hO2; have hM2 := hM.nxt hn; have hR1 := trace_new hT5.a; rw [hM2.1, hlen1] at hR1)
            | (go_at_call 20; (with_reducible refine (hR1).mono ?_); (rintro e w6 ⟨⟨ar, cr, rfl, hr1, hn1⟩, hb6⟩); have hT6 := hT5.of hb6; obtain ⟨ga, oa, rfl, a0, a1, a2c, a3c, a4⟩ := hr1 k (by omega); rw [hlast] at a0 a1 a2c a3c a4; have hBz := below_trans' hB1 (Nat.le_refl _) hT6.a.b; have hAl := alive_any _ (hT.of hBz))
            | (go_at_call 9; (with_reducible refine (hAl).mono ?_); (rintro e wz ⟨rfl, hbz⟩)))
          go_ret
          exact ⟨rfl, below_trans' hBz (Nat.le_refl _) hbz⟩
        | false =>
          obtain ⟨t1, hst2, htr2, hag1⟩ := hgo rfl
          rw [← hX] at htr2
          have hlen2 : t1.tr.length = k + 1 := by rw [htr2, hlen1]
          clear hgo hX
          go_wp2_with (first
            | (go_at_call 12; (with_reducible refine (hSc).mono ?_); (rintro e w5 ⟨M2, hn, rfl, hC2, hO2⟩); have hT5 := hTm.left hn hC2 hO2; have hM2 := hM.nxt hn; have hR1 := trace_new hT5.a; rw [hM2.1, hlen1] at hR1)
            | (go_at_call 20; (with_reducible refine (hR1).mono ?_); (rintro e w6 ⟨⟨ar, cr, rfl, hr1, hn1⟩, hb6⟩); have hT6 := hT5.of hb6; have hfar : ∀ g o, ar = some ⟨g, o, none⟩ → ¬ D'.own g := (fun g o ha hd => by have := hn1 g o ha; have := hT5.b.c.all_lt (.inl hd); omega); obtain ⟨ga, oa, rfl, a0, a1, a2c, a3c, a4⟩ := hr1 k (by omega); rw [hlast] at a0 a1 a2c a3c a4; have hSd := step_cx hTc hT6.b; rw [lD, hst2, hD.1] at hSd)
            | (go_at_call 12; (with_reducible refine (hSd).mono ?_); (rintro e w7 ⟨D2, hn2, rfl, hD2, hO7⟩); have hT7 := hT6.right hn2 hD2 hO7; have hD3 := hD.nxt hn2; have ng := hfar ga oa rfl; have a0 := hO7.cell (a := ⟨ga, _, none⟩) ng a0; have a1 := hO7.cell (a := ⟨ga, _, none⟩) ng a1; have a2c := hO7.cell (a := ⟨ga, _, none⟩) ng a2c; have a3c := hO7.cell (a := ⟨ga, _, none⟩) ng a3c; have a4 := hO7.cell (a := ⟨ga, _, none⟩) ng a4; have hR2 := trace_new hT7.b; rw [hD3.1, hlen2] at hR2)
            | (go_at_call 20; (with_reducible refine (hR2).mono ?_); (rintro e w8 ⟨⟨br, cr2, rfl, hr2, hn8⟩, hb8⟩); have hT8 := hT7.of hb8; have a0 := stay hb8 a0; have a1 := stay hb8 a1; have a2c := stay hb8 a2c; have a3c := stay hb8 a3c; have a4 := stay hb8 a4; rw [htr2] at hr2; obtain ⟨gb, ob, rfl, b0, b1, b2, b3, b4⟩ := hr2 k (by omega); rw [hlast] at b0 b1 b2 b3 b4))
          have hPc1 : ∀ w', Below w8.heap.size w8 w' → Calls Tryz.prog 18 #[.pointer (some ⟨M.cb, 0, none⟩)] w' fun e w'' => e = .returned (.int .u64 (s1.pc : Nat)) ∧ w' = w'' := fun w' hb' => by have := pc_any (hT8.of hb').a.c; rw [hM2.1] at this; exact this
          have hPc2 : ∀ w', Below w8.heap.size w8 w' → Calls Tryz.prog 18 #[.pointer (some ⟨D.cb, 0, none⟩)] w' fun e w'' => e = .returned (.int .u64 (s1.pc : Nat)) ∧ w' = w'' := fun w' hb' => by have := pc_any (hT8.of hb').b.c; rw [hD3.1, ← hag1.pc] at this; exact this
          have hwr : IntKind.i64.wrap ((k : Int) + 1) = (k : Int) + 1 := by rw [IntKind.wrap_i64]; omega
          refine region_below (by kernel_rfl) (by kernel_rfl) ?_
          repeat (first
            | go_big_quiet_skip
            | (refine BigFrame.wpQuiet_want (by kernel_rfl) fun K hK => ?_
               apply Exists.intro
               refine ⟨fun w' hb' => ?_, ?_⟩
               · have s0 := stay hb' a0
                 have s1 := stay hb' a1
                 have s2 := stay hb' a2c
                 have s3 := stay hb' a3c
                 have s4 := stay hb' a4
                 have s5 := stay hb' b0
                 have s6 := stay hb' b1
                 have s7 := stay hb' b2
                 have s8 := stay hb' b3
                 have s9 := stay hb' b4
                 go_simp
                 first
                   | exact rfl
                   | exact ⟨rfl, hb'⟩
                   | (go_at_call 18
                      exact (hPc1 w' hb').mono fun e w'' ⟨he, hb2⟩ => ⟨he, by rw [← hb2]; exact hb'⟩)
                   | (go_at_call 18
                      exact (hPc2 w' hb').mono fun e w'' ⟨he, hb2⟩ => ⟨he, by rw [← hb2]; exact hb'⟩)
               go_simp
               refine hK _ ?_
               clear hK K))
          refine wpQuiet_nil ?_
          intro w9 hb9
          have hT9 := hT8.of hb9
          have a1 := stay hb9 a1
          have hlen3 := Nat.le_trans hT9.a.k hT9.a.c.ok.n
          by_cases hk5 : Xk = 5
          · have hke : (Xk : Int) = 5 := by omega
            have hQ1 := told_row hT9.a
            rw [hM2.1] at hQ1
            have hQ2 := fun (wq : World) (hq : Below w9.heap.size w9 wq) => told_row (hT9.of hq).b
            rw [hD3.1] at hQ2
            by_cases hAV : ∀ i, i < s1.told.length → (tlg s1.told i).1 = (tlg t1.told i).1
            · have hag2 : Ag N True s1 t1 := hag1.weak fun _ _ => allV_of hag1.tl hAV
              go_wp2_with (first
                | (go_at_call 22; (with_reducible refine (hQ1).mono ?_); (rintro e w10 ⟨⟨ta, ca, rfl, hta⟩, hb10⟩); have hT10 := hT9.of hb10; have hQ3 := hQ2 w10 hb10)
                | (go_at_call 22; (with_reducible refine (hQ3).mono ?_); (rintro e w11 ⟨⟨tb, cb, rfl, htb⟩, hb11⟩); have hT11 := hT10.of hb11; have hAk := (alike_any s1.told t1.told ta tb ca cb hag1.tl (by omega) w11 (hta.of hb11) htb).mono (R' := fun e w'' => e = .returned (.bool true) ∧ Below w11.heap.size w11 w'') fun e w'' ⟨⟨r, he, hr⟩, hb⟩ => ⟨by rw [he, hr.2 hAV], hb⟩)
                | (go_at_call 25; (with_reducible refine (hAk).mono ?_); (rintro e w12 ⟨rfl, hb12⟩)))
              have hT12 := hT11.of hb12
              have hOa := over_any hT12.a.c
              rw [hM2.1] at hOa
              have hOb := fun (wq : World) (hq : Below w12.heap.size w12 wq) => over_any (hT12.of hq).b.c
              rw [hD3.1, ← hag2.ov, ← hag2.cd] at hOb
              have lM2 : M2.x.l = rgs N := by rw [hM2.2]; exact hl
              have lD2 : D2.x.l = rgs N := by rw [hD3.2]; exact dl
              cases hov : s1.ov with
              | true =>
                rw [hov] at hOa hOb
                by_cases hk8 : k % 8 = 0
                · have hk9 : (k : Int).tmod 8 = 0 := by rw [Int.tmod_eq_emod_of_nonneg (by omega)]; omega
                  go_wp2_with (first
                    | (go_at_call 15; (with_reducible refine (hOa).mono ?_); (rintro e wa ⟨rfl, hba⟩); have hTa := hT12.of hba; have hOc := hOb wa hba)
                    | (go_at_call 15; (with_reducible refine (hOc).mono ?_); (rintro e wd ⟨rfl, hbd⟩); have hTd := hTa.of hbd; have hGr := agree_any hx1 hTd hM2 hD3 lM2 lD2 hag2)
                    | (go_at_call 26; (with_reducible refine (hGr).mono ?_); (rintro e wg ⟨rfl, hbg⟩); have hTg := hTd.of hbg; have hBz := below_trans' hB1 (Nat.le_refl _) hTg.a.b; have hAl := alive_any _ (hT.of hBz))
                    | (go_at_call 9; (with_reducible refine (hAl).mono ?_); (rintro e wz ⟨rfl, hbz⟩)))
                  go_ret
                  exact ⟨rfl, below_trans' hBz (Nat.le_refl _) hbz⟩
                · have hk9 : (k : Int).tmod 8 = ((k % 8 : Nat) : Int) := by rw [Int.tmod_eq_emod_of_nonneg (by omega)]; omega
                  obtain ⟨z, hz⟩ : ∃ z, k % 8 = z := ⟨_, rfl⟩
                  rw [hz] at hk9 hk8
                  have hz1 : ¬ (z : Int) = 0 := by omega
                  have hz2 : ((z : Int) == 0) = false := by simp; omega
                  go_wp2_with (first
                    | (go_at_call 15; (with_reducible refine (hOa).mono ?_); (rintro e wa ⟨rfl, hba⟩); have hTa := hT12.of hba; have hOc := hOb wa hba)
                    | (go_at_call 15; (with_reducible refine (hOc).mono ?_); (rintro e wd ⟨rfl, hbd⟩); have hTd := hTa.of hbd; have hGr := agree_any hx1 hTd hM2 hD3 lM2 lD2 hag2)
                    | (go_at_call 26; (with_reducible refine (hGr).mono ?_); (rintro e wg ⟨rfl, hbg⟩); have hTg := hTd.of hbg; have hBz := below_trans' hB1 (Nat.le_refl _) hTg.a.b; have hAl := alive_any _ (hT.of hBz))
                    | (go_at_call 9; (with_reducible refine (hAl).mono ?_); (rintro e wz ⟨rfl, hbz⟩)))
                  go_ret
                  exact ⟨rfl, below_trans' hBz (Nat.le_refl _) hbz⟩
              | false =>
                rw [hov] at hOa hOb
                by_cases hk8 : k % 8 = 0
                · have hk9 : (k : Int).tmod 8 = 0 := by rw [Int.tmod_eq_emod_of_nonneg (by omega)]; omega
                  go_wp2_with (first
                    | (go_at_call 15; (with_reducible refine (hOa).mono ?_); (rintro e wa ⟨rfl, hba⟩); have hTa := hT12.of hba; have hOc := hOb wa hba)
                    | (go_at_call 15; (with_reducible refine (hOc).mono ?_); (rintro e wd ⟨rfl, hbd⟩); have hTd := hTa.of hbd; have hGr := agree_any hx1 hTd hM2 hD3 lM2 lD2 hag2)
                    | (go_at_call 26; (with_reducible refine (hGr).mono ?_); (rintro e wg ⟨rfl, hbg⟩); have hTg := hTd.of hbg))
                  go_roundw
                  case rel => exact ⟨k + 1, M2, D2, s1, t1, by go_num, by omega, hM2, hD3, hTg, hag2, hlen1⟩
                  case measure => first | (simp [intOf]; done) | (simp [intOf]; omega)
                · have hk9 : (k : Int).tmod 8 = ((k % 8 : Nat) : Int) := by rw [Int.tmod_eq_emod_of_nonneg (by omega)]; omega
                  obtain ⟨z, hz⟩ : ∃ z, k % 8 = z := ⟨_, rfl⟩
                  rw [hz] at hk9 hk8
                  have hz1 : ¬ (z : Int) = 0 := by omega
                  have hz2 : ((z : Int) == 0) = false := by simp; omega
                  go_wp2_with (first
                    | (go_at_call 15; (with_reducible refine (hOa).mono ?_); (rintro e wa ⟨rfl, hba⟩); have hTa := hT12.of hba; have hOc := hOb wa hba)
                    | (go_at_call 15; (with_reducible refine (hOc).mono ?_); (rintro e wd ⟨rfl, hbd⟩); have hTd := hTa.of hbd))
                  go_roundw
                  case rel => exact ⟨k + 1, M2, D2, s1, t1, by go_num, by omega, hM2, hD3, hTd, hag2, hlen1⟩
                  case measure => first | (simp [intOf]; done) | (simp [intOf]; omega)
            · clear hag
              go_wp2_with (first
                | (go_at_call 22; (with_reducible refine (hQ1).mono ?_); (rintro e w10 ⟨⟨ta, ca, rfl, hta⟩, hb10⟩); have hT10 := hT9.of hb10; have hQ3 := hQ2 w10 hb10)
                | (go_at_call 22; (with_reducible refine (hQ3).mono ?_); (rintro e w11 ⟨⟨tb, cb, rfl, htb⟩, hb11⟩); have hT11 := hT10.of hb11; have hAk := (alike_any s1.told t1.told ta tb ca cb hag1.tl (by omega) w11 (hta.of hb11) htb).mono (R' := fun e w'' => e = .returned (.bool false) ∧ Below w11.heap.size w11 w'') fun e w'' ⟨⟨r, he, hr⟩, hb⟩ => ⟨by rw [he, (show r = false by cases r with | false => rfl | true => exact absurd (hr.1 rfl) hAV)], hb⟩)
                | (go_at_call 25; (with_reducible refine (hAk).mono ?_); (rintro e w12 ⟨rfl, hb12⟩); have hT12 := hT11.of hb12; have hBz := below_trans' hB1 (Nat.le_refl _) hT12.a.b; have hAl := alive_any _ (hT.of hBz))
                | (go_at_call 9; (with_reducible refine (hAl).mono ?_); (rintro e wz ⟨rfl, hbz⟩)))
              go_ret
              exact ⟨rfl, below_trans' hBz (Nat.le_refl _) hbz⟩
          · have hag2 : Ag N True s1 t1 := hag1.weak fun _ h => absurd h hk5
            have hke : ¬ (Xk : Int) = 5 := by omega
            have hkb : ((Xk : Int) == 5) = false := by simp; omega
            go_wp2_with fail
            have hOa := over_any hT9.a.c
            rw [hM2.1] at hOa
            have hOb := fun (wq : World) (hq : Below w9.heap.size w9 wq) => over_any (hT9.of hq).b.c
            rw [hD3.1, ← hag2.ov, ← hag2.cd] at hOb
            have lM2 : M2.x.l = rgs N := by rw [hM2.2]; exact hl
            have lD2 : D2.x.l = rgs N := by rw [hD3.2]; exact dl
            cases hov : s1.ov with
            | true =>
              rw [hov] at hOa hOb
              by_cases hk8 : k % 8 = 0
              · have hk9 : (k : Int).tmod 8 = 0 := by rw [Int.tmod_eq_emod_of_nonneg (by omega)]; omega
                go_wp2_with (first
                  | (go_at_call 15; (with_reducible refine (hOa).mono ?_); (rintro e wa ⟨rfl, hba⟩); have hTa := hT9.of hba; have hOc := hOb wa hba)
                  | (go_at_call 15; (with_reducible refine (hOc).mono ?_); (rintro e wd ⟨rfl, hbd⟩); have hTd := hTa.of hbd; have hGr := agree_any hx1 hTd hM2 hD3 lM2 lD2 hag2)
                  | (go_at_call 26; (with_reducible refine (hGr).mono ?_); (rintro e wg ⟨rfl, hbg⟩); have hTg := hTd.of hbg; have hBz := below_trans' hB1 (Nat.le_refl _) hTg.a.b; have hAl := alive_any _ (hT.of hBz))
                  | (go_at_call 9; (with_reducible refine (hAl).mono ?_); (rintro e wz ⟨rfl, hbz⟩)))
                go_ret
                exact ⟨rfl, below_trans' hBz (Nat.le_refl _) hbz⟩
              · have hk9 : (k : Int).tmod 8 = ((k % 8 : Nat) : Int) := by rw [Int.tmod_eq_emod_of_nonneg (by omega)]; omega
                obtain ⟨z, hz⟩ : ∃ z, k % 8 = z := ⟨_, rfl⟩
                rw [hz] at hk9 hk8
                have hz1 : ¬ (z : Int) = 0 := by omega
                have hz2 : ((z : Int) == 0) = false := by simp; omega
                go_wp2_with (first
                  | (go_at_call 15; (with_reducible refine (hOa).mono ?_); (rintro e wa ⟨rfl, hba⟩); have hTa := hT9.of hba; have hOc := hOb wa hba)
                  | (go_at_call 15; (with_reducible refine (hOc).mono ?_); (rintro e wd ⟨rfl, hbd⟩); have hTd := hTa.of hbd; have hGr := agree_any hx1 hTd hM2 hD3 lM2 lD2 hag2)
                  | (go_at_call 26; (with_reducible refine (hGr).mono ?_); (rintro e wg ⟨rfl, hbg⟩); have hTg := hTd.of hbg; have hBz := below_trans' hB1 (Nat.le_refl _) hTg.a.b; have hAl := alive_any _ (hT.of hBz))
                  | (go_at_call 9; (with_reducible refine (hAl).mono ?_); (rintro e wz ⟨rfl, hbz⟩)))
                go_ret
                exact ⟨rfl, below_trans' hBz (Nat.le_refl _) hbz⟩
            | false =>
              rw [hov] at hOa hOb
              by_cases hk8 : k % 8 = 0
              · have hk9 : (k : Int).tmod 8 = 0 := by rw [Int.tmod_eq_emod_of_nonneg (by omega)]; omega
                go_wp2_with (first
                  | (go_at_call 15; (with_reducible refine (hOa).mono ?_); (rintro e wa ⟨rfl, hba⟩); have hTa := hT9.of hba; have hOc := hOb wa hba)
                  | (go_at_call 15; (with_reducible refine (hOc).mono ?_); (rintro e wd ⟨rfl, hbd⟩); have hTd := hTa.of hbd; have hGr := agree_any hx1 hTd hM2 hD3 lM2 lD2 hag2)
                  | (go_at_call 26; (with_reducible refine (hGr).mono ?_); (rintro e wg ⟨rfl, hbg⟩); have hTg := hTd.of hbg))
                go_roundw
                case rel => exact ⟨k + 1, M2, D2, s1, t1, by go_num, by omega, hM2, hD3, hTg, hag2, hlen1⟩
                case measure => first | (simp [intOf]; done) | (simp [intOf]; omega)
              · have hk9 : (k : Int).tmod 8 = ((k % 8 : Nat) : Int) := by rw [Int.tmod_eq_emod_of_nonneg (by omega)]; omega
                obtain ⟨z, hz⟩ : ∃ z, k % 8 = z := ⟨_, rfl⟩
                rw [hz] at hk9 hk8
                have hz1 : ¬ (z : Int) = 0 := by omega
                have hz2 : ((z : Int) == 0) = false := by simp; omega
                go_wp2_with (first
                  | (go_at_call 15; (with_reducible refine (hOa).mono ?_); (rintro e wa ⟨rfl, hba⟩); have hTa := hT9.of hba; have hOc := hOb wa hba)
                  | (go_at_call 15; (with_reducible refine (hOc).mono ?_); (rintro e wd ⟨rfl, hbd⟩); have hTd := hTa.of hbd))
                go_roundw
                case rel => exact ⟨k + 1, M2, D2, s1, t1, by go_num, by omega, hM2, hD3, hTd, hag2, hlen1⟩
                case measure => first | (simp [intOf]; done) | (simp [intOf]; omega)
      · clear hag
        have heb : (e1 != 0) = true := by simp [he]
        have heb2 : (e1 == 0) = false := by simp [he]
        go_wp2_with (first
          | (go_at_call 12; (with_reducible refine (hSc).mono ?_); (rintro e w5 ⟨M2, hn, rfl, hC2, hO2⟩); have hT5 := hTm.left hn hC2 hO2; have hM2 := hM.nxt hn; have hR1 := trace_row hT5.a; rw [hM2.1] at hR1)
          | (go_at_call 20; (with_reducible refine (hR1).mono ?_); (rintro e w6 ⟨⟨ar, cr, rfl, hr1⟩, hb6⟩); have hT6 := hT5.of hb6; have hBz := below_trans' hB1 (Nat.le_refl _) hT6.a.b; have hAl := alive_any _ (hT.of hBz))
          | (go_at_call 9; (with_reducible refine (hAl).mono ?_); (rintro e wz ⟨rfl, hbz⟩)))
        go_ret
        exact ⟨rfl, below_trans' hBz (Nat.le_refl _) hbz⟩
    · obtain rfl : k = m := by omega
      have hGr := agree_any hx1 hTm hM hD lM lD hag
      go_wp2_with (first
        | (go_at_call 26; (with_reducible refine (hGr).mono ?_); (rintro e w6 ⟨rfl, hb6⟩); have hT6 := hTm.of hb6; have hBz := below_trans' hB1 (Nat.le_refl _) hT6.a.b; have hAl := alive_any _ (hT.of hBz))
        | (go_at_call 9; (with_reducible refine (hAl).mono ?_); (rintro e wz ⟨rfl, hbz⟩)))
      go_ret
      exact ⟨rfl, below_trans' hBz (Nat.le_refl _) hbz⟩
end Go.Proofs.YtcckgfablfgknaaGreatDoor.m4
