/- CpuRuns: what its loops keep; its walk. -/
import Derived.Test.YtcckgfablfgknaaGreatDoorRow
import Derived.Test.YtcckgfablfgknaaGreatDoorRs
import Derived.Test.YtcckgfablfgknaaGreatDoorBs
import Derived.Deep.CutRange
namespace Go.Proofs.YtcckgfablfgknaaGreatDoor.m4
open Go.ChangeShapes Go.WideShapes Go.ChangeAt Go.RowKit
set_option linter.unusedVariables false
theorem exF_ne (l : List Rg) (s : Ms) (x : In) : (exF l s x).e ≠ 52 := by
  have ld : ∀ m, (exLoad l s x m).e ≠ 52 := fun m => by
    show (ldF l s.bv s.tv (s.at x) m).2.2 ≠ 52
    unfold ldF
    repeat' split
    all_goals first | decide | (show (0 : Int) ≠ 52; decide)
  have st : ∀ m, (exStore l s x m).e ≠ 52 := fun m => by
    show stE l (s.at x) m ≠ 52
    unfold stE
    repeat' split
    all_goals first | decide | (show (0 : Int) ≠ 52; decide)
  unfold exF
  repeat' split
  all_goals first | exact ld _ | exact st _ | exact (by decide : (0 : Int) ≠ 52) | skip
  show (if 5 < s.rv 17 then (51 : Int) else 0) ≠ 52
  split <;> decide
theorem stF_ne (l : List Rg) (s : Ms) : (stF l s).1 ≠ 52 := by
  unfold stF
  split
  · exact (by decide : (50 : Int) ≠ 52)
  split
  · exact (by decide : (4 : Int) ≠ 52)
  unfold doF
  split
  · split
    · unfold exE
      split
      · exact (by decide : (0 : Int) ≠ 52)
      · exact exF_ne _ _ _
    · exact (by decide : (7 : Int) ≠ 52)
  · show (feF l s.bv s.pc).2 ≠ 52
    unfold feF
    repeat' split
    all_goals first | decide | (show (0 : Int) ≠ 52; decide)
/-- A block that neither machine has. -/
structure Fr (w : World) (M D : Mc) (g : Nat) : Prop where
  lt : g < w.heap.size
  m : ¬ M.all g
  d : ¬ D.all g
theorem Fr.of {w w' : World} {M D : Mc} {g : Nat} (h : Fr w M D g) (hb : Below w.heap.size w w') : Fr w' M D g := ⟨Nat.lt_of_lt_of_le h.lt hb.size, h.m, h.d⟩
theorem Fr.left {w w' : World} {M M' D : Mc} {g : Nat} (h : Fr w M D g) (hn : Mc.nxt w M M') (ho : Only M.own w w') : Fr w' M' D g := ⟨Nat.lt_of_lt_of_le h.lt ho.size, fun e => by
  rcases nxt_all hn e with h1 | h1
  · exact h.m h1
  · have := h.lt; omega, h.d⟩
theorem Fr.right {w w' : World} {M D D' : Mc} {g : Nat} (h : Fr w M D g) (hn : Mc.nxt w D D') (ho : Only D.own w w') : Fr w' M D' g := ⟨Nat.lt_of_lt_of_le h.lt ho.size, h.m, fun e => by
  rcases nxt_all hn e with h1 | h1
  · exact h.d h1
  · have := h.lt; omega⟩
theorem Fr.cellL {w w' : World} {M D : Mc} {g o : Nat} {v : Value} (h : Fr w M D g) (ho : Only M.own w w') (hc : w.cell? ⟨g, o, none⟩ = some v) : w'.cell? ⟨g, o, none⟩ = some v := ho.cell (a := ⟨g, o, none⟩) (fun e => h.m (.inl e)) hc
theorem Fr.cellR {w w' : World} {M D : Mc} {g o : Nat} {v : Value} (h : Fr w M D g) (ho : Only D.own w w') (hc : w.cell? ⟨g, o, none⟩ = some v) : w'.cell? ⟨g, o, none⟩ = some v := ho.cell (a := ⟨g, o, none⟩) (fun e => h.d (.inl e)) hc
/-- Where the run of steps stands: f is what the law holds. -/
def StdR (l : List Rg) (n k : Nat) (s0 t : Ms) (f : Int) : Prop := (f = 52 ∧ rnF l n s0 = rnF l (n - k) t) ∨ (f ≠ 52 ∧ rnF l n s0 = (f, t))
theorem StdR.fin {l : List Rg} {n k : Nat} {s0 t : Ms} {f : Int} (h : StdR l n k s0 t f) (hk : n ≤ k ∨ f ≠ 52) : rnF l n s0 = (f, t) := by
  rcases h with ⟨h1, h2⟩ | ⟨_, h2⟩
  · rcases hk with hk | hk
    · rw [h2, show n - k = 0 by omega, h1]; rfl
    · exact absurd h1 hk
  · exact h2
theorem StdR.stop {l : List Rg} {n k : Nat} {s0 t : Ms} (h : StdR l n k s0 t 52) (hk : k < n) (hs : (stF l t).2.ov = true ∨ (stF l t).1 ≠ 0) : StdR l n (k + 1) s0 (stF l t).2 (stF l t).1 := by
  rcases h with ⟨_, h2⟩ | ⟨h1, _⟩
  · right
    refine ⟨stF_ne l t, ?_⟩
    rw [h2, show n - k = (n - k - 1) + 1 by omega, rnF_stop (hs.symm)]
  · exact absurd rfl h1
theorem StdR.go {l : List Rg} {n k : Nat} {s0 t : Ms} (h : StdR l n k s0 t 52) (hk : k < n) (hs : ¬ ((stF l t).2.ov = true ∨ (stF l t).1 ≠ 0)) : StdR l n (k + 1) s0 (stF l t).2 52 := by
  rcases h with ⟨_, h2⟩ | ⟨h1, _⟩
  · left
    refine ⟨rfl, ?_⟩
    rw [h2, show n - k = (n - (k + 1)) + 1 by omega, rnF_go (fun hh => hs hh.symm)]
  · exact absurd rfl h1
def Sp (M M' : Mc) : Prop := M'.cb = M.cb ∧ M'.x = M.x
theorem Sp.nxt {w : World} {M M' M2 : Mc} (h : Sp M M') (hn : Mc.nxt w M' M2) : Sp M M2 := ⟨hn.1.trans h.1, hn.2.1.trans h.2⟩
/-- The taints of a row of bytes. -/
theorem row_bools {w : World} {b q n : Nat} {v : Value} {tv : Nat → Bool} (h : w.ownsRow b 4 1 v (tl tv q n).length (tl tv q n)) : ∃ a c, v = .slice a n c ∧ ∀ k < n, ∃ g o, a = some ⟨g, o, none⟩ ∧ w.cell? ⟨g, o + k, none⟩ = some (.bool (tv (q + k))) := by
  rw [tl_length] at h
  rcases h.2 with ⟨hv, hn⟩ | ⟨g, cap, cur, hv, hb, hg, hr⟩
  · exact ⟨none, 0, by rw [hv, hn], fun k hk => by omega⟩
  · refine ⟨some ⟨g, 0, none⟩, cap, hv, fun k hk => ⟨g, 0, rfl, ?_⟩⟩
    have := h.cells (g := g) (by rw [hv]; rfl) k _ (tl_at tv q n k hk)
    rwa [addp] at this
/-- What Bytes of the arena answers. -/
def arQ (n : Nat) : Nat := pos (rgs n) 2 2097152 256
theorem arena_bytes {W w : World} {M : Mc} {s : Ms} {n : Nat} (hn : n ≤ 200) (hl : M.x.l = rgs n) (h : Cx W w M s) : Calls Tryz.prog 17 #[.pointer (some ⟨M.x.mb, 0, none⟩), .int .u64 2097152, .int .i64 256] w fun e w' => (∃ a c, e = .returned (.tuple #[.string (strOfNums (numsAt s.bv (arQ n) 256)), .slice a 256 c, .int .i64 0]) ∧ ∀ k < 256, ∃ g o, a = some ⟨g, o, none⟩ ∧ w'.cell? ⟨g, o + k, none⟩ = some (.bool (s.tv (arQ n + k)))) ∧ Below w.heap.size w w' := by
  have hh : hitI (rgs n) 2097152 256 = some 2 := hit_arena hn (by omega) (by omega) (by omega)
  have e1 : byO M.x.l 2097152 256 = some (arQ n) := by
    unfold byO seO
    rw [if_neg (by omega), hl]
    show (match hitI (rgs n) 2097152 256 with | none => none | some i => some (pos (rgs n) i 2097152 256)) = _
    rw [hh]; rfl
  have e2 : byE M.x.l 2097152 256 = 0 := by unfold byE; rw [if_neg (by omega), e1]; rfl
  have e3 : byS M.x.l s.bv 2097152 256 = strOfNums (numsAt s.bv (arQ n) 256) := by unfold byS; rw [e1]; rfl
  have e4 : byT M.x.l s.tv 2097152 256 = tl s.tv (arQ n) 256 := by unfold byT; rw [e1]; rfl
  have hB := bytes_m 2097152 256 (by omega) w h.c.mem
  rw [e2, e3, e4] at hB
  refine hB.mono fun e w' ⟨⟨v, he, hv⟩, hb⟩ => ?_
  obtain ⟨a, c, rfl, hr⟩ := row_bools hv
  exact ⟨⟨a, c, he, hr⟩, hb⟩
theorem bools_of {w w' : World} {a : Option Addr} {n : Nat} {f : Nat → Bool} (h : ∀ k < n, ∃ g o, a = some ⟨g, o, none⟩ ∧ w.cell? ⟨g, o + k, none⟩ = some (.bool (f k))) (hb : Below w.heap.size w w') : ∀ k < n, ∃ g o, a = some ⟨g, o, none⟩ ∧ w'.cell? ⟨g, o + k, none⟩ = some (.bool (f k)) := fun k hk => by
  obtain ⟨g, o, e, hc⟩ := h k hk
  exact ⟨g, o, e, stay hb hc⟩
/-- The two fuels, by place. -/
def fuelAt (F G : Int) (k : Nat) : Int := if k = 0 then F else G
def fuelOk (F : Int) : Prop := F ≤ 3000 ∨ 1048576 < F
set_option maxRecDepth 100000 in
set_option maxHeartbeats 8000000 in
theorem runs_walk (x : Su) (hx : x.small) (F G : Int) (hF : fuelOk F) (hG : fuelOk G) (w : World) (hT : Tb w) (hS : SuIn w x) : Calls Tryz.prog 4 #[x.val, .int .i64 F, .int .i64 G] w fun e w' => e = .returned (.bool true) ∧ Below w.heap.size w w' := by
  have hHv := heavy_no x hx
  have hBt : ∀ w, SuIn w x → Calls Tryz.prog 10 #[x.val] w (BxP w x.l1.length x.ms) := fun w h => built_cx x hx w h
  obtain ⟨s0, hs0⟩ : ∃ s0, x.ms = s0 := ⟨_, rfl⟩
  rw [hs0] at hBt
  clear hs0
  have hx1 := hx.1
  obtain ⟨wb, hwb⟩ : ∃ wb, w.alloc (.cells #[.slice x.a1 x.l1.length x.c1, .slice x.a2 x.l2.length x.c2, .slice x.a3 x.l3.length x.c3] 25) = wb := ⟨_, rfl⟩
  have hBb : Below w.heap.size w wb := by rw [← hwb]; exact aBelow (Below.refl _ _) _
  have g0 : wb.cell? ⟨w.heap.size, 0, none⟩ = some (.slice x.a1 x.l1.length x.c1) := by rw [← hwb]; exact nwc _ _ _ _
  have g1 : wb.cell? ⟨w.heap.size, 1, none⟩ = some (.slice x.a2 x.l2.length x.c2) := by rw [← hwb]; exact nwc _ _ _ _
  have g2 : wb.cell? ⟨w.heap.size, 2, none⟩ = some (.slice x.a3 x.l3.length x.c3) := by rw [← hwb]; exact nwc _ _ _ _
  unfold Su.val at hHv hBt ⊢
  go_enter Tryz.func4, Tryz.ntmps4
  go_upto_region 1 with fail
  go_cut [46] from 29 to 46 (fun c wc => c = .bool false ∧ Below wb.heap.size wb wc)
  case first =>
    rcases hF with f1 | f1
    all_goals rcases hG with f2 | f2
    all_goals
      go_wp2_with (go_at_call 8; (with_reducible refine (hHv _).mono ?_); (rintro e w1 ⟨rfl, hb1⟩))
      go_meet
      case rel => exact ⟨by first | rfl | (simp; omega), hb1⟩
  case rest =>
    obtain ⟨rfl, hbc⟩ := hcut
    have q0 := stay hbc g0
    have q1 := stay hbc g1
    have q2 := stay hbc g2
    have hB1 : Below w.heap.size w wc := below_trans' hBb (Nat.le_refl _) hbc
    have hTc : Tb wc := hT.of hB1
    have hS1 : SuIn wc x := hS.of hB1
    have hb1 := hBt wc hS1
    clear hHv g0 g1 g2
    go_wp2_with (first
      | (go_at_call 10; (with_reducible refine hb1.mono ?_); (rintro e w2 ⟨M, rfl, hl, hC, hA⟩); have q0 := stay hC.b q0; have q1 := stay hC.b q1; have q2 := stay hC.b q2; have hb2 := hBt w2 (hS1.of hC.b))
      | (go_at_call 10; (with_reducible refine hb2.mono ?_); (rintro e w3 ⟨D, rfl, dl, hD, dA⟩)))
    have hTm0 : Tm wc w3 M D s0 s0 := ⟨hC.of hD.b, hD.base hC.b, fun j hj hd => by have := hC.c.all_lt hj; have := dA j hd; omega⟩
    have hTm := hTm0.of (aBelow (Below.refl _ _) (.cells #[.int .i64 F, .int .i64 G] 3))
    have hFr : Fr (w3.alloc (.cells #[.int .i64 F, .int .i64 G] 3)) M D w3.heap.size := ⟨by simp, fun e => by have := hTm0.a.c.all_lt e; omega, fun e => by have := hTm0.b.c.all_lt e; omega⟩
    have c0 := nwc w3 #[.int .i64 F, .int .i64 G] 3 0
    have c1 := nwc w3 #[.int .i64 F, .int .i64 G] 3 1
    obtain ⟨gl, hgl⟩ : ∃ g, w3.heap.size = g := ⟨_, rfl⟩
    rw [hgl] at hFr c0 c1 ⊢
    obtain ⟨N, hN⟩ : ∃ N, x.l1.length = N := ⟨_, rfl⟩
    rw [hN] at hl dl hx1
    clear hb1 hb2 hBt q0 q1 q2 hC hD hTm0 hgl hN
    go_loopw [12] (fun i wr => ∃ (k : Nat) (M' D' : Mc) (s : Ms), i = .int .i64 k ∧ k ≤ 2 ∧ Sp M M' ∧ Sp D D' ∧ Tm wc wr M' D' s s ∧ Fr wr M' D' gl ∧ wr.cell? ⟨gl, 0, none⟩ = some (.int .i64 F) ∧ wr.cell? ⟨gl, 1, none⟩ = some (.int .i64 G)) (fun i _ => 2 - (intOf i).toNat)
    case atStart => exact ⟨0, M, D, s0, rfl, by omega, ⟨rfl, rfl⟩, ⟨rfl, rfl⟩, hTm, hFr, c0, c1⟩
    case round =>
      clear hTm hFr c0 c1
      obtain ⟨k, M', D', s, rfl, hk, hM, hD, hTm, hFr, c0, c1⟩ := hrel
      by_cases hlt : k < 2
      · have ck : wr.cell? ⟨gl, k, none⟩ = some (.int .i64 (fuelAt F G k)) := by
          have hc : k = 0 ∨ k = 1 := by omega
          rcases hc with rfl | rfl
          · exact c0
          · exact c1
        have hfu : fuelOk (fuelAt F G k) := by unfold fuelAt; split <;> assumption
        obtain ⟨f, hf⟩ : ∃ f, fuelAt F G k = f := ⟨_, rfl⟩
        rw [hf] at ck hfu
        clear hf
        have i0 : (0 : Int) ≤ (k : Int) := by omega
        have i1 : (k : Int) < 2 := by omega
        have hOv := over_any hTm.b.c
        rw [hD.1] at hOv
        by_cases ho : s.ov = true
        · rw [ho] at hOv
          go_wp2_with (first
            | (go_at_call 15; (with_reducible refine hOv.mono ?_); (rintro e w5 ⟨rfl, hb5⟩); have hT5 := hTm.of hb5; have ck := stay hb5 ck; have hFr := hFr.of hb5; have c0 := stay hb5 c0; have c1 := stay hb5 c1; have hR := run_any hTc hT5.a f; (unfold runF at hR); rw [if_pos ho, hM.1] at hR)
            | (go_at_call 16; (with_reducible refine hR.mono ?_); (rintro e w6 ⟨M2, hn, rfl, hC2, hO2⟩); have c0 := hFr.cellL hO2 c0; have c1 := hFr.cellL hO2 c1))
          go_roundw
          case rel => exact ⟨k + 1, M2, D', s, by go_num, by omega, hM.nxt hn, hD, hT5.left hn hC2 hO2, hFr.left hn hO2, c0, c1⟩
          case measure => first | (simp [intOf]; done) | (simp [intOf]; omega)
        have ho' : s.ov = false := by simpa using ho
        rw [ho'] at hOv
        by_cases hr : f < 0 ∨ 1048576 < f
        · by_cases hneg : f < 0
          all_goals
            have hR0 : runF M'.x.l s f = (2, s) := by unfold runF; rw [if_neg ho, if_pos hr]
            have hpos : f < 0 ∨ 1048576 < f := hr
            clear hr
            try (have hbig : 1048576 < f := (by omega))
            clear hpos
            go_wp2_with (first
              | (go_at_call 15; (with_reducible refine hOv.mono ?_); (rintro e w5 ⟨rfl, hb5⟩); have hT5 := hTm.of hb5; have ck := stay hb5 ck; have hFr := hFr.of hb5; have c0 := stay hb5 c0; have c1 := stay hb5 c1; have hR := run_any hTc hT5.a f; rw [hR0, hM.1] at hR)
              | (go_at_call 16; (with_reducible refine hR.mono ?_); (rintro e w6 ⟨M2, hn, rfl, hC2, hO2⟩); have c0 := hFr.cellL hO2 c0; have c1 := hFr.cellL hO2 c1; have ck := hFr.cellL hO2 ck))
            go_roundw
            case rel => exact ⟨k + 1, M2, D', s, by go_num, by omega, hM.nxt hn, hD, hT5.left hn hC2 hO2, hFr.left hn hO2, c0, c1⟩
            case measure => first | (simp [intOf]; done) | (simp [intOf]; omega)
        · obtain ⟨n, rfl⟩ : ∃ n : Nat, f = n := ⟨f.toNat, by omega⟩
          have hn3 : n ≤ 3000 := by rcases hfu with h | h <;> omega
          have hR0 : runF M'.x.l s n = rnF (rgs N) n s := by unfold runF; rw [if_neg ho, if_neg hr, Int.toNat_natCast, hM.2, hl]
          obtain ⟨eR, sR, hQ⟩ : ∃ eR sR, rnF (rgs N) n s = (eR, sR) := ⟨_, _, rfl⟩
          rw [hQ] at hR0
          have hp0 : ¬ (n : Int) < 0 := by omega
          have hp1 : ¬ 1048576 < (n : Int) := by omega
          clear hr
          go_wp2_with (first
            | (go_at_call 15; (with_reducible refine hOv.mono ?_); (rintro e w5 ⟨rfl, hb5⟩); have hT5 := hTm.of hb5; have ck := stay hb5 ck; have hFr := hFr.of hb5; have c0 := stay hb5 c0; have c1 := stay hb5 c1; have hR := run_any hTc hT5.a n; rw [hR0, hM.1] at hR)
            | (go_at_call 16; (with_reducible refine hR.mono ?_); (rintro e w6 ⟨M2, hn, rfl, hC2, hO2⟩); have c0 := hFr.cellL hO2 c0; have c1 := hFr.cellL hO2 c1; have ck := hFr.cellL hO2 ck))
          have hM2 := hM.nxt hn
          have hT6 := hT5.left hn hC2 hO2
          have hFr6 := hFr.left hn hO2
          clear hTm hFr hT5 hOv hR hn hC2 hO2 hb5
          go_loopw [17, 18] (fun fv i wr => ∃ (j : Nat) (D2 : Mc) (t : Ms) (z : Int), fv = .int .i64 z ∧ i = .int .i64 j ∧ j ≤ n ∧ Sp D D2 ∧ Tm wc wr M2 D2 sR t ∧ Fr wr M2 D2 gl ∧ wr.cell? ⟨gl, 0, none⟩ = some (.int .i64 F) ∧ wr.cell? ⟨gl, 1, none⟩ = some (.int .i64 G) ∧ wr.cell? ⟨gl, k, none⟩ = some (.int .i64 n) ∧ StdR (rgs N) n j s t z) (fun _ i _ => n - (intOf i).toNat)
          case atStart => exact ⟨0, D', s, 52, rfl, rfl, Nat.zero_le _, hD, hT6, hFr6, c0, c1, ck, .inl ⟨rfl, rfl⟩⟩
          case round =>
            clear hT6 hFr6 c0 c1 ck
            obtain ⟨j, D2, t, z, rfl, rfl, hj, hD2, hTm, hFr, c0, c1, ck, hStd⟩ := hrel
            by_cases hjn : j < n
            · by_cases hz : z = 52
              · subst hz
                have hS := step_cx hTc hTm.b
                rw [hD2.1, hD2.2, dl] at hS
                obtain ⟨e1, t1, hst⟩ : ∃ e1 t1, stF (rgs N) t = (e1, t1) := ⟨_, _, rfl⟩
                have hstop := hStd.stop hjn
                have hgo := hStd.go hjn
                rw [hst] at hS hstop hgo
                simp only at hstop hgo
                by_cases hv : t1.ov = true
                · have hNx := hstop (.inl hv)
                  clear hstop hgo hst hStd
                  go_wp2_with (first
                    | (go_at_call 12; (with_reducible refine hS.mono ?_); (rintro e w7 ⟨D3, hn, rfl, hC2, hO2⟩); have c0 := hFr.cellR hO2 c0; have c1 := hFr.cellR hO2 c1; have ck := hFr.cellR hO2 ck; have hTx := hTm.right hn hC2 hO2; have hFx := hFr.right hn hO2; have hD3 := hD2.nxt hn; have hOv := over_any hTx.b.c; rw [hD3.1, hv] at hOv)
                    | (go_at_call 15; (with_reducible refine hOv.mono ?_); (rintro e w8 ⟨rfl, hb8⟩)))
                  go_roundw
                  case rel => exact ⟨j + 1, D3, t1, e1, by first | rfl | go_num, by go_num, by omega, hD3, hTx.of hb8, hFx.of hb8, stay hb8 c0, stay hb8 c1, stay hb8 ck, hNx⟩
                  case measure => first | (simp [intOf]; done) | (simp [intOf]; omega)
                · have hv' : t1.ov = false := by simpa using hv
                  by_cases he : e1 = 0
                  · have hNx := hgo (by rintro (h | h); exact hv h; exact h he)
                    subst he
                    clear hstop hgo hst hStd
                    go_wp2_with (first
                      | (go_at_call 12; (with_reducible refine hS.mono ?_); (rintro e w7 ⟨D3, hn, rfl, hC2, hO2⟩); have c0 := hFr.cellR hO2 c0; have c1 := hFr.cellR hO2 c1; have ck := hFr.cellR hO2 ck; have hTx := hTm.right hn hC2 hO2; have hFx := hFr.right hn hO2; have hD3 := hD2.nxt hn; have hOv := over_any hTx.b.c; rw [hD3.1, hv'] at hOv)
                      | (go_at_call 15; (with_reducible refine hOv.mono ?_); (rintro e w8 ⟨rfl, hb8⟩)))
                    go_roundw
                    case rel => exact ⟨j + 1, D3, t1, 52, rfl, by go_num, by omega, hD3, hTx.of hb8, hFx.of hb8, stay hb8 c0, stay hb8 c1, stay hb8 ck, hNx⟩
                    case measure => first | (simp [intOf]; done) | (simp [intOf]; omega)
                  · have hNx := hstop (.inr he)
                    clear hstop hgo hst hStd
                    have heb : (e1 != 0) = true := by simp [he]
                    go_wp2_with (first
                      | (go_at_call 12; (with_reducible refine hS.mono ?_); (rintro e w7 ⟨D3, hn, rfl, hC2, hO2⟩); have c0 := hFr.cellR hO2 c0; have c1 := hFr.cellR hO2 c1; have ck := hFr.cellR hO2 ck; have hTx := hTm.right hn hC2 hO2; have hFx := hFr.right hn hO2; have hD3 := hD2.nxt hn; have hOv := over_any hTx.b.c; rw [hD3.1, hv'] at hOv)
                      | (go_at_call 15; (with_reducible refine hOv.mono ?_); (rintro e w8 ⟨rfl, hb8⟩)))
                    go_roundw
                    case rel => exact ⟨j + 1, D3, t1, e1, by first | rfl | go_num, by go_num, by omega, hD3, hTx.of hb8, hFx.of hb8, stay hb8 c0, stay hb8 c1, stay hb8 ck, hNx⟩
                    case measure => first | (simp [intOf]; done) | (simp [intOf]; omega)
              · have hfin := hStd.fin (.inr hz)
                rw [hQ] at hfin
                obtain ⟨rfl, rfl⟩ := Prod.mk.inj hfin
                have hzb : (eR == 52) = false := by simp [hz]
                have i2 : (j : Int) < (n : Int) := by omega
                clear hfin hStd hQ hR0
                go_wp2
                go_roundw
                case rel => exact ⟨k + 1, M2, D2, sR, by go_num, by omega, hM2, hD2, hTm, hFr, c0, c1⟩
                case measure => first | (simp [intOf]; done) | (simp [intOf]; omega)
            · have hfin := hStd.fin (.inl (by omega))
              rw [hQ] at hfin
              obtain ⟨rfl, rfl⟩ := Prod.mk.inj hfin
              have i2 : ¬ (j : Int) < (n : Int) := by omega
              clear hfin hStd hQ hR0
              go_wp2
              go_roundw
              case rel => exact ⟨k + 1, M2, D2, sR, by go_num, by omega, hM2, hD2, hTm, hFr, c0, c1⟩
              case measure => first | (simp [intOf]; done) | (simp [intOf]; omega)
      · obtain rfl : k = 2 := by omega
        have lM : M'.x.l = rgs N := by rw [hM.2]; exact hl
        have lD : D'.x.l = rgs N := by rw [hD.2]; exact dl
        have hlen := hTm.a.c.ok.n
        have hlen2 := Nat.le_trans hTm.a.k hlen
        have hA1 := arena_bytes hx1 lM hTm.a
        rw [hM.2] at hA1
        obtain ⟨S, hSd⟩ : ∃ S, strOfNums (numsAt s.bv (arQ N) 256) = S := ⟨_, rfl⟩
        rw [hSd] at hA1
        go_wp2_with (first
          | (go_at_call 17; (with_reducible refine hA1.mono ?_); (rintro e w5 ⟨⟨a1, k1, rfl, ha1⟩, hb5⟩); have hT5 := hTm.of hb5; have hA2 := arena_bytes hx1 lD hT5.b; rw [hD.2, hSd] at hA2)
          | (go_at_call 17; (with_reducible refine hA2.mono ?_); (rintro e w6 ⟨⟨a2, k2, rfl, ha2⟩, hb6⟩); have hT6 := hT5.of hb6; have ha1 := bools_of ha1 hb6; have hP1 := pc_any hT6.a.c; rw [hM.1] at hP1; have hP2 := pc_any hT6.b.c; rw [hD.1] at hP2)
          | (go_at_call 18; (with_reducible refine hP1.mono ?_); (rintro e w7 ⟨rfl, rfl⟩))
          | (go_at_call 18; (with_reducible refine hP2.mono ?_); (rintro e w7 ⟨rfl, rfl⟩); have hR1 := trace_row hT6.a; rw [hM.1] at hR1)
          | (go_at_call 20; (with_reducible refine hR1.mono ?_); (rintro e w8 ⟨⟨r1, d1, rfl, hr1⟩, hb8⟩); have hT8 := hT6.of hb8; have ha1 := bools_of ha1 hb8; have ha2 := bools_of ha2 hb8; have hR2 := trace_row hT8.b; rw [hD.1] at hR2)
          | (go_at_call 20; (with_reducible refine hR2.mono ?_); (rintro e w9 ⟨⟨r2, d2, rfl, hr2⟩, hb9⟩); have hT9 := hT8.of hb9; have ha1 := bools_of ha1 hb9; have ha2 := bools_of ha2 hb9; have hST := same_trace s.tr r1 r2 d1 d2 (by omega) w9 (hr1.of hb9) hr2)
          | (go_at_call 19; (with_reducible refine hST.mono ?_); (rintro e w10 ⟨rfl, hb10⟩); have hT10 := hT9.of hb10; have ha1 := bools_of ha1 hb10; have ha2 := bools_of ha2 hb10; have hQ1 := told_row hT10.a; rw [hM.1] at hQ1)
          | (go_at_call 22; (with_reducible refine hQ1.mono ?_); (rintro e w11 ⟨⟨t1, e1, rfl, ht1⟩, hb11⟩); have hT11 := hT10.of hb11; have ha1 := bools_of ha1 hb11; have ha2 := bools_of ha2 hb11; have hQ2 := told_row hT11.b; rw [hD.1] at hQ2)
          | (go_at_call 22; (with_reducible refine hQ2.mono ?_); (rintro e w12 ⟨⟨t2, e2, rfl, ht2⟩, hb12⟩); have hT12 := hT11.of hb12; have ha1 := bools_of ha1 hb12; have ha2 := bools_of ha2 hb12; have hSL := same_told s.told t1 t2 e1 e2 (by omega) w12 (ht1.of hb12) ht2)
          | (go_at_call 21; (with_reducible refine hSL.mono ?_); (rintro e w13 ⟨rfl, hb13⟩); have hT13 := hT12.of hb13; have ha1 := bools_of ha1 hb13; have ha2 := bools_of ha2 hb13; have hSB := same_any a1 a2 256 k1 k2 (fun k => s.tv (arQ N + k)) (by omega) w13 ha1 ha2)
          | (go_at_call 23; (with_reducible refine hSB.mono ?_); (rintro e w14 ⟨rfl, hb14⟩); have hT14 := hT13.of hb14; have hB14 := below_trans' hB1 (Nat.le_refl _) hT14.a.b; have hAl := alive_any w14 (hT.of hB14))
          | (go_at_call 9; (with_reducible refine hAl.mono ?_); (rintro e w15 ⟨rfl, hb15⟩)))
        go_ret
        exact ⟨rfl, below_trans' hB14 (Nat.le_refl _) hb15⟩
end Go.Proofs.YtcckgfablfgknaaGreatDoor.m4
