/- Contracts of alike, agree: of two machines that are the same, but for what is tainted in both. -/
import Derived.Test.YtcckgfablfgknaaGreatDoorLRw
import Derived.Test.YtcckgfablfgknaaGreatDoorAg
import Derived.Test.YtcckgfablfgknaaGreatDoorTu
namespace Go.Proofs.YtcckgfablfgknaaGreatDoor.m4
open Go.ChangeShapes Go.WideShapes Go.ChangeAt Go.RowKit
set_option linter.unusedVariables false
set_option maxRecDepth 100000 in
set_option maxHeartbeats 1000000 in
theorem alike_any (l1 l2 : List (Nat × Bool)) (a b : Option Addr) (c d : Nat) (hl : l1.length = l2.length) (hn : l1.length ≤ 1048577) (w : World) (h1 : TlOf w a l1) (h2 : TlOf w b l2) : Calls Tryz.prog 25 #[.slice a l1.length c, .slice b l2.length d] w fun e w' => (∃ r, e = .returned (.bool r) ∧ (r = true ↔ ∀ i, i < l1.length → (tlg l1 i).1 = (tlg l2 i).1)) ∧ Below w.heap.size w w' := by
  rw [← hl]
  go_enter Tryz.func25, Tryz.ntmps25
  go_wp2
  go_loopw [5] (fun i wr => ∃ k : Nat, i = .int .i64 k ∧ k ≤ l1.length ∧ (∀ i, i < k → (tlg l1 i).1 = (tlg l2 i).1) ∧ Below w.heap.size w wr) (fun i _ => l1.length - (intOf i).toNat)
  case atStart => exact ⟨0, rfl, Nat.zero_le _, fun i hi => absurd hi (Nat.not_lt_zero _), Below.refl _ _⟩
  case round =>
    obtain ⟨k, rfl, hk, hall, hB⟩ := hrel
    by_cases hlt : k < l1.length
    · obtain ⟨g1, o1, rfl, a0, a1⟩ := h1 k hlt
      obtain ⟨g2, o2, rfl, b0, b1⟩ := h2 k (by omega)
      have a0 := stay hB a0
      have b0 := stay hB b0
      have i0 : (0 : Int) ≤ (k : Int) := by omega
      have i1 : (k : Int) < (l1.length : Int) := by omega
      obtain ⟨x, hx⟩ : ∃ x, (tlg l1 k).1 = x := ⟨_, rfl⟩
      obtain ⟨y, hy⟩ : ∃ y, (tlg l2 k).1 = y := ⟨_, rfl⟩
      rw [hx] at a0
      rw [hy] at b0
      by_cases he : x = y
      · subst he
        have hall' : ∀ i, i < k + 1 → (tlg l1 i).1 = (tlg l2 i).1 := fun i hi => by
          rcases Nat.lt_succ_iff_lt_or_eq.1 hi with h | rfl
          · exact hall i h
          · rw [hx, hy]
        clear hx hy hall
        go_wp2
        go_quiet (fail)
        go_wp2
        go_roundw
        case rel => exact ⟨k + 1, by go_num, by omega, hall', bdN hB _⟩
        case measure => first | (simp [intOf]; done) | (simp [intOf]; omega)
      · have hno : ¬ ∀ i, i < l1.length → (tlg l1 i).1 = (tlg l2 i).1 := fun h => he (by rw [← hx, ← hy]; exact h k hlt)
        clear hx hy hall
        have hne : ¬ (x : Int) = (y : Int) := by omega
        have hneb : ((x : Int) != (y : Int)) = true := by simp; omega
        clear he
        go_wp2
        go_quiet (fail)
        go_wp2
        go_ret
        exact ⟨⟨false, rfl, ⟨fun h => (by cases h), fun h => absurd h hno⟩⟩, bdN hB _⟩
    · obtain rfl : k = l1.length := by omega
      go_wp2
      go_ret
      exact ⟨⟨true, rfl, ⟨fun _ => hall, fun _ => rfl⟩⟩, hB⟩
theorem strget (l : List Int) (i : Nat) (h : i < (strOfNums l).size) : (((strOfNums l)[i]'h).toNat : Int) = ((bAt (strOfNums l) i : Nat) : Int) := by rw [bAt_eq]
theorem bAt_nat (f : Nat → Nat) (q n i : Nat) (hf : ∀ k, f k < 256) (h : i < n) : bAt (strOfNums (numsAt f q n)) i = f (q + i) := by
  rw [bAt_nums, numsAt_getD _ _ _ _ h, Int.toNat_natCast]
  exact Nat.mod_eq_of_lt (hf _)
set_option maxRecDepth 100000 in
set_option maxHeartbeats 8000000 in
/-- Of machines that are the same, but for what is tainted in both, agree answers true. -/
theorem agree_any {W w : World} {M D M0 D0 : Mc} {s t : Ms} {n : Nat} (hn : n ≤ 200) (h : Tm W w M D s t) (hM : Sp M0 M) (hD : Sp D0 D) (lM : M.x.l = rgs n) (lD : D.x.l = rgs n) (ha : Ag n True s t) :
    Calls Tryz.prog 26 #[.pointer (some ⟨M0.cb, 0, none⟩), .pointer (some ⟨D0.cb, 0, none⟩), .pointer (some ⟨M0.x.mb, 0, none⟩), .pointer (some ⟨D0.x.mb, 0, none⟩)] w fun e w' => e = .returned (.bool true) ∧ Below w.heap.size w w' := by
  rw [← hM.1, ← hM.2, ← hD.1, ← hD.2]
  clear hM hD
  go_enter Tryz.func26, Tryz.ntmps26
  go_wp2
  go_loopw [9] (fun i wr => ∃ k : Nat, i = .int .i64 k ∧ k ≤ 32 ∧ Below w.heap.size w wr) (fun i _ => 32 - (intOf i).toNat)
  case atStart => exact ⟨0, rfl, by omega, Below.refl _ _⟩
  case round =>
    obtain ⟨k, rfl, hk, hB⟩ := hrel
    by_cases hlt : k < 32
    · have hT := h.of hB
      have hR1 := reg_any hT.a.c k hlt
      have hR2 := fun (w2 : World) (hb : Below wr.heap.size wr w2) => reg_any (hT.of hb).b.c k hlt
      have hrt := ha.rt k
      have hrv := ha.rv trivial k
      have i1 : (k : Int) < 32 := by omega
      rw [← hrt] at hR2
      cases hc : s.rt k with
      | true =>
        rw [hc] at hR1 hR2
        clear hrt hrv hc
        go_wp2_with (first
          | (go_at_call 27; (with_reducible refine hR1.mono ?_); (rintro e w2 ⟨rfl, hb2⟩); have hR3 := hR2 w2 hb2)
          | (go_at_call 27; (with_reducible refine hR3.mono ?_); (rintro e w3 ⟨rfl, hb3⟩)))
        go_roundw
        case rel => exact ⟨k + 1, by go_num, by omega, below_trans' (below_trans' hB (Nat.le_refl _) hb2) (Nat.le_refl _) hb3⟩
        case measure => first | (simp [intOf]; done) | (simp [intOf]; omega)
      | false =>
        rw [← hrv hc] at hR2
        rw [hc] at hR1 hR2
        clear hrt hrv hc
        go_wp2_with (first
          | (go_at_call 27; (with_reducible refine hR1.mono ?_); (rintro e w2 ⟨rfl, hb2⟩); have hR3 := hR2 w2 hb2)
          | (go_at_call 27; (with_reducible refine hR3.mono ?_); (rintro e w3 ⟨rfl, hb3⟩)))
        go_roundw
        case rel => exact ⟨k + 1, by go_num, by omega, below_trans' (below_trans' hB (Nat.le_refl _) hb2) (Nat.le_refl _) hb3⟩
        case measure => first | (simp [intOf]; done) | (simp [intOf]; omega)
    · obtain rfl : k = 32 := by omega
      have hT := h.of hB
      have hQ1 := told_row hT.a
      have hlen := Nat.le_trans hT.a.k hT.a.c.ok.n
      have htl := ha.tl
      have hle2 : ∀ k, k < s.told.length → k < t.told.length := fun k h => by omega
      go_wp2_with (first
        | (go_at_call 22; (with_reducible refine hQ1.mono ?_); (rintro e w2 ⟨⟨t1, e1, rfl, ht1⟩, hb2⟩); have hT2 := hT.of hb2; have hB2 := below_trans' hB (Nat.le_refl _) hb2; have hQ2 := told_row hT2.b; rw [← htl] at hQ2; clear htl)
        | (go_at_call 22; (with_reducible refine hQ2.mono ?_); (rintro e w3 ⟨⟨t2, e2, rfl, ht2⟩, hb3⟩); have hT3 := hT2.of hb3; have hB3 := below_trans' hB2 (Nat.le_refl _) hb3; have ht1 := ht1.of hb3))
      go_loopw [18] (fun i wr => ∃ k : Nat, i = .int .i64 k ∧ k ≤ s.told.length ∧ Below w3.heap.size w3 wr) (fun i _ => s.told.length - (intOf i).toNat)
      case atStart => exact ⟨0, rfl, Nat.zero_le _, Below.refl _ _⟩
      case round =>
        obtain ⟨k, rfl, hk, hBk⟩ := hrel
        by_cases hlt2 : k < s.told.length
        · obtain ⟨g1, o1, rfl, a0, a1⟩ := ht1 k hlt2
          obtain ⟨g2, o2, rfl, b0, b1⟩ := ht2 k (hle2 k hlt2)
          have a0 := stay hBk a0
          have a1 := stay hBk a1
          have b0 := stay hBk b0
          have b1 := stay hBk b1
          have i0 : (0 : Int) ≤ (k : Int) := by omega
          have i1 : (k : Int) < (s.told.length : Int) := by omega
          obtain ⟨d1, d2⟩ := ha.td k
          obtain ⟨vx, hvx⟩ : ∃ v, (tlg s.told k).1 = v := ⟨_, rfl⟩
          obtain ⟨tx, htx⟩ : ∃ v, (tlg s.told k).2 = v := ⟨_, rfl⟩
          obtain ⟨vy, hvy⟩ : ∃ v, (tlg t.told k).1 = v := ⟨_, rfl⟩
          rw [← d1, htx] at b1
          rw [htx] at a1
          rw [hvx] at a0
          rw [hvy] at b0
          rw [htx, hvx, hvy] at d2
          clear d1 htx hvx hvy
          cases tx with
          | true =>
            clear d2
            go_wp2
            go_quiet (fail)
            go_wp2
            go_roundw
            case rel => exact ⟨k + 1, by go_num, by omega, bdN hBk _⟩
            case measure => first | (simp [intOf]; done) | (simp [intOf]; omega)
          | false =>
            rw [← d2 rfl] at b0
            clear d2
            go_wp2
            go_quiet (fail)
            go_wp2
            go_roundw
            case rel => exact ⟨k + 1, by go_num, by omega, bdN hBk _⟩
            case measure => first | (simp [intOf]; done) | (simp [intOf]; omega)
        · obtain rfl : k = s.told.length := by omega
          have hT4 := hT3.of hBk
          have hB4 := below_trans' hB3 (Nat.le_refl _) hBk
          have hA1 := arena_bytes hn lM hT4.a
          have hA2 := fun (w2 : World) (hb : Below wr.heap.size wr w2) => arena_bytes hn lD (hT4.of hb).b
          have z1 : (strOfNums (numsAt s.bv (arQ n) 256)).size = 256 := by rw [strOfNums_size, numsAt_length]
          have z2 : (strOfNums (numsAt t.bv (arQ n) 256)).size = 256 := by rw [strOfNums_size, numsAt_length]
          have hbe : ∀ i, i < 256 → s.tv (arQ n + i) = false → bAt (strOfNums (numsAt s.bv (arQ n) 256)) i = bAt (strOfNums (numsAt t.bv (arQ n) 256)) i := fun i hi hf => by rw [bAt_nat _ _ _ _ h.a.c.ok.b hi, bAt_nat _ _ _ _ h.b.c.ok.b hi, ha.bv _ hf]
          obtain ⟨S1, hS1⟩ : ∃ S, strOfNums (numsAt s.bv (arQ n) 256) = S := ⟨_, rfl⟩
          obtain ⟨S2, hS2⟩ : ∃ S, strOfNums (numsAt t.bv (arQ n) 256) = S := ⟨_, rfl⟩
          rw [hS1] at hA1 z1 hbe
          rw [hS2] at hA2 z2 hbe
          clear hS1 hS2
          go_wp2_with (first
            | (go_at_call 17; (with_reducible refine hA1.mono ?_); (rintro e w5 ⟨⟨c1, k1, rfl, hc1⟩, hb5⟩); have hA3 := hA2 w5 hb5; have hB5 := below_trans' hB4 (Nat.le_refl _) hb5)
            | (go_at_call 17; (with_reducible refine hA3.mono ?_); (rintro e w6 ⟨⟨c2, k2, rfl, hc2⟩, hb6⟩); have hc1 := bools_of hc1 hb6; have hB6 := below_trans' hB5 (Nat.le_refl _) hb6))
          go_loopw [25] (fun i wr => ∃ k : Nat, i = .int .i64 k ∧ k ≤ 256 ∧ Below w6.heap.size w6 wr) (fun i _ => 256 - (intOf i).toNat)
          case atStart => exact ⟨0, rfl, Nat.zero_le _, Below.refl _ _⟩
          case round =>
            obtain ⟨k, rfl, hk, hBj⟩ := hrel
            by_cases hlt3 : k < 256
            · obtain ⟨g1, o1, rfl, a0⟩ := hc1 k hlt3
              obtain ⟨g2, o2, rfl, b0⟩ := hc2 k hlt3
              have a0 := stay hBj a0
              have b0 := stay hBj b0
              have i0 : (0 : Int) ≤ (k : Int) := by omega
              have i1 : (k : Int) < 256 := by omega
              have j1 : k < S1.size := by omega
              have j2 : k < S2.size := by omega
              have hbk := hbe k hlt3
              rw [← bAt_eq S1 k j1, ← bAt_eq S2 k j2] at hbk
              rw [← ha.tv] at b0
              generalize s.tv (arQ n + k) = x at *
              cases x with
              | true =>
                clear hbk
                go_wp2
                go_quiet (fail)
                go_wp2
                go_roundw
                case rel => exact ⟨k + 1, by go_num, by omega, bdN hBj _⟩
                case measure => first | (simp [intOf]; done) | (simp [intOf]; omega)
              | false =>
                have hbk := hbk rfl
                go_wp2
                go_quiet (fail)
                go_wp2
                go_roundw
                case rel => exact ⟨k + 1, by go_num, by omega, bdN hBj _⟩
                case measure => first | (simp [intOf]; done) | (simp [intOf]; omega)
            · obtain rfl : k = 256 := by omega
              go_wp2
              go_ret
              exact ⟨rfl, below_trans' hB6 (Nat.le_refl _) hBj⟩
end Go.Proofs.YtcckgfablfgknaaGreatDoor.m4

/- A setup and its turned one: their machines are the same, but for what is tainted; what CpuApart's loop keeps. -/
namespace Go.Proofs.YtcckgfablfgknaaGreatDoor.m4
open Go.ChangeShapes Go.WideShapes Go.ChangeAt Go.RowKit
set_option linter.unusedVariables false
theorem s1_same {c d : Ce} (h : c.v = d.v) : s1 c = s1 d := by unfold s1; rw [h]
theorem by_ag (x y : Su) (hl : y.l1 = x.l1) (m : Nat) (h3 : ∀ k, k < m → (cg y.l3 k).a = (cg x.l3 k).a ∧ (cg y.l3 k).t = (cg x.l3 k).t ∧ ((cg x.l3 k).t = false → (cg y.l3 k).v = (cg x.l3 k).v)) : ∀ k, k ≤ m → ∀ q, x.byT k q = y.byT k q ∧ (x.byT k q = false → x.byB k q = y.byB k q)
  | 0, _, q => by
    have e1 : y.cdT = x.cdT := by unfold Su.cdT; rw [hl]
    have e2 : y.cdB = x.cdB := by unfold Su.cdB; rw [hl]
    exact ⟨by show x.cdT q = y.cdT q; rw [e1], fun _ => by show x.cdB q = y.cdB q; rw [e2]⟩
  | k + 1, hk, q => by
    obtain ⟨i1, i2⟩ := by_ag x y hl m h3 k (by omega) q
    obtain ⟨a1, a2, a3⟩ := h3 k (by omega)
    show upO (seO (rgs x.l1.length) (plN k (cg x.l3 k).a) 1) (x.byT k) 1 (fun _ => (cg x.l3 k).t) q = upO (seO (rgs y.l1.length) (plN k (cg y.l3 k).a) 1) (y.byT k) 1 (fun _ => (cg y.l3 k).t) q ∧ (upO (seO (rgs x.l1.length) (plN k (cg x.l3 k).a) 1) (x.byT k) 1 (fun _ => (cg x.l3 k).t) q = false → upO (seO (rgs x.l1.length) (plN k (cg x.l3 k).a) 1) (x.byB k) 1 (bAt (s1 (cg x.l3 k))) q = upO (seO (rgs y.l1.length) (plN k (cg y.l3 k).a) 1) (y.byB k) 1 (bAt (s1 (cg y.l3 k))) q)
    rw [hl, a1, a2]
    cases hs : seO (rgs x.l1.length) (plN k (cg x.l3 k).a) 1 with
    | none => exact ⟨i1, i2⟩
    | some p =>
      simp only [upO]
      by_cases e : p ≤ q ∧ q < p + 1
      · rw [upd_at' e, upd_at' e, upd_at' e, upd_at' e]
        exact ⟨rfl, fun hf => by rw [s1_same (a3 hf)]⟩
      · rw [upd_ne' e, upd_ne' e, upd_ne' e, upd_ne' e]
        exact ⟨i1, i2⟩
theorem rg_ag (x y : Su) (hl : y.l1 = x.l1) (hx : x.l1.length ≤ 200) (e3 : y.l3.length = x.l3.length) (h3 : ∀ k, k < x.l3.length → (cg y.l3 k).a = (cg x.l3 k).a ∧ (cg y.l3 k).t = (cg x.l3 k).t ∧ ((cg x.l3 k).t = false → (cg y.l3 k).v = (cg x.l3 k).v)) (m : Nat)
    (h2 : ∀ k, k < m → (cg y.l2 k).a = (cg x.l2 k).a ∧ (cg y.l2 k).t = (cg x.l2 k).t ∧ ((cg x.l2 k).t = false → (cg y.l2 k).v = (cg x.l2 k).v)) : ∀ k, k ≤ m → Ag x.l1.length True (x.rgM k) (y.rgM k)
  | 0, _ => by
    have hb := by_ag x y hl x.l3.length h3 x.l3.length (Nat.le_refl _)
    have e2 : y.cdB = x.cdB := by unfold Su.cdB; rw [hl]
    exact { rt := fun _ => rfl, rv := fun _ _ _ => rfl, pc := rfl, ov := rfl, cd := rfl, tr := rfl, tl := rfl, td := fun _ => ⟨rfl, fun _ => rfl⟩, tv := fun k => (by show x.byT x.l3.length k = y.byT y.l3.length k; rw [e3]; exact (hb k).1), bv := fun k hk => (by show x.byB x.l3.length k = y.byB y.l3.length k; rw [e3]; exact (hb k).2 hk), co := fun k hk => (by show x.byB x.l3.length k = y.byB y.l3.length k; rw [(byB_code x hx k hk _).1, (byB_code y (by rw [hl]; exact hx) k (by rw [hl]; exact hk) _).1, e2]) }
  | k + 1, hk => by
    have ih := rg_ag x y hl hx e3 h3 m h2 k (by omega)
    obtain ⟨a1, a2, a3⟩ := h2 k (by omega)
    show Ag x.l1.length True ((x.rgM k).lay ((cg x.l2 k).a % 32) (cg x.l2 k).v (cg x.l2 k).t) ((y.rgM k).lay ((cg y.l2 k).a % 32) (cg y.l2 k).v (cg y.l2 k).t)
    rw [a1]
    exact ih.lay a2.symm (fun hf => (a3 hf).symm)
theorem trn_three (b : Nat) (l : List Ce) (k : Nat) (hk : k < l.length) : (cg (trnK b l l.length) k).a = (cg l k).a ∧ (cg (trnK b l l.length) k).t = (cg l k).t ∧ ((cg l k).t = false → (cg (trnK b l l.length) k).v = (cg l k).v) := by
  rw [trnK_at _ _ _ _ hk]
  exact ⟨trn_a _ _ _, trn_t _ _ _, trn_v _ _ _⟩
/-- A setup's machine, and the turned one's. -/
theorem ms_ag (x : Su) (hx : x.l1.length ≤ 200) (b : Nat) (a2 : Option Addr) (c2 : Nat) (a3 : Option Addr) (c3 : Nat) : Ag x.l1.length True x.ms (x.trn b a2 c2 a3 c3).ms := by
  have h := rg_ag x (x.trn b a2 c2 a3 c3) rfl hx (trnK_len _ _ _) (fun k hk => trn_three b x.l3 k hk) x.l2.length (fun k hk => trn_three b x.l2 k hk) x.l2.length (Nat.le_refl _)
  unfold Su.ms
  rw [show (x.trn b a2 c2 a3 c3).l2.length = x.l2.length from trnK_len _ _ _]
  exact h
theorem trn_small {x : Su} (hx : x.small) (b : Nat) (a2 : Option Addr) (c2 : Nat) (a3 : Option Addr) (c3 : Nat) : (x.trn b a2 c2 a3 c3).small := ⟨hx.1, by show (trnK b x.l2 x.l2.length).length ≤ 100; rw [trnK_len]; exact hx.2.1, by show (trnK b x.l3 x.l3.length).length ≤ 600; rw [trnK_len]; exact hx.2.2⟩
theorem tlg_out (l : List (Nat × Bool)) (i : Nat) (h : ¬ i < l.length) : tlg l i = (0, false) := by
  unfold tlg
  rw [List.getD_eq_getElem?_getD, List.getElem?_eq_none (by omega)]; rfl
theorem allV_of {s t : Ms} (hl : s.told.length = t.told.length) (h : ∀ i, i < s.told.length → (tlg s.told i).1 = (tlg t.told i).1) : AllV s t := fun i => by
  by_cases hi : i < s.told.length
  · exact h i hi
  · rw [tlg_out _ _ hi, tlg_out _ _ (by omega)]
theorem sng_snoc (l : List Sn) (x : Sn) : sng (l ++ [x]) l.length = x := by
  unfold sng
  rw [List.getD_eq_getElem?_getD, List.getElem?_append_right (Nat.le_refl _), Nat.sub_self]; rfl
/-- A row that Trace has made lies behind what was there. -/
theorem trace_new {W w : World} {M : Mc} {s : Ms} (h : Cx W w M s) : Calls Tryz.prog 20 #[.pointer (some ⟨M.cb, 0, none⟩)] w fun e w' => (∃ a c, e = .returned (.slice a s.tr.length c) ∧ SnOf w' a s.tr ∧ ∀ g o, a = some ⟨g, o, none⟩ → w.heap.size ≤ g) ∧ Below w.heap.size w w' :=
  (trace_any h.c).mono fun e w' ⟨⟨v, he, hv⟩, hb⟩ => by
    obtain ⟨a, c, rfl, hr⟩ := sn_of hv
    refine ⟨⟨a, c, he, hr, fun g o ha => ?_⟩, hb⟩
    subst ha
    exact (hv.lt g rfl).1
theorem SnOf.only {w w' : World} {a : Option Addr} {l : List Sn} {S : Nat → Prop} (h : SnOf w a l) (ho : Only S w w') (hs : ∀ g o, a = some ⟨g, o, none⟩ → ¬ S g) : SnOf w' a l := fun i hi => by
  obtain ⟨g, o, e, h0, h1, h2, h3, h4⟩ := h i hi
  have hn := hs g o e
  exact ⟨g, o, e, ho.cell (a := ⟨g, _, none⟩) hn h0, ho.cell (a := ⟨g, _, none⟩) hn h1, ho.cell (a := ⟨g, _, none⟩) hn h2, ho.cell (a := ⟨g, _, none⟩) hn h3, ho.cell (a := ⟨g, _, none⟩) hn h4⟩
end Go.Proofs.YtcckgfablfgknaaGreatDoor.m4
