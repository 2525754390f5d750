/- ExprDeep: how deep expressions may be. -/
import Derived.Test.YtnblnmehfhkfmaaGreatDoorEs
import Derived.Test.YtnblnmehfhkfmaaGreatDoorEw
import Derived.Test.YtnblnmehfhkfmaaGreatDoorEv
namespace Go.Proofs.YtnblnmehfhkfmaaGreatDoor
open Go.ChangeShapes Go.WideShapes Go.ChangeAt Go.RowKit
set_option linter.unusedVariables false
theorem bare_zs (T : List Tk) : bareZ (zs T) = T := by
  induction T with
  | nil => rfl
  | cons t T ih => show t :: bareZ (zs T) = _; rw [ih]
theorem rdch_ok (b : Bool) (n : Nat) (h : n < 40) : rdE 40 (bareZ (zs (tellF 60 (chX b n)))) 0 = .ok (chX b n) (tellF 60 (chX b n)).length := by
  have hm : mayB 40 (chX b n) = true := by rw [may_ch]; simpa using h
  have h1 := rd_tell 40 (chX b n) hm [] [] (fun _ c r h => by cases h)
  rw [← tell_fuel 40 _ hm 60 (by omega)] at h1
  rw [bare_zs]
  simpa using h1
theorem rdch_er (b : Bool) (n : Nat) (h : 40 ≤ n) (h6 : n < 60) : ∃ q, rdE 40 (bareZ (zs (tellF 60 (chX b n)))) 0 = .er 70 q := by
  obtain ⟨q, hq⟩ := rd_ch b 40 n 60 h h6 [] []
  refine ⟨q, ?_⟩
  rw [bare_zs]
  simpa using hq
theorem place_zs (T : List Tk) (p : Nat) : placeZ (zs T) (p : Int) = 0 := by
  unfold placeZ
  rw [if_neg (by omega), List.getD_eq_getElem?_getD]
  unfold zs
  rw [List.getElem?_map]
  cases T[min (p : Int).toNat ((T.map fun t => (t, (0 : Int))).length - 1)]? <;> rfl
theorem nodes_ch (b : Bool) : ∀ n, (chX b n).nodes ≤ 2 * n + 1 := by
  intro n
  induction n with
  | zero => simp [chX, Xp.nodes, nodesL]
  | succ n ih =>
    cases b with
    | true => show (Xp.mk 5 0 [98] 0 [chX true n]).nodes ≤ _; simp only [Xp.nodes, nodesL]; omega
    | false => show (Xp.mk 3 0 [] 2 [chX false n, .mk 4 0 [98] 0 []]).nodes ≤ _; simp only [Xp.nodes, nodesL]; omega
set_option maxRecDepth 100000 in
set_option maxHeartbeats 16000000 in
theorem deep_true (n : Nat) (hn : n < 256) (w : World) (hT : Tb w) : Calls Tryz.prog 5 #[.int .u8 (n : Int), .bool true] w fun e w' => e = .returned (.bool true) ∧ Below w.heap.size w w' := by
  obtain ⟨m, hm⟩ : ∃ m, m = n % 60 := ⟨_, rfl⟩
  have hm60 : m < 60 := by omega
  have h1 : ((n : Int) % 60) = (m : Int) := by omega
  have h2 : IntKind.i64.wrap (m : Int) = (m : Int) := by rw [IntKind.wrap_i64]; omega
  have h3 : IntKind.i64.wrap (1 + (m : Int)) = (m : Int) + 1 := by rw [IntKind.wrap_i64]; omega
  clear hm
  go_enter Tryz.func5, Tryz.ntmps5
  go_wp2
  go_loopw [7] (fun ii wr => ∃ (j : Nat) (k n1 : Int) (s : ByteArray) (o : Int) (ma : Option Addr) (mm cap : Nat), j ≤ m ∧ ii = .int .i64 ((j : Int) + 1) ∧ rowG #[.int .u8 k, .int .u64 n1, .string s, .int .u8 o, .slice ma mm cap] wr w.heap.size ∧ IsE (fun c => w.heap.size < c ∧ c < wr.heap.size) wr (vX k n1 s o ma mm cap) (chX true j) ∧ Below w.heap.size w wr) (fun ii _ => m + 1 - (intOf ii).toNat)
  case atStart => exact ⟨0, 1, 1, ⟨#[]⟩, 0, none, 0, 0, Nat.zero_le _, rfl, rowG_at _ _ _ _ rfl, IsE.mk (k := 1) (n := 1) (s := []) (o := 0) (l := []) (by omega) (by simp) .nil, aB (Below.refl _ _) _⟩
  case round =>
    obtain ⟨j, k, n1, s, o, ma, mm, cap, hj, rfl, hrow, hE, hB⟩ := hrel
    have z0 := hrow.1 0 (by simp)
    have z1 := hrow.1 1 (by simp)
    have z2 := hrow.1 2 (by simp)
    have z3 := hrow.1 3 (by simp)
    have z4 := hrow.1 4 (by simp)
    have y0 := hrow.2.1 0
    have y1 := hrow.2.1 1
    have y2 := hrow.2.1 2
    have y3 := hrow.2.1 3
    have y4 := hrow.2.1 4
    have hzl := hrow.2.2
    by_cases hlt : j < m
    · have hw : IntKind.i64.wrap ((j : Int) + 1 + 1) = (j : Int) + 1 + 1 := by rw [IntKind.wrap_i64]; omega
      have hlt' : (j : Int) + 1 < (m : Int) + 1 := by omega
      go_wp2
      go_roundw
      case rel =>
        have h5 := only_fiv (.int .u8 5) (.int .u64 0) (.string ⟨#[98]⟩) (.int .u8 0) (.slice (some ⟨wr.heap.size, 0, none⟩) 1 1) wr w.heap.size
        have hr5 := rowG_fiv (.int .u8 5) (.int .u64 0) (.string ⟨#[98]⟩) (.int .u8 0) (.slice (some ⟨wr.heap.size, 0, none⟩) 1 1) hrow
        obtain ⟨w5, hw5⟩ : ∃ w5, (((((wr.setCell ⟨w.heap.size, 0, none⟩ (.int .u8 5)).setCell ⟨w.heap.size, 1, none⟩ (.int .u64 0)).setCell ⟨w.heap.size, 2, none⟩ (.string ⟨#[98]⟩)).setCell ⟨w.heap.size, 3, none⟩ (.int .u8 0)).setCell ⟨w.heap.size, 4, none⟩ (.slice (some ⟨wr.heap.size, 0, none⟩) 1 1)) = w5 := ⟨_, rfl⟩
        have hs5 : w5.heap.size = wr.heap.size := by rw [← hw5]; simp only [World.size_setCell]
        rw [hw5] at h5 hr5 ⊢
        have hnc := fun o' => new_cell w5 #[.int .u8 k, .int .u64 n1, .string s, .int .u8 o, .slice ma mm cap] 25 o'
        have hO6 : Only (fun j => j = w.heap.size) wr (w5.alloc (.cells #[.int .u8 k, .int .u64 n1, .string s, .int .u8 o, .slice ma mm cap] 25)) := h5.trans (only_below (aB (Below.refl _ _) _))
        have hE6 := (hE.only hO6 (fun c hc e => by omega)).mono (G' := fun c => w.heap.size < c ∧ c < (w5.alloc (.cells #[.int .u8 k, .int .u64 n1, .string s, .int .u8 o, .slice ma mm cap] 25)).heap.size) (fun c hc => ⟨hc.1, Nat.lt_of_lt_of_le hc.2 hO6.size⟩)
        have hgn : w.heap.size < w5.heap.size ∧ w5.heap.size < (w5.alloc (.cells #[.int .u8 k, .int .u64 n1, .string s, .int .u8 o, .slice ma mm cap] 25)).heap.size := ⟨by omega, by simp⟩
        refine ⟨j + 1, 5, 0, ⟨#[98]⟩, 0, some ⟨wr.heap.size, 0, none⟩, 1, 1, by omega, by go_num, rowG_alloc hr5 _, ?_, (hB.trans (h5.below (fun j hj => by omega) (by have := hB.size; omega))).trans ((aB (Below.refl _ _) _).mono (by omega))⟩
        rw [← hs5]
        exact IsE.mk (k := 5) (n := 0) (s := [98]) (o := 0) (l := [chX true j]) (by omega) (by simp) (kid_of hE6 hgn (hnc 0) (hnc 1) (hnc 2) (hnc 3) (hnc 4) .nil)
      case measure => simp [intOf]; omega
    · obtain rfl : j = m := by omega
      have hEB : IsB wr (.agg #[.int .u8 k, .int .u64 n1, .string s, .int .u8 o, .slice ma mm cap]) (chX true j) := hE.mono (fun c hc => hc.2)
      have hmay := may_ch true j 60
      rw [decide_eq_true hm60] at hmay
      have hnod := nodes_ch true j
      have hTr := hT.of hB
      have hTl : ∀ x, Below wr.heap.size wr x → Calls Tryz.prog 14 #[.agg #[.int .u8 k, .int .u64 n1, .string s, .int .u8 o, .slice ma mm cap]] x fun r w' => (∃ g c, r = .returned (.slice (some ⟨g, 0, none⟩) (zs (tellF 60 (chX true j))).length c) ∧ RowZ w' (.slice (some ⟨g, 0, none⟩) (zs (tellF 60 (chX true j))).length c) (zs (tellF 60 (chX true j)))) ∧ Below x.heap.size x w' := fun x hb => (rtell_any 60 _ _ x hmay (hEB.of hb) (by omega)).mono fun r w' ⟨⟨g, c, he, hown⟩, hb⟩ => ⟨⟨g, c, by rw [zs_len]; exact he, own_rowZ (by rw [zs_len]; exact hown)⟩, hb⟩
      have hlen := tell_len 60 (chX true j) hmay
      have hzl2 := zs_len (tellF 60 (chX true j))
      by_cases h40 : j < 40
      · have hCk : Calls Tryz.prog 9 #[.agg #[.int .u8 k, .int .u64 n1, .string s, .int .u8 o, .slice ma mm cap]] wr fun r w' => r = .returned (.int .i64 0) ∧ Below wr.heap.size wr w' := by
          have := check_any _ (chX true j) _ wr hEB hTr
          rw [may_ch, decide_eq_true h40] at this
          exact this
        have hRd : ∀ x v, RowZ x v (zs (tellF 60 (chX true j))) → Tb x → Calls Tryz.prog 16 #[v, .int .i64 0] x fun e w' => (∃ (k n : Int) (s : ByteArray) (o : Int) (mk : Option Addr) (m cap : Nat) (q : Int), e = .returned (.tuple #[.agg #[.int .u8 k, .int .u64 n, .string s, .int .u8 o, .slice mk m cap], .int .i64 q, .nilIface]) ∧ IsE (fun b => x.heap.size ≤ b ∧ b < w'.heap.size) w' (.agg #[.int .u8 k, .int .u64 n, .string s, .int .u8 o, .slice mk m cap]) (chX true j)) ∧ Below x.heap.size x w' := fun x v hv hTx => by
          have := read_any hv (by omega) hTx 0 (by omega)
          rw [rdch_ok true j h40] at this
          exact this.mono fun e w' ⟨⟨k, n, s, o, mk, m, cap, he, hE⟩, hb⟩ => ⟨⟨k, n, s, o, mk, m, cap, _, he, hE⟩, hb⟩
        have hg : ¬ (40 : Int) < (j : Int) + 1 := by omega
        generalize (zs (tellF 60 (chX true j))).length = L at hTl
        go_wp2_with (first | (go_at_call 9; ((with_reducible refine hCk.mono ?_); (rintro e x1 ⟨rfl, hb1⟩); have hr1 := rowG_b hrow hb1; have p0 := hr1.1 0 (by simp); have p1 := hr1.1 1 (by simp); have p2 := hr1.1 2 (by simp); have p3 := hr1.1 3 (by simp); have p4 := hr1.1 4 (by simp); have l1 := hr1.2.2)) | (go_at_call 14; ((with_reducible refine (hTl _ hb1).mono ?_); (rintro e x2 ⟨⟨g, c, rfl, hv2⟩, hb2⟩); have hT2 := (hTr.of hb1).of hb2)) | (go_at_call 16; ((with_reducible refine (hRd _ _ hv2 hT2).mono ?_); (rintro e x3 ⟨⟨k2, n2, s2, o2, mk2, m2, cap2, q, rfl, hE3⟩, hb3⟩); have hr3 := rowG_b (rowG_b hr1 hb2) hb3; have q0 := hr3.1 0 (by simp); have q1 := hr3.1 1 (by simp); have q2 := hr3.1 2 (by simp); have q3 := hr3.1 3 (by simp); have q4 := hr3.1 4 (by simp); have l3 := hr3.2.2; have hT3 := (hT2.of hb3).alloc (.cells #[.int .u8 k2, .int .u64 n2, .string s2, .int .u8 o2, .slice mk2 m2 cap2] 25); have hEa := hE3.of (aB (Below.refl x3.heap.size x3) (.cells #[.int .u8 k2, .int .u64 n2, .string s2, .int .u8 o2, .slice mk2 m2 cap2] 25)); have hEb := (((hE.of hb1).of hb2).of hb3).of (aB (Below.refl x3.heap.size x3) (.cells #[.int .u8 k2, .int .u64 n2, .string s2, .int .u8 o2, .slice mk2 m2 cap2] 25)))) | (go_at_call 11; ((with_reducible refine (same07 _ _ (Nat.le_refl _) _ _ _ _ _ hEa hEb).mono ?_); (rintro e x4 ⟨rfl, hb4⟩); have hT4 := hT3.of hb4)) | (go_at_call 7; ((with_reducible refine (alive07 _ hT4).mono ?_); (rintro e x5 ⟨rfl, hb5⟩))))
        go_ret
        exact ⟨rfl, tr (tr (aB (tr (tr (tr hB hb1) hb2) hb3) _) hb4) hb5⟩
      · have hCk : Calls Tryz.prog 9 #[.agg #[.int .u8 k, .int .u64 n1, .string s, .int .u8 o, .slice ma mm cap]] wr fun r w' => r = .returned (.int .i64 2) ∧ Below wr.heap.size wr w' := by
          have := check_any _ (chX true j) _ wr hEB hTr
          rw [may_ch, decide_eq_false h40] at this
          exact this
        have hRd : ∀ x v, RowZ x v (zs (tellF 60 (chX true j))) → Tb x → Calls Tryz.prog 16 #[v, .int .i64 0] x fun e w' => e = .returned (.tuple #[.agg #[.int .u8 0, .int .u64 0, .string ⟨#[]⟩, .int .u8 0, .slice none 0 0], .int .i64 0, .iface 48 (.agg #[.int .i64 0, .int .i64 70])]) ∧ Below x.heap.size x w' := fun x v hv hTx => by
          have := read_any hv (by omega) hTx 0 (by omega)
          obtain ⟨q, hq⟩ := rdch_er true j (by omega) hm60
          rw [hq] at this
          exact this.mono fun e w' ⟨he, hb⟩ => ⟨by rw [he]; exact congrArg (fun z => Ending.returned (.tuple #[zX, .int .i64 0, .iface 48 (.agg #[.int .i64 z, .int .i64 70])])) (place_zs _ q), hb⟩
        have hg : (40 : Int) < (j : Int) + 1 := by omega
        have kT : ∀ w, Tb w → Calls Tryz.prog 19 #[.iface 48 (.agg #[.int .i64 0, .int .i64 70]), .agg #[.int .i64 0, .int .i64 70]] w fun e w' => e = .returned (.bool true) ∧ Below w.heap.size w w' := fun w hT => told_er 0 70 (by omega) w hT
        generalize (zs (tellF 60 (chX true j))).length = L at hTl
        go_wp2_with (first | (go_at_call 9; ((with_reducible refine hCk.mono ?_); (rintro e x1 ⟨rfl, hb1⟩); have hr1 := rowG_b hrow hb1; have p0 := hr1.1 0 (by simp); have p1 := hr1.1 1 (by simp); have p2 := hr1.1 2 (by simp); have p3 := hr1.1 3 (by simp); have p4 := hr1.1 4 (by simp); have l1 := hr1.2.2)) | (go_at_call 14; ((with_reducible refine (hTl _ hb1).mono ?_); (rintro e x2 ⟨⟨g, c, rfl, hv2⟩, hb2⟩); have hT2 := (hTr.of hb1).of hb2)) | (go_at_call 16; ((with_reducible refine (hRd _ _ hv2 hT2).mono ?_); (rintro e x3 ⟨rfl, hb3⟩); have hT3 := (hT2.of hb3).alloc (.cells #[.int .u8 0, .int .u64 0, .string ⟨#[]⟩, .int .u8 0, .slice none 0 0] 25))) | (go_at_call 19; ((with_reducible refine (kT _ hT3).mono ?_); (rintro e x4 ⟨rfl, hb4⟩); have hT4 := hT3.of hb4)) | (go_at_call 7; ((with_reducible refine (alive07 _ hT4).mono ?_); (rintro e x5 ⟨rfl, hb5⟩))))
        go_ret
        exact ⟨rfl, tr (tr (aB (tr (tr (tr hB hb1) hb2) hb3) _) hb4) hb5⟩
set_option maxRecDepth 100000 in
set_option maxHeartbeats 16000000 in
theorem deep_false (n : Nat) (hn : n < 256) (w : World) (hT : Tb w) : Calls Tryz.prog 5 #[.int .u8 (n : Int), .bool false] w fun e w' => e = .returned (.bool true) ∧ Below w.heap.size w w' := by
  obtain ⟨m, hm⟩ : ∃ m, m = n % 60 := ⟨_, rfl⟩
  have hm60 : m < 60 := by omega
  have h1 : ((n : Int) % 60) = (m : Int) := by omega
  have h2 : IntKind.i64.wrap (m : Int) = (m : Int) := by rw [IntKind.wrap_i64]; omega
  have h3 : IntKind.i64.wrap (1 + (m : Int)) = (m : Int) + 1 := by rw [IntKind.wrap_i64]; omega
  clear hm
  go_enter Tryz.func5, Tryz.ntmps5
  go_wp2
  go_loopw [7] (fun ii wr => ∃ (j : Nat) (k n1 : Int) (s : ByteArray) (o : Int) (ma : Option Addr) (mm cap : Nat), j ≤ m ∧ ii = .int .i64 ((j : Int) + 1) ∧ rowG #[.int .u8 k, .int .u64 n1, .string s, .int .u8 o, .slice ma mm cap] wr w.heap.size ∧ IsE (fun c => w.heap.size < c ∧ c < wr.heap.size) wr (vX k n1 s o ma mm cap) (chX false j) ∧ Below w.heap.size w wr) (fun ii _ => m + 1 - (intOf ii).toNat)
  case atStart => exact ⟨0, 1, 1, ⟨#[]⟩, 0, none, 0, 0, Nat.zero_le _, rfl, rowG_at _ _ _ _ rfl, IsE.mk (k := 1) (n := 1) (s := []) (o := 0) (l := []) (by omega) (by simp) .nil, aB (Below.refl _ _) _⟩
  case round =>
    obtain ⟨j, k, n1, s, o, ma, mm, cap, hj, rfl, hrow, hE, hB⟩ := hrel
    have z0 := hrow.1 0 (by simp)
    have z1 := hrow.1 1 (by simp)
    have z2 := hrow.1 2 (by simp)
    have z3 := hrow.1 3 (by simp)
    have z4 := hrow.1 4 (by simp)
    have y0 := hrow.2.1 0
    have y1 := hrow.2.1 1
    have y2 := hrow.2.1 2
    have y3 := hrow.2.1 3
    have y4 := hrow.2.1 4
    have hzl := hrow.2.2
    by_cases hlt : j < m
    · have hw : IntKind.i64.wrap ((j : Int) + 1 + 1) = (j : Int) + 1 + 1 := by rw [IntKind.wrap_i64]; omega
      have hlt' : (j : Int) + 1 < (m : Int) + 1 := by omega
      go_wp2
      go_roundw
      case rel =>
        have h5 := only_fiv (.int .u8 3) (.int .u64 0) (.string ⟨#[]⟩) (.int .u8 2) (.slice (some ⟨wr.heap.size, 0, none⟩) 2 2) wr w.heap.size
        have hr5 := rowG_fiv (.int .u8 3) (.int .u64 0) (.string ⟨#[]⟩) (.int .u8 2) (.slice (some ⟨wr.heap.size, 0, none⟩) 2 2) hrow
        obtain ⟨w5, hw5⟩ : ∃ w5, (((((wr.setCell ⟨w.heap.size, 0, none⟩ (.int .u8 3)).setCell ⟨w.heap.size, 1, none⟩ (.int .u64 0)).setCell ⟨w.heap.size, 2, none⟩ (.string ⟨#[]⟩)).setCell ⟨w.heap.size, 3, none⟩ (.int .u8 2)).setCell ⟨w.heap.size, 4, none⟩ (.slice (some ⟨wr.heap.size, 0, none⟩) 2 2)) = w5 := ⟨_, rfl⟩
        have hs5 : w5.heap.size = wr.heap.size := by rw [← hw5]; simp only [World.size_setCell]
        rw [hw5] at h5 hr5 ⊢
        have hnc := fun o' => new_cell w5 #[.int .u8 k, .int .u64 n1, .string s, .int .u8 o, .slice ma mm cap, .int .u8 4, .int .u64 0, .string ⟨#[98]⟩, .int .u8 0, .slice none 0 0] 25 o'
        have hO6 : Only (fun j => j = w.heap.size) wr (w5.alloc (.cells #[.int .u8 k, .int .u64 n1, .string s, .int .u8 o, .slice ma mm cap, .int .u8 4, .int .u64 0, .string ⟨#[98]⟩, .int .u8 0, .slice none 0 0] 25)) := h5.trans (only_below (aB (Below.refl _ _) _))
        have hE6 := (hE.only hO6 (fun c hc e => by omega)).mono (G' := fun c => w.heap.size < c ∧ c < (w5.alloc (.cells #[.int .u8 k, .int .u64 n1, .string s, .int .u8 o, .slice ma mm cap, .int .u8 4, .int .u64 0, .string ⟨#[98]⟩, .int .u8 0, .slice none 0 0] 25)).heap.size) (fun c hc => ⟨hc.1, Nat.lt_of_lt_of_le hc.2 hO6.size⟩)
        have hgn : w.heap.size < w5.heap.size ∧ w5.heap.size < (w5.alloc (.cells #[.int .u8 k, .int .u64 n1, .string s, .int .u8 o, .slice ma mm cap, .int .u8 4, .int .u64 0, .string ⟨#[98]⟩, .int .u8 0, .slice none 0 0] 25)).heap.size := ⟨by omega, by simp⟩
        refine ⟨j + 1, 3, 0, ⟨#[]⟩, 2, some ⟨wr.heap.size, 0, none⟩, 2, 2, by omega, by go_num, rowG_alloc hr5 _, ?_, (hB.trans (h5.below (fun j hj => by omega) (by have := hB.size; omega))).trans ((aB (Below.refl _ _) _).mono (by omega))⟩
        rw [← hs5]
        exact IsE.mk (k := 3) (n := 0) (s := []) (o := 2) (l := [chX false j, .mk 4 0 [98] 0 []]) (by omega) (by simp) (kid_of hE6 hgn (hnc 0) (hnc 1) (hnc 2) (hnc 3) (hnc 4) (KidsAt.cons (k := 4) (n := 0) (s := [98]) (o := 0) (l := []) hgn (hnc 5) (hnc 6) (hnc 7) (hnc 8) (hnc 9) (by omega) (by simp) .nil .nil))
      case measure => simp [intOf]; omega
    · obtain rfl : j = m := by omega
      have hEB : IsB wr (.agg #[.int .u8 k, .int .u64 n1, .string s, .int .u8 o, .slice ma mm cap]) (chX false j) := hE.mono (fun c hc => hc.2)
      have hmay := may_ch false j 60
      rw [decide_eq_true hm60] at hmay
      have hnod := nodes_ch false j
      have hTr := hT.of hB
      have hTl : ∀ x, Below wr.heap.size wr x → Calls Tryz.prog 14 #[.agg #[.int .u8 k, .int .u64 n1, .string s, .int .u8 o, .slice ma mm cap]] x fun r w' => (∃ g c, r = .returned (.slice (some ⟨g, 0, none⟩) (zs (tellF 60 (chX false j))).length c) ∧ RowZ w' (.slice (some ⟨g, 0, none⟩) (zs (tellF 60 (chX false j))).length c) (zs (tellF 60 (chX false j)))) ∧ Below x.heap.size x w' := fun x hb => (rtell_any 60 _ _ x hmay (hEB.of hb) (by omega)).mono fun r w' ⟨⟨g, c, he, hown⟩, hb⟩ => ⟨⟨g, c, by rw [zs_len]; exact he, own_rowZ (by rw [zs_len]; exact hown)⟩, hb⟩
      have hlen := tell_len 60 (chX false j) hmay
      have hzl2 := zs_len (tellF 60 (chX false j))
      by_cases h40 : j < 40
      · have hCk : Calls Tryz.prog 9 #[.agg #[.int .u8 k, .int .u64 n1, .string s, .int .u8 o, .slice ma mm cap]] wr fun r w' => r = .returned (.int .i64 0) ∧ Below wr.heap.size wr w' := by
          have := check_any _ (chX false j) _ wr hEB hTr
          rw [may_ch, decide_eq_true h40] at this
          exact this
        have hRd : ∀ x v, RowZ x v (zs (tellF 60 (chX false j))) → Tb x → Calls Tryz.prog 16 #[v, .int .i64 0] x fun e w' => (∃ (k n : Int) (s : ByteArray) (o : Int) (mk : Option Addr) (m cap : Nat) (q : Int), e = .returned (.tuple #[.agg #[.int .u8 k, .int .u64 n, .string s, .int .u8 o, .slice mk m cap], .int .i64 q, .nilIface]) ∧ IsE (fun b => x.heap.size ≤ b ∧ b < w'.heap.size) w' (.agg #[.int .u8 k, .int .u64 n, .string s, .int .u8 o, .slice mk m cap]) (chX false j)) ∧ Below x.heap.size x w' := fun x v hv hTx => by
          have := read_any hv (by omega) hTx 0 (by omega)
          rw [rdch_ok false j h40] at this
          exact this.mono fun e w' ⟨⟨k, n, s, o, mk, m, cap, he, hE⟩, hb⟩ => ⟨⟨k, n, s, o, mk, m, cap, _, he, hE⟩, hb⟩
        have hg : ¬ (40 : Int) < (j : Int) + 1 := by omega
        generalize (zs (tellF 60 (chX false j))).length = L at hTl
        go_wp2_with (first | (go_at_call 9; ((with_reducible refine hCk.mono ?_); (rintro e x1 ⟨rfl, hb1⟩); have hr1 := rowG_b hrow hb1; have p0 := hr1.1 0 (by simp); have p1 := hr1.1 1 (by simp); have p2 := hr1.1 2 (by simp); have p3 := hr1.1 3 (by simp); have p4 := hr1.1 4 (by simp); have l1 := hr1.2.2)) | (go_at_call 14; ((with_reducible refine (hTl _ hb1).mono ?_); (rintro e x2 ⟨⟨g, c, rfl, hv2⟩, hb2⟩); have hT2 := (hTr.of hb1).of hb2)) | (go_at_call 16; ((with_reducible refine (hRd _ _ hv2 hT2).mono ?_); (rintro e x3 ⟨⟨k2, n2, s2, o2, mk2, m2, cap2, q, rfl, hE3⟩, hb3⟩); have hr3 := rowG_b (rowG_b hr1 hb2) hb3; have q0 := hr3.1 0 (by simp); have q1 := hr3.1 1 (by simp); have q2 := hr3.1 2 (by simp); have q3 := hr3.1 3 (by simp); have q4 := hr3.1 4 (by simp); have l3 := hr3.2.2; have hT3 := (hT2.of hb3).alloc (.cells #[.int .u8 k2, .int .u64 n2, .string s2, .int .u8 o2, .slice mk2 m2 cap2] 25); have hEa := hE3.of (aB (Below.refl x3.heap.size x3) (.cells #[.int .u8 k2, .int .u64 n2, .string s2, .int .u8 o2, .slice mk2 m2 cap2] 25)); have hEb := (((hE.of hb1).of hb2).of hb3).of (aB (Below.refl x3.heap.size x3) (.cells #[.int .u8 k2, .int .u64 n2, .string s2, .int .u8 o2, .slice mk2 m2 cap2] 25)))) | (go_at_call 11; ((with_reducible refine (same07 _ _ (Nat.le_refl _) _ _ _ _ _ hEa hEb).mono ?_); (rintro e x4 ⟨rfl, hb4⟩); have hT4 := hT3.of hb4)) | (go_at_call 7; ((with_reducible refine (alive07 _ hT4).mono ?_); (rintro e x5 ⟨rfl, hb5⟩))))
        go_ret
        exact ⟨rfl, tr (tr (aB (tr (tr (tr hB hb1) hb2) hb3) _) hb4) hb5⟩
      · have hCk : Calls Tryz.prog 9 #[.agg #[.int .u8 k, .int .u64 n1, .string s, .int .u8 o, .slice ma mm cap]] wr fun r w' => r = .returned (.int .i64 2) ∧ Below wr.heap.size wr w' := by
          have := check_any _ (chX false j) _ wr hEB hTr
          rw [may_ch, decide_eq_false h40] at this
          exact this
        have hRd : ∀ x v, RowZ x v (zs (tellF 60 (chX false j))) → Tb x → Calls Tryz.prog 16 #[v, .int .i64 0] x fun e w' => e = .returned (.tuple #[.agg #[.int .u8 0, .int .u64 0, .string ⟨#[]⟩, .int .u8 0, .slice none 0 0], .int .i64 0, .iface 48 (.agg #[.int .i64 0, .int .i64 70])]) ∧ Below x.heap.size x w' := fun x v hv hTx => by
          have := read_any hv (by omega) hTx 0 (by omega)
          obtain ⟨q, hq⟩ := rdch_er false j (by omega) hm60
          rw [hq] at this
          exact this.mono fun e w' ⟨he, hb⟩ => ⟨by rw [he]; exact congrArg (fun z => Ending.returned (.tuple #[zX, .int .i64 0, .iface 48 (.agg #[.int .i64 z, .int .i64 70])])) (place_zs _ q), hb⟩
        have hg : (40 : Int) < (j : Int) + 1 := by omega
        have kT : ∀ w, Tb w → Calls Tryz.prog 19 #[.iface 48 (.agg #[.int .i64 0, .int .i64 70]), .agg #[.int .i64 0, .int .i64 70]] w fun e w' => e = .returned (.bool true) ∧ Below w.heap.size w w' := fun w hT => told_er 0 70 (by omega) w hT
        generalize (zs (tellF 60 (chX false j))).length = L at hTl
        go_wp2_with (first | (go_at_call 9; ((with_reducible refine hCk.mono ?_); (rintro e x1 ⟨rfl, hb1⟩); have hr1 := rowG_b hrow hb1; have p0 := hr1.1 0 (by simp); have p1 := hr1.1 1 (by simp); have p2 := hr1.1 2 (by simp); have p3 := hr1.1 3 (by simp); have p4 := hr1.1 4 (by simp); have l1 := hr1.2.2)) | (go_at_call 14; ((with_reducible refine (hTl _ hb1).mono ?_); (rintro e x2 ⟨⟨g, c, rfl, hv2⟩, hb2⟩); have hT2 := (hTr.of hb1).of hb2)) | (go_at_call 16; ((with_reducible refine (hRd _ _ hv2 hT2).mono ?_); (rintro e x3 ⟨rfl, hb3⟩); have hT3 := (hT2.of hb3).alloc (.cells #[.int .u8 0, .int .u64 0, .string ⟨#[]⟩, .int .u8 0, .slice none 0 0] 25))) | (go_at_call 19; ((with_reducible refine (kT _ hT3).mono ?_); (rintro e x4 ⟨rfl, hb4⟩); have hT4 := hT3.of hb4)) | (go_at_call 7; ((with_reducible refine (alive07 _ hT4).mono ?_); (rintro e x5 ⟨rfl, hb5⟩))))
        go_ret
        exact ⟨rfl, tr (tr (aB (tr (tr (tr hB hb1) hb2) hb3) _) hb4) hb5⟩
theorem walkI07 (n : Nat) (hn : n < 256) (b : Bool) (w : World) (hT : Tb w) : Calls Tryz.prog 5 #[.int .u8 (n : Int), .bool b] w fun e w' => e = .returned (.bool true) ∧ Below w.heap.size w w' := by
  cases b
  · exact deep_false n hn w hT
  · exact deep_true n hn w hT
end Go.Proofs.YtnblnmehfhkfmaaGreatDoor
