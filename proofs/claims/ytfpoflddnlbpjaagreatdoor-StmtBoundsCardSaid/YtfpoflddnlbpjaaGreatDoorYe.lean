/- StmtBounds, kind 2. -/
import Derived.Test.YtfpoflddnlbpjaaGreatDoorYd
namespace Go.Proofs.YtfpoflddnlbpjaaGreatDoor
open Go.ChangeShapes Go.WideShapes Go.ChangeAt Go.RowKit
set_option linter.unusedVariables false
theorem sb2_ok (m : Nat) (h1 : 399 ≤ m) (h2 : m ≤ 400) : parB (tx2 m) = .ok (pg2 m) := by
  obtain rfl | rfl : m = 399 ∨ m = 400 := by omega
  · exact b20
  · exact b21
theorem sb2_er : ∃ a, parB (tx2 401) = .er 5 a := ⟨_, b22⟩
/-- The statement seal, in a row. -/
def sK : Sx := ⟨12, [], [], false, false, none, 0, 0, none, 0, 0, none, 0, 0, none, 0, 0, seal0⟩
theorem sK_is (G : Nat → Prop) (w : World) : sK.is G w := IsSt.mk (k := 12) (nm := []) (fr := []) (ex := []) (ar := []) (bd := []) (el := []) (by omega) (by simp) (by simp) (by simp) (by simp) .nil StrsAt.nil .nil .nil
theorem sK_map (m : Nat) : (List.replicate m sK).map (·.x) = List.replicate m seal0 := by simp [sK]
set_option maxRecDepth 100000 in
set_option maxHeartbeats 8000000 in
theorem sb_2 (kd n : Nat) (hkd : kd % 4 = 2) (w : World) (hT : Tb w) :
    Calls Tryz.prog 5 #[.int .u8 (kd : Int), .int .u8 (n : Int)] w fun e w' => e = .returned (.bool true) ∧ Below w.heap.size w w' := by
  obtain ⟨i0, hi, hz0, hz1, hz2⟩ := info_parts infoS9
  have hk4 : ((kd : Int) % 4) = 2 := by omega
  obtain ⟨r, hr⟩ : ∃ r, r = n % 3 := ⟨_, rfl⟩
  have hr3 : r < 3 := by omega
  have hn3 : ((n : Int) % 3) = (r : Int) := by omega
  obtain ⟨m, hm⟩ : ∃ m, m = 399 + r := ⟨_, rfl⟩
  have hw1 : IntKind.i64.wrap (r : Int) = (r : Int) := by rw [IntKind.wrap_i64]; omega
  have hw2 : IntKind.i64.wrap (400 + (r : Int)) = 400 + (r : Int) := by rw [IntKind.wrap_i64]; omega
  have hw3 : IntKind.i64.wrap (400 + (r : Int) - 1) = (m : Int) := by rw [IntKind.wrap_i64]; omega
  have HM := Lib.hid hm
  have HK4 := Lib.hid hk4
  have hmM : m ≤ 401 := by omega
  clear hr hkd hm
  go_enter Tryz.func5, Tryz.ntmps5
  go_wp2
  clear hk4 hn3 hw1 hw2 hw3
  go_loopw [6, 14] (fun tv iv wr => ∃ (k : Nat) (a : Option Addr) (c : Nat), k ≤ m ∧ tv = .string (str (sea2 k)) ∧ iv = .int .i64 (k : Int) ∧ wr.ownsRow (w.heap.size + 3) 44 9 (.slice a k c) k (sxs (List.replicate k sK)) ∧ rowG #[.string ⟨#[102]⟩, .slice none 0 0, .slice a k c, .bool false, .slice none 0 0] wr (w.heap.size + 1 + 1) ∧ rowG #[.slice none 0 0] wr (w.heap.size + 1) ∧ rowG #[.int .u8 12, .string ⟨#[]⟩, .string ⟨#[]⟩, .bool false, .bool false, .slice none 0 0, .slice none 0 0, .slice none 0 0, .slice none 0 0] wr w.heap.size ∧ Below w.heap.size w wr) (fun _ iv _ => m - (intOf iv).toNat)
  case atStart => exact ⟨0, none, 0, Nat.zero_le _, rfl, rfl, World.ownsRow_nil _ _ _ _, rowG_at _ _ _ _ (by simp), rowG_alloc (rowG_at _ _ _ _ (by simp)) _, rowG_alloc (rowG_alloc (rowG_at _ _ _ _ rfl) _) _, aB (aB (aB (Below.refl _ _) _) _) _⟩
  case round =>
    obtain ⟨k, a, c, hk, rfl, rfl, hown, hF, hS, hZ, hB⟩ := hrel
    obtain ⟨f0, f1, f2, f3, f4, ff, fl⟩ := fiveF hF
    by_cases hlt : k < m
    · have hlen := sea2_len k
      have hadd : ∀ w', (Op.stringOp .add (str (sea2 k)) ⟨#[115, 101, 97, 108, 59]⟩).run Tryz.prog w' = .ok (.string (str (sea2 (k + 1)))) w' := fun w' => cat_any (sea2 k) [115, 101, 97, 108, 59] w' (by simp only [List.length_cons, List.length_nil]; omega)
      clear hlen
      obtain ⟨z0, z1, z2, z3, z4, z5, z6, z7, z8, zf, zl⟩ := nine hZ
      go_wp2_with (at_builtin; refine wpList_append_lies _ rfl _ _ 42 rfl (w.heap.size + 3) 44 i0 _ 9 144 Tryz.underlying42 hi hz0 hz1 hz2 rfl (by decide) _ k (sxs (List.replicate k sK)) rfl (hown.alloc _) ⟨wr.heap.size, 0, none⟩ 1 1 (sxs [sK]) rfl rfl ?cN ?c0 (by decide) ?c1 ?c2 ?c3 _ rfl ?_)
      case cN => first | exact fun j u h => h | exact news_ok (sxs [sK]) 44 wr
      case c0 => exact sxs_one _
      case c1 => unfold maxLen; omega
      case c2 => omega
      case c3 => first | omega | (simp; omega)
      intro g cap' w5 hown5 hgrow hat hlt5
      have hog := only_grown hgrow
      have hnew : ∀ j, some j = (Value.slice a k c).ownBlock → w.heap.size + 3 ≤ j := fun j hj => (own_lt hown hj.symm).1
      have hF5 := rowG_only (rowG_alloc hF _) hog (fun e => by have := hnew _ e; omega)
      have hS5 := rowG_only (rowG_alloc hS _) hog (fun e => by have := hnew _ e; omega)
      have hZ5 := rowG_only (rowG_alloc hZ _) hog (fun e => by have := hnew _ e; omega)
      have hB5 : Below w.heap.size w w5 := (aB hB _).trans (hog.below (B := w.heap.size) (fun j hj => by have := hnew j hj; omega) (aB hB _).size)
      clear f0 f1 f2 f3 f4 ff fl z0 z1 z2 z3 z4 z5 z6 z7 z8 zf zl
      obtain ⟨f0, f1, f2, f3, f4, ff, fl⟩ := fiveF hF5
      go_wp2
      have e : sxs (List.replicate (k + 1) sK) = sxs (List.replicate k sK) ++ sxs [sK] := by rw [List.replicate_succ', sxs_app]
      rw [← e] at hown5
      have hown6 := own_only hown5 (only_one w5 (w.heap.size + 1 + 1) 2 (.slice (some ⟨g, 0, none⟩) (k + 1) cap')) (fun j hj e => by have := (own_lt hown5 hj).1; have e2 : j = w.heap.size + 1 + 1 := e; omega)
      have hB6 : Below w.heap.size w (w5.setCell ⟨w.heap.size + 1 + 1, 2, none⟩ (.slice (some ⟨g, 0, none⟩) (k + 1) cap')) := hB5.setCell (by show w.heap.size ≤ w.heap.size + 1 + 1; omega) _
      have hF6 := r5fs2 (.slice (some ⟨g, 0, none⟩) (k + 1) cap') hF5
      have hS6 := rowG_other (o := 2) (.slice (some ⟨g, 0, none⟩) (k + 1) cap') hS5 (show w.heap.size + 1 ≠ w.heap.size + 1 + 1 by omega)
      have hZ6 := rowG_other (o := 2) (.slice (some ⟨g, 0, none⟩) (k + 1) cap') hZ5 (show w.heap.size ≠ w.heap.size + 1 + 1 by omega)
      go_roundw
      case rel => first | exact ⟨k + 1, some ⟨g, 0, none⟩, cap', by omega, rfl, by go_num, hown6, hF6, hS6, hZ6, hB6⟩ | ((repeat apply Exists.intro); exact ⟨⟨k + 1, some ⟨g, 0, none⟩, cap', by omega, rfl, by go_num, hown6, hF6, hS6, hZ6, hB6⟩, rfl⟩)
      case measure => simp [intOf]; omega
    · obtain rfl : k = m := by omega
      have hPl : (pg2 k).length = 1 := rfl
      have s0 := hS.1 0 (by simp)
      have sf := hS.2.1 0
      have sl := hS.2.2
      have hadd : ∀ w', (Op.stringOp .add (str (sea2 k)) ⟨#[125, 59]⟩).run Tryz.prog w' = .ok (.string (str (tx2 k))) w' := fun w' => cat_any (sea2 k) [125, 59] w' (by have := sea2_len k; simp only [List.length_cons, List.length_nil]; omega)
      obtain ⟨W, hW⟩ : ∃ W, (wr.setCell ⟨w.heap.size + 1, 0, none⟩ (.slice (some ⟨wr.heap.size, 0, none⟩) 1 1)).alloc (.cells #[.string ⟨#[102]⟩, .slice none 0 0, .slice a k c, .bool false, .slice none 0 0] 47) = W := ⟨_, rfl⟩
      have hOW : Only (fun j => j = w.heap.size + 1) wr W := by rw [← hW]; exact (only_one wr _ _ _).trans (only_below (aB (Below.refl _ _) _))
      have hBW : Below w.heap.size w W := hB.trans (hOW.below (B := w.heap.size) (fun j hj => by omega) hB.size)
      have hSp : rowG #[.slice (some ⟨wr.heap.size, 0, none⟩) 1 1] W (w.heap.size + 1) := by rw [← hW]; exact rowG_alloc (r1ps0 _ hS) _
      have hrF : rowG #[.string ⟨#[102]⟩, .slice none 0 0, .slice a k c, .bool false, .slice none 0 0] W wr.heap.size := by rw [← hW]; exact rowG_at _ _ _ _ (by simp)
      obtain ⟨ma', cap', emc, hSt⟩ := row_sts hown (by simp) (fun K hK => by obtain rfl := List.eq_of_mem_replicate hK; exact sK_is _ _)
      rw [sK_map] at hSt
      obtain ⟨rfl, -, rfl⟩ := (Value.slice.injEq _ _ _ _ _ _).mp emc
      have hSt2 := hSt.only hOW (fun b hb e => by have := hb.1; have e2 : b = w.heap.size + 1 := e; omega)
      have hF0 : FdsAt (fun b => b < W.heap.size) W (pg2 k) (some ⟨wr.heap.size, 0, none⟩) := fds_one (nm := [102]) (ps := []) (bd := List.replicate k seal0) (rt := []) (by rw [List.length_replicate]; exact hrF) hrF.2.2 (by simp) (by simp; omega) (by simp) PmsAt.nil (hSt2.mono fun b hb => Nat.lt_of_lt_of_le hb.2 hOW.size) .nil
      have hFd := fun x (hb : Below W.heap.size W x) => (FdsAt.of hF0 hb).mono (fun b hb' => Nat.lt_of_lt_of_le hb' hb.size)
      clear emc hSt hSt2
      have hTW := hT.of hBW
      have hk4 := HK4.out
      by_cases hle : k ≤ 400
      · have hlei : (k : Int) ≤ 400 := by omega
        have hpar := sb2_ok k (by have := HM.out; omega) hle
        have hP : Calls Tryz.prog 16 #[.string (str (tx2 k))] W fun e w' => (∃ (ma : Option Addr) (cap : Nat), e = .returned (.tuple #[.agg #[.slice ma 1 cap], .nilIface]) ∧ FdsAt (fun b => b < w'.heap.size) w' (pg2 k) ma) ∧ Below W.heap.size W w' := by
          have := parse_any (str (tx2 k)) hTW
          rw [str_list, hpar] at this
          exact this.mono fun e w' ⟨hb, ma, cap, he, hl, hF⟩ => ⟨⟨ma, cap, by rw [he, hPl], hF.mono fun b hb => hb.2⟩, hb⟩
        have hpg : pgB (pg2 k) = true := par_good hpar
        clear hpar
        go_wp2_with first
          | (go_at_call 16; ((with_reducible refine hP.mono ?_); (rintro e x1 ⟨⟨ma, cap, rfl, hF1⟩, hb1⟩); (have hA1 := tr hb1 (aB (Below.refl x1.heap.size x1) (.cells #[.slice ma (1) cap] 24))); (have hA0 := aB (Below.refl x1.heap.size x1) (.cells #[.slice ma (1) cap] 24)); (have hF1a := (FdsAt.of hF1 hA0).mono (fun b hb => Nat.lt_of_lt_of_le hb hA0.size)); (have hs1 := rowG_b hSp hA1); (have q0 := hs1.1 0 (by simp)); (have ql := hs1.2.2); (have hq1 := rowG_at #[.slice ma (1) cap] 24 x1 _ rfl); (have hC := chk_any (pg2 k) _ 1 _ (hFd _ hA1) (by omega) (hTW.of hA1)); (rw [hpg, hPl] at hC); (simp only [if_true] at hC)))
          | (go_at_call 13; ((with_reducible refine hC.mono ?_); (rintro e x2 ⟨rfl, hb2⟩); (have hA2 := tr hA1 hb2); (have hs2 := rowG_b hs1 hb2); (have hq2 := rowG_b hq1 hb2); (clear q0 ql); (have q0 := hs2.1 0 (by simp)); (have ql := hs2.2.2); (have y0 := hq2.1 0 (by simp)); (have yl := hq2.2.2); (have hSm := sm_any (pg2 k) _ _ _ _ 1 cap x2 (hFd _ hA2) (FdsAt.of hF1a hb2) (by omega)); (rw [hPl] at hSm)))
          | (go_at_call 15; ((with_reducible refine hSm.mono ?_); (rintro e x3 ⟨rfl, hb3⟩); (have hAl := alive08 _ (hTW.of (tr hA2 hb3)))))
          | (go_at_call 11; ((with_reducible refine hAl.mono ?_); (rintro e x4 ⟨rfl, hb4⟩)))
        go_ret
        exact ⟨rfl, tr hBW (tr (tr hA2 hb3) hb4)⟩
      · have hlei : ¬ (k : Int) ≤ 400 := by omega
        obtain rfl : k = 401 := by omega
        obtain ⟨a0, hpar⟩ := sb2_er
        have hP : Calls Tryz.prog 16 #[.string (str (tx2 401))] W fun e w' => e = .returned (.tuple #[.agg #[.slice none 0 0], .iface 36 (.agg #[.int .i64 (a0 : Int), .int .i64 5])]) ∧ Below W.heap.size W w' := by
          have := parse_any (str (tx2 401)) hTW
          rw [str_list, hpar] at this
          exact this.mono fun e w' ⟨hb, he⟩ => ⟨he, hb⟩
        have hpg : pgB (pg2 401) = false := c22
        have hIs := is_any (a0 : Int) 5
        clear hpar
        go_wp2_with first
          | (go_at_call 16; ((with_reducible refine hP.mono ?_); (rintro e x1 ⟨rfl, hb1⟩); (have hA1 := tr hb1 (aB (Below.refl x1.heap.size x1) (.cells #[.slice none 0 0] 24))); (have hs1 := rowG_b hSp hA1); (have q0 := hs1.1 0 (by simp)); (have ql := hs1.2.2); (have hC := chk_any (pg2 401) _ 1 _ (hFd _ hA1) (by omega) (hTW.of hA1)); (rw [hpg, hPl] at hC); (simp only [Bool.false_eq_true, if_false] at hC)))
          | (go_at_call 13; ((with_reducible refine hC.mono ?_); (rintro e x2 ⟨rfl, hb2⟩); (have hA2 := tr hA1 hb2)))
          | (go_at_call 18; ((with_reducible refine (hIs _).mono ?_); (rintro e x3 ⟨rfl, hb3⟩); (have hAl := alive08 _ (hTW.of (tr hA2 hb3)))))
          | (go_at_call 11; ((with_reducible refine hAl.mono ?_); (rintro e x4 ⟨rfl, hb4⟩)))
        go_ret
        exact ⟨rfl, tr hBW (tr (tr hA2 hb3) hb4)⟩
end Go.Proofs.YtfpoflddnlbpjaaGreatDoor

/- StmtBounds, kind 3. -/
namespace Go.Proofs.YtfpoflddnlbpjaaGreatDoor
open Go.ChangeShapes Go.WideShapes Go.ChangeAt Go.RowKit
set_option linter.unusedVariables false
theorem sb3_ok (m : Nat) (h1 : 39 ≤ m) (h2 : m ≤ 40) : parB (tx3 (m - 1)) = .ok (pg3 (m - 1)) := by
  obtain rfl | rfl : m = 39 ∨ m = 40 := by omega
  · exact b30
  · exact b31
theorem sb3_er : ∃ a, parB (tx3 40) = .er 70 a := ⟨_, b32⟩
set_option maxRecDepth 100000 in
set_option maxHeartbeats 8000000 in
theorem sb_3 (kd n : Nat) (hkd : kd % 4 = 3) (w : World) (hT : Tb w) :
    Calls Tryz.prog 5 #[.int .u8 (kd : Int), .int .u8 (n : Int)] w fun e w' => e = .returned (.bool true) ∧ Below w.heap.size w w' := by
  obtain ⟨i0, hi, hz0, hz1, hz2⟩ := info_parts infoF5
  have hk4 : ((kd : Int) % 4) = 3 := by omega
  obtain ⟨r, hr⟩ : ∃ r, r = n % 3 := ⟨_, rfl⟩
  have hr3 : r < 3 := by omega
  have hn3 : ((n : Int) % 3) = (r : Int) := by omega
  obtain ⟨m, hm⟩ : ∃ m, m = 39 + r := ⟨_, rfl⟩
  have hw1 : IntKind.i64.wrap (r : Int) = (r : Int) := by rw [IntKind.wrap_i64]; omega
  have hw2 : IntKind.i64.wrap (40 + (r : Int)) = 40 + (r : Int) := by rw [IntKind.wrap_i64]; omega
  have hw3 : IntKind.i64.wrap (40 + (r : Int) - 1) = (m : Int) := by rw [IntKind.wrap_i64]; omega
  have HM := Lib.hid hm
  have HK4 := Lib.hid hk4
  have hmM : m ≤ 41 := by omega
  clear hr hkd hm
  go_enter Tryz.func5, Tryz.ntmps5
  go_wp2
  clear hk4 hn3 hw1 hw2 hw3
  obtain ⟨W0, hW0⟩ : ∃ W0, ((w.alloc (.cells #[.int .u8 12, .string ⟨#[]⟩, .string ⟨#[]⟩, .bool false, .bool false, .slice none 0 0, .slice none 0 0, .slice none 0 0, .slice none 0 0] 44)).alloc (.cells #[.slice none 0 0] 24)).alloc (.cells #[.int .u8 12, .string ⟨#[]⟩, .string ⟨#[]⟩, .bool false, .bool false, .slice none 0 0, .slice none 0 0, .slice none 0 0, .slice none 0 0] 44) = W0 := ⟨_, rfl⟩
  have hB0 : Below w.heap.size w W0 := by rw [← hW0]; exact aB (aB (aB (Below.refl _ _) _) _) _
  have hS0 : rowG #[.slice none 0 0] W0 (w.heap.size + 1) := by rw [← hW0]; exact rowG_alloc (rowG_at _ _ _ _ (by simp)) _
  have hr0 : rowG #[.int .u8 12, .string ⟨#[]⟩, .string ⟨#[]⟩, .bool false, .bool false, .slice none 0 0, .slice none 0 0, .slice none 0 0, .slice none 0 0] W0 (w.heap.size + 1 + 1) := by rw [← hW0]; exact rowG_at _ _ _ _ (by simp)
  have hSt0 : StsAt (fun b => w.heap.size + 1 < b ∧ b < W0.heap.size) W0 (sts3 0) (some ⟨w.heap.size + 1 + 1, 0, none⟩) := sts_one (k := 12) (nm := []) (fr := []) (ex := []) (ar := []) (bd := []) (el := []) hr0 ⟨by omega, hr0.2.2⟩ (by omega) (by simp) (by simp) (by simp) (by simp) .nil StrsAt.nil .nil .nil
  rw [hW0]
  clear hW0 hr0
  go_loopw [6, 15, 16] (fun tv lv iv wr => ∃ (k b : Nat), k + 1 ≤ m ∧ tv = .string (str (nst3 k)) ∧ lv = .slice (some ⟨b, 0, none⟩) 1 1 ∧ iv = .int .i64 ((k : Int) + 1) ∧ StsAt (fun b => w.heap.size + 1 < b ∧ b < wr.heap.size) wr (sts3 k) (some ⟨b, 0, none⟩) ∧ rowG #[.slice none 0 0] wr (w.heap.size + 1) ∧ Below w.heap.size w wr) (fun _ _ iv _ => m - (intOf iv).toNat)
  case atStart => exact ⟨0, w.heap.size + 1 + 1, by have := HM.out; omega, rfl, rfl, rfl, hSt0, hS0, hB0⟩
  case round =>
    obtain ⟨k, b, hk, rfl, rfl, rfl, hSt, hS, hB⟩ := hrel
    have hlen := nst3_len k
    by_cases hlt : k + 1 < m
    · have hlti : (k : Int) + 1 < (m : Int) := by omega
      obtain ⟨S1, hS1⟩ : ∃ S1, S1 = [119, 104, 105, 108, 101, 32, 48, 32, 123] ++ nst3 k := ⟨_, rfl⟩
      have hadd1 : ∀ w', (Op.stringOp .add ⟨#[119, 104, 105, 108, 101, 32, 48, 32, 123]⟩ (str (nst3 k))).run Tryz.prog w' = .ok (.string (str S1)) w' := fun w' => by rw [hS1]; exact cat_any [119, 104, 105, 108, 101, 32, 48, 32, 123] (nst3 k) w' (by simp only [List.length_cons, List.length_nil]; omega)
      have hadd : ∀ w', (Op.stringOp .add (str S1) ⟨#[125]⟩).run Tryz.prog w' = .ok (.string (str (nst3 (k + 1)))) w' := fun w' => by rw [hS1]; exact cat_any _ [125] w' (by simp only [List.length_append, List.length_cons, List.length_nil]; omega)
      clear hS1
      have hw : IntKind.i64.wrap ((k : Int) + 1 + 1) = (k : Int) + 1 + 1 := by rw [IntKind.wrap_i64]; omega
      obtain ⟨W, hW⟩ : ∃ W, (wr.alloc (.cells #[.int .u8 1, .int .u64 0, .string ⟨#[]⟩, .int .u8 0, .slice none 0 0] 52)).alloc (.cells #[.int .u8 6, .string ⟨#[]⟩, .string ⟨#[]⟩, .bool false, .bool false, .slice (some ⟨wr.heap.size, 0, none⟩) 1 1, .slice none 0 0, .slice (some ⟨b, 0, none⟩) 1 1, .slice none 0 0] 44) = W := ⟨_, rfl⟩
      have hBW0 : Below wr.heap.size wr W := by rw [← hW]; exact aB (aB (Below.refl _ _) _) _
      have hBW : Below w.heap.size w W := tr hB hBW0
      have hSW := rowG_b hS hBW0
      have hrx : rowG #[.int .u8 1, .int .u64 0, .string ⟨#[]⟩, .int .u8 0, .slice none 0 0] W wr.heap.size := by rw [← hW]; exact rowG_alloc (rowG_at _ _ _ _ rfl) _
      have hrs : rowG #[.int .u8 6, .string ⟨#[]⟩, .string ⟨#[]⟩, .bool false, .bool false, .slice (some ⟨wr.heap.size, 0, none⟩) 1 1, .slice none 0 0, .slice (some ⟨b, 0, none⟩) 1 1, .slice none 0 0] W (wr.heap.size + 1) := by rw [← hW]; exact rowG_at _ _ _ _ (by simp)
      have hsw := hS.2.2
      have hlS : (sts3 k).length = 1 := by cases k <;> rfl
      have hStW : StsAt (fun b => w.heap.size + 1 < b ∧ b < W.heap.size) W (sts3 (k + 1)) (some ⟨wr.heap.size + 1, 0, none⟩) := by
        refine sts_one (k := 6) (nm := []) (fr := []) (ex := [.mk 1 0 [] 0 []]) (ar := []) (bd := sts3 k) (el := []) (by rw [hlS]; exact hrs) ⟨by omega, hrs.2.2⟩ (by omega) (by simp) (by simp) (by rw [hlS]; omega) (by simp) ?_ StrsAt.nil ((hSt.of hBW0).mono fun b hb => ⟨hb.1, Nat.lt_of_lt_of_le hb.2 hBW0.size⟩) .nil
        exact kid_one hrx ⟨by omega, hrx.2.2⟩ (IsE.mk (k := 1) (n := 0) (s := []) (o := 0) (l := []) (by omega) (by simp) .nil)
      clear hlS hlen hSt hrx hrs
      go_wp2
      go_roundw
      case rel => first | exact ⟨k + 1, wr.heap.size + 1, by omega, rfl, rfl, by go_num, hStW, hSW, hBW⟩ | ((repeat apply Exists.intro); exact ⟨⟨k + 1, wr.heap.size + 1, by omega, rfl, rfl, by go_num, hStW, hSW, hBW⟩, rfl⟩)
      case measure => simp [intOf]; omega
    · obtain rfl : m = k + 1 := by omega
      have hlti : ¬ (k : Int) + 1 < ((k + 1 : Nat) : Int) := by omega
      have hPl : (pg3 k).length = 1 := rfl
      have s0 := hS.1 0 (by simp)
      have sf := hS.2.1 0
      have sl := hS.2.2
      obtain ⟨S1, hS1⟩ : ∃ S1, S1 = [102, 110, 32, 102, 40, 41, 32, 123] ++ nst3 k := ⟨_, rfl⟩
      have hadd1 : ∀ w', (Op.stringOp .add ⟨#[102, 110, 32, 102, 40, 41, 32, 123]⟩ (str (nst3 k))).run Tryz.prog w' = .ok (.string (str S1)) w' := fun w' => by rw [hS1]; exact cat_any [102, 110, 32, 102, 40, 41, 32, 123] (nst3 k) w' (by simp only [List.length_cons, List.length_nil]; omega)
      have hadd : ∀ w', (Op.stringOp .add (str S1) ⟨#[125, 59]⟩).run Tryz.prog w' = .ok (.string (str (tx3 k))) w' := fun w' => by rw [hS1]; exact cat_any _ [125, 59] w' (by simp only [List.length_append, List.length_cons, List.length_nil]; omega)
      clear hS1
      obtain ⟨W, hW⟩ : ∃ W, (wr.setCell ⟨w.heap.size + 1, 0, none⟩ (.slice (some ⟨wr.heap.size, 0, none⟩) 1 1)).alloc (.cells #[.string ⟨#[102]⟩, .slice none 0 0, .slice (some ⟨b, 0, none⟩) 1 1, .bool false, .slice none 0 0] 47) = W := ⟨_, rfl⟩
      have hOW : Only (fun j => j = w.heap.size + 1) wr W := by rw [← hW]; exact (only_one wr _ _ _).trans (only_below (aB (Below.refl _ _) _))
      have hBW : Below w.heap.size w W := hB.trans (hOW.below (B := w.heap.size) (fun j hj => by omega) hB.size)
      have hSp : rowG #[.slice (some ⟨wr.heap.size, 0, none⟩) 1 1] W (w.heap.size + 1) := by rw [← hW]; exact rowG_alloc (r1ps0 _ hS) _
      have hrF : rowG #[.string ⟨#[102]⟩, .slice none 0 0, .slice (some ⟨b, 0, none⟩) 1 1, .bool false, .slice none 0 0] W wr.heap.size := by rw [← hW]; exact rowG_at _ _ _ _ (by simp)
      have hlS : (sts3 k).length = 1 := by cases k <;> rfl
      have hSt2 := hSt.only hOW (fun b hb e => by have := hb.1; have e2 : b = w.heap.size + 1 := e; omega)
      have hF0 : FdsAt (fun b => b < W.heap.size) W (pg3 k) (some ⟨wr.heap.size, 0, none⟩) := fds_one (nm := [102]) (ps := []) (bd := sts3 k) (rt := []) (by rw [hlS]; exact hrF) hrF.2.2 (by simp) (by rw [hlS]; omega) (by simp) PmsAt.nil (hSt2.mono fun b hb => Nat.lt_of_lt_of_le hb.2 hOW.size) .nil
      have hFd := fun x (hb : Below W.heap.size W x) => (FdsAt.of hF0 hb).mono (fun b hb' => Nat.lt_of_lt_of_le hb' hb.size)
      clear hlS hSt hSt2 hlen
      have hTW := hT.of hBW
      have hk4 := HK4.out
      by_cases hle : k + 1 ≤ 40
      · have hlei : ((k + 1 : Nat) : Int) ≤ 40 := by omega
        have hpar : parB (tx3 k) = .ok (pg3 k) := sb3_ok (k + 1) (by have := HM.out; omega) hle
        have hP : Calls Tryz.prog 16 #[.string (str (tx3 k))] W fun e w' => (∃ (ma : Option Addr) (cap : Nat), e = .returned (.tuple #[.agg #[.slice ma 1 cap], .nilIface]) ∧ FdsAt (fun b => b < w'.heap.size) w' (pg3 k) ma) ∧ Below W.heap.size W w' := by
          have := parse_any (str (tx3 k)) hTW
          rw [str_list, hpar] at this
          exact this.mono fun e w' ⟨hb, ma, cap, he, hl, hF⟩ => ⟨⟨ma, cap, by rw [he, hPl], hF.mono fun b hb => hb.2⟩, hb⟩
        have hpg : pgB (pg3 k) = true := par_good hpar
        clear hpar
        go_wp2_with first
          | (go_at_call 16; ((with_reducible refine hP.mono ?_); (rintro e x1 ⟨⟨ma, cap, rfl, hF1⟩, hb1⟩); (have hA1 := tr hb1 (aB (Below.refl x1.heap.size x1) (.cells #[.slice ma (1) cap] 24))); (have hA0 := aB (Below.refl x1.heap.size x1) (.cells #[.slice ma (1) cap] 24)); (have hF1a := (FdsAt.of hF1 hA0).mono (fun b hb => Nat.lt_of_lt_of_le hb hA0.size)); (have hs1 := rowG_b hSp hA1); (have q0 := hs1.1 0 (by simp)); (have ql := hs1.2.2); (have hq1 := rowG_at #[.slice ma (1) cap] 24 x1 _ rfl); (have hC := chk_any (pg3 k) _ 1 _ (hFd _ hA1) (by omega) (hTW.of hA1)); (rw [hpg, hPl] at hC); (simp only [if_true] at hC)))
          | (go_at_call 13; ((with_reducible refine hC.mono ?_); (rintro e x2 ⟨rfl, hb2⟩); (have hA2 := tr hA1 hb2); (have hs2 := rowG_b hs1 hb2); (have hq2 := rowG_b hq1 hb2); (clear q0 ql); (have q0 := hs2.1 0 (by simp)); (have ql := hs2.2.2); (have y0 := hq2.1 0 (by simp)); (have yl := hq2.2.2); (have hSm := sm_any (pg3 k) _ _ _ _ 1 cap x2 (hFd _ hA2) (FdsAt.of hF1a hb2) (by omega)); (rw [hPl] at hSm)))
          | (go_at_call 15; ((with_reducible refine hSm.mono ?_); (rintro e x3 ⟨rfl, hb3⟩); (have hAl := alive08 _ (hTW.of (tr hA2 hb3)))))
          | (go_at_call 11; ((with_reducible refine hAl.mono ?_); (rintro e x4 ⟨rfl, hb4⟩)))
        go_ret
        exact ⟨rfl, tr hBW (tr (tr hA2 hb3) hb4)⟩
      · have hlei : ¬ ((k + 1 : Nat) : Int) ≤ 40 := by omega
        obtain rfl : k = 40 := by omega
        obtain ⟨a0, hpar⟩ := sb3_er
        have hP : Calls Tryz.prog 16 #[.string (str (tx3 40))] W fun e w' => e = .returned (.tuple #[.agg #[.slice none 0 0], .iface 36 (.agg #[.int .i64 (a0 : Int), .int .i64 70])]) ∧ Below W.heap.size W w' := by
          have := parse_any (str (tx3 40)) hTW
          rw [str_list, hpar] at this
          exact this.mono fun e w' ⟨hb, he⟩ => ⟨he, hb⟩
        have hpg : pgB (pg3 40) = false := c32
        have hIs := is_any (a0 : Int) 70
        clear hpar
        go_wp2_with first
          | (go_at_call 16; ((with_reducible refine hP.mono ?_); (rintro e x1 ⟨rfl, hb1⟩); (have hA1 := tr hb1 (aB (Below.refl x1.heap.size x1) (.cells #[.slice none 0 0] 24))); (have hs1 := rowG_b hSp hA1); (have q0 := hs1.1 0 (by simp)); (have ql := hs1.2.2); (have hC := chk_any (pg3 40) _ 1 _ (hFd _ hA1) (by omega) (hTW.of hA1)); (rw [hpg, hPl] at hC); (simp only [Bool.false_eq_true, if_false] at hC)))
          | (go_at_call 13; ((with_reducible refine hC.mono ?_); (rintro e x2 ⟨rfl, hb2⟩); (have hA2 := tr hA1 hb2)))
          | (go_at_call 18; ((with_reducible refine (hIs _).mono ?_); (rintro e x3 ⟨rfl, hb3⟩); (have hAl := alive08 _ (hTW.of (tr hA2 hb3)))))
          | (go_at_call 11; ((with_reducible refine hAl.mono ?_); (rintro e x4 ⟨rfl, hb4⟩)))
        go_ret
        exact ⟨rfl, tr hBW (tr (tr hA2 hb3) hb4)⟩
end Go.Proofs.YtfpoflddnlbpjaaGreatDoor
