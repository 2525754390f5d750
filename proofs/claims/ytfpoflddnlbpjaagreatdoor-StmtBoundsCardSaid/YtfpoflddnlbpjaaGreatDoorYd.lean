/- What StmtBounds' walks stand on. -/
import Derived.Test.YtfpoflddnlbpjaaGreatDoorYc
import Derived.Test.YtfpoflddnlbpjaaGreatDoorYb
import Derived.Test.YtfpoflddnlbpjaaGreatDoorZx
import Derived.Test.YtfpoflddnlbpjaaGreatDoorZd
namespace Go.Proofs.YtfpoflddnlbpjaaGreatDoor
open Go.ChangeShapes Go.WideShapes Go.ChangeAt Go.RowKit
set_option linter.unusedVariables false
theorem cat_any (A B : List UInt8) (w : World) (h : A.length + B.length ≤ 1000000) : (Op.stringOp .add (str A) (str B)).run Tryz.prog w = .ok (.string (str (A ++ B))) w := by
  have h1 := str_size A
  have h2 := str_size B
  have : ¬ ((9223372036854775807 : Int) < ((str A).size : Int) + ((str B).size : Int)) := by rw [h1, h2]; omega
  simp [Op.stringOp, this, str_app]
theorem rep_len (s : List UInt8) (k : Nat) : (rep s k).length = k * s.length := by
  induction k with
  | zero => simp [rep]
  | succ k ih => rw [rep, List.length_append, ih, Nat.add_mul, Nat.one_mul]
theorem par1_len (k : Nat) : (par1 k).length ≤ 5 + k * 6 := by
  induction k with
  | zero => simp [par1]
  | succ k ih =>
    rw [par1, List.length_append]
    split
    · rw [List.length_append]; simp only [List.length_cons, List.length_nil]; omega
    · simp only [List.length_cons, List.length_nil]; omega
theorem sea2_len (k : Nat) : (sea2 k).length = 8 + k * 5 := by
  induction k with
  | zero => simp [sea2]
  | succ k ih => rw [sea2, List.length_append, ih]; simp only [List.length_cons, List.length_nil]; omega
theorem nst3_len (k : Nat) : (nst3 k).length = 5 + k * 10 := by
  induction k with
  | zero => simp [nst3]
  | succ k ih => rw [nst3, List.length_append, List.length_append, ih]; simp only [List.length_cons, List.length_nil]; omega
/-- One function in a row of its own. -/
theorem fds_one {G : Nat → Prop} {w : World} {g : Nat} {nm : List UInt8} {ps : List Pm} {bd : List St} {sec : Bool} {rt : List Xp} {mp mb mr : Option Addr} {cp cb cr : Nat} (hr : rowG #[.string (str nm), .slice mp ps.length cp, .slice mb bd.length cb, .bool sec, .slice mr rt.length cr] w g) (hG : G g) (hp : ps.length ≤ 140737488355328) (hb : bd.length ≤ 140737488355328) (hrl : rt.length ≤ 140737488355328)
    (hP : PmsAt G w ps mp) (hB : StsAt G w bd mb) (hR : KidsAt G w rt mr) : FdsAt G w [⟨nm, ps, bd, sec, rt⟩] (some ⟨g, 0, none⟩) := fun i hi => by
  obtain rfl : i = 0 := by simpa using hi
  refine ⟨g, 0, ⟨nm, mp, ps.length, cp, mb, bd.length, cb, sec, mr, rt.length, cr, ⟨nm, ps, bd, sec, rt⟩⟩, rfl, hG, rfl, .mk hp hb hrl hP hB hR, fun r u hu => ?_⟩
  have hr5 : r < 5 := by
    have := (List.getElem?_eq_some_iff.1 hu).1
    simpa [Fx.cells] using this
  rw [show 0 + 0 * 5 + r = r by omega, hr.1 r (by simpa using hr5)]
  simpa [Fx.cells] using hu
theorem sts_one {G : Nat → Prop} {w : World} {g : Nat} {k : Nat} {nm fr : List UInt8} {sec mu : Bool} {ex : List Xp} {ar : List (List UInt8)} {bd el : List St} {mx ma mb ml : Option Addr} {cx ca cb cl : Nat} (hr : rowG #[.int .u8 (k : Int), .string (str nm), .string (str fr), .bool sec, .bool mu, .slice mx ex.length cx, .slice ma ar.length ca, .slice mb bd.length cb, .slice ml el.length cl] w g) (hG : G g) (hk : k < 256) (hx : ex.length ≤ 140737488355328) (ha : ar.length ≤ 140737488355328) (hb : bd.length ≤ 140737488355328) (hl : el.length ≤ 140737488355328)
    (hX : KidsAt G w ex mx) (hA : StrsAt G w ar ma) (hB : StsAt G w bd mb) (hL : StsAt G w el ml) : StsAt G w [.mk k nm fr sec mu ex ar bd el] (some ⟨g, 0, none⟩) := by
  obtain ⟨c0, c1, c2, c3, c4, c5, c6, c7, c8, -, -⟩ := nine hr
  exact .cons hG c0 (by simpa using c1) (by simpa using c2) (by simpa using c3) (by simpa using c4) (by simpa using c5) (by simpa using c6) (by simpa using c7) (by simpa using c8) hk hx ha hb hl hX hA hB hL .nil
end Go.Proofs.YtfpoflddnlbpjaaGreatDoor

/- StmtBounds, kind 0. -/
namespace Go.Proofs.YtfpoflddnlbpjaaGreatDoor
open Go.ChangeShapes Go.WideShapes Go.ChangeAt Go.RowKit
set_option linter.unusedVariables false
theorem sb0_ok (m : Nat) (h1 : 15 ≤ m) (h2 : m ≤ 16) : parB (rep one0 m) = .ok (pg0 m) := by
  obtain rfl | rfl : m = 15 ∨ m = 16 := by omega
  · exact b00
  · exact b01
theorem sb0_er : ∃ a, parB (rep one0 17) = .er 5 a := ⟨_, b02⟩
/-- A function of nothing but a name. -/
def fK : Fx := ⟨[102], none, 0, 0, none, 0, 0, false, none, 0, 0, ⟨[102], [], [], false, []⟩⟩
theorem fK_is (G : Nat → Prop) (w : World) : fK.is G w := IsFd.mk (nm := [102]) (ps := []) (bd := []) (rt := []) (by simp) (by simp) (by simp) PmsAt.nil .nil .nil
theorem fK_map (m : Nat) : (List.replicate m fK).map (·.x) = pg0 m := by simp [pg0, fK, bF]
set_option maxRecDepth 100000 in
set_option maxHeartbeats 8000000 in
theorem sb_0 (kd n : Nat) (hkd : kd % 4 = 0) (w : World) (hT : Tb w) :
    Calls Tryz.prog 5 #[.int .u8 (kd : Int), .int .u8 (n : Int)] w fun e w' => e = .returned (.bool true) ∧ Below w.heap.size w w' := by
  obtain ⟨i0, hi, hz0, hz1, hz2⟩ := info_parts infoF5
  have hk4 : ((kd : Int) % 4) = 0 := by omega
  obtain ⟨r, hr⟩ : ∃ r, r = n % 3 := ⟨_, rfl⟩
  have hr3 : r < 3 := by omega
  have hn3 : ((n : Int) % 3) = (r : Int) := by omega
  obtain ⟨m, hm⟩ : ∃ m, m = 15 + r := ⟨_, rfl⟩
  have hw1 : IntKind.i64.wrap (r : Int) = (r : Int) := by rw [IntKind.wrap_i64]; omega
  have hw2 : IntKind.i64.wrap (16 + (r : Int)) = 16 + (r : Int) := by rw [IntKind.wrap_i64]; omega
  have hw3 : IntKind.i64.wrap (16 + (r : Int) - 1) = (m : Int) := by rw [IntKind.wrap_i64]; omega
  have HM := Lib.hid hm
  have HK4 := Lib.hid hk4
  have hmM : m ≤ 17 := by omega
  clear hr hkd hm
  go_enter Tryz.func5, Tryz.ntmps5
  go_wp2
  clear hk4 hn3 hw1 hw2 hw3
  go_loopw [6, 10] (fun tv iv wr => ∃ (k : Nat) (a : Option Addr) (c : Nat), k ≤ m ∧ tv = .string (str (rep one0 k)) ∧ iv = .int .i64 (k : Int) ∧ wr.ownsRow (w.heap.size + 2) 47 5 (.slice a k c) k (fxs (List.replicate k fK)) ∧ rowG #[.slice a k c] wr (w.heap.size + 1) ∧ Below w.heap.size w wr) (fun _ iv _ => m - (intOf iv).toNat)
  case atStart => exact ⟨0, none, 0, Nat.zero_le _, rfl, rfl, World.ownsRow_nil _ _ _ _, rowG_at _ _ _ _ (by simp), aB (aB (Below.refl _ _) _) _⟩
  case round =>
    obtain ⟨k, a, c, hk, rfl, rfl, hown, hS, hB⟩ := hrel
    have s0 := hS.1 0 (by simp)
    have sf := hS.2.1 0
    have sl := hS.2.2
    by_cases hlt : k < m
    · have hadd : ∀ w', (Op.stringOp .add (str (rep one0 k)) ⟨#[102, 110, 32, 102, 40, 41, 32, 123, 125, 59]⟩).run Tryz.prog w' = .ok (.string (str (rep one0 (k + 1)))) w' := fun w' => cat_any _ one0 w' (by rw [rep_len]; simp only [one0, List.length_cons, List.length_nil]; omega)
      go_wp2_with (at_builtin; refine wpList_append_lies _ rfl _ _ 22 rfl (w.heap.size + 2) 47 i0 _ 5 96 Tryz.underlying22 hi hz0 hz1 hz2 rfl (by decide) _ k (fxs (List.replicate k fK)) rfl (hown.alloc _) ⟨wr.heap.size, 0, none⟩ 1 1 (fxs [fK]) rfl rfl ?cN ?c0 (by decide) ?c1 ?c2 ?c3 _ rfl ?_)
      case cN => exact news_ok (fxs [fK]) 47 wr
      case c0 => exact fxs_one _
      case c1 => unfold maxLen; omega
      case c2 => omega
      case c3 => simp; omega
      intro g cap' w5 hown5 hgrow hat hlt5
      have hog := only_grown hgrow
      have hnew : ∀ j, some j = (Value.slice a k c).ownBlock → w.heap.size + 2 ≤ j := fun j hj => (own_lt hown hj.symm).1
      have hS5 := rowG_only (rowG_alloc hS _) hog (fun e => by have := hnew _ e; omega)
      have f0 := hS5.1 0 (by simp)
      have ff := hS5.2.1 0
      have fl := hS5.2.2
      have hB5 : Below w.heap.size w w5 := (aB hB _).trans (hog.below (B := w.heap.size) (fun j hj => by have := hnew j hj; omega) (aB hB _).size)
      clear s0 sf sl
      go_wp2
      have e : fxs (List.replicate (k + 1) fK) = fxs (List.replicate k fK) ++ fxs [fK] := by rw [List.replicate_succ', fxs_app]
      rw [← e] at hown5
      have hown6 := own_only hown5 (only_one w5 (w.heap.size + 1) 0 (.slice (some ⟨g, 0, none⟩) (k + 1) cap')) (fun j hj e => by have := (own_lt hown5 hj).1; have e2 : j = w.heap.size + 1 := e; omega)
      have hB6 : Below w.heap.size w (w5.setCell ⟨w.heap.size + 1, 0, none⟩ (.slice (some ⟨g, 0, none⟩) (k + 1) cap')) := hB5.setCell (by show w.heap.size ≤ w.heap.size + 1; omega) _
      go_roundw
      case rel => first | exact ⟨k + 1, some ⟨g, 0, none⟩, cap', by omega, rfl, by go_num, hown6, r1ps0 _ hS5, hB6⟩ | ((repeat apply Exists.intro); exact ⟨⟨k + 1, some ⟨g, 0, none⟩, cap', by omega, rfl, by go_num, hown6, r1ps0 _ hS5, hB6⟩, rfl⟩)
      case measure => simp [intOf]; omega
    · obtain rfl : k = m := by omega
      have hPl : (pg0 k).length = k := by simp [pg0]
      have hSp := hS
      have hFd := fun x (hb : Below wr.heap.size wr x) => (FdsAt.of (((fK_map k) ▸ row_fds hown (by simp) (fun K hK => by obtain rfl := List.eq_of_mem_replicate hK; exact fK_is _ _)) : FdsAt (fun b => w.heap.size + 2 ≤ b ∧ b < wr.heap.size) wr (pg0 k) a) hb).mono (fun b hb' => Nat.lt_of_lt_of_le hb'.2 hb.size)
      clear s0 sf sl
      have hTW := hT.of hB
      have hk4 := HK4.out
      by_cases hle : k ≤ 16
      · have hlei : (k : Int) ≤ 16 := by omega
        have hpar := sb0_ok k (by have := HM.out; omega) hle
        have hP : Calls Tryz.prog 16 #[.string (str (rep one0 k))] wr fun e w' => (∃ (ma : Option Addr) (cap : Nat), e = .returned (.tuple #[.agg #[.slice ma k cap], .nilIface]) ∧ FdsAt (fun b => b < w'.heap.size) w' (pg0 k) ma) ∧ Below wr.heap.size wr w' := by
          have := parse_any (str (rep one0 k)) hTW
          rw [str_list, hpar] at this
          exact this.mono fun e w' ⟨hb, ma, cap, he, hl, hF⟩ => ⟨⟨ma, cap, by rw [he, hPl], hF.mono fun b hb => hb.2⟩, hb⟩
        have hpg : pgB (pg0 k) = true := par_good hpar
        clear hpar
        go_wp2_with first
          | (go_at_call 16; ((with_reducible refine hP.mono ?_); (rintro e x1 ⟨⟨ma, cap, rfl, hF1⟩, hb1⟩); (have hA1 := tr hb1 (aB (Below.refl x1.heap.size x1) (.cells #[.slice ma (k) cap] 24))); (have hA0 := aB (Below.refl x1.heap.size x1) (.cells #[.slice ma (k) cap] 24)); (have hF1a := (FdsAt.of hF1 hA0).mono (fun b hb => Nat.lt_of_lt_of_le hb hA0.size)); (have hs1 := rowG_b hSp hA1); (have q0 := hs1.1 0 (by simp)); (have ql := hs1.2.2); (have hq1 := rowG_at #[.slice ma (k) cap] 24 x1 _ rfl); (have hC := chk_any (pg0 k) _ c _ (hFd _ hA1) (by omega) (hTW.of hA1)); (rw [hpg, hPl] at hC); (simp only [if_true] at hC)))
          | (go_at_call 13; ((with_reducible refine hC.mono ?_); (rintro e x2 ⟨rfl, hb2⟩); (have hA2 := tr hA1 hb2); (have hs2 := rowG_b hs1 hb2); (have hq2 := rowG_b hq1 hb2); (clear q0 ql); (have q0 := hs2.1 0 (by simp)); (have ql := hs2.2.2); (have y0 := hq2.1 0 (by simp)); (have yl := hq2.2.2); (have hSm := sm_any (pg0 k) _ _ _ _ c cap x2 (hFd _ hA2) (FdsAt.of hF1a hb2) (by omega)); (rw [hPl] at hSm)))
          | (go_at_call 15; ((with_reducible refine hSm.mono ?_); (rintro e x3 ⟨rfl, hb3⟩); (have hAl := alive08 _ (hTW.of (tr hA2 hb3)))))
          | (go_at_call 11; ((with_reducible refine hAl.mono ?_); (rintro e x4 ⟨rfl, hb4⟩)))
        go_ret
        exact ⟨rfl, tr hB (tr (tr hA2 hb3) hb4)⟩
      · have hlei : ¬ (k : Int) ≤ 16 := by omega
        obtain rfl : k = 17 := by omega
        obtain ⟨a0, hpar⟩ := sb0_er
        have hP : Calls Tryz.prog 16 #[.string (str (rep one0 17))] wr fun e w' => e = .returned (.tuple #[.agg #[.slice none 0 0], .iface 36 (.agg #[.int .i64 (a0 : Int), .int .i64 5])]) ∧ Below wr.heap.size wr w' := by
          have := parse_any (str (rep one0 17)) hTW
          rw [str_list, hpar] at this
          exact this.mono fun e w' ⟨hb, he⟩ => ⟨he, hb⟩
        have hpg : pgB (pg0 17) = false := c02
        have hIs := is_any (a0 : Int) 5
        clear hpar
        go_wp2_with first
          | (go_at_call 16; ((with_reducible refine hP.mono ?_); (rintro e x1 ⟨rfl, hb1⟩); (have hA1 := tr hb1 (aB (Below.refl x1.heap.size x1) (.cells #[.slice none 0 0] 24))); (have hs1 := rowG_b hSp hA1); (have q0 := hs1.1 0 (by simp)); (have ql := hs1.2.2); (have hC := chk_any (pg0 17) _ c _ (hFd _ hA1) (by omega) (hTW.of hA1)); (rw [hpg, hPl] at hC); (simp only [Bool.false_eq_true, if_false] at hC)))
          | (go_at_call 13; ((with_reducible refine hC.mono ?_); (rintro e x2 ⟨rfl, hb2⟩); (have hA2 := tr hA1 hb2)))
          | (go_at_call 18; ((with_reducible refine (hIs _).mono ?_); (rintro e x3 ⟨rfl, hb3⟩); (have hAl := alive08 _ (hTW.of (tr hA2 hb3)))))
          | (go_at_call 11; ((with_reducible refine hAl.mono ?_); (rintro e x4 ⟨rfl, hb4⟩)))
        go_ret
        exact ⟨rfl, tr hB (tr (tr hA2 hb3) hb4)⟩
end Go.Proofs.YtfpoflddnlbpjaaGreatDoor

/- StmtBounds, kind 1. -/
namespace Go.Proofs.YtfpoflddnlbpjaaGreatDoor
open Go.ChangeShapes Go.WideShapes Go.ChangeAt Go.RowKit
set_option linter.unusedVariables false
theorem sb1_ok (m : Nat) (h1 : 7 ≤ m) (h2 : m ≤ 8) : parB (tx1 m) = .ok (pg1 m) := by
  obtain rfl | rfl : m = 7 ∨ m = 8 := by omega
  · exact b10
  · exact b11
theorem sb1_er : ∃ a, parB (tx1 9) = .er 5 a := ⟨_, b12⟩
set_option maxRecDepth 100000 in
set_option maxHeartbeats 8000000 in
theorem sb_1 (kd n : Nat) (hkd : kd % 4 = 1) (w : World) (hT : Tb w) :
    Calls Tryz.prog 5 #[.int .u8 (kd : Int), .int .u8 (n : Int)] w fun e w' => e = .returned (.bool true) ∧ Below w.heap.size w w' := by
  obtain ⟨i0, hi, hz0, hz1, hz2⟩ := info_parts infoPl
  have hk4 : ((kd : Int) % 4) = 1 := by omega
  obtain ⟨r, hr⟩ : ∃ r, r = n % 3 := ⟨_, rfl⟩
  have hr3 : r < 3 := by omega
  have hn3 : ((n : Int) % 3) = (r : Int) := by omega
  obtain ⟨m, hm⟩ : ∃ m, m = 7 + r := ⟨_, rfl⟩
  have hw1 : IntKind.i64.wrap (r : Int) = (r : Int) := by rw [IntKind.wrap_i64]; omega
  have hw2 : IntKind.i64.wrap (8 + (r : Int)) = 8 + (r : Int) := by rw [IntKind.wrap_i64]; omega
  have hw3 : IntKind.i64.wrap (8 + (r : Int) - 1) = (m : Int) := by rw [IntKind.wrap_i64]; omega
  have HM := Lib.hid hm
  have HK4 := Lib.hid hk4
  have hmM : m ≤ 9 := by omega
  clear hr hkd hm
  go_enter Tryz.func5, Tryz.ntmps5
  go_wp2
  clear hk4 hn3 hw1 hw2 hw3
  go_loopw [6, 12] (fun tv iv wr => ∃ (k : Nat) (a : Option Addr) (c : Nat), k ≤ m ∧ tv = .string (str (par1 k)) ∧ iv = .int .i64 (k : Int) ∧ wr.ownsRow (w.heap.size + 3) 49 4 (.slice a k c) k (pmC (List.replicate k px)) ∧ rowG #[.string ⟨#[102]⟩, .slice a k c, .slice none 0 0, .bool false, .slice none 0 0] wr (w.heap.size + 1 + 1) ∧ rowG #[.slice none 0 0] wr (w.heap.size + 1) ∧ Below w.heap.size w wr) (fun _ iv _ => m - (intOf iv).toNat)
  case atStart => exact ⟨0, none, 0, Nat.zero_le _, rfl, rfl, World.ownsRow_nil _ _ _ _, rowG_at _ _ _ _ (by simp), rowG_alloc (rowG_at _ _ _ _ (by simp)) _, aB (aB (aB (Below.refl _ _) _) _) _⟩
  case round =>
    obtain ⟨k, a, c, hk, rfl, rfl, hown, hF, hS, hB⟩ := hrel
    obtain ⟨f0, f1, f2, f3, f4, ff, fl⟩ := fiveF hF
    by_cases hlt : k < m
    · have hlen := par1_len k
      by_cases h0 : k = 0
      all_goals
        first
        | (have hz : ¬ (0 : Int) < (k : Int) := by omega
           have hadd : ∀ w', (Op.stringOp .add (str (par1 k)) ⟨#[110, 117, 109, 32, 120]⟩).run Tryz.prog w' = .ok (.string (str (par1 (k + 1)))) w' := fun w' => by
             have := cat_any (par1 k) [110, 117, 109, 32, 120] w' (by simp only [List.length_cons, List.length_nil]; omega)
             rw [par1, if_neg (by omega)]; exact this
           clear h0)
        | (have hz : (0 : Int) < (k : Int) := by omega
           have hadd1 : ∀ w', (Op.stringOp .add (str (par1 k)) ⟨#[44]⟩).run Tryz.prog w' = .ok (.string (str (par1 k ++ [44]))) w' := fun w' => cat_any (par1 k) [44] w' (by simp only [List.length_cons, List.length_nil]; omega)
           have hadd : ∀ w', (Op.stringOp .add (str (par1 k ++ [44])) ⟨#[110, 117, 109, 32, 120]⟩).run Tryz.prog w' = .ok (.string (str (par1 (k + 1)))) w' := fun w' => by
             have := cat_any (par1 k ++ [44]) [110, 117, 109, 32, 120] w' (by simp only [List.length_append, List.length_cons, List.length_nil]; omega)
             rw [par1, if_pos (by omega)]; exact this
           clear h0)
        go_wp2_with (at_builtin; refine wpList_append_lies _ rfl _ _ 45 rfl (w.heap.size + 3) 49 i0 _ 4 24 Tryz.underlying45 hi hz0 hz1 hz2 rfl (by decide) _ k (pmC (List.replicate k px)) rfl (hown.alloc _) ⟨wr.heap.size, 0, none⟩ 1 1 (pmC [px]) rfl rfl ?cN ?c0 (by decide) ?c1 ?c2 ?c3 _ rfl ?_)
        case cN => first | exact fun j u h => h | exact news_ok (pmC [px]) 49 wr
        case c0 => exact pmC_one _
        case c1 => unfold maxLen; omega
        case c2 => omega
        case c3 => first | omega | (simp; omega)
        intro g cap' w5 hown5 hgrow hat hlt5
        have hog := only_grown hgrow
        have hnew : ∀ j, some j = (Value.slice a k c).ownBlock → w.heap.size + 3 ≤ j := fun j hj => (own_lt hown hj.symm).1
        have hF5 := rowG_only (rowG_alloc hF _) hog (fun e => by have := hnew _ e; omega)
        have hS5 := rowG_only (rowG_alloc hS _) hog (fun e => by have := hnew _ e; omega)
        have hB5 : Below w.heap.size w w5 := (aB hB _).trans (hog.below (B := w.heap.size) (fun j hj => by have := hnew j hj; omega) (aB hB _).size)
        clear f0 f1 f2 f3 f4 ff fl
        obtain ⟨f0, f1, f2, f3, f4, ff, fl⟩ := fiveF hF5
        go_wp2
        have e : pmC (List.replicate (k + 1) px) = pmC (List.replicate k px) ++ pmC [px] := by rw [List.replicate_succ', pmC_app]
        rw [← e] at hown5
        have hown6 := own_only hown5 (only_one w5 (w.heap.size + 1 + 1) 1 (.slice (some ⟨g, 0, none⟩) (k + 1) cap')) (fun j hj e => by have := (own_lt hown5 hj).1; have e2 : j = w.heap.size + 1 + 1 := e; omega)
        have hB6 : Below w.heap.size w (w5.setCell ⟨w.heap.size + 1 + 1, 1, none⟩ (.slice (some ⟨g, 0, none⟩) (k + 1) cap')) := hB5.setCell (by show w.heap.size ≤ w.heap.size + 1 + 1; omega) _
        have hF6 := r5fs1 (.slice (some ⟨g, 0, none⟩) (k + 1) cap') hF5
        have hS6 := rowG_other (o := 1) (.slice (some ⟨g, 0, none⟩) (k + 1) cap') hS5 (show w.heap.size + 1 ≠ w.heap.size + 1 + 1 by omega)
        go_roundw
        case rel => first | exact ⟨k + 1, some ⟨g, 0, none⟩, cap', by omega, rfl, by go_num, hown6, hF6, hS6, hB6⟩ | ((repeat apply Exists.intro); exact ⟨⟨k + 1, some ⟨g, 0, none⟩, cap', by omega, rfl, by go_num, hown6, hF6, hS6, hB6⟩, rfl⟩)
        case measure => simp [intOf]; omega
    · obtain rfl : k = m := by omega
      have hPl : (pg1 k).length = 1 := rfl
      have s0 := hS.1 0 (by simp)
      have sf := hS.2.1 0
      have sl := hS.2.2
      have hadd : ∀ w', (Op.stringOp .add (str (par1 k)) ⟨#[41, 32, 123, 125, 59]⟩).run Tryz.prog w' = .ok (.string (str (tx1 k))) w' := fun w' => cat_any (par1 k) [41, 32, 123, 125, 59] w' (by have := par1_len k; simp only [List.length_cons, List.length_nil]; omega)
      obtain ⟨W, hW⟩ : ∃ W, (wr.setCell ⟨w.heap.size + 1, 0, none⟩ (.slice (some ⟨wr.heap.size, 0, none⟩) 1 1)).alloc (.cells #[.string ⟨#[102]⟩, .slice a k c, .slice none 0 0, .bool false, .slice none 0 0] 47) = W := ⟨_, rfl⟩
      have hOW : Only (fun j => j = w.heap.size + 1) wr W := by rw [← hW]; exact (only_one wr _ _ _).trans (only_below (aB (Below.refl _ _) _))
      have hBW : Below w.heap.size w W := hB.trans (hOW.below (B := w.heap.size) (fun j hj => by omega) hB.size)
      have hSp : rowG #[.slice (some ⟨wr.heap.size, 0, none⟩) 1 1] W (w.heap.size + 1) := by rw [← hW]; exact rowG_alloc (r1ps0 _ hS) _
      have hrF : rowG #[.string ⟨#[102]⟩, .slice a k c, .slice none 0 0, .bool false, .slice none 0 0] W wr.heap.size := by rw [← hW]; exact rowG_at _ _ _ _ (by simp)
      have hPm := (pms_own hown (by simp)).only hOW (fun b hb e => by have := hb.1; have e2 : b = w.heap.size + 1 := e; omega)
      have hF0 : FdsAt (fun b => b < W.heap.size) W (pg1 k) (some ⟨wr.heap.size, 0, none⟩) := fds_one (nm := [102]) (ps := List.replicate k px) (bd := []) (rt := []) (by rw [List.length_replicate]; exact hrF) hrF.2.2 (by simp; omega) (by simp) (by simp) (hPm.mono fun b hb => Nat.lt_of_lt_of_le hb.2 hOW.size) .nil .nil
      have hFd := fun x (hb : Below W.heap.size W x) => (FdsAt.of hF0 hb).mono (fun b hb' => Nat.lt_of_lt_of_le hb' hb.size)
      have hTW := hT.of hBW
      have hk4 := HK4.out
      by_cases hle : k ≤ 8
      · have hlei : (k : Int) ≤ 8 := by omega
        have hpar := sb1_ok k (by have := HM.out; omega) hle
        have hP : Calls Tryz.prog 16 #[.string (str (tx1 k))] W fun e w' => (∃ (ma : Option Addr) (cap : Nat), e = .returned (.tuple #[.agg #[.slice ma 1 cap], .nilIface]) ∧ FdsAt (fun b => b < w'.heap.size) w' (pg1 k) ma) ∧ Below W.heap.size W w' := by
          have := parse_any (str (tx1 k)) hTW
          rw [str_list, hpar] at this
          exact this.mono fun e w' ⟨hb, ma, cap, he, hl, hF⟩ => ⟨⟨ma, cap, by rw [he, hPl], hF.mono fun b hb => hb.2⟩, hb⟩
        have hpg : pgB (pg1 k) = true := par_good hpar
        clear hpar
        go_wp2_with first
          | (go_at_call 16; ((with_reducible refine hP.mono ?_); (rintro e x1 ⟨⟨ma, cap, rfl, hF1⟩, hb1⟩); (have hA1 := tr hb1 (aB (Below.refl x1.heap.size x1) (.cells #[.slice ma (1) cap] 24))); (have hA0 := aB (Below.refl x1.heap.size x1) (.cells #[.slice ma (1) cap] 24)); (have hF1a := (FdsAt.of hF1 hA0).mono (fun b hb => Nat.lt_of_lt_of_le hb hA0.size)); (have hs1 := rowG_b hSp hA1); (have q0 := hs1.1 0 (by simp)); (have ql := hs1.2.2); (have hq1 := rowG_at #[.slice ma (1) cap] 24 x1 _ rfl); (have hC := chk_any (pg1 k) _ 1 _ (hFd _ hA1) (by omega) (hTW.of hA1)); (rw [hpg, hPl] at hC); (simp only [if_true] at hC)))
          | (go_at_call 13; ((with_reducible refine hC.mono ?_); (rintro e x2 ⟨rfl, hb2⟩); (have hA2 := tr hA1 hb2); (have hs2 := rowG_b hs1 hb2); (have hq2 := rowG_b hq1 hb2); (clear q0 ql); (have q0 := hs2.1 0 (by simp)); (have ql := hs2.2.2); (have y0 := hq2.1 0 (by simp)); (have yl := hq2.2.2); (have hSm := sm_any (pg1 k) _ _ _ _ 1 cap x2 (hFd _ hA2) (FdsAt.of hF1a hb2) (by omega)); (rw [hPl] at hSm)))
          | (go_at_call 15; ((with_reducible refine hSm.mono ?_); (rintro e x3 ⟨rfl, hb3⟩); (have hAl := alive08 _ (hTW.of (tr hA2 hb3)))))
          | (go_at_call 11; ((with_reducible refine hAl.mono ?_); (rintro e x4 ⟨rfl, hb4⟩)))
        go_ret
        exact ⟨rfl, tr hBW (tr (tr hA2 hb3) hb4)⟩
      · have hlei : ¬ (k : Int) ≤ 8 := by omega
        obtain rfl : k = 9 := by omega
        obtain ⟨a0, hpar⟩ := sb1_er
        have hP : Calls Tryz.prog 16 #[.string (str (tx1 9))] W fun e w' => e = .returned (.tuple #[.agg #[.slice none 0 0], .iface 36 (.agg #[.int .i64 (a0 : Int), .int .i64 5])]) ∧ Below W.heap.size W w' := by
          have := parse_any (str (tx1 9)) hTW
          rw [str_list, hpar] at this
          exact this.mono fun e w' ⟨hb, he⟩ => ⟨he, hb⟩
        have hpg : pgB (pg1 9) = false := c12
        have hIs := is_any (a0 : Int) 5
        clear hpar
        go_wp2_with first
          | (go_at_call 16; ((with_reducible refine hP.mono ?_); (rintro e x1 ⟨rfl, hb1⟩); (have hA1 := tr hb1 (aB (Below.refl x1.heap.size x1) (.cells #[.slice none 0 0] 24))); (have hs1 := rowG_b hSp hA1); (have q0 := hs1.1 0 (by simp)); (have ql := hs1.2.2); (have hC := chk_any (pg1 9) _ 1 _ (hFd _ hA1) (by omega) (hTW.of hA1)); (rw [hpg, hPl] at hC); (simp only [Bool.false_eq_true, if_false] at hC)))
          | (go_at_call 13; ((with_reducible refine hC.mono ?_); (rintro e x2 ⟨rfl, hb2⟩); (have hA2 := tr hA1 hb2)))
          | (go_at_call 18; ((with_reducible refine (hIs _).mono ?_); (rintro e x3 ⟨rfl, hb3⟩); (have hAl := alive08 _ (hTW.of (tr hA2 hb3)))))
          | (go_at_call 11; ((with_reducible refine hAl.mono ?_); (rintro e x4 ⟨rfl, hb4⟩)))
        go_ret
        exact ⟨rfl, tr hBW (tr (tr hA2 hb3) hb4)⟩
end Go.Proofs.YtfpoflddnlbpjaaGreatDoor
