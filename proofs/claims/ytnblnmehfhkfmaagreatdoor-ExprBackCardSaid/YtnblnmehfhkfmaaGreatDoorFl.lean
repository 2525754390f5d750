/- Contract of bare: tokens of numbers without a text, and others without a number. -/
import Derived.Test.YtnblnmehfhkfmaaGreatDoorEe
namespace Go.Proofs.YtnblnmehfhkfmaaGreatDoor
open Go.ChangeShapes Go.WideShapes Go.ChangeAt Go.RowKit
set_option linter.unusedVariables false
def bzT (t : Tk) : Tk := if t.k = 3 then ⟨3, [], t.n⟩ else ⟨t.k, t.t, 0⟩
def bzL (T : List (Tk × Int)) : List (Tk × Int) := T.map fun x => (bzT x.1, x.2)
def BareP (w : World) (T : List (Tk × Int)) (r : Ending) (w' : World) : Prop := (∃ v', r = .returned v' ∧ RowZ w' v' (bzL T)) ∧ Below w.heap.size w w'
theorem bz_take {T : List (Tk × Int)} {j : Nat} (h : j < T.length) : bzL (T.take (j + 1)) = bzL (T.take j) ++ [(bzT T[j].1, T[j].2)] := by
  unfold bzL; rw [List.take_succ_eq_append_getElem h, List.map_append]; rfl
set_option maxRecDepth 100000 in
set_option maxHeartbeats 4000000 in
theorem bare7 (v : Value) (T : List (Tk × Int)) (w : World) (h : RowZ w v T) (hl : T.length ≤ 100000) :
    Calls Tryz.prog 18 #[v] w (BareP w T) := by
  obtain ⟨i0, hi, hz0, hz1, hz2⟩ := info_parts infoT
  obtain ⟨m1, c1, rfl, hc1⟩ := h.row
  have HC := Lib.hid hc1
  obtain ⟨N, hN⟩ : ∃ N, T.length = N := ⟨_, rfl⟩
  rw [hN] at hl ⊢
  have HN := Lib.hid hN
  clear hc1 h hN
  go_enter Tryz.func18, Tryz.ntmps18
  go_wp2
  go_loopw [3, 4] (fun lv iv wr => ∃ (M : Nat), M ≤ N ∧ iv = .int .i64 (M : Int) ∧ wr.ownsRow w.heap.size 39 4 lv M (cellsZ (bzL (T.take M))) ∧ Below w.heap.size w wr) (fun _ iv _ => N - (intOf iv).toNat)
  case atStart => exact ⟨0, Nat.zero_le _, rfl, World.ownsRow_nil _ _ _ _, Below.refl _ _⟩
  case round =>
    obtain ⟨M, hM, rfl, hown, hB⟩ := hrel
    by_cases hlt : M < N
    · have hlt' : M < T.length := by rw [HN.out]; exact hlt
      obtain ⟨b1, o1, rfl, hl1, p0, p1, p2, p3⟩ := HC.out M hlt'
      have q0 := stay hB p0
      have q1 := stay hB p1
      have q2 := stay hB p2
      have q3 := stay hB p3
      have hbz := bz_take hlt'
      have hl2 : b1 < wr.heap.size := Nat.lt_of_lt_of_le hl1 hB.size
      obtain ⟨⟨⟨k, s, n⟩, z⟩, hx⟩ : ∃ x, T[M] = x := ⟨_, rfl⟩
      rw [hx] at q0 q1 q2 q3 hbz
      simp only at q0 q1 q2 q3 hbz
      clear p0 p1 p2 p3 hx
      by_cases h3 : k = 3
      · subst h3
        rw [show bzT ⟨3, s, n⟩ = ⟨3, [], n⟩ from rfl] at hbz
        have HBZ := Lib.hid hbz
        clear hbz
        obtain ⟨wb, hwb⟩ : ∃ wb, wr.alloc (.cells #[.int .u8 3, .string ⟨#[]⟩, .int .u64 (n : Int), .int .i64 z] 39) = wb := ⟨_, rfl⟩
        have brb : rowG #[.int .u8 3, .string ⟨#[]⟩, .int .u64 (n : Int), .int .i64 z] wb wr.heap.size := by rw [← hwb]; exact rowG_at _ _ _ _ rfl
        have x0 := brb.1 0 (by simp)
        have x1 := brb.1 1 (by simp)
        have x2 := brb.1 2 (by simp)
        have x3 := brb.1 3 (by simp)
        have xl := brb.2.2
        have hbb : Below wr.heap.size wr wb := by rw [← hwb]; exact aB (Below.refl _ _) _
        have hob := own_of hown hbb
        go_wp2_with (at_builtin; refine wpList_append_lies _ rfl _ _ 31 rfl w.heap.size 39 i0 _ 4 40 Tryz.underlying31 hi hz0 hz1 hz2 rfl (by decide) _ M (cellsZ (bzL (T.take M))) rfl (hob.alloc _) ⟨wb.heap.size, 0, none⟩ 1 1 (cellsZ [((⟨3, [], n⟩ : Tk), z)]) rfl rfl ?cN ?c0 (by decide) ?c1 ?c2 ?c3 _ rfl ?_)
        case cN => exact news_ok (cellsZ [((⟨3, [], n⟩ : Tk), z)]) 39 wb
        case c0 => exact cellsZ_one _
        case c1 => unfold maxLen; omega
        case c2 => omega
        case c3 => have h1 := hB.size; have h2 := hbb.size; simp; omega
        intro g cap' w5 hown5 hgrow hat hlt5
        go_wp2
        have hB5 : Below w.heap.size w w5 := (aB (tr hB hbb) _).grown hgrow (by have h1 := hB.size; have h2 := hbb.size; simp; omega) (fun j hj => (own_lt hown hj).1)
        go_roundw
        case rel => exact ⟨M + 1, by omega, by go_num, by rw [HBZ.out, cellsZ_app]; exact hown5, hB5⟩
        case measure => simp [intOf]; omega
      · rw [show bzT ⟨k, s, n⟩ = ⟨k, s, 0⟩ from if_neg h3] at hbz
        have HBZ := Lib.hid hbz
        clear hbz
        have g3 : ((k : Int) == 3) = false := by rw [beq_eq_false_iff_ne]; omega
        have HH3 := Lib.hid h3
        obtain ⟨wb, hwb⟩ : ∃ wb, wr.alloc (.cells #[.int .u8 (k : Int), .string (str s), .int .u64 0, .int .i64 z] 39) = wb := ⟨_, rfl⟩
        have brb : rowG #[.int .u8 (k : Int), .string (str s), .int .u64 0, .int .i64 z] wb wr.heap.size := by rw [← hwb]; exact rowG_at _ _ _ _ rfl
        have x0 := brb.1 0 (by simp)
        have x1 := brb.1 1 (by simp)
        have x2 := brb.1 2 (by simp)
        have x3 := brb.1 3 (by simp)
        have xl := brb.2.2
        have hbb : Below wr.heap.size wr wb := by rw [← hwb]; exact aB (Below.refl _ _) _
        have hob := own_of hown hbb
        go_wp2_with (at_builtin; refine wpList_append_lies _ rfl _ _ 31 rfl w.heap.size 39 i0 _ 4 40 Tryz.underlying31 hi hz0 hz1 hz2 rfl (by decide) _ M (cellsZ (bzL (T.take M))) rfl (hob.alloc _) ⟨wb.heap.size, 0, none⟩ 1 1 (cellsZ [((⟨k, s, 0⟩ : Tk), z)]) rfl rfl ?cN ?c0 (by decide) ?c1 ?c2 ?c3 _ rfl ?_)
        case cN => exact news_ok (cellsZ [((⟨k, s, 0⟩ : Tk), z)]) 39 wb
        case c0 => exact cellsZ_one _
        case c1 => unfold maxLen; omega
        case c2 => omega
        case c3 => have h1 := hB.size; have h2 := hbb.size; simp; omega
        intro g cap' w5 hown5 hgrow hat hlt5
        go_wp2
        have hB5 : Below w.heap.size w w5 := (aB (tr hB hbb) _).grown hgrow (by have h1 := hB.size; have h2 := hbb.size; simp; omega) (fun j hj => (own_lt hown hj).1)
        go_roundw
        case rel => exact ⟨M + 1, by omega, by go_num, by rw [HBZ.out, cellsZ_app]; exact hown5, hB5⟩
        case measure => simp [intOf]; omega
    · obtain rfl : M = N := by omega
      have hrz := own_rowZ (T := bzL (T.take M)) (by rw [show (bzL (T.take M)).length = M by unfold bzL; rw [List.length_map, List.length_take, HN.out]; omega]; exact hown)
      rw [List.take_of_length_le (by rw [HN.out]; exact Nat.le_refl _)] at hrz
      go_wp2
      go_ret
      exact ⟨⟨_, rfl, hrz⟩, hB⟩
end Go.Proofs.YtnblnmehfhkfmaaGreatDoor
