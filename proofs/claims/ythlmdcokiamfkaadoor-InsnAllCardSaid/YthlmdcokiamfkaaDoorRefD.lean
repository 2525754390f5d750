/- Contract of the document's own answer Bytes of layer 1: for all words. -/
import Derived.Test.YthlmdcokiamfkaaDoorRefS
import Derived.Test.YthlmdcokiamfkaaDoorWordY
import Derived.Lib.SmallJoins
namespace Go.Proofs.YthlmdcokiamfkaaDoor
open Go.ChangeShapes Go.WideShapes Go.ChangeAt Go.RowKit
set_option linter.unusedVariables false
theorem infoU8 : (Tryd.prog.info? 5).map (fun i => (i.zero, i.size, i.bytes)) = some (some (.int .u8 0), 1, 1) := by kernel_rfl
/-- The lowest k bytes of v, the lowest one first. -/
def rowv (v k : Nat) : List Int := (List.range k).map fun j => ((v / 256 ^ j % 256 : Nat) : Int)
theorem rowv_succ (v k : Nat) : rowv v (k + 1) = rowv v k ++ [((v / 256 ^ k % 256 : Nat) : Int)] := by
  unfold rowv; rw [List.range_succ, List.map_append]; rfl
theorem rowv_length (v k : Nat) : (rowv v k).length = k := by unfold rowv; simp
theorem bl_rowv (v n : Nat) (hv : v < 18446744073709551616) (h1 : 1 ≤ n) (h2 : n ≤ 8) : bl v n = rowv v n := by
  have h8 : n = 1 ∨ n = 2 ∨ n = 3 ∨ n = 4 ∨ n = 5 ∨ n = 6 ∨ n = 7 ∨ n = 8 := by omega
  have e7 : (v : Int) / 72057594037927936 = (v : Int) / 72057594037927936 % 256 := by omega
  rcases h8 with rfl | rfl | rfl | rfl | rfl | rfl | rfl | rfl <;> simp [bl, rowv, List.range_succ]
  omega
theorem rbytes_row (w : World) (base g n cap : Nat) (xs : List Int) (hx : xs.length = n)
    (h : w.ownsRow base 5 1 (.slice (some ⟨g, 0, none⟩) n cap) n (xs.map (Value.int .u8))) :
    (convert 51 9 (.slice (some ⟨g, 0, none⟩) n cap)).run Tryd.prog w = .ok (.string (strOfNums xs)) w := by
  refine run_convert_bytes_arg (P := Tryd.prog) _ 51 5 Tryd.underlying51 Tryd.underlying5 g 0 n cap xs hx ?_ 9 Tryd.underlying9
  intro i hi
  rw [Nat.zero_add, h.cellAt i (by omega), List.getElem?_map, List.getD_eq_getElem?_getD, List.getElem?_eq_getElem (by omega)]
  rfl
theorem rbytes_bad (v : Nat) (n : Int) (h : n < 1 ∨ 8 < n) (w : World) :
    Calls Tryd.prog 20 #[.int .u64 v, .int .i64 n] w fun e w' => e = .returned (.tuple #[.string ByteArray.empty, .int .i64 2]) ∧ w = w' := by
  by_cases h1 : n < 1
  · clear h
    go_enter Tryd.func20, Tryd.ntmps20
    go_wp2
    go_ret2
    exact ⟨rfl, rfl⟩
  · have h2 : 8 < n := by omega
    clear h
    go_enter Tryd.func20, Tryd.ntmps20
    go_wp2
    go_ret2
    exact ⟨rfl, rfl⟩
set_option maxHeartbeats 1600000 in
set_option maxRecDepth 1000000 in
theorem rbytes_any (v n : Nat) (hv : v < 18446744073709551616) (h1 : 1 ≤ n) (h2 : n ≤ 8) (w : World) :
    Calls Tryd.prog 20 #[.int .u64 v, .int .i64 n] w fun e w' => e = .returned (.tuple #[.string (strOfNums (bl v n)), .int .i64 0]) ∧ Below w.heap.size w w' := by
  rw [bl_rowv v n hv h1 h2]
  have h3 : ¬ ((n : Int) < 1) := by omega
  have h4 : ¬ (8 < (n : Int)) := by omega
  obtain ⟨i0, hi, hz0, hz1, hz2⟩ := info_parts infoU8
  go_enter Tryd.func20, Tryd.ntmps20
  go_wp2
  go_loopw [0, 6, 7] (fun x b i wr => ∃ k : Nat, k ≤ n ∧ i = .int .i64 k ∧ x = .int .u64 (v / 256 ^ k : Nat) ∧ wr.ownsRow w.heap.size 5 1 b k ((rowv v k).map (Value.int .u8)) ∧ Below w.heap.size w wr) (fun _ _ i _ => n - (intOf i).toNat)
  case atStart => exact ⟨0, Nat.zero_le _, rfl, by rw [Nat.pow_zero, Nat.div_one], World.ownsRow_nil _ _ _ _, Below.refl _ _⟩
  case round =>
    obtain ⟨k, hk, rfl, rfl, hown, hnx⟩ := hrel
    by_cases hlt : k < n
    · have hs := rowv_succ v k
      have hd : v / 256 ^ (k + 1) = v / 256 ^ k / 256 := by rw [Nat.pow_succ, Nat.div_div_eq_div_mul]
      have hq : v / 256 ^ k < 18446744073709551616 := Nat.lt_of_le_of_lt (Nat.div_le_self _ _) hv
      have HS := Lib.hid hs
      have HD := Lib.hid hd
      clear hs hd
      generalize v / 256 ^ k = q at *
      go_wp2_with (at_builtin; refine wpList_append_own _ rfl _ _ 51 rfl w.heap.size 5 i0 (.int .u8 0) 1 1 Tryd.underlying51 hi hz0 hz1 hz2 rfl (by decide) _ _ _ rfl (hown.alloc _) ⟨wr.heap.size, 0, none⟩ 1 1 [.int .u8 ((q : Int) % 256)] rfl rfl ?c1 ?c2 ?c3 ?c4 ?c5 ?_)
      case c1 =>
        intro j u hj
        match j, hj with
        | 0, hj => simp at hj; subst hj; simp [Addr.add]
      case c2 => intro u hu; simp at hu; subst hu; rfl
      case c3 => unfold maxLen; omega
      case c4 => omega
      case c5 => have := hnx.size; simp; omega
      intro v' w1 hown' hgrow _
      have hb1 : Below w.heap.size w w1 := (hnx.alloc hnx.size _).grown hgrow (by have := hnx.size; simp; omega) (fun j hj => (hown.lt j hj).1)
      have ho1 : w1.ownsRow w.heap.size 5 1 v' (k + 1) ((rowv v (k + 1)).map (Value.int .u8)) := by
        rw [HS.out, List.map_append]; exact hown'
      clear hown' hgrow hown
      go_wp2
      go_roundw
      case rel => exact ⟨k + 1, by omega, by go_num, by rw [HD.out]; go_num, ho1, hb1⟩
      case measure => first | (simp [intOf]; done) | (simp [intOf]; omega)
    · obtain rfl : k = n := by omega
      obtain ⟨g, cap, rfl⟩ := Go.Joins.ownsRow_form hown (by omega)
      have hcv := rbytes_row wr w.heap.size g k cap (rowv v k) (rowv_length v k) hown
      clear hown
      go_wp2
      go_ret2
      exact ⟨rfl, hnx⟩
end Go.Proofs.YthlmdcokiamfkaaDoor
