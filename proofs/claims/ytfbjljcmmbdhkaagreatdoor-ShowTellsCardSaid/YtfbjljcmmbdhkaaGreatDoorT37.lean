/- Contracts of the document's exprs, names, named and needs. -/
import Derived.Test.YtfbjljcmmbdhkaaGreatDoorT17
import Derived.Test.YtfbjljcmmbdhkaaGreatDoorT10
import Derived.Test.YtfbjljcmmbdhkaaGreatDoorT13
import Derived.Test.YtfbjljcmmbdhkaaGreatDoorT32
namespace Go.Proofs.YtfbjljcmmbdhkaaGreatDoor
set_option linter.unusedVariables false
set_option linter.unusedSimpArgs false
set_option maxRecDepth 100000
set_option maxHeartbeats 200000000
open Go.ChangeShapes Go.WideShapes Go.ChangeAt Go.RowKit
theorem rex_any (G : Nat → Prop) (l : List Xp) (hs : sbL 140737488355328 l) (ma : Option Addr) (cap : Nat) (w : World) (hk : KidsAt G w l ma) (hl : l.length ≤ 140737488355328) (n : Int) :
 Calls Tryz.prog 51 #[.slice ma l.length cap, .int .i64 n] w fun r w' => r = .returned (.bool (l.all (mayB 40) && ((l.length : Int) == n))) ∧ Below w.heap.size w w' := by
 have HK := Lib.hid hk
 have HS := Lib.hid (sbL_iff.1 hs)
 obtain ⟨N, hN⟩ : ∃ N, N = l.length := ⟨_, rfl⟩
 rw [← hN] at hl ⊢
 have HN := Lib.hid hN
 clear hk hN hs
 go_enter Tryz.func51, Tryz.ntmps51
 go_wp2
 go_loopw [5] (fun i wr => ∃ k : Nat, k ≤ N ∧ i = .int .i64 (k : Int) ∧ Hid ((l.take k).all (mayB 40) = true) ∧ Below w.heap.size w wr) (fun i _ => N - (intOf i).toNat)
 case atStart => exact ⟨0, Nat.zero_le _, rfl, Lib.hid (by simp), Below.refl _ _⟩
 case round =>
  obtain ⟨j, hj, rfl, hall, hB⟩ := hrel
  by_cases hlt : j < N
  ·have hlt' : j < l.length := by rw [← HN.out]; exact hlt
   obtain ⟨b, off, rfl⟩ := kids_some HK.out (by omega)
   obtain ⟨ma', cap', c0, c1, c2, c3, c4, hE'⟩ := (kids_at l b off HK.out j hlt').isE
   have hbl' : b < wr.heap.size := Nat.lt_of_lt_of_le (World.block_lt_of_cell? w _ c0) hB.size
   have q0 := stay hB c0
   have q1 := stay hB c1
   have q2 := stay hB c2
   have q3 := stay hB c3
   have q4 := stay hB c4
   have hI := rMay_any G l[j] _ wr (hE'.of hB) (HS.out _ (List.getElem_mem hlt'))
   clear hE' c0 c1 c2 c3 c4
   cases hp : mayB 40 l[j] with
   | false =>
    rw [hp] at hI
    have hA := Lib.hid (all_no hlt' hp)
    clear hp
    go_wp2_with (go_at_call 80; ((with_reducible refine hI.mono ?_); (rintro e w2 ⟨rfl, hb2⟩)))
    go_ret
    exact ⟨by rw [hA.out]; rfl, tr hB hb2⟩
   | true =>
    rw [hp] at hI
    have hA := Lib.hid (all_take hlt' hall.out hp)
    clear hp
    go_wp2_with (go_at_call 80; ((with_reducible refine hI.mono ?_); (rintro e w2 ⟨rfl, hb2⟩)))
    go_roundw
    case rel => exact ⟨j + 1, by omega, by go_num, hA, tr hB hb2⟩
    case measure => simp [intOf]; omega
  ·obtain rfl : j = N := by omega
   have hA := Lib.hid hall.out
   go_wp2
   go_ret
   have h := hA.out
   rw [List.take_of_length_le (by rw [HN.out]; exact Nat.le_refl _)] at h
   exact ⟨by rw [h, Bool.true_and]; rfl, hB⟩
theorem rns_any (G : Nat → Prop) (l : List (List UInt8)) (hs : ∀ s ∈ l, s.length ≤ 140737488355328) (ma : Option Addr) (cap : Nat) (w : World) (hk : StrsAt G w l ma) (hl : l.length ≤ 140737488355328) :
 Calls Tryz.prog 76 #[.slice ma l.length cap] w fun r w' => r = .returned (.bool (l.all nmdB)) ∧ Below w.heap.size w w' := by
 have HK := Lib.hid hk
 have HS := Lib.hid hs
 obtain ⟨N, hN⟩ : ∃ N, N = l.length := ⟨_, rfl⟩
 rw [← hN] at hl ⊢
 have HN := Lib.hid hN
 clear hk hN hs
 go_enter Tryz.func76, Tryz.ntmps76
 go_wp2
 go_loopw [3] (fun i wr => ∃ k : Nat, k ≤ N ∧ i = .int .i64 (k : Int) ∧ Hid ((l.take k).all nmdB = true) ∧ Below w.heap.size w wr) (fun i _ => N - (intOf i).toNat)
 case atStart => exact ⟨0, Nat.zero_le _, rfl, Lib.hid (by simp), Below.refl _ _⟩
 case round =>
  obtain ⟨j, hj, rfl, hall, hB⟩ := hrel
  by_cases hlt : j < N
  ·have hlt' : j < l.length := by rw [← HN.out]; exact hlt
   obtain ⟨b, off, rfl, hG, c0⟩ := HK.out j hlt'
   have hbl' : b < wr.heap.size := Nat.lt_of_lt_of_le (World.block_lt_of_cell? w _ c0) hB.size
   have q0 := stay hB c0
   have hI := rnmd_str l[j] (HS.out _ (List.getElem_mem hlt')) wr
   have hA0 := fun hp => Lib.hid (tall_no (p := nmdB) hlt' hp)
   have hA1 := fun hp => Lib.hid (tall_take (p := nmdB) hlt' hall.out hp)
   clear c0 hall
   generalize nmdB l[j] = nb at *
   cases nb with
   | false =>
    replace hA0 := hA0 rfl
    clear hA1
    go_wp2_with (go_at_call 50; ((with_reducible refine hI.mono ?_); (rintro e w2 ⟨rfl, hb2⟩)))
    go_ret
    exact ⟨by rw [hA0.out]; rfl, tr hB hb2⟩
   | true =>
    replace hA1 := hA1 rfl
    clear hA0
    go_wp2_with (go_at_call 50; ((with_reducible refine hI.mono ?_); (rintro e w2 ⟨rfl, hb2⟩)))
    go_roundw
    case rel => exact ⟨j + 1, by omega, by go_num, hA1, tr hB hb2⟩
    case measure => simp [intOf]; omega
  ·obtain rfl : j = N := by omega
   have hA := Lib.hid hall.out
   go_wp2
   go_ret
   exact ⟨by rw [← hA.out, List.take_of_length_le (by rw [HN.out]; exact Nat.le_refl _)]; rfl, hB⟩
def namedB (s : List UInt8) (is : Bool) : Bool := if is then nmdB s else decide (s = [])
theorem rnd_any (s : List UInt8) (hs : s.length ≤ 140737488355328) (is : Bool) (w : World) :
 Calls Tryz.prog 75 #[.string (str s), .bool is] w fun r w' => r = .returned (.bool (namedB s is)) ∧ Below w.heap.size w w' := by
 have hI := rnmd_str s hs
 cases is
 ·rw [show namedB s false = decide (s = []) from rfl]
  have he : (str s).toList.isEmpty = decide (s = []) := by rw [ByteArray.toList_eq, str_list]; cases s <;> simp
  go_enter Tryz.func75, Tryz.ntmps75
  go_wp2
  go_ret
  exact ⟨rfl, Below.refl _ _⟩
 ·rw [show namedB s true = nmdB s from rfl]
  go_enter Tryz.func75, Tryz.ntmps75
  go_wp2_with (go_at_call 50; ((with_reducible refine (hI _).mono ?_); (rintro e w2 ⟨rfl, hb2⟩)))
  go_ret
  exact ⟨rfl, hb2⟩
def ndsD (k : Nat) : Int × Bool × Bool × Bool × Bool × Bool × Bool × Bool := match k with
 | 1 => (1, true, false, true, false, false, false, true)
 | 3 => (1, true, false, true, false, false, false, true)
 | 2 => (1, true, false, false, false, false, false, true)
 | 10 => (1, true, false, false, false, false, false, true)
 | 4 => (2, true, false, false, false, false, false, true)
 | 5 => (1, false, false, false, false, true, true, true)
 | 6 => (1, false, false, false, false, true, false, true)
 | 7 => (1, true, false, false, false, true, false, true)
 | 8 => (2, true, true, false, true, true, false, true)
 | 9 => (0, true, true, false, false, false, false, true)
 | 11 => (-1, false, true, false, false, false, false, true)
 | 12 => (0, false, false, false, false, false, false, true)
 | _ => (0, false, false, false, false, false, false, false)
theorem ndsD_big (k : Nat) (h : 13 ≤ k) : ndsD k = (0, false, false, false, false, false, false, false) := by
 unfold ndsD
 split <;> first | rfl | omega
theorem rnds_any (k : Nat) (hk : k < 256) (w : World) :
 Calls Tryz.prog 74 #[.int .u8 (k : Int)] w fun r w' => r = .returned (.tuple #[.agg #[.int .i64 (ndsD k).1, .bool (ndsD k).2.1, .bool (ndsD k).2.2.1, .bool (ndsD k).2.2.2.1, .bool (ndsD k).2.2.2.2.1, .bool (ndsD k).2.2.2.2.2.1, .bool (ndsD k).2.2.2.2.2.2.1], .bool (ndsD k).2.2.2.2.2.2.2]) ∧ Below w.heap.size w w' := by
 by_cases h13 : 13 ≤ k
 ·rw [ndsD_big k h13]
  have e1 : ((k : Int) == 1) = false := by simp only [beq_eq_false_iff_ne]; omega
  have e2 : ((k : Int) == 2) = false := by simp only [beq_eq_false_iff_ne]; omega
  have e3 : ((k : Int) == 3) = false := by simp only [beq_eq_false_iff_ne]; omega
  have e4 : ((k : Int) == 4) = false := by simp only [beq_eq_false_iff_ne]; omega
  have e5 : ((k : Int) == 5) = false := by simp only [beq_eq_false_iff_ne]; omega
  have e6 : ((k : Int) == 6) = false := by simp only [beq_eq_false_iff_ne]; omega
  have e7 : ((k : Int) == 7) = false := by simp only [beq_eq_false_iff_ne]; omega
  have e8 : ((k : Int) == 8) = false := by simp only [beq_eq_false_iff_ne]; omega
  have e9 : ((k : Int) == 9) = false := by simp only [beq_eq_false_iff_ne]; omega
  have e10 : ((k : Int) == 10) = false := by simp only [beq_eq_false_iff_ne]; omega
  have e11 : ((k : Int) == 11) = false := by simp only [beq_eq_false_iff_ne]; omega
  have e12 : ((k : Int) == 12) = false := by simp only [beq_eq_false_iff_ne]; omega
  go_enter Tryz.func74, Tryz.ntmps74
  go_wp2
  simp [bodyPost, results, Tryz.results74, go_sem]
  exact aB (Below.refl _ _) _
 have hc : k = 0 ∨ k = 1 ∨ k = 2 ∨ k = 3 ∨ k = 4 ∨ k = 5 ∨ k = 6 ∨ k = 7 ∨ k = 8 ∨ k = 9 ∨ k = 10 ∨ k = 11 ∨ k = 12 := by omega
 rcases hc with rfl | rfl | rfl | rfl | rfl | rfl | rfl | rfl | rfl | rfl | rfl | rfl | rfl
 all_goals
  go_enter Tryz.func74, Tryz.ntmps74
  go_wp2
  simp [bodyPost, results, Tryz.results74, go_sem]
  exact ⟨by decide, aB (Below.refl _ _) _⟩
end Go.Proofs.YtfbjljcmmbdhkaaGreatDoor
