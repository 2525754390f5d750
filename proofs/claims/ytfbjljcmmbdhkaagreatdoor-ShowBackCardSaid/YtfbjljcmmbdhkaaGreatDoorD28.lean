/- Contracts of sameTexts and sameExprs: two rows of the same are the same. -/
import Derived.Test.YtfbjljcmmbdhkaaGreatDoorD14
import Derived.Test.YtfbjljcmmbdhkaaGreatDoorD19
namespace Go.Proofs.YtfbjljcmmbdhkaaGreatDoor
set_option linter.unusedVariables false
set_option linter.unusedSimpArgs false
set_option maxRecDepth 100000
set_option maxHeartbeats 200000000
open Go.ChangeShapes Go.WideShapes Go.ChangeAt Go.RowKit
theorem smt_any (l : List (List UInt8)) (G1 G2 : Nat → Prop) (m1 m2 : Option Addr) (c1 c2 : Nat) (w : World) (h1 : StrsAt G1 w l m1) (h2 : StrsAt G2 w l m2) (hl : l.length ≤ 140737488355328) :
 Calls Tryz.prog 48 #[.slice m1 l.length c1, .slice m2 l.length c2] w fun r w' => r = .returned (.bool true) ∧ Below w.heap.size w w' := by
 have H1 := Lib.hid h1
 have H2 := Lib.hid h2
 obtain ⟨N, hN⟩ : ∃ N, N = l.length := ⟨_, rfl⟩
 rw [← hN] at hl ⊢
 have HL := Lib.hid hN
 clear h1 h2 hN
 go_enter Tryz.func48, Tryz.ntmps48
 go_wp2
 go_loopw [5] (fun i wr => ∃ j : Nat, j ≤ N ∧ i = .int .i64 (j : Int) ∧ Below w.heap.size w wr) (fun i _ => N - (intOf i).toNat)
 case atStart => exact ⟨0, Nat.zero_le _, rfl, Below.refl _ _⟩
 case round =>
  obtain ⟨j, hj, rfl, hB⟩ := hrel
  by_cases hlt : j < N
  ·have hlt' : j < l.length := by rw [← HL.out]; exact hlt
   obtain ⟨g1, o1, rfl, hG1, a0⟩ := H1.out j hlt'
   obtain ⟨g2, o2, rfl, hG2, b0⟩ := H2.out j hlt'
   have hl1 : g1 < wr.heap.size := Nat.lt_of_lt_of_le (World.block_lt_of_cell? w _ a0) hB.size
   have hl2 : g2 < wr.heap.size := Nat.lt_of_lt_of_le (World.block_lt_of_cell? w _ b0) hB.size
   have q0 := stay hB a0
   have r0 := stay hB b0
   clear a0 b0
   generalize l[j] = s at *
   go_wp2
   go_quiet (fail)
   go_wp2
   go_roundw
   case rel => exact ⟨j + 1, by omega, by go_num, bdN hB _⟩
   case measure => first | (simp [intOf]; done) | (simp [intOf]; omega)
  ·obtain rfl : j = N := by omega
   go_wp2
   go_ret
   exact ⟨rfl, hB⟩
theorem xKv (l : List Xp) (G1 G2 : Nat → Prop) (m1 m2 : Option Addr) (c1 c2 : Nat) (w : World) (h1 : KidsAt G1 w l m1) (h2 : KidsAt G2 w l m2) (hl : l.length ≤ 140737488355328) :
 Calls Tryz.prog 25 #[.slice m1 l.length c1, .slice m2 l.length c2] w fun r w' => r = .returned (.bool true) ∧ Below w.heap.size w w' := by
 have H1 := Lib.hid h1
 have H2 := Lib.hid h2
 obtain ⟨N, hN⟩ : ∃ N, N = l.length := ⟨_, rfl⟩
 rw [← hN] at hl ⊢
 have HL := Lib.hid hN
 clear h1 h2 hN
 go_enter Tryz.func25, Tryz.ntmps25
 go_wp2
 go_loopw [5] (fun i wr => ∃ j : Nat, j ≤ N ∧ i = .int .i64 (j : Int) ∧ Below w.heap.size w wr) (fun i _ => N - (intOf i).toNat)
 case atStart => exact ⟨0, Nat.zero_le _, rfl, Below.refl _ _⟩
 case round =>
  obtain ⟨j, hj, rfl, hB⟩ := hrel
  by_cases hlt : j < N
  ·have hlt' : j < l.length := by rw [← HL.out]; exact hlt
   obtain ⟨g1, o1, rfl⟩ := zXb H1.out (by omega)
   obtain ⟨g2, o2, rfl⟩ := zXb H2.out (by omega)
   obtain ⟨ma', cap', c0, c1, c2, c3, c4, hE1⟩ := (zKk l g1 o1 H1.out j hlt').isE
   obtain ⟨mb', cap2', d0, d1, d2, d3, d4, hE2⟩ := (zKk l g2 o2 H2.out j hlt').isE
   have hl1 : g1 < wr.heap.size := Nat.lt_of_lt_of_le (World.block_lt_of_cell? w _ c0) hB.size
   have hl2 : g2 < wr.heap.size := Nat.lt_of_lt_of_le (World.block_lt_of_cell? w _ d0) hB.size
   have q0 := stay hB c0
   have q1 := stay hB c1
   have q2 := stay hB c2
   have q3 := stay hB c3
   have q4 := stay hB c4
   have r0 := stay hB d0
   have r1 := stay hB d1
   have r2 := stay hB d2
   have r3 := stay hB d3
   have r4 := stay hB d4
   have hI := fun w' (hb : Below wr.heap.size wr w') => same07 _ l[j] (Nat.le_refl _) w' _ _ _ _ ((hE1.of hB).of hb) ((hE2.of hB).of hb)
   clear hE1 hE2 c0 c1 c2 c3 c4 d0 d1 d2 d3 d4
   go_wp2
   refine zXm (by kernel_rfl) (by kernel_rfl) ?_
   repeat (first
    | go_big_quiet_skip
    | (refine BigFrame.wpQuiet_want (by kernel_rfl) fun K hK => ?_
       apply Exists.intro
       refine ⟨fun w' hb' => ?_, ?_⟩
       ·have s2 := stay hb' q0
        have s3 := stay hb' q1
        have s4 := stay hb' q2
        have s5 := stay hb' q3
        have s6 := stay hb' q4
        have s7 := stay hb' r0
        have s8 := stay hb' r1
        have s9 := stay hb' r2
        have s10 := stay hb' r3
        have s11 := stay hb' r4
        go_simp
        first
         | exact rfl
         | exact ⟨rfl, hb'⟩
         | (go_at_call 47
            exact (hI _ hb').mono fun e w'' ⟨he, hb2⟩ => ⟨he, zXo hb' (Nat.le_refl _) hb2⟩)
       go_simp
       refine hK _ ?_
       clear hK K))
   refine wpQuiet_nil ?_
   intro w2 hb2
   go_wp2
   go_roundw
   case rel => exact ⟨j + 1, by omega, by go_num, hB.trans (hb2.mono hB.size)⟩
   case measure => first | (simp [intOf]; done) | (simp [intOf]; omega)
  ·obtain rfl : j = N := by omega
   go_wp2
   go_ret
   exact ⟨rfl, hB⟩
end Go.Proofs.YtfbjljcmmbdhkaaGreatDoor
