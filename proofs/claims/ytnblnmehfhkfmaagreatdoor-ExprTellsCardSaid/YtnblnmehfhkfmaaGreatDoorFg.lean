/- ExprTells, walked. -/
import Derived.Test.YtnblnmehfhkfmaaGreatDoorFd
import Derived.Test.YtnblnmehfhkfmaaGreatDoorFe
import Derived.Test.YtnblnmehfhkfmaaGreatDoorFf
import Derived.Test.YtnblnmehfhkfmaaGreatDoorFc
import Derived.Test.YtnblnmehfhkfmaaGreatDoorEs
namespace Go.Proofs.YtnblnmehfhkfmaaGreatDoor
open Go.ChangeShapes Go.WideShapes Go.ChangeAt Go.RowKit
set_option linter.unusedVariables false
theorem chk (G : Nat → Prop) (e : Xp) (v : Value) (w : World) (hE : IsE G w v e) (hT : Tb w) {c : Bool} (hm : mayB 40 e = c) :
    Calls Tryz.prog 9 #[v] w fun r w' => r = .returned (.int .i64 (if c then 0 else 2)) ∧ Below w.heap.size w w' := by
  have := check_any G e v w hE hT
  rw [hm] at this
  cases c <;> exact this
theorem may_is (G : Nat → Prop) (e : Xp) (v : Value) (w : World) (hE : IsE G w v e) (hs : e.sb 140737488355328) {c : Bool} (hm : mayB 40 e = c) :
    Calls Tryz.prog 12 #[v] w fun r w' => r = .returned (.bool c) ∧ Below w.heap.size w w' := by
  have := rMay_any G e v w hE hs
  rw [hm] at this
  exact this
theorem rtell_z (e : Xp) (v : Value) (w : World) (hE : IsB w v e) (hm : mayB 40 e = true) (hn : e.nodes ≤ 100000) :
    Calls Tryz.prog 14 #[v] w fun r w' => (∃ tv, r = .returned tv ∧ RowZ w' tv (zs (tellF 40 e))) ∧ Below w.heap.size w w' :=
  (rtell_any 40 e v w hm hE hn).mono fun r w' ⟨⟨g, c, he, hown⟩, hb⟩ => ⟨⟨_, he, by
    have := own_rowZ (T := zs (tellF 40 e)) (by rw [zs_len]; exact hown)
    rw [← zs_len]; rw [← zs_len] at hown; exact own_rowZ hown⟩, hb⟩
theorem same_zb (v1 v2 : Value) (T : List (Tk × Int)) (w : World) (h1 : RowZ w v1 T) (h2 : RowZ w v2 T) (hn : T.length ≤ 100000) :
    Calls Tryz.prog 13 #[v1, v2] w fun e w' => e = .returned (.bool true) ∧ Below w.heap.size w w' :=
  (sameZ_yes v1 v2 T w h1 h2 hn).mono fun e w' ⟨he, m, hw⟩ => ⟨he, by rw [hw]; exact bdN (Below.refl _ _) m⟩
set_option maxRecDepth 100000 in
set_option maxHeartbeats 8000000 in
theorem walk_tells (e : Xp) (v : Value) (w : World) (hE : IsB w v e) (hs : e.sb 140737488355328) (hT : Tb w) :
    Calls Tryz.prog 3 #[v] w fun r w' => r = .returned (.bool true) ∧ Below w.heap.size w w' := by
  have HE := Lib.hid hE
  cases hE with
  | @mk k n s o l ma cap ho hl hk =>
    obtain ⟨e0, he0⟩ : ∃ e0, e0 = Xp.mk k n s o l := ⟨_, rfl⟩
    rw [← he0] at HE hs
    obtain ⟨N, hN⟩ : ∃ N, N = l.length := ⟨_, rfl⟩
    rw [← hN] at HE hl ⊢
    clear hk he0 hN
    obtain ⟨w0, hw0⟩ : ∃ w0, w.alloc (.cells #[.int .u8 (k : Int), .int .u64 (n : Int), .string (str s), .int .u8 (o : Int), .slice ma N cap] 25) = w0 := ⟨_, rfl⟩
    have hB0 : Below w.heap.size w w0 := by rw [← hw0]; exact aB (Below.refl _ _) _
    have br0 : rowG #[.int .u8 (k : Int), .int .u64 (n : Int), .string (str s), .int .u8 (o : Int), .slice ma N cap] w0 w.heap.size := by rw [← hw0]; exact rowG_at _ _ _ _ rfl
    have hE0 : IsB w0 (.agg #[.int .u8 (k : Int), .int .u64 (n : Int), .string (str s), .int .u8 (o : Int), .slice ma N cap]) e0 := HE.out.of hB0
    have hT0 := hT.of hB0
    have hLg := large07 e0 _ w0 hE0
    clear HE
    go_enter Tryz.func3, Tryz.ntmps3
    have p0_0 := br0.1 0 (by simp)
    have p0_1 := br0.1 1 (by simp)
    have p0_2 := br0.1 2 (by simp)
    have p0_3 := br0.1 3 (by simp)
    have p0_4 := br0.1 4 (by simp)
    have p0_l := br0.2.2
    go_wp2_with (go_at_call 6; ((have hcall := hLg); (with_reducible refine hcall.mono ?_); (clear hcall); (rintro r w1 ⟨⟨b, rfl, hbb⟩, hb1⟩); have br1 := rowG_b br0 hb1; have p1_0 := br1.1 0 (by simp); have p1_1 := br1.1 1 (by simp); have p1_2 := br1.1 2 (by simp); have p1_3 := br1.1 3 (by simp); have p1_4 := br1.1 4 (by simp); have p1_l := br1.2.2))
    · have hT1 := hT0.of hb1
      have hB1 := tr hB0 hb1
      clear hLg hbb
      go_wp2_with (go_at_call 7; ((have hcall := alive07 _ hT1); (with_reducible refine hcall.mono ?_); (clear hcall); (rintro r w2 ⟨rfl, hb2⟩)))
      go_ret
      exact ⟨rfl, tr hB1 hb2⟩
    · have hbf : b = false := by assumption
      have hE1 := hE0.of hb1
      have hT1 := hT0.of hb1
      have hB1 := tr hB0 hb1
      have hn := hbb hbf
      clear hLg hbb
      clear hbf
      have hCp := copy07 2000 e0 hn (by omega) w1 _ _ hE1
      unfold CopyP agX at hCp
      have hlen : mayB 40 e0 = true → (zs (tellF 40 e0)).length ≤ 100000 := fun hm => by rw [zs_len]; have := tell_len 40 e0 hm; omega
      cases hm : mayB 40 e0
      · go_wp2_with (first | (go_at_call 8; ((have hcall := hCp); (with_reducible refine hcall.mono ?_); (clear hcall); (rintro r w2 ⟨⟨ma2, cap2, rfl, hE2⟩, hb2⟩); obtain ⟨w3, hw3⟩ : ∃ w3, w2.alloc (.cells #[.int .u8 (e0.k : Int), .int .u64 (e0.n : Int), .string (str e0.s), .int .u8 (e0.o : Int), .slice ma2 e0.l.length cap2] 25) = w3 := ⟨_, rfl⟩; have hb3 : Below w2.heap.size w2 w3 := (by rw [← hw3]; exact aB (Below.refl _ _) _); have or3 : rowG #[.int .u8 (e0.k : Int), .int .u64 (e0.n : Int), .string (str e0.s), .int .u8 (e0.o : Int), .slice ma2 e0.l.length cap2] w3 w2.heap.size := (by rw [← hw3]; exact rowG_at _ _ _ _ rfl); have q3_0 := or3.1 0 (by simp); have q3_1 := or3.1 1 (by simp); have q3_2 := or3.1 2 (by simp); have q3_3 := or3.1 3 (by simp); have q3_4 := or3.1 4 (by simp); have q3_l := or3.2.2; have br3 := rowG_b (rowG_b br1 hb2) hb3; have p3_0 := br3.1 0 (by simp); have p3_1 := br3.1 1 (by simp); have p3_2 := br3.1 2 (by simp); have p3_3 := br3.1 3 (by simp); have p3_4 := br3.1 4 (by simp); have p3_l := br3.2.2; have hE3 := (hE1.of hb2).of hb3; have hO3 : IsB w3 (.agg #[.int .u8 (e0.k : Int), .int .u64 (e0.n : Int), .string (str e0.s), .int .u8 (e0.o : Int), .slice ma2 e0.l.length cap2]) e0 := (IsB.of (hE2.mono (fun b hb => hb.2)) hb3); have hT3 := (hT1.of hb2).of hb3; have hB3 := tr (tr hB1 hb2) hb3)) | (go_at_call 9; ((have hcall := chk _ _ _ w3 hO3 hT3 hm); (with_reducible refine hcall.mono ?_); (clear hcall); (rintro r w4 ⟨rfl, hb4⟩); have br4 := rowG_b br3 hb4; have p4_0 := br4.1 0 (by simp); have p4_1 := br4.1 1 (by simp); have p4_2 := br4.1 2 (by simp); have p4_3 := br4.1 3 (by simp); have p4_4 := br4.1 4 (by simp); have p4_l := br4.2.2; have or4 := rowG_b or3 hb4; have q4_0 := or4.1 0 (by simp); have q4_1 := or4.1 1 (by simp); have q4_2 := or4.1 2 (by simp); have q4_3 := or4.1 3 (by simp); have q4_4 := or4.1 4 (by simp); have q4_l := or4.2.2; have hE4 := hE3.of hb4; have hO4 := hO3.of hb4; have hT4 := hT3.of hb4; have hB4 := tr hB3 hb4)) | (go_at_call 10; ((have hcall := Tell_no e0 _ w4 hO4 hT4 hm); (with_reducible refine hcall.mono ?_); (clear hcall); (rintro r w5 ⟨rfl, hb5⟩); have br5 := rowG_b br4 hb5; have p5_0 := br5.1 0 (by simp); have p5_1 := br5.1 1 (by simp); have p5_2 := br5.1 2 (by simp); have p5_3 := br5.1 3 (by simp); have p5_4 := br5.1 4 (by simp); have p5_l := br5.2.2; have or5 := rowG_b or4 hb5; have q5_0 := or5.1 0 (by simp); have q5_1 := or5.1 1 (by simp); have q5_2 := or5.1 2 (by simp); have q5_3 := or5.1 3 (by simp); have q5_4 := or5.1 4 (by simp); have q5_l := or5.2.2; have hE5 := hE4.of hb5; have hO5 := hO4.of hb5; have hT5 := hT4.of hb5; have hB5 := tr hB4 hb5)) | (go_at_call 11; ((have hcall := same07 _ e0 (Nat.le_refl _) w5 _ _ _ _ hO5 hE5); (with_reducible refine hcall.mono ?_); (clear hcall); (rintro r w6 ⟨rfl, hb6⟩); have br6 := rowG_b br5 hb6; have p6_0 := br6.1 0 (by simp); have p6_1 := br6.1 1 (by simp); have p6_2 := br6.1 2 (by simp); have p6_3 := br6.1 3 (by simp); have p6_4 := br6.1 4 (by simp); have p6_l := br6.2.2; have or6 := rowG_b or5 hb6; have q6_0 := or6.1 0 (by simp); have q6_1 := or6.1 1 (by simp); have q6_2 := or6.1 2 (by simp); have q6_3 := or6.1 3 (by simp); have q6_4 := or6.1 4 (by simp); have q6_l := or6.2.2; have hE6 := hE5.of hb6; have hO6 := hO5.of hb6; have hT6 := hT5.of hb6; have hB6 := tr hB5 hb6)) | (go_at_call 12; ((have hcall := may_is _ e0 _ w6 hE6 hs hm); (with_reducible refine hcall.mono ?_); (clear hcall); (rintro r w7 ⟨rfl, hb7⟩); have br7 := rowG_b br6 hb7; have p7_0 := br7.1 0 (by simp); have p7_1 := br7.1 1 (by simp); have p7_2 := br7.1 2 (by simp); have p7_3 := br7.1 3 (by simp); have p7_4 := br7.1 4 (by simp); have p7_l := br7.2.2; have or7 := rowG_b or6 hb7; have q7_0 := or7.1 0 (by simp); have q7_1 := or7.1 1 (by simp); have q7_2 := or7.1 2 (by simp); have q7_3 := or7.1 3 (by simp); have q7_4 := or7.1 4 (by simp); have q7_l := or7.2.2; have hE7 := hE6.of hb7; have hO7 := hO6.of hb7; have hT7 := hT6.of hb7; have hB7 := tr hB6 hb7)) | (go_at_call 7; ((have hcall := alive07 _ hT7); (with_reducible refine hcall.mono ?_); (clear hcall); (rintro r w8 ⟨rfl, hb8⟩))))
        go_ret
        exact ⟨rfl, tr hB7 hb8⟩
      · go_wp2_with (first | (go_at_call 8; ((have hcall := hCp); (with_reducible refine hcall.mono ?_); (clear hcall); (rintro r w2 ⟨⟨ma2, cap2, rfl, hE2⟩, hb2⟩); obtain ⟨w3, hw3⟩ : ∃ w3, w2.alloc (.cells #[.int .u8 (e0.k : Int), .int .u64 (e0.n : Int), .string (str e0.s), .int .u8 (e0.o : Int), .slice ma2 e0.l.length cap2] 25) = w3 := ⟨_, rfl⟩; have hb3 : Below w2.heap.size w2 w3 := (by rw [← hw3]; exact aB (Below.refl _ _) _); have or3 : rowG #[.int .u8 (e0.k : Int), .int .u64 (e0.n : Int), .string (str e0.s), .int .u8 (e0.o : Int), .slice ma2 e0.l.length cap2] w3 w2.heap.size := (by rw [← hw3]; exact rowG_at _ _ _ _ rfl); have q3_0 := or3.1 0 (by simp); have q3_1 := or3.1 1 (by simp); have q3_2 := or3.1 2 (by simp); have q3_3 := or3.1 3 (by simp); have q3_4 := or3.1 4 (by simp); have q3_l := or3.2.2; have br3 := rowG_b (rowG_b br1 hb2) hb3; have p3_0 := br3.1 0 (by simp); have p3_1 := br3.1 1 (by simp); have p3_2 := br3.1 2 (by simp); have p3_3 := br3.1 3 (by simp); have p3_4 := br3.1 4 (by simp); have p3_l := br3.2.2; have hE3 := (hE1.of hb2).of hb3; have hO3 : IsB w3 (.agg #[.int .u8 (e0.k : Int), .int .u64 (e0.n : Int), .string (str e0.s), .int .u8 (e0.o : Int), .slice ma2 e0.l.length cap2]) e0 := (IsB.of (hE2.mono (fun b hb => hb.2)) hb3); have hT3 := (hT1.of hb2).of hb3; have hB3 := tr (tr hB1 hb2) hb3)) | (go_at_call 9; ((have hcall := chk _ _ _ w3 hO3 hT3 hm); (with_reducible refine hcall.mono ?_); (clear hcall); (rintro r w4 ⟨rfl, hb4⟩); have br4 := rowG_b br3 hb4; have p4_0 := br4.1 0 (by simp); have p4_1 := br4.1 1 (by simp); have p4_2 := br4.1 2 (by simp); have p4_3 := br4.1 3 (by simp); have p4_4 := br4.1 4 (by simp); have p4_l := br4.2.2; have or4 := rowG_b or3 hb4; have q4_0 := or4.1 0 (by simp); have q4_1 := or4.1 1 (by simp); have q4_2 := or4.1 2 (by simp); have q4_3 := or4.1 3 (by simp); have q4_4 := or4.1 4 (by simp); have q4_l := or4.2.2; have hE4 := hE3.of hb4; have hO4 := hO3.of hb4; have hT4 := hT3.of hb4; have hB4 := tr hB3 hb4)) | (go_at_call 10; ((have hcall := Tell_yes e0 _ w4 hO4 hT4 hm (by omega)); (with_reducible refine hcall.mono ?_); (clear hcall); (rintro r w5 ⟨⟨tv, rfl, htv⟩, hb5⟩); have br5 := rowG_b br4 hb5; have p5_0 := br5.1 0 (by simp); have p5_1 := br5.1 1 (by simp); have p5_2 := br5.1 2 (by simp); have p5_3 := br5.1 3 (by simp); have p5_4 := br5.1 4 (by simp); have p5_l := br5.2.2; have or5 := rowG_b or4 hb5; have q5_0 := or5.1 0 (by simp); have q5_1 := or5.1 1 (by simp); have q5_2 := or5.1 2 (by simp); have q5_3 := or5.1 3 (by simp); have q5_4 := or5.1 4 (by simp); have q5_l := or5.2.2; have hE5 := hE4.of hb5; have hO5 := hO4.of hb5; have hT5 := hT4.of hb5; have hB5 := tr hB4 hb5; have hz5 := own_rowZ htv)) | (go_at_call 11; ((have hcall := same07 _ e0 (Nat.le_refl _) w5 _ _ _ _ hO5 hE5); (with_reducible refine hcall.mono ?_); (clear hcall); (rintro r w6 ⟨rfl, hb6⟩); have br6 := rowG_b br5 hb6; have p6_0 := br6.1 0 (by simp); have p6_1 := br6.1 1 (by simp); have p6_2 := br6.1 2 (by simp); have p6_3 := br6.1 3 (by simp); have p6_4 := br6.1 4 (by simp); have p6_l := br6.2.2; have or6 := rowG_b or5 hb6; have q6_0 := or6.1 0 (by simp); have q6_1 := or6.1 1 (by simp); have q6_2 := or6.1 2 (by simp); have q6_3 := or6.1 3 (by simp); have q6_4 := or6.1 4 (by simp); have q6_l := or6.2.2; have hE6 := hE5.of hb6; have hO6 := hO5.of hb6; have hT6 := hT5.of hb6; have hB6 := tr hB5 hb6)) | (go_at_call 12; ((have hcall := may_is _ e0 _ w6 hE6 hs hm); (with_reducible refine hcall.mono ?_); (clear hcall); (rintro r w7 ⟨rfl, hb7⟩); have br7 := rowG_b br6 hb7; have p7_0 := br7.1 0 (by simp); have p7_1 := br7.1 1 (by simp); have p7_2 := br7.1 2 (by simp); have p7_3 := br7.1 3 (by simp); have p7_4 := br7.1 4 (by simp); have p7_l := br7.2.2; have or7 := rowG_b or6 hb7; have q7_0 := or7.1 0 (by simp); have q7_1 := or7.1 1 (by simp); have q7_2 := or7.1 2 (by simp); have q7_3 := or7.1 3 (by simp); have q7_4 := or7.1 4 (by simp); have q7_l := or7.2.2; have hE7 := hE6.of hb7; have hO7 := hO6.of hb7; have hT7 := hT6.of hb7; have hB7 := tr hB6 hb7; have hz7 := (hz5.of hb6).of hb7)) | (go_at_call 14; ((have hcall := rtell_z e0 _ w7 hE7 hm (by omega)); (with_reducible refine hcall.mono ?_); (clear hcall); (rintro r w9 ⟨⟨tv2, rfl, hz9⟩, hb9⟩); have hz9o := hz7.of hb9; have hT9 := hT7.of hb9; have hB9 := tr hB7 hb9)) | (go_at_call 13; ((have hcall := same_zb _ _ _ w9 hz9o hz9 (hlen hm)); (with_reducible refine hcall.mono ?_); (clear hcall); (rintro r w10 ⟨rfl, hb10⟩); have hT10 := hT9.of hb10; have hB10 := tr hB9 hb10)) | (go_at_call 7; ((have hcall := alive07 _ hT10); (with_reducible refine hcall.mono ?_); (clear hcall); (rintro r w11 ⟨rfl, hb11⟩))))
        go_ret
        exact ⟨rfl, tr hB10 hb11⟩
end Go.Proofs.YtnblnmehfhkfmaaGreatDoor
