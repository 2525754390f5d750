/- Contracts of the document's shape, may and May. -/
import Derived.Test.YtfpoflddnlbpjaaGreatDoorUaP
import Derived.Test.YtfpoflddnlbpjaaGreatDoorZeP
namespace Go.Proofs.YtfpoflddnlbpjaaGreatDoor
open Go.ChangeShapes Go.WideShapes Go.ChangeAt Go.RowKit
set_option linter.unusedVariables false
theorem rnmd_str (s : List UInt8) (hs : s.length ≤ 140737488355328) (w : World) : Calls Tryz.prog 56 #[.string (str s)] w fun e w' => e = .returned (.bool (nmdB s)) ∧ Below w.heap.size w w' := by
  have := rnmd_any (str s) (by show (str s).data.size ≤ _; simpa [str] using hs) w
  rw [str_list] at this
  exact this
set_option maxRecDepth 100000 in
set_option maxHeartbeats 4000000 in
theorem shape_any (k n : Nat) (s : List UInt8) (o : Nat) (ma : Option Addr) (m cap : Nat) (ho : o < 256) (hs : s.length ≤ 140737488355328) (w : World) :
    Calls Tryz.prog 157 #[.agg #[.int .u8 (k : Int), .int .u64 (n : Int), .string (str s), .int .u8 (o : Int), .slice ma m cap]] w fun e w' => e = .returned (.bool (fitB k n s o m)) ∧ Below w.heap.size w w' := by
  have hn0 := dec_beq n 0 0 rfl
  have ho0 := dec_beq o 0 0 rfl
  have hm0 := dec_beq m 0 0 rfl
  have hm1 := dec_beq m 1 1 rfl
  have hm2 := dec_beq m 2 2 rfl
  have hsE := strE s
  have hN := rnmd_str s hs
  have hS := rsign_any o ho
  go_enter Tryz.func157, Tryz.ntmps157
  by_cases h1 : k = 1
  · subst h1
    cases q1 : decide (s = []) <;> cases q2 : decide (o = 0) <;> cases q3 : decide (m = 0)
    all_goals rw [q1] at hsE
    all_goals rw [q2] at ho0
    all_goals rw [q3] at hm0
    all_goals rw [show fitB 1 n s o m = (decide (s = []) && decide (o = 0) && decide (m = 0)) from rfl, q1, q2, q3]
    all_goals clear hn0 hm1 hm2 hS
    all_goals go_wp2_with (first | (go_at_call 56; ((with_reducible refine (hN _).mono ?_); (rintro e w1 ⟨rfl, hb⟩); obtain ⟨hc, hf⟩ := bcell hb; have hz := hz1 hb)) | (go_at_call 124; ((with_reducible refine (hS _).mono ?_); (rintro e w2 ⟨rfl, hb2⟩); obtain ⟨hc2, hf2⟩ := bcell hb2; have hz2 : w.heap.size < w2.heap.size := Nat.lt_of_lt_of_le hz hb2.size)))
    all_goals go_ret
    all_goals exact ⟨rfl, tr (aB (Below.refl _ _) _) hb⟩
  by_cases h2 : k = 2
  · subst h2
    cases q1 : decide (n = 0) <;> cases q4 : nmdB s <;> cases q2 : decide (o = 0) <;> cases q3 : decide (m = 0)
    all_goals rw [q1] at hn0
    all_goals rw [q2] at ho0
    all_goals rw [q3] at hm0
    all_goals rw [show fitB 2 n s o m = (decide (n = 0) && nmdB s && decide (o = 0) && decide (m = 0)) from rfl, q1, q4, q2, q3]
    all_goals rw [q4] at hN
    all_goals clear hm1 hm2 hS h1
    all_goals go_wp2_with (first | (go_at_call 56; ((with_reducible refine (hN _).mono ?_); (rintro e w1 ⟨rfl, hb⟩); obtain ⟨hc, hf⟩ := bcell hb; have hz := hz1 hb)) | (go_at_call 124; ((with_reducible refine (hS _).mono ?_); (rintro e w2 ⟨rfl, hb2⟩); obtain ⟨hc2, hf2⟩ := bcell hb2; have hz2 : w.heap.size < w2.heap.size := Nat.lt_of_lt_of_le hz hb2.size)))
    all_goals go_ret
    all_goals exact ⟨rfl, tr (aB (Below.refl _ _) _) hb⟩
  by_cases h4 : k = 4
  · subst h4
    cases q1 : decide (n = 0) <;> cases q4 : nmdB s <;> cases q2 : decide (o = 0) <;> cases q3 : decide (m = 0)
    all_goals rw [q1] at hn0
    all_goals rw [q2] at ho0
    all_goals rw [q3] at hm0
    all_goals rw [show fitB 4 n s o m = (decide (n = 0) && nmdB s && decide (o = 0) && decide (m = 0)) from rfl, q1, q4, q2, q3]
    all_goals rw [q4] at hN
    all_goals clear hm1 hm2 hS h1 h2
    all_goals go_wp2_with (first | (go_at_call 56; ((with_reducible refine (hN _).mono ?_); (rintro e w1 ⟨rfl, hb⟩); obtain ⟨hc, hf⟩ := bcell hb; have hz := hz1 hb)) | (go_at_call 124; ((with_reducible refine (hS _).mono ?_); (rintro e w2 ⟨rfl, hb2⟩); obtain ⟨hc2, hf2⟩ := bcell hb2; have hz2 : w.heap.size < w2.heap.size := Nat.lt_of_lt_of_le hz hb2.size)))
    all_goals go_ret
    all_goals exact ⟨rfl, tr (aB (Below.refl _ _) _) hb⟩
  by_cases h5 : k = 5
  · subst h5
    cases q1 : decide (n = 0) <;> cases q4 : nmdB s <;> cases q2 : decide (o = 0) <;> cases q3 : decide (m = 1)
    all_goals rw [q1] at hn0
    all_goals rw [q2] at ho0
    all_goals rw [q3] at hm1
    all_goals rw [show fitB 5 n s o m = (decide (n = 0) && nmdB s && decide (o = 0) && decide (m = 1)) from rfl, q1, q4, q2, q3]
    all_goals rw [q4] at hN
    all_goals clear hm0 hm2 hS h1 h2 h4
    all_goals go_wp2_with (first | (go_at_call 56; ((with_reducible refine (hN _).mono ?_); (rintro e w1 ⟨rfl, hb⟩); obtain ⟨hc, hf⟩ := bcell hb; have hz := hz1 hb)) | (go_at_call 124; ((with_reducible refine (hS _).mono ?_); (rintro e w2 ⟨rfl, hb2⟩); obtain ⟨hc2, hf2⟩ := bcell hb2; have hz2 : w.heap.size < w2.heap.size := Nat.lt_of_lt_of_le hz hb2.size)))
    all_goals go_ret
    all_goals exact ⟨rfl, tr (aB (Below.refl _ _) _) hb⟩
  have hoE := strE (opS o)
  by_cases h3 : k = 3
  · subst h3
    have hd : decide (opS o ≠ []) = !decide (opS o = []) := by simp
    cases q1 : decide (n = 0) <;> cases q2 : decide (s = []) <;> cases q4 : decide (opS o = []) <;> cases q3 : decide (m = 2)
    all_goals rw [q1] at hn0
    all_goals rw [q2] at hsE
    all_goals rw [q4] at hoE
    all_goals rw [q3] at hm2
    all_goals rw [show fitB 3 n s o m = (decide (n = 0) && decide (s = []) && decide (opS o ≠ []) && decide (m = 2)) from rfl, hd, q1, q2, q4, q3]
    all_goals clear hm0 hm1 h1 h2 h4 h5 hd ho0
    all_goals go_wp2_with (first | (go_at_call 56; ((with_reducible refine (hN _).mono ?_); (rintro e w1 ⟨rfl, hb⟩); obtain ⟨hc, hf⟩ := bcell hb; have hz := hz1 hb)) | (go_at_call 124; ((with_reducible refine (hS _).mono ?_); (rintro e w2 ⟨rfl, hb2⟩); obtain ⟨hc2, hf2⟩ := bcell hb2; have hz2 : w.heap.size < w2.heap.size := Nat.lt_of_lt_of_le hz hb2.size)))
    all_goals go_ret
    all_goals first | exact ⟨rfl, tr (tr (aB (Below.refl _ _) _) hb) hb2⟩ | exact ⟨rfl, tr (aB (Below.refl _ _) _) hb⟩
  · have g1 := ne_beq h1
    have g2 := ne_beq h2
    have g3 := ne_beq h3
    have g4 := ne_beq h4
    have g5 := ne_beq h5
    have hF : fitB k n s o m = false := by unfold fitB; rw [if_neg h1, if_neg (by omega), if_neg h5, if_neg h3]
    rw [hF]
    clear hF h1 h2 h3 h4 h5 hn0 ho0 hm0 hm1 hm2 hsE hoE hS
    simp only [Int.ofNat_one] at g1
    go_wp2_with (go_at_call 56; ((with_reducible refine (hN _).mono ?_); (rintro e w1 ⟨rfl, hb⟩); obtain ⟨hc, hf⟩ := bcell hb; have hz := hz1 hb))
    go_ret
    exact ⟨rfl, tr (aB (Below.refl _ _) _) hb⟩
set_option maxRecDepth 100000 in
set_option maxHeartbeats 4000000 in
theorem rmay_any : ∀ (d : Nat) (G : Nat → Prop) (e : Xp) (v : Value) (w : World), d ≤ 40 → IsE G w v e → e.sb 140737488355328 →
    Calls Tryz.prog 129 #[v, .int .i64 (41 - (d : Int))] w fun r w' => r = .returned (.bool (mayB d e)) ∧ Below w.heap.size w w' := by
  intro d
  induction d with
  | zero =>
    intro G e v w _ hE hsb
    cases hE with
    | mk ho hl hk =>
      rw [show ∀ x, mayB 0 x = false from fun _ => rfl]
      go_enter Tryz.func129, Tryz.ntmps129
      go_wp2
      go_ret
      exact ⟨rfl, aB (Below.refl _ _) _⟩
  | succ d ih =>
    intro G e v w hd hE hsb
    cases hE with
    | @mk k n s o l ma cap ho hl hk =>
      have hF := shape_any k n s o ma l.length cap ho (sb_s hsb)
      have hsl : sbL 140737488355328 l := sb_l hsb
      have HSL := Lib.hid hsl
      clear hsb hsl
      have hw : IntKind.i64.wrap ((41 - ((d + 1 : Nat) : Int)) + 1) = 41 - (d : Int) := by rw [IntKind.wrap_i64]; omega
      have hd0 : ¬ (40 : Int) < 41 - ((d + 1 : Nat) : Int) := by omega
      obtain ⟨D, hD⟩ : ∃ D : Int, D = 41 - ((d + 1 : Nat) : Int) := ⟨_, rfl⟩
      rw [← hD] at hw hd0 ⊢
      cases hf : fitB k n s o l.length with
      | false =>
        rw [show mayB (d + 1) (.mk k n s o l) = (fitB k n s o l.length && l.all (mayB d)) from rfl, hf, Bool.false_and]
        rw [hf] at hF
        clear ih hD
        go_enter Tryz.func129, Tryz.ntmps129
        go_wp2_with (go_at_call 157; ((with_reducible refine (hF _).mono ?_); (rintro e w1 ⟨rfl, hb⟩)))
        go_ret
        exact ⟨rfl, tr (aB (Below.refl _ _) _) hb⟩
      | true =>
        rw [show mayB (d + 1) (.mk k n s o l) = (fitB k n s o l.length && l.all (mayB d)) from rfl, hf, Bool.true_and]
        rw [hf] at hF
        have HIH := Lib.hid ih
        have HK := Lib.hid hk
        obtain ⟨N, hN⟩ : ∃ N, N = l.length := ⟨_, rfl⟩
        rw [← hN] at hF hl ⊢
        have HN := Lib.hid hN
        have HD := Lib.hid hd
        clear ih hD hk hf hN hd
        go_enter Tryz.func129, Tryz.ntmps129
        go_wp2_with (go_at_call 157; ((with_reducible refine (hF _).mono ?_); (rintro e w1 ⟨rfl, hb⟩); obtain ⟨hc, hf⟩ := bcell hb; have hz := hz1 hb))
        clear hF
        have hB1 : Below w.heap.size w w1 := tr (aB (Below.refl _ _) _) hb
        have b4 : w1.cell? ⟨w.heap.size, 4, none⟩ = some (.slice ma N cap) := (rowG_b (rowG_at #[.int .u8 (k : Int), .int .u64 (n : Int), .string (str s), .int .u8 (o : Int), .slice ma N cap] 52 w _ rfl) hb).1 4 (by simp)
        clear hb hc hf
        go_loopw [5] (fun i wr => ∃ k : Nat, k ≤ N ∧ i = .int .i64 (k : Int) ∧ Hid ((l.take k).all (mayB d) = true) ∧ Below w1.heap.size w1 wr) (fun i _ => N - (intOf i).toNat)
        case atStart => exact ⟨0, Nat.zero_le _, rfl, Lib.hid (by simp), Below.refl _ _⟩
        case round =>
          obtain ⟨j, hj, rfl, hall, hB⟩ := hrel
          have a4 := stay hB b4
          have hzr : w.heap.size < wr.heap.size := Nat.lt_of_lt_of_le hz hB.size
          have hBw : Below w.heap.size w wr := tr hB1 hB
          by_cases hlt : j < N
          · have hlt' : j < l.length := by rw [← HN.out]; exact hlt
            obtain ⟨b, off, rfl⟩ := kids_some HK.out (by omega)
            obtain ⟨ma', cap', c0, c1, c2, c3, c4, hE'⟩ := (kids_at l b off HK.out j hlt').isE
            have hbl := World.block_lt_of_cell? w _ c0
            have q0 := stay hBw c0
            have q1 := stay hBw c1
            have q2 := stay hBw c2
            have q3 := stay hBw c3
            have q4 := stay hBw c4
            have hbl' : b < wr.heap.size := Nat.lt_of_lt_of_le hbl hBw.size
            have hI := HIH.out G l[j] _ wr (by have := HD.out; omega) (hE'.of hBw) (sbL_iff.1 HSL.out _ (List.getElem_mem hlt'))
            clear hE' c0 c1 c2 c3 c4
            cases hp : mayB d l[j] with
            | false =>
              rw [hp] at hI
              have hA := Lib.hid (all_no hlt' hp)
              clear hp
              go_wp2_with (go_at_call 129; ((with_reducible refine hI.mono ?_); (rintro e w2 ⟨rfl, hb2⟩)))
              go_ret
              exact ⟨by rw [hA.out]; rfl, tr hBw hb2⟩
            | true =>
              rw [hp] at hI
              have hA := Lib.hid (all_take hlt' hall.out hp)
              clear hp
              go_wp2_with (go_at_call 129; ((with_reducible refine hI.mono ?_); (rintro e w2 ⟨rfl, hb2⟩)))
              go_roundw
              case rel => exact ⟨j + 1, by omega, by go_num, hA, tr hB hb2⟩
              case measure => simp [intOf]; omega
          · obtain rfl : j = N := by omega
            have hA := Lib.hid hall.out
            go_wp2
            go_ret
            exact ⟨by rw [← hA.out, List.take_of_length_le (by rw [HN.out]; exact Nat.le_refl _)]; rfl, hBw⟩
set_option maxRecDepth 100000 in
theorem rMay_any (G : Nat → Prop) (e : Xp) (v : Value) (w : World) (hE : IsE G w v e) (hs : e.sb 140737488355328) :
    Calls Tryz.prog 87 #[v] w fun r w' => r = .returned (.bool (mayB 40 e)) ∧ Below w.heap.size w w' := by
  have hM : ∀ o, Calls Tryz.prog 129 #[v, .int .i64 1] (w.alloc o) fun r w' => r = .returned (.bool (mayB 40 e)) ∧ Below (w.alloc o).heap.size (w.alloc o) w' := fun o => rmay_any 40 G e v (w.alloc o) (by omega) (hE.of (aB (Below.refl _ _) _)) hs
  cases hE with
  | @mk k n s o l ma cap ho hl hk =>
    generalize mayB 40 (.mk k n s o l) = c at hM
    clear hk hs
    go_enter Tryz.func87, Tryz.ntmps87
    go_wp2_with (go_at_call 129; ((with_reducible refine (hM _).mono ?_); (rintro e w1 ⟨rfl, hb⟩)))
    go_ret
    exact ⟨rfl, tr (aB (Below.refl _ _) _) hb⟩
end Go.Proofs.YtfpoflddnlbpjaaGreatDoor
