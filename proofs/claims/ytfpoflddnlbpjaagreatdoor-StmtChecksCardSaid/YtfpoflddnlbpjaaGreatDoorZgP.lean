/- Contracts of number, name, sign, signOf, fits, mayBe, Check. -/
import Derived.Test.YtfpoflddnlbpjaaGreatDoorZeP
namespace Go.Proofs.YtfpoflddnlbpjaaGreatDoor
open Go.ChangeShapes Go.WideShapes Go.ChangeAt Go.RowKit
set_option linter.unusedVariables false
theorem number_any (n : Nat) (w : World) : Calls Tryz.prog 196 #[.int .u64 (n : Int)] w fun e w' => e = .returned (.agg #[.int .u8 3, .string ⟨#[]⟩, .int .u64 (n : Int), .int .i64 0]) ∧ Below w.heap.size w w' := by
  go_enter Tryz.func196, Tryz.ntmps196
  go_wp2
  exact bodyPost_ret (res_tok rfl _ _ w.heap.size _ _ _ _ rfl (rowG_at _ _ _ _ rfl)) rfl ⟨rfl, (Below.refl _ _).alloc (Nat.le_refl _) _⟩
theorem name_any (s : ByteArray) (w : World) : Calls Tryz.prog 197 #[.string s] w fun e w' => e = .returned (.agg #[.int .u8 1, .string s, .int .u64 0, .int .i64 0]) ∧ Below w.heap.size w w' := by
  go_enter Tryz.func197, Tryz.ntmps197
  go_wp2
  exact bodyPost_ret (res_tok rfl _ _ w.heap.size _ _ _ _ rfl (rowG_at _ _ _ _ rfl)) rfl ⟨rfl, (Below.refl _ _).alloc (Nat.le_refl _) _⟩
theorem sign_any (s : ByteArray) (w : World) : Calls Tryz.prog 198 #[.string s] w fun e w' => e = .returned (.agg #[.int .u8 4, .string s, .int .u64 0, .int .i64 0]) ∧ Below w.heap.size w w' := by
  go_enter Tryz.func198, Tryz.ntmps198
  go_wp2
  exact bodyPost_ret (res_tok rfl _ _ w.heap.size _ _ _ _ rfl (rowG_at _ _ _ _ rfl)) rfl ⟨rfl, (Below.refl _ _).alloc (Nat.le_refl _) _⟩
theorem opS_big {o : Nat} (h : 15 ≤ o) : opS o = [] := by unfold opS; rw [List.getD_eq_getElem?_getD, List.getElem?_eq_none (by simpa [opsL] using h)]; rfl
theorem signOf_any (o : Nat) (ho : o < 256) (w : World) (hT : Tb w) : Calls Tryz.prog 188 #[.int .u8 (o : Int)] w fun e w' => e = .returned (.string (str (opS o))) ∧ w = w' := by
  have hw : IntKind.i64.wrap (o : Int) = (o : Int) := by rw [IntKind.wrap_i64]; omega
  go_enter Tryz.func188, Tryz.ntmps188
  by_cases h : o < 15
  · have c0 := hT.esg o h
    have hb := World.block_lt_of_cell? w _ c0
    go_wp2
    go_ret
    exact ⟨rfl, rfl⟩
  · have e : opS o = [] := opS_big (by omega)
    rw [e]
    go_wp2
    go_ret
    exact ⟨rfl, rfl⟩
theorem hz1 {w w1 : World} {o : Obj} (hb : Below (w.alloc o).heap.size (w.alloc o) w1) : w.heap.size < w1.heap.size := by have := hb.size; simp at this; omega
theorem strE (s : List UInt8) : (str s).toList.isEmpty = decide (s = []) := by rw [ByteArray.toList_eq, str_list]; cases s <;> simp
theorem nmd_str (s : List UInt8) (w : World) (hT : Tb w) : Calls Tryz.prog 51 #[.string (str s)] w fun e w' => e = .returned (.bool (nmdB s)) ∧ Below w.heap.size w w' := by
  have := nmd_any (str s) w hT
  rw [str_list] at this
  exact this
theorem ne_beq {a b : Nat} (h : a ≠ b) : ((a : Int) == (b : Int)) = false := by simp only [beq_eq_false_iff_ne]; omega
theorem dec_beq (a : Nat) (b : Int) (c : Nat) (h : b = c) : ((a : Int) == b) = decide (a = c) := by
  subst h
  by_cases h : a = c
  · subst h; simp
  · rw [ne_beq h, decide_eq_false h]
set_option maxRecDepth 100000 in
set_option maxHeartbeats 4000000 in
theorem fits_any (k n : Nat) (s : List UInt8) (o : Nat) (ma : Option Addr) (m cap : Nat) (ho : o < 256) (w : World) (hT : Tb w) :
    Calls Tryz.prog 170 #[.agg #[.int .u8 (k : Int), .int .u64 (n : Int), .string (str s), .int .u8 (o : Int), .slice ma m cap]] w fun e w' => e = .returned (.bool (fitB k n s o m)) ∧ Below w.heap.size w w' := by
  have hn0 := dec_beq n 0 0 rfl
  have ho0 := dec_beq o 0 0 rfl
  have hm0 := dec_beq m 0 0 rfl
  have hm1 := dec_beq m 1 1 rfl
  have hm2 := dec_beq m 2 2 rfl
  have hsE := strE s
  have hN := nmd_str s
  have hS := signOf_any o ho
  go_enter Tryz.func170, Tryz.ntmps170
  by_cases h1 : k = 1
  · subst h1
    cases q1 : decide (s = []) <;> cases q2 : decide (o = 0) <;> cases q3 : decide (m = 0)
    all_goals rw [q1] at hsE
    all_goals rw [q2] at ho0
    all_goals rw [q3] at hm0
    all_goals rw [show fitB 1 n s o m = (decide (s = []) && decide (o = 0) && decide (m = 0)) from rfl, q1, q2, q3]
    all_goals clear hn0 hm1 hm2 hN hS
    all_goals go_wp2_with (first | (go_at_call 51; ((with_reducible refine (hN _ (hT.alloc _)).mono ?_); (rintro e w1 ⟨rfl, hb⟩); obtain ⟨hc, hf⟩ := bcell hb; have hz := hz1 hb)) | (go_at_call 188; ((with_reducible refine (hS _ (hT.alloc _)).mono ?_); rintro e w1 ⟨rfl, rfl⟩)))
    all_goals go_ret
    all_goals first | exact ⟨rfl, aB (Below.refl _ _) _⟩ | exact ⟨rfl, tr (aB (Below.refl _ _) _) hb⟩
  by_cases h2 : k = 2
  · subst h2
    cases q1 : decide (n = 0) <;> cases q4 : nmdB s <;> cases q2 : decide (o = 0) <;> cases q3 : decide (m = 0)
    all_goals rw [q1] at hn0
    all_goals rw [q2] at ho0
    all_goals rw [q3] at hm0
    all_goals rw [show fitB 2 n s o m = (decide (n = 0) && nmdB s && decide (o = 0) && decide (m = 0)) from rfl, q1, q4, q2, q3]
    all_goals rw [q4] at hN
    all_goals clear hm1 hm2 hS h1
    all_goals go_wp2_with (first | (go_at_call 51; ((with_reducible refine (hN _ (hT.alloc _)).mono ?_); (rintro e w1 ⟨rfl, hb⟩); obtain ⟨hc, hf⟩ := bcell hb; have hz := hz1 hb)) | (go_at_call 188; ((with_reducible refine (hS _ (hT.alloc _)).mono ?_); rintro e w1 ⟨rfl, rfl⟩)))
    all_goals go_ret
    all_goals first | exact ⟨rfl, aB (Below.refl _ _) _⟩ | exact ⟨rfl, tr (aB (Below.refl _ _) _) hb⟩
  by_cases h4 : k = 4
  · subst h4
    cases q1 : decide (n = 0) <;> cases q4 : nmdB s <;> cases q2 : decide (o = 0) <;> cases q3 : decide (m = 0)
    all_goals rw [q1] at hn0
    all_goals rw [q2] at ho0
    all_goals rw [q3] at hm0
    all_goals rw [show fitB 4 n s o m = (decide (n = 0) && nmdB s && decide (o = 0) && decide (m = 0)) from rfl, q1, q4, q2, q3]
    all_goals rw [q4] at hN
    all_goals clear hm1 hm2 hS h1 h2
    all_goals go_wp2_with (first | (go_at_call 51; ((with_reducible refine (hN _ (hT.alloc _)).mono ?_); (rintro e w1 ⟨rfl, hb⟩); obtain ⟨hc, hf⟩ := bcell hb; have hz := hz1 hb)) | (go_at_call 188; ((with_reducible refine (hS _ (hT.alloc _)).mono ?_); rintro e w1 ⟨rfl, rfl⟩)))
    all_goals go_ret
    all_goals first | exact ⟨rfl, aB (Below.refl _ _) _⟩ | exact ⟨rfl, tr (aB (Below.refl _ _) _) hb⟩
  by_cases h5 : k = 5
  · subst h5
    cases q1 : decide (n = 0) <;> cases q4 : nmdB s <;> cases q2 : decide (o = 0) <;> cases q3 : decide (m = 1)
    all_goals rw [q1] at hn0
    all_goals rw [q2] at ho0
    all_goals rw [q3] at hm1
    all_goals rw [show fitB 5 n s o m = (decide (n = 0) && nmdB s && decide (o = 0) && decide (m = 1)) from rfl, q1, q4, q2, q3]
    all_goals rw [q4] at hN
    all_goals clear hm0 hm2 hS h1 h2 h4
    all_goals go_wp2_with (first | (go_at_call 51; ((with_reducible refine (hN _ (hT.alloc _)).mono ?_); (rintro e w1 ⟨rfl, hb⟩); obtain ⟨hc, hf⟩ := bcell hb; have hz := hz1 hb)) | (go_at_call 188; ((with_reducible refine (hS _ (hT.alloc _)).mono ?_); rintro e w1 ⟨rfl, rfl⟩)))
    all_goals go_ret
    all_goals first | exact ⟨rfl, aB (Below.refl _ _) _⟩ | exact ⟨rfl, tr (aB (Below.refl _ _) _) hb⟩
  have hoE := strE (opS o)
  by_cases h3 : k = 3
  · subst h3
    have hd : decide (opS o ≠ []) = !decide (opS o = []) := by simp
    cases q1 : decide (n = 0) <;> cases q2 : decide (s = []) <;> cases q4 : decide (opS o = []) <;> cases q3 : decide (m = 2)
    all_goals rw [q1] at hn0
    all_goals rw [q2] at hsE
    all_goals rw [q4] at hoE
    all_goals rw [q3] at hm2
    all_goals rw [show fitB 3 n s o m = (decide (n = 0) && decide (s = []) && decide (opS o ≠ []) && decide (m = 2)) from rfl, hd, q1, q2, q4, q3]
    all_goals clear hm0 hm1 hN h1 h2 h4 h5 hd ho0
    all_goals go_wp2_with (first | (go_at_call 51; ((with_reducible refine (hN _ (hT.alloc _)).mono ?_); (rintro e w1 ⟨rfl, hb⟩); obtain ⟨hc, hf⟩ := bcell hb; have hz := hz1 hb)) | (go_at_call 188; ((with_reducible refine (hS _ (hT.alloc _)).mono ?_); rintro e w1 ⟨rfl, rfl⟩)))
    all_goals go_ret
    all_goals exact ⟨rfl, aB (Below.refl _ _) _⟩
  · have g1 := ne_beq h1
    have g2 := ne_beq h2
    have g3 := ne_beq h3
    have g4 := ne_beq h4
    have g5 := ne_beq h5
    have hF : fitB k n s o m = false := by unfold fitB; rw [if_neg h1, if_neg (by omega), if_neg h5, if_neg h3]
    rw [hF]
    clear hF h1 h2 h3 h4 h5 hn0 ho0 hm0 hm1 hm2 hsE hoE hN hS
    simp only [Int.ofNat_one] at g1
    go_wp2
    go_ret
    exact ⟨rfl, aB (Below.refl _ _) _⟩
end Go.Proofs.YtfpoflddnlbpjaaGreatDoor

/- Contracts of mayBe and Check. -/
namespace Go.Proofs.YtfpoflddnlbpjaaGreatDoor
open Go.ChangeShapes Go.WideShapes Go.ChangeAt Go.RowKit
set_option linter.unusedVariables false
theorem all_take {p : Xp → Bool} {l : List Xp} {k : Nat} (hk : k < l.length) (h : (l.take k).all p = true) (hp : p l[k] = true) : (l.take (k + 1)).all p = true := by
  rw [List.take_succ_eq_append_getElem hk, List.all_append, h]
  simp [hp]
theorem all_no {p : Xp → Bool} {l : List Xp} {k : Nat} (hk : k < l.length) (hp : p l[k] = false) : l.all p = false := by
  rw [Bool.eq_false_iff]
  intro h
  have := List.all_eq_true.1 h l[k] (List.getElem_mem hk)
  rw [hp] at this; cases this
set_option maxRecDepth 100000 in
set_option maxHeartbeats 4000000 in
theorem may_any : ∀ (d : Nat) (G : Nat → Prop) (e : Xp) (v : Value) (w : World), d ≤ 1000 → IsE G w v e → Tb w →
    Calls Tryz.prog 155 #[v, .int .i64 (d : Int)] w fun r w' => r = .returned (.bool (mayB d e)) ∧ Below w.heap.size w w' := by
  intro d
  induction d with
  | zero =>
    intro G e v w _ hE hT
    cases hE with
    | mk ho hl hk =>
      rw [show ∀ x, mayB 0 x = false from fun _ => rfl]
      go_enter Tryz.func155, Tryz.ntmps155
      go_wp2
      go_ret
      exact ⟨rfl, aB (Below.refl _ _) _⟩
  | succ d ih =>
    intro G e v w hd hE hT
    cases hE with
    | @mk k n s o l ma cap ho hl hk =>
      have hF := fits_any k n s o ma l.length cap ho
      cases hf : fitB k n s o l.length with
      | false =>
        rw [show mayB (d + 1) (.mk k n s o l) = (fitB k n s o l.length && l.all (mayB d)) from rfl, hf, Bool.false_and]
        rw [hf] at hF
        clear ih
        go_enter Tryz.func155, Tryz.ntmps155
        go_wp2_with (go_at_call 170; ((with_reducible refine (hF _ (hT.alloc _)).mono ?_); (rintro e w1 ⟨rfl, hb⟩)))
        go_ret
        exact ⟨rfl, tr (aB (Below.refl _ _) _) hb⟩
      | true =>
        rw [show mayB (d + 1) (.mk k n s o l) = (fitB k n s o l.length && l.all (mayB d)) from rfl, hf, Bool.true_and]
        rw [hf] at hF
        have HIH := Lib.hid ih
        have hw : IntKind.i64.wrap (((d + 1 : Nat) : Int) - 1) = (d : Int) := by rw [IntKind.wrap_i64]; omega
        have hd0 : (((d + 1 : Nat) : Int) == 0) = false := by simp only [beq_eq_false_iff_ne]; omega
        obtain ⟨D, hD⟩ : ∃ D : Int, D = ((d + 1 : Nat) : Int) := ⟨_, rfl⟩
        rw [← hD] at hw hd0 ⊢
        have HK := Lib.hid hk
        obtain ⟨N, hN⟩ : ∃ N, N = l.length := ⟨_, rfl⟩
        rw [← hN] at hF hl ⊢
        have HN := Lib.hid hN
        clear ih hD hk hf hN
        go_enter Tryz.func155, Tryz.ntmps155
        go_wp2_with (go_at_call 170; ((with_reducible refine (hF _ (hT.alloc _)).mono ?_); (rintro e w1 ⟨rfl, hb⟩); obtain ⟨hc, hf⟩ := bcell hb; have hz := hz1 hb))
        clear hF
        have hB1 : Below w.heap.size w w1 := tr (aB (Below.refl _ _) _) hb
        clear hb hc hf
        go_loopw [17] (fun i wr => ∃ k : Nat, k ≤ N ∧ i = .int .i64 (k : Int) ∧ Hid ((l.take k).all (mayB d) = true) ∧ Below w.heap.size w wr) (fun i _ => N - (intOf i).toNat)
        case atStart => exact ⟨0, Nat.zero_le _, rfl, Lib.hid (by simp), hB1⟩
        case round =>
          obtain ⟨j, hj, rfl, hall, hB⟩ := hrel
          by_cases hlt : j < N
          · have hlt' : j < l.length := by rw [← HN.out]; exact hlt
            obtain ⟨b, off, rfl⟩ := kids_some HK.out (by omega)
            obtain ⟨ma', cap', c0, c1, c2, c3, c4, hE'⟩ := (kids_at l b off HK.out j hlt').isE
            have hbl := World.block_lt_of_cell? w _ c0
            have q0 := stay hB c0
            have q1 := stay hB c1
            have q2 := stay hB c2
            have q3 := stay hB c3
            have q4 := stay hB c4
            have hbl' : b < wr.heap.size := Nat.lt_of_lt_of_le hbl hB.size
            have hI := HIH.out G l[j] _ (wr.alloc (.cells #[.int .u8 (l[j].k : Int), .int .u64 (l[j].n : Int), .string (str l[j].s), .int .u8 (l[j].o : Int), .slice ma' l[j].l.length cap'] 52)) (by omega) ((hE'.of hB).of (aB (Below.refl _ _) _)) ((hT.of hB).alloc _)
            clear hE' c0 c1 c2 c3 c4
            cases hp : mayB d l[j] with
            | false =>
              rw [hp] at hI
              have hA := Lib.hid (all_no hlt' hp)
              clear hp
              go_wp2_with (go_at_call 155; ((with_reducible refine hI.mono ?_); (rintro e w2 ⟨rfl, hb2⟩)))
              go_ret
              exact ⟨by rw [hA.out]; rfl, tr (aB hB _) hb2⟩
            | true =>
              rw [hp] at hI
              have hA := Lib.hid (all_take hlt' hall.out hp)
              clear hp
              go_wp2_with (go_at_call 155; ((with_reducible refine hI.mono ?_); (rintro e w2 ⟨rfl, hb2⟩)))
              go_roundw
              case rel => exact ⟨j + 1, by omega, by go_num, hA, tr (aB hB _) hb2⟩
              case measure => simp [intOf]; omega
          · obtain rfl : j = N := by omega
            have hA := Lib.hid hall.out
            go_wp2
            go_ret
            exact ⟨by rw [← hA.out, List.take_of_length_le (by rw [HN.out]; exact Nat.le_refl _)]; rfl, hB⟩
set_option maxRecDepth 100000 in
theorem check_any (G : Nat → Prop) (e : Xp) (v : Value) (w : World) (hE : IsE G w v e) (hT : Tb w) :
    Calls Tryz.prog 125 #[v] w fun r w' => r = .returned (.int .i64 (if mayB 40 e = true then 0 else 2)) ∧ Below w.heap.size w w' := by
  have hM : ∀ o, Calls Tryz.prog 155 #[v, .int .i64 40] (w.alloc o) fun r w' => r = .returned (.bool (mayB 40 e)) ∧ Below (w.alloc o).heap.size (w.alloc o) w' := fun o => may_any 40 G e v (w.alloc o) (by omega) (hE.of (aB (Below.refl _ _) _)) (hT.alloc _)
  cases hE with
  | @mk k n s o l ma cap ho hl hk =>
    generalize mayB 40 (.mk k n s o l) = c at hM
    clear hk
    cases c
    · go_enter Tryz.func125, Tryz.ntmps125
      go_wp2_with (go_at_call 155; ((with_reducible refine (hM _).mono ?_); (rintro e w1 ⟨rfl, hb⟩)))
      go_ret
      exact ⟨rfl, tr (aB (Below.refl _ _) _) hb⟩
    · go_enter Tryz.func125, Tryz.ntmps125
      go_wp2_with (go_at_call 155; ((with_reducible refine (hM _).mono ?_); (rintro e w1 ⟨rfl, hb⟩)))
      go_ret
      exact ⟨rfl, tr (aB (Below.refl _ _) _) hb⟩
end Go.Proofs.YtfpoflddnlbpjaaGreatDoor
