/- Contracts of mayBe and Check. -/
import Derived.Test.YtnblnmehfhkfmaaGreatDoorEc
namespace Go.Proofs.YtnblnmehfhkfmaaGreatDoor
open Go.ChangeShapes Go.WideShapes Go.ChangeAt Go.RowKit
set_option linter.unusedVariables false
theorem all_take {p : Xp → Bool} {l : List Xp} {k : Nat} (hk : k < l.length) (h : (l.take k).all p = true) (hp : p l[k] = true) : (l.take (k + 1)).all p = true := by
  rw [List.take_succ_eq_append_getElem hk, List.all_append, h]
  simp [hp]
theorem all_no {p : Xp → Bool} {l : List Xp} {k : Nat} (hk : k < l.length) (hp : p l[k] = false) : l.all p = false := by
  rw [Bool.eq_false_iff]
  intro h
  have := List.all_eq_true.1 h l[k] (List.getElem_mem hk)
  rw [hp] at this; cases this
set_option maxRecDepth 100000 in
set_option maxHeartbeats 4000000 in
theorem may_any : ∀ (d : Nat) (G : Nat → Prop) (e : Xp) (v : Value) (w : World), d ≤ 1000 → IsE G w v e → Tb w →
    Calls Tryz.prog 21 #[v, .int .i64 (d : Int)] w fun r w' => r = .returned (.bool (mayB d e)) ∧ Below w.heap.size w w' := by
  intro d
  induction d with
  | zero =>
    intro G e v w _ hE hT
    cases hE with
    | mk ho hl hk =>
      rw [show ∀ x, mayB 0 x = false from fun _ => rfl]
      go_enter Tryz.func21, Tryz.ntmps21
      go_wp2
      go_ret
      exact ⟨rfl, aB (Below.refl _ _) _⟩
  | succ d ih =>
    intro G e v w hd hE hT
    cases hE with
    | @mk k n s o l ma cap ho hl hk =>
      have hF := fits_any k n s o ma l.length cap ho
      cases hf : fitB k n s o l.length with
      | false =>
        rw [show mayB (d + 1) (.mk k n s o l) = (fitB k n s o l.length && l.all (mayB d)) from rfl, hf, Bool.false_and]
        rw [hf] at hF
        clear ih
        go_enter Tryz.func21, Tryz.ntmps21
        go_wp2_with (go_at_call 32; ((with_reducible refine (hF _ (hT.alloc _)).mono ?_); (rintro e w1 ⟨rfl, hb⟩)))
        go_ret
        exact ⟨rfl, tr (aB (Below.refl _ _) _) hb⟩
      | true =>
        rw [show mayB (d + 1) (.mk k n s o l) = (fitB k n s o l.length && l.all (mayB d)) from rfl, hf, Bool.true_and]
        rw [hf] at hF
        have HIH := Lib.hid ih
        have hw : IntKind.i64.wrap (((d + 1 : Nat) : Int) - 1) = (d : Int) := by rw [IntKind.wrap_i64]; omega
        have hd0 : (((d + 1 : Nat) : Int) == 0) = false := by simp only [beq_eq_false_iff_ne]; omega
        obtain ⟨D, hD⟩ : ∃ D : Int, D = ((d + 1 : Nat) : Int) := ⟨_, rfl⟩
        rw [← hD] at hw hd0 ⊢
        have HK := Lib.hid hk
        obtain ⟨N, hN⟩ : ∃ N, N = l.length := ⟨_, rfl⟩
        rw [← hN] at hF hl ⊢
        have HN := Lib.hid hN
        clear ih hD hk hf hN
        go_enter Tryz.func21, Tryz.ntmps21
        go_wp2_with (go_at_call 32; ((with_reducible refine (hF _ (hT.alloc _)).mono ?_); (rintro e w1 ⟨rfl, hb⟩); obtain ⟨hc, hf⟩ := bcell hb; have hz := hz1 hb))
        clear hF
        have hB1 : Below w.heap.size w w1 := tr (aB (Below.refl _ _) _) hb
        clear hb hc hf
        go_loopw [17] (fun i wr => ∃ k : Nat, k ≤ N ∧ i = .int .i64 (k : Int) ∧ Hid ((l.take k).all (mayB d) = true) ∧ Below w.heap.size w wr) (fun i _ => N - (intOf i).toNat)
        case atStart => exact ⟨0, Nat.zero_le _, rfl, Lib.hid (by simp), hB1⟩
        case round =>
          obtain ⟨j, hj, rfl, hall, hB⟩ := hrel
          by_cases hlt : j < N
          · have hlt' : j < l.length := by rw [← HN.out]; exact hlt
            obtain ⟨b, off, rfl⟩ := kids_some HK.out (by omega)
            obtain ⟨ma', cap', c0, c1, c2, c3, c4, hE'⟩ := (kids_at l b off HK.out j hlt').isE
            have hbl := World.block_lt_of_cell? w _ c0
            have q0 := stay hB c0
            have q1 := stay hB c1
            have q2 := stay hB c2
            have q3 := stay hB c3
            have q4 := stay hB c4
            have hbl' : b < wr.heap.size := Nat.lt_of_lt_of_le hbl hB.size
            have hI := HIH.out G l[j] _ (wr.alloc (.cells #[.int .u8 (l[j].k : Int), .int .u64 (l[j].n : Int), .string (str l[j].s), .int .u8 (l[j].o : Int), .slice ma' l[j].l.length cap'] 25)) (by omega) ((hE'.of hB).of (aB (Below.refl _ _) _)) ((hT.of hB).alloc _)
            clear hE' c0 c1 c2 c3 c4
            cases hp : mayB d l[j] with
            | false =>
              rw [hp] at hI
              have hA := Lib.hid (all_no hlt' hp)
              clear hp
              go_wp2_with (go_at_call 21; ((with_reducible refine hI.mono ?_); (rintro e w2 ⟨rfl, hb2⟩)))
              go_ret
              exact ⟨by rw [hA.out]; rfl, tr (aB hB _) hb2⟩
            | true =>
              rw [hp] at hI
              have hA := Lib.hid (all_take hlt' hall.out hp)
              clear hp
              go_wp2_with (go_at_call 21; ((with_reducible refine hI.mono ?_); (rintro e w2 ⟨rfl, hb2⟩)))
              go_roundw
              case rel => exact ⟨j + 1, by omega, by go_num, hA, tr (aB hB _) hb2⟩
              case measure => simp [intOf]; omega
          · obtain rfl : j = N := by omega
            have hA := Lib.hid hall.out
            go_wp2
            go_ret
            exact ⟨by rw [← hA.out, List.take_of_length_le (by rw [HN.out]; exact Nat.le_refl _)]; rfl, hB⟩
set_option maxRecDepth 100000 in
theorem check_any (G : Nat → Prop) (e : Xp) (v : Value) (w : World) (hE : IsE G w v e) (hT : Tb w) :
    Calls Tryz.prog 9 #[v] w fun r w' => r = .returned (.int .i64 (if mayB 40 e = true then 0 else 2)) ∧ Below w.heap.size w w' := by
  have hM : ∀ o, Calls Tryz.prog 21 #[v, .int .i64 40] (w.alloc o) fun r w' => r = .returned (.bool (mayB 40 e)) ∧ Below (w.alloc o).heap.size (w.alloc o) w' := fun o => may_any 40 G e v (w.alloc o) (by omega) (hE.of (aB (Below.refl _ _) _)) (hT.alloc _)
  cases hE with
  | @mk k n s o l ma cap ho hl hk =>
    generalize mayB 40 (.mk k n s o l) = c at hM
    clear hk
    cases c
    · go_enter Tryz.func9, Tryz.ntmps9
      go_wp2_with (go_at_call 21; ((with_reducible refine (hM _).mono ?_); (rintro e w1 ⟨rfl, hb⟩)))
      go_ret
      exact ⟨rfl, tr (aB (Below.refl _ _) _) hb⟩
    · go_enter Tryz.func9, Tryz.ntmps9
      go_wp2_with (go_at_call 21; ((with_reducible refine (hM _).mono ?_); (rintro e w1 ⟨rfl, hb⟩)))
      go_ret
      exact ⟨rfl, tr (aB (Below.refl _ _) _) hb⟩
end Go.Proofs.YtnblnmehfhkfmaaGreatDoor
