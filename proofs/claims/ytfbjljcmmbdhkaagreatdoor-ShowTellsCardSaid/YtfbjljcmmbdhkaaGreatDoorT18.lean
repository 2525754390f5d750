/- Contracts of asked.met and needs.met. -/
import Derived.Test.YtfbjljcmmbdhkaaGreatDoorT13
import Derived.Test.YtfbjljcmmbdhkaaGreatDoorT10
namespace Go.Proofs.YtfbjljcmmbdhkaaGreatDoor
set_option linter.unusedVariables false
set_option linter.unusedSimpArgs false
set_option maxRecDepth 100000
set_option maxHeartbeats 200000000
open Go.ChangeShapes Go.WideShapes Go.ChangeAt Go.RowKit
theorem am_any (a : Nat) (s : List UInt8) (w : World) (hT : Tb w) : Calls Tryz.prog 157 #[.int .u8 (a : Int), .string (str s)] w fun e w' => e = .returned (.bool (metA a s)) ∧ Below w.heap.size w w' := by
 have hsE := strE s
 have hN := nmd_str s
 have h2 := dec_beq a 2 2 rfl
 have h0 := dec_beq a 0 0 rfl
 unfold metA
 by_cases hs : s = []
 ·rw [if_pos hs]
  rw [decide_eq_true hs] at hsE
  have e2 : decide (a ≠ 2) = !decide (a = 2) := by by_cases h : a = 2 <;> simp [h]
  rw [e2]
  clear hN e2 hs
  go_enter Tryz.func157, Tryz.ntmps157
  go_wp2
  go_ret
  exact ⟨by show Ending.returned (.bool (((a : Int)) != 2)) = _; rw [bne, h2], Below.refl _ _⟩
 ·rw [if_neg hs]
  rw [decide_eq_false hs] at hsE
  by_cases ha : a = 0
  ·rw [show decide (a ≠ 0) = false from decide_eq_false (by simpa using ha), Bool.false_and]
   rw [decide_eq_true ha] at h0
   clear hN
   go_enter Tryz.func157, Tryz.ntmps157
   go_wp2
   go_ret
   exact ⟨rfl, Below.refl _ _⟩
  ·rw [show decide (a ≠ 0) = true from decide_eq_true ha, Bool.true_and]
   rw [decide_eq_false ha] at h0
   go_enter Tryz.func157, Tryz.ntmps157
   go_wp2_with (go_at_call 56; ((with_reducible refine (hN _ hT).mono ?_); (rintro e w1 ⟨rfl, hb⟩)))
   go_ret
   exact ⟨by show Ending.returned (.bool ((((a : Int)) != 0) && nmdB s)) = _; rw [bne, h0]; rfl, hb⟩
abbrev ndV (a0 a1 : Nat) (lo hi ar : Int) (sc mx bd el : Bool) : Value := .agg #[.int .u8 (a0 : Int), .int .u8 (a1 : Int), .bool sc, .bool mx, .int .i64 lo, .int .i64 hi, .int .i64 ar, .bool bd, .bool el]
abbrev sdV (k ne na nb nl ce ca cb cl : Nat) (nm fr : List UInt8) (me ma mb ml : Option Addr) (sec mu : Bool) : Value := .agg #[.int .u8 (k : Int), .string (str nm), .string (str fr), .bool sec, .bool mu, .slice me ne ce, .slice ma na ca, .slice mb nb cb, .slice ml nl cl]
def AskP (a : Nat) (s : List UInt8) (r : Bool) : Prop := ∀ (w : World), Tb w → Calls Tryz.prog 157 #[.int .u8 (a : Int), .string (str s)] w fun e w' => e = .returned (.bool r) ∧ Below w.heap.size w w'
def MetS (a0 a1 : Nat) (lo hi ar : Int) (sc mx bd el : Bool) (k ne na nb nl ce ca cb cl : Nat) (nm fr : List UInt8) (me ma mb ml : Option Addr) (sec mu : Bool) (w : World) (r : Bool) : Prop := Calls Tryz.prog 130 #[.agg #[.int .u8 (a0 : Int), .int .u8 (a1 : Int), .bool sc, .bool mx, .int .i64 lo, .int .i64 hi, .int .i64 ar, .bool bd, .bool el], .agg #[.int .u8 (k : Int), .string (str nm), .string (str fr), .bool sec, .bool mu, .slice me ne ce, .slice ma na ca, .slice mb nb cb, .slice ml nl cl]] w fun e w' => e = .returned (.bool r) ∧ Below w.heap.size w w'
theorem met_pre (a0 a1 : Nat) (lo hi ar : Int) (sc mx bd el : Bool) (k ne na nb nl ce ca cb cl : Nat) (nm fr : List UInt8) (me ma mb ml : Option Addr) (sec mu : Bool) {w : World} (hT : Tb w) :
 ∃ W, (w.alloc (.cells #[.int .u8 (a0 : Int), .int .u8 (a1 : Int), .bool sc, .bool mx, .int .i64 lo, .int .i64 hi, .int .i64 ar, .bool bd, .bool el] 176)).alloc (.cells #[.int .u8 (k : Int), .string (str nm), .string (str fr), .bool sec, .bool mu, .slice me ne ce, .slice ma na ca, .slice mb nb cb, .slice ml nl cl] 52) = W ∧ Below w.heap.size w W ∧ Tb W ∧ rowG #[.int .u8 (a0 : Int), .int .u8 (a1 : Int), .bool sc, .bool mx, .int .i64 lo, .int .i64 hi, .int .i64 ar, .bool bd, .bool el] W w.heap.size ∧ rowG #[.int .u8 (k : Int), .string (str nm), .string (str fr), .bool sec, .bool mu, .slice me ne ce, .slice ma na ca, .slice mb nb cb, .slice ml nl cl] W (w.heap.size + 1) := by
 obtain ⟨W, hW⟩ : ∃ W, (w.alloc (.cells #[.int .u8 (a0 : Int), .int .u8 (a1 : Int), .bool sc, .bool mx, .int .i64 lo, .int .i64 hi, .int .i64 ar, .bool bd, .bool el] 176)).alloc (.cells #[.int .u8 (k : Int), .string (str nm), .string (str fr), .bool sec, .bool mu, .slice me ne ce, .slice ma na ca, .slice mb nb cb, .slice ml nl cl] 52) = W := ⟨_, rfl⟩
 have hBW : Below w.heap.size w W := by rw [← hW]; exact aB (aB (Below.refl _ _) _) _
 exact ⟨W, hW, hBW, hT.of hBW, by rw [← hW]; exact rowG_alloc (rowG_at _ _ _ _ rfl) _, by rw [← hW]; exact rowG_at _ _ _ _ (by simp)⟩
theorem ams_any (G : Nat → Prop) (l : List Xp) (ma : Option Addr) (cap : Nat) (w : World) (hk : KidsAt G w l ma) (hl : l.length ≤ 140737488355328) (hT : Tb w) :
 Calls Tryz.prog 86 #[.slice ma l.length cap] w fun r w' => r = .returned (.bool (l.all (mayB 40))) ∧ Below w.heap.size w w' := by
 have HK := Lib.hid hk
 obtain ⟨N, hN⟩ : ∃ N, N = l.length := ⟨_, rfl⟩
 rw [← hN] at hl ⊢
 have HN := Lib.hid hN
 clear hk hN
 go_enter Tryz.func86, Tryz.ntmps86
 go_wp2
 go_loopw [7] (fun i wr => ∃ k : Nat, k ≤ N ∧ i = .int .i64 (k : Int) ∧ Hid ((l.take k).all (mayB 40) = true) ∧ Below w.heap.size w wr) (fun i _ => N - (intOf i).toNat)
 case atStart => exact ⟨0, Nat.zero_le _, rfl, Lib.hid (by simp), Below.refl _ _⟩
 case round =>
  obtain ⟨j, hj, rfl, hall, hB⟩ := hrel
  by_cases hlt : j < N
  ·have hlt' : j < l.length := by rw [← HN.out]; exact hlt
   obtain ⟨b, off, rfl⟩ := kids_some HK.out (by omega)
   obtain ⟨ma', cap', c0, c1, c2, c3, c4, hE'⟩ := (kids_at l b off HK.out j hlt').isE
   have hbl := World.block_lt_of_cell? w _ c0
   have q0 := stay hB c0
   have q1 := stay hB c1
   have q2 := stay hB c2
   have q3 := stay hB c3
   have q4 := stay hB c4
   have hbl' : b < wr.heap.size := Nat.lt_of_lt_of_le hbl hB.size
   have hI := check_any G l[j] _ (wr.alloc (.cells #[.int .u8 (l[j].k : Int), .int .u64 (l[j].n : Int), .string (str l[j].s), .int .u8 (l[j].o : Int), .slice ma' l[j].l.length cap'] 47)) ((hE'.of hB).of (aB (Below.refl _ _) _)) ((hT.of hB).alloc _)
   clear hE' c0 c1 c2 c3 c4
   cases hp : mayB 40 l[j] with
   | false =>
    rw [hp] at hI
    simp only [Bool.false_eq_true, if_false] at hI
    have hA := Lib.hid (all_no hlt' hp)
    clear hp
    go_wp2_with (go_at_call 129; ((with_reducible refine hI.mono ?_); (rintro e w2 ⟨rfl, hb2⟩)))
    go_ret
    exact ⟨by rw [hA.out]; rfl, tr (aB hB _) hb2⟩
   | true =>
    rw [hp] at hI
    simp only [if_true] at hI
    have hA := Lib.hid (all_take hlt' hall.out hp)
    clear hp
    go_wp2_with (go_at_call 129; ((with_reducible refine hI.mono ?_); (rintro e w2 ⟨rfl, hb2⟩)))
    go_roundw
    case rel => exact ⟨j + 1, by omega, by go_num, hA, tr (aB hB _) hb2⟩
    case measure => simp [intOf]; omega
  ·obtain rfl : j = N := by omega
   have hA := Lib.hid hall.out
   go_wp2
   go_ret
   exact ⟨by rw [← hA.out, List.take_of_length_le (by rw [HN.out]; exact Nat.le_refl _)]; rfl, hB⟩
theorem pall_take {p : Pm → Bool} {l : List Pm} {k : Nat} (hk : k < l.length) (h : (l.take k).all p = true) (hp : p l[k] = true) : (l.take (k + 1)).all p = true := by
 rw [List.take_succ_eq_append_getElem hk, List.all_append, h]
 simp [hp]
theorem pall_no {p : Pm → Bool} {l : List Pm} {k : Nat} (hk : k < l.length) (hp : p l[k] = false) : l.all p = false := by
 rw [Bool.eq_false_iff]
 intro h
 have := List.all_eq_true.1 h l[k] (List.getElem_mem hk)
 rw [hp] at this; cases this
theorem psf_any (G : Nat → Prop) (l : List Pm) (ma : Option Addr) (cap : Nat) (w : World) (hk : PmsAt G w l ma) (hl : l.length ≤ 140737488355328) (hT : Tb w) :
 Calls Tryz.prog 57 #[.slice ma l.length cap] w fun r w' => r = .returned (.bool (psB l)) ∧ Below w.heap.size w w' := by
 have HK := Lib.hid hk
 have hps : psB l = (decide (l.length ≤ 8) && l.all pmB) := rfl
 rw [hps]
 obtain ⟨N, hN⟩ : ∃ N, N = l.length := ⟨_, rfl⟩
 rw [← hN] at hl ⊢
 have HN := Lib.hid hN
 clear hk hN hps
 by_cases h8 : N ≤ 8
 ·rw [decide_eq_true h8, Bool.true_and]
  go_enter Tryz.func57, Tryz.ntmps57
  go_wp2
  go_loopw [10] (fun i wr => ∃ k : Nat, k ≤ N ∧ i = .int .i64 (k : Int) ∧ Hid ((l.take k).all pmB = true) ∧ Below w.heap.size w wr) (fun i _ => N - (intOf i).toNat)
  case atStart => exact ⟨0, Nat.zero_le _, rfl, Lib.hid (by simp), Below.refl _ _⟩
  case round =>
   obtain ⟨j, hj, rfl, hall, hB⟩ := hrel
   by_cases hlt : j < N
   ·have hlt' : j < l.length := by rw [← HN.out]; exact hlt
    obtain ⟨b, off, rfl, hG, c0, c1, c2, c3⟩ := HK.out j hlt'
    have hbl := World.block_lt_of_cell? w _ c0
    have q0 := stay hB c0
    have q1 := stay hB c1
    have q2 := stay hB c2
    have q3 := stay hB c3
    have hbl' : b < wr.heap.size := Nat.lt_of_lt_of_le hbl hB.size
    have hN1 := nmd_str l[j].nm (wr.alloc (.cells #[.string (str l[j].nm), .bool l[j].buf, .bool l[j].sec, .bool l[j].mu] 49)) ((hT.of hB).alloc _)
    have hA0 := fun hp => Lib.hid (pall_no (p := pmB) hlt' hp)
    have hA1 := fun hp => Lib.hid (pall_take (p := pmB) hlt' hall.out hp)
    have e : pmB l[j] = (nmdB l[j].nm && (!l[j].mu || l[j].buf)) := rfl
    rw [e] at hA0 hA1
    clear c0 c1 c2 c3 e hall
    generalize l[j].mu = mu at *
    generalize l[j].buf = buf at *
    generalize l[j].sec = sec at *
    generalize nmdB l[j].nm = nb at *
    generalize l[j].nm = nm at *
    cases nb
    ·have hun : undef = Value.tuple #[] := rfl
     replace hA0 := hA0 rfl
     clear hA1
     go_wp2_with (go_at_call 56; ((with_reducible refine hN1.mono ?_); (rintro e w2 ⟨rfl, hb2⟩)))
     go_ret
     exact ⟨by rw [hA0.out]; rfl, tr (aB hB _) hb2⟩
    ·cases mu
     ·replace hA1 := hA1 rfl
      clear hA0
      go_wp2_with (go_at_call 56; ((with_reducible refine hN1.mono ?_); (rintro e w2 ⟨rfl, hb2⟩); obtain ⟨hc, hf⟩ := bcell hb2; have hz := hz1 hb2))
      go_roundw
      case rel => first | exact ⟨j + 1, by omega, by go_num, hA1, tr (aB hB _) hb2⟩ | ((repeat apply Exists.intro); exact ⟨⟨j + 1, by omega, by go_num, hA1, tr (aB hB _) hb2⟩, rfl⟩)
      case measure => simp [intOf]; omega
     ·cases buf
      ·replace hA0 := hA0 rfl
       clear hA1
       go_wp2_with (go_at_call 56; ((with_reducible refine hN1.mono ?_); (rintro e w2 ⟨rfl, hb2⟩); obtain ⟨hc, hf⟩ := bcell hb2; have hz := hz1 hb2))
       go_ret
       exact ⟨by rw [hA0.out]; rfl, tr (aB hB _) hb2⟩
      ·replace hA1 := hA1 rfl
       clear hA0
       go_wp2_with (go_at_call 56; ((with_reducible refine hN1.mono ?_); (rintro e w2 ⟨rfl, hb2⟩); obtain ⟨hc, hf⟩ := bcell hb2; have hz := hz1 hb2))
       go_roundw
       case rel => first | exact ⟨j + 1, by omega, by go_num, hA1, tr (aB hB _) hb2⟩ | ((repeat apply Exists.intro); exact ⟨⟨j + 1, by omega, by go_num, hA1, tr (aB hB _) hb2⟩, rfl⟩)
       case measure => simp [intOf]; omega
   ·obtain rfl : j = N := by omega
    have hA := Lib.hid hall.out
    go_wp2
    go_ret
    exact ⟨by rw [← hA.out, List.take_of_length_le (by rw [HN.out]; exact Nat.le_refl _)]; rfl, hB⟩
 ·rw [decide_eq_false h8, Bool.false_and]
  go_enter Tryz.func57, Tryz.ntmps57
  go_wp2
  go_ret
  exact ⟨rfl, Below.refl _ _⟩
theorem rtf_any (G : Nat → Prop) (nm : List UInt8) (sec : Bool) (rt : List Xp) (mp mb mr : Option Addr) (np cp nb cb cr : Nat) (w : World) (hk : KidsAt G w rt mr) (hl : rt.length ≤ 140737488355328) (hT : Tb w) :
 Calls Tryz.prog 58 #[.agg #[.string (str nm), .slice mp np cp, .slice mb nb cb, .bool sec, .slice mr rt.length cr]] w fun r w' => r = .returned (.bool (rtB sec rt)) ∧ Below w.heap.size w w' := by
 have hC := ams_any G rt mr cr (w.alloc (.cells #[.string (str nm), .slice mp np cp, .slice mb nb cb, .bool sec, .slice mr rt.length cr] 43)) (hk.of (aB (Below.refl _ _) _)) hl (hT.alloc _)
 have h0 := dec_beq rt.length 0 0 rfl
 have h1 := dec_beq rt.length 1 1 rfl
 unfold rtB
 obtain ⟨N, hN⟩ : ∃ N, N = rt.length := ⟨_, rfl⟩
 rw [← hN] at h0 h1 hC ⊢
 generalize rt.all (mayB 40) = c at hC ⊢
 clear hk hl hN
 by_cases hz : N = 0
 ·subst hz
  simp only [if_true]
  clear hC h0 h1
  go_enter Tryz.func58, Tryz.ntmps58
  go_wp2
  go_ret
  exact ⟨rfl, aB (Below.refl _ _) _⟩
 ·rw [if_neg hz]
  rw [decide_eq_false hz] at h0
  by_cases ho : N = 1
  ·subst ho
   clear h0 h1 hz
   rw [decide_eq_true rfl, Bool.true_and]
   go_enter Tryz.func58, Tryz.ntmps58
   go_wp2_with (go_at_call 86; ((with_reducible refine hC.mono ?_); (rintro e w2 ⟨rfl, hb2⟩)))
   go_ret
   exact ⟨rfl, tr (aB (Below.refl _ _) _) hb2⟩
  ·rw [decide_eq_false ho] at h1 ⊢
   rw [Bool.false_and]
   clear hC
   go_enter Tryz.func58, Tryz.ntmps58
   go_wp2
   go_ret
   exact ⟨rfl, aB (Below.refl _ _) _⟩
end Go.Proofs.YtfbjljcmmbdhkaaGreatDoor
