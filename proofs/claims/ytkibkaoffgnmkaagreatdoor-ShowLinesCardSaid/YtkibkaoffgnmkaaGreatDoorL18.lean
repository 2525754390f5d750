/- Contract of needs.met. -/
import Derived.Test.YtkibkaoffgnmkaaGreatDoorL14
import Derived.Test.YtkibkaoffgnmkaaGreatDoorL15
import Derived.Test.YtkibkaoffgnmkaaGreatDoorL16
import Derived.Test.YtkibkaoffgnmkaaGreatDoorL17
import Derived.Test.YtkibkaoffgnmkaaGreatDoorL10
import Derived.Test.YtkibkaoffgnmkaaGreatDoorL12
import Derived.Test.YtkibkaoffgnmkaaGreatDoorL04
namespace Go.Proofs.YtkibkaoffgnmkaaGreatDoor
set_option linter.unusedVariables false
set_option linter.unusedSimpArgs false
set_option maxRecDepth 100000
set_option maxHeartbeats 200000000
section
open Go.ChangeShapes Go.WideShapes Go.ChangeAt Go.RowKit
theorem met_any (a0 a1 : Nat) (sc mx bd el : Bool) (lo hi ar : Int) (k : Nat) (nm fr : List UInt8) (sec mu : Bool) (me ma mb ml : Option Addr) (ne na nb nl ce ca cb cl : Nat) (w : World) (hT : Tb w) :
  Calls Tryz.prog 130 #[.agg #[.int .u8 (a0 : Int), .int .u8 (a1 : Int), .bool sc, .bool mx, .int .i64 lo, .int .i64 hi, .int .i64 ar, .bool bd, .bool el], .agg #[.int .u8 (k : Int), .string (str nm), .string (str fr), .bool sec, .bool mu, .slice me ne ce, .slice ma na ca, .slice mb nb cb, .slice ml nl cl]] w
   fun e w' => e = .returned (.bool (metB (a0, a1, sc, mx, lo, hi, ar, bd, el) nm fr sec mu ne na nb nl)) ∧ Below w.heap.size w w' := by
 have hA1 := am_any a0 nm
 have hA2 := am_any a1 fr
 have h8 := dec_beq nb 0 0 rfl
 have h9 := dec_beq nl 0 0 rfl
 have e : metB (a0, a1, sc, mx, lo, hi, ar, bd, el) nm fr sec mu ne na nb nl = (metA a0 nm && metA a1 fr && (sc || !sec) && (mx || !mu) && decide (lo ≤ (ne : Int)) && decide ((ne : Int) ≤ hi) && decide ((na : Int) ≤ ar) && (bd || decide (nb = 0)) && (el || decide (nl = 0))) := rfl
 rw [e]
 clear e
 generalize metA a0 nm = b1 at hA1 ⊢
 generalize metA a1 fr = b2 at hA2 ⊢
 generalize decide (nb = 0) = b8 at h8 ⊢
 generalize decide (nl = 0) = b9 at h9 ⊢
 obtain ⟨b5, h5⟩ : ∃ b : Bool, decide (lo ≤ (ne : Int)) = b := ⟨_, rfl⟩
 obtain ⟨b6, h6⟩ : ∃ b : Bool, decide ((ne : Int) ≤ hi) = b := ⟨_, rfl⟩
 obtain ⟨b7, h7⟩ : ∃ b : Bool, decide ((na : Int) ≤ ar) = b := ⟨_, rfl⟩
 rw [h5, h6, h7]
 have ks : (sc = true ∨ sc = false ∧ sec = false) ∨ sc = false ∧ sec = true := by cases sc <;> cases sec <;> simp
 have km : (mx = true ∨ mx = false ∧ mu = false) ∨ mx = false ∧ mu = true := by cases mx <;> cases mu <;> simp
 have kb : (bd = true ∨ bd = false ∧ b8 = true) ∨ bd = false ∧ b8 = false := by cases bd <;> cases b8 <;> simp
 have ke : el = true ∧ (el || b9) = true ∨ el = false ∧ b9 = true ∧ (el || b9) = true ∨ el = false ∧ b9 = false ∧ (el || b9) = false := by cases el <;> cases b9 <;> simp
 have us : (sc = true ∨ sc = false ∧ sec = false) → (sc || !sec) = true := by rintro (rfl | ⟨rfl, rfl⟩) <;> simp
 have um : (mx = true ∨ mx = false ∧ mu = false) → (mx || !mu) = true := by rintro (rfl | ⟨rfl, rfl⟩) <;> simp
 have ub : (bd = true ∨ bd = false ∧ b8 = true) → (bd || b8) = true := by rintro (rfl | ⟨rfl, rfl⟩) <;> simp
 cases b1
 ·exact met_1 hT hA1
 cases b2
 ·exact met_2 hT hA1 hA2
 rcases ks with hs | ⟨rfl, rfl⟩
 rotate_left
 ·exact met_3 hT hA1 hA2
 rw [us hs]
 rcases km with hm | ⟨rfl, rfl⟩
 rotate_left
 ·exact met_4 hT hA1 hA2 hs
 rw [um hm]
 cases b5
 ·exact met_6 hT hA1 hA2 h5 h6 (.inl rfl) hs hm
 cases b6
 ·exact met_6 hT hA1 hA2 h5 h6 (.inr ⟨rfl, rfl⟩) hs hm
 cases b7
 ·exact met_7 hT hA1 hA2 h5 h6 h7 hs hm
 rcases kb with hb | ⟨rfl, rfl⟩
 rotate_left
 ·exact met_8 hT hA1 hA2 h5 h6 h7 h8 hs hm
 rw [ub hb]
 rcases hs with rfl | ⟨rfl, rfl⟩
 ·exact met_9a hT hA1 hA2 h5 h6 h7 h8 h9 hm hb ke
 ·exact met_9b hT hA1 hA2 h5 h6 h7 h8 h9 hm hb ke
theorem ams_any (G : Nat → Prop) (l : List Xp) (ma : Option Addr) (cap : Nat) (w : World) (hk : KidsAt G w l ma) (hl : l.length ≤ 140737488355328) (hT : Tb w) :
  Calls Tryz.prog 86 #[.slice ma l.length cap] w fun r w' => r = .returned (.bool (l.all (mayB 40))) ∧ Below w.heap.size w w' := by
 have HK := Lib.hid hk
 obtain ⟨N, hN⟩ : ∃ N, N = l.length := ⟨_, rfl⟩
 rw [← hN] at hl ⊢
 have HN := Lib.hid hN
 clear hk hN
 go_enter Tryz.func86, Tryz.ntmps86
 go_wp2
 go_loopw [7] (fun i wr => ∃ k : Nat, k ≤ N ∧ i = .int .i64 (k : Int) ∧ Hid ((l.take k).all (mayB 40) = true) ∧ Below w.heap.size w wr) (fun i _ => N - (intOf i).toNat)
 case atStart => exact ⟨0, Nat.zero_le _, rfl, Lib.hid (by simp), Below.refl _ _⟩
 case round =>
  obtain ⟨j, hj, rfl, hall, hB⟩ := hrel
  by_cases hlt : j < N
  ·have hlt' : j < l.length := by rw [← HN.out]; exact hlt
   obtain ⟨b, off, rfl⟩ := kids_some HK.out (by omega)
   obtain ⟨ma', cap', c0, c1, c2, c3, c4, hE'⟩ := (kids_at l b off HK.out j hlt').isE
   have hbl := World.block_lt_of_cell? w _ c0
   have q0 := stay hB c0
   have q1 := stay hB c1
   have q2 := stay hB c2
   have q3 := stay hB c3
   have q4 := stay hB c4
   have hbl' : b < wr.heap.size := Nat.lt_of_lt_of_le hbl hB.size
   have hI := check_any G l[j] _ (wr.alloc (.cells #[.int .u8 (l[j].k : Int), .int .u64 (l[j].n : Int), .string (str l[j].s), .int .u8 (l[j].o : Int), .slice ma' l[j].l.length cap'] 47)) ((hE'.of hB).of (aB (Below.refl _ _) _)) ((hT.of hB).alloc _)
   clear hE' c0 c1 c2 c3 c4
   cases hp : mayB 40 l[j] with
   | false =>
    rw [hp] at hI
    simp only [Bool.false_eq_true, if_false] at hI
    have hA := Lib.hid (all_no hlt' hp)
    clear hp
    go_wp2_with (go_at_call 129; ((with_reducible refine hI.mono ?_); (rintro e w2 ⟨rfl, hb2⟩)))
    go_ret
    exact ⟨by rw [hA.out]; rfl, tr (aB hB _) hb2⟩
   | true =>
    rw [hp] at hI
    simp only [if_true] at hI
    have hA := Lib.hid (all_take hlt' hall.out hp)
    clear hp
    go_wp2_with (go_at_call 129; ((with_reducible refine hI.mono ?_); (rintro e w2 ⟨rfl, hb2⟩)))
    go_roundw
    case rel => exact ⟨j + 1, by omega, by go_num, hA, tr (aB hB _) hb2⟩
    case measure => simp [intOf]; omega
  ·obtain rfl : j = N := by omega
   have hA := Lib.hid hall.out
   go_wp2
   go_ret
   exact ⟨by rw [← hA.out, List.take_of_length_le (by rw [HN.out]; exact Nat.le_refl _)]; rfl, hB⟩
theorem pall_take {p : Pm → Bool} {l : List Pm} {k : Nat} (hk : k < l.length) (h : (l.take k).all p = true) (hp : p l[k] = true) : (l.take (k + 1)).all p = true := by
 rw [List.take_succ_eq_append_getElem hk, List.all_append, h]
 simp [hp]
theorem pall_no {p : Pm → Bool} {l : List Pm} {k : Nat} (hk : k < l.length) (hp : p l[k] = false) : l.all p = false := by
 rw [Bool.eq_false_iff]
 intro h
 have := List.all_eq_true.1 h l[k] (List.getElem_mem hk)
 rw [hp] at this; cases this
theorem psf_any (G : Nat → Prop) (l : List Pm) (ma : Option Addr) (cap : Nat) (w : World) (hk : PmsAt G w l ma) (hl : l.length ≤ 140737488355328) (hT : Tb w) :
  Calls Tryz.prog 57 #[.slice ma l.length cap] w fun r w' => r = .returned (.bool (psB l)) ∧ Below w.heap.size w w' := by
 have HK := Lib.hid hk
 have hps : psB l = (decide (l.length ≤ 8) && l.all pmB) := rfl
 rw [hps]
 obtain ⟨N, hN⟩ : ∃ N, N = l.length := ⟨_, rfl⟩
 rw [← hN] at hl ⊢
 have HN := Lib.hid hN
 clear hk hN hps
 by_cases h8 : N ≤ 8
 ·rw [decide_eq_true h8, Bool.true_and]
  go_enter Tryz.func57, Tryz.ntmps57
  go_wp2
  go_loopw [10] (fun i wr => ∃ k : Nat, k ≤ N ∧ i = .int .i64 (k : Int) ∧ Hid ((l.take k).all pmB = true) ∧ Below w.heap.size w wr) (fun i _ => N - (intOf i).toNat)
  case atStart => exact ⟨0, Nat.zero_le _, rfl, Lib.hid (by simp), Below.refl _ _⟩
  case round =>
   obtain ⟨j, hj, rfl, hall, hB⟩ := hrel
   by_cases hlt : j < N
   ·have hlt' : j < l.length := by rw [← HN.out]; exact hlt
    obtain ⟨b, off, rfl, hG, c0, c1, c2, c3⟩ := HK.out j hlt'
    have hbl := World.block_lt_of_cell? w _ c0
    have q0 := stay hB c0
    have q1 := stay hB c1
    have q2 := stay hB c2
    have q3 := stay hB c3
    have hbl' : b < wr.heap.size := Nat.lt_of_lt_of_le hbl hB.size
    have hN1 := nmd_str l[j].nm (wr.alloc (.cells #[.string (str l[j].nm), .bool l[j].buf, .bool l[j].sec, .bool l[j].mu] 49)) ((hT.of hB).alloc _)
    have hA0 := fun hp => Lib.hid (pall_no (p := pmB) hlt' hp)
    have hA1 := fun hp => Lib.hid (pall_take (p := pmB) hlt' hall.out hp)
    have e : pmB l[j] = (nmdB l[j].nm && (!l[j].mu || l[j].buf)) := rfl
    rw [e] at hA0 hA1
    clear c0 c1 c2 c3 e hall
    generalize l[j].mu = mu at *
    generalize l[j].buf = buf at *
    generalize l[j].sec = sec at *
    generalize nmdB l[j].nm = nb at *
    generalize l[j].nm = nm at *
    cases nb
    ·have hun : undef = Value.tuple #[] := rfl
     replace hA0 := hA0 rfl
     clear hA1
     go_wp2_with (go_at_call 56; ((with_reducible refine hN1.mono ?_); (rintro e w2 ⟨rfl, hb2⟩)))
     go_ret
     exact ⟨by rw [hA0.out]; rfl, tr (aB hB _) hb2⟩
    ·cases mu
     ·replace hA1 := hA1 rfl
      clear hA0
      go_wp2_with (go_at_call 56; ((with_reducible refine hN1.mono ?_); (rintro e w2 ⟨rfl, hb2⟩); obtain ⟨hc, hf⟩ := bcell hb2; have hz := hz1 hb2))
      go_roundw
      case rel => first | exact ⟨j + 1, by omega, by go_num, hA1, tr (aB hB _) hb2⟩ | ((repeat apply Exists.intro); exact ⟨⟨j + 1, by omega, by go_num, hA1, tr (aB hB _) hb2⟩, rfl⟩)
      case measure => simp [intOf]; omega
     ·cases buf
      ·replace hA0 := hA0 rfl
       clear hA1
       go_wp2_with (go_at_call 56; ((with_reducible refine hN1.mono ?_); (rintro e w2 ⟨rfl, hb2⟩); obtain ⟨hc, hf⟩ := bcell hb2; have hz := hz1 hb2))
       go_ret
       exact ⟨by rw [hA0.out]; rfl, tr (aB hB _) hb2⟩
      ·replace hA1 := hA1 rfl
       clear hA0
       go_wp2_with (go_at_call 56; ((with_reducible refine hN1.mono ?_); (rintro e w2 ⟨rfl, hb2⟩); obtain ⟨hc, hf⟩ := bcell hb2; have hz := hz1 hb2))
       go_roundw
       case rel => first | exact ⟨j + 1, by omega, by go_num, hA1, tr (aB hB _) hb2⟩ | ((repeat apply Exists.intro); exact ⟨⟨j + 1, by omega, by go_num, hA1, tr (aB hB _) hb2⟩, rfl⟩)
       case measure => simp [intOf]; omega
   ·obtain rfl : j = N := by omega
    have hA := Lib.hid hall.out
    go_wp2
    go_ret
    exact ⟨by rw [← hA.out, List.take_of_length_le (by rw [HN.out]; exact Nat.le_refl _)]; rfl, hB⟩
 ·rw [decide_eq_false h8, Bool.false_and]
  go_enter Tryz.func57, Tryz.ntmps57
  go_wp2
  go_ret
  exact ⟨rfl, Below.refl _ _⟩
theorem rtf_any (G : Nat → Prop) (nm : List UInt8) (sec : Bool) (rt : List Xp) (mp mb mr : Option Addr) (np cp nb cb cr : Nat) (w : World) (hk : KidsAt G w rt mr) (hl : rt.length ≤ 140737488355328) (hT : Tb w) :
  Calls Tryz.prog 58 #[.agg #[.string (str nm), .slice mp np cp, .slice mb nb cb, .bool sec, .slice mr rt.length cr]] w fun r w' => r = .returned (.bool (rtB sec rt)) ∧ Below w.heap.size w w' := by
 have hC := ams_any G rt mr cr (w.alloc (.cells #[.string (str nm), .slice mp np cp, .slice mb nb cb, .bool sec, .slice mr rt.length cr] 43)) (hk.of (aB (Below.refl _ _) _)) hl (hT.alloc _)
 have h0 := dec_beq rt.length 0 0 rfl
 have h1 := dec_beq rt.length 1 1 rfl
 unfold rtB
 obtain ⟨N, hN⟩ : ∃ N, N = rt.length := ⟨_, rfl⟩
 rw [← hN] at h0 h1 hC ⊢
 generalize rt.all (mayB 40) = c at hC ⊢
 clear hk hl hN
 by_cases hz : N = 0
 ·subst hz
  simp only [if_true]
  clear hC h0 h1
  go_enter Tryz.func58, Tryz.ntmps58
  go_wp2
  go_ret
  exact ⟨rfl, aB (Below.refl _ _) _⟩
 ·rw [if_neg hz]
  rw [decide_eq_false hz] at h0
  by_cases ho : N = 1
  ·subst ho
   clear h0 h1 hz
   rw [decide_eq_true rfl, Bool.true_and]
   go_enter Tryz.func58, Tryz.ntmps58
   go_wp2_with (go_at_call 86; ((with_reducible refine hC.mono ?_); (rintro e w2 ⟨rfl, hb2⟩)))
   go_ret
   exact ⟨rfl, tr (aB (Below.refl _ _) _) hb2⟩
  ·rw [decide_eq_false ho] at h1 ⊢
   rw [Bool.false_and]
   clear hC
   go_enter Tryz.func58, Tryz.ntmps58
   go_wp2
   go_ret
   exact ⟨rfl, aB (Below.refl _ _) _⟩
end
section
open Go Go.ChangeShapes Go.WideShapes Go.ChangeAt Go.RowKit
section
variable {P : Program} {md : Region.Mode} {ops : Array Oper} {Q : Exit → Act → World → Prop} {F : World → Prop} {st : Nat}
end
end
section
open Go.ChangeShapes Go.WideShapes Go.ChangeAt Go.RowKit
theorem kn_row {w : World} (h : KindsOk w) (k : Nat) (hk : k < 13) :
  w.cell? ⟨1, k * 9, none⟩ = some (.int .u8 ((nds k).1 : Int)) ∧ w.cell? ⟨1, k * 9 + 1, none⟩ = some (.int .u8 ((nds k).2.1 : Int)) ∧ w.cell? ⟨1, k * 9 + 2, none⟩ = some (.bool (nds k).2.2.1) ∧ w.cell? ⟨1, k * 9 + 3, none⟩ = some (.bool (nds k).2.2.2.1) ∧ w.cell? ⟨1, k * 9 + 4, none⟩ = some (.int .i64 (nds k).2.2.2.2.1) ∧ w.cell? ⟨1, k * 9 + 5, none⟩ = some (.int .i64 (nds k).2.2.2.2.2.1) ∧ w.cell? ⟨1, k * 9 + 6, none⟩ = some (.int .i64 (nds k).2.2.2.2.2.2.1) ∧ w.cell? ⟨1, k * 9 + 7, none⟩ = some (.bool (nds k).2.2.2.2.2.2.2.1) ∧ w.cell? ⟨1, k * 9 + 8, none⟩ = some (.bool (nds k).2.2.2.2.2.2.2.2) := by
 have h0 := h (k * 9) (by omega)
 have h1 := h (k * 9 + 1) (by omega)
 have h2 := h (k * 9 + 2) (by omega)
 have h3 := h (k * 9 + 3) (by omega)
 have h4 := h (k * 9 + 4) (by omega)
 have h5 := h (k * 9 + 5) (by omega)
 have h6 := h (k * 9 + 6) (by omega)
 have h7 := h (k * 9 + 7) (by omega)
 have h8 := h (k * 9 + 8) (by omega)
 rw [h0, h1, h2, h3, h4, h5, h6, h7, h8]
 clear h0 h1 h2 h3 h4 h5 h6 h7 h8 h
 obtain rfl | rfl | rfl | rfl | rfl | rfl | rfl | rfl | rfl | rfl | rfl | rfl | rfl : k = 0 ∨ k = 1 ∨ k = 2 ∨ k = 3 ∨ k = 4 ∨ k = 5 ∨ k = 6 ∨ k = 7 ∨ k = 8 ∨ k = 9 ∨ k = 10 ∨ k = 11 ∨ k = 12 := by omega
 all_goals exact ⟨rfl, rfl, rfl, rfl, rfl, rfl, rfl, rfl, rfl⟩
theorem tall_take {p : List UInt8 → Bool} {l : List (List UInt8)} {k : Nat} (hk : k < l.length) (h : (l.take k).all p = true) (hp : p l[k] = true) : (l.take (k + 1)).all p = true := by
 rw [List.take_succ_eq_append_getElem hk, List.all_append, h]
 simp [hp]
theorem tall_no {p : List UInt8 → Bool} {l : List (List UInt8)} {k : Nat} (hk : k < l.length) (hp : p l[k] = false) : l.all p = false := by
 rw [Bool.eq_false_iff]
 intro h
 have := List.all_eq_true.1 h l[k] (List.getElem_mem hk)
 rw [hp] at this; cases this
theorem fit_no (v : Value) (k : Nat) (nm fr : List UInt8) (sec mu : Bool) (me ma mb ml : Option Addr) (ne na nb nl ce ca cb cl : Nat) (w : World) (hT : Tb w) (hk : k < 256) (hm : k = 0 ∨ 13 ≤ k ∨ metB (nds k) nm fr sec mu ne na nb nl = false) (hv : v = .agg #[.int .u8 (k : Int), .string (str nm), .string (str fr), .bool sec, .bool mu, .slice me ne ce, .slice ma na ca, .slice mb nb cb, .slice ml nl cl]) :
  Calls Tryz.prog 87 #[v] w fun r w' => r = .returned (.bool false) ∧ Below w.heap.size w w' := by
 subst hv
 obtain ⟨W, hW⟩ : ∃ W, w.alloc (.cells #[.int .u8 (k : Int), .string (str nm), .string (str fr), .bool sec, .bool mu, .slice me ne ce, .slice ma na ca, .slice mb nb cb, .slice ml nl cl] 52) = W := ⟨_, rfl⟩
 have hBW : Below w.heap.size w W := by rw [← hW]; exact aB (Below.refl _ _) _
 have hTW := hT.of hBW
 have hR : rowG #[.int .u8 (k : Int), .string (str nm), .string (str fr), .bool sec, .bool mu, .slice me ne ce, .slice ma na ca, .slice mb nb cb, .slice ml nl cl] W w.heap.size := by rw [← hW]; exact rowG_at _ _ _ _ rfl
 obtain ⟨r0, r1, r2, r3, r4, r5, r6, r7, r8, rff, rll⟩ := nine hR
 have hw : IntKind.i64.wrap (k : Int) = (k : Int) := by rw [IntKind.wrap_i64]; omega
 by_cases h0 : k = 0
 ·subst h0
  clear hm r1 r2 r3 r4 r5 r6 r7 r8 rff rll hR
  have hun : undef = Value.tuple #[] := rfl
  go_enter Tryz.func87, Tryz.ntmps87
  go_wp2
  go_quiet (fail)
  go_wp2
  go_ret
  first | exact ⟨rfl, bdN hBW _⟩ | exact ⟨rfl, bdN (aB (Below.refl _ _) _) _⟩
 by_cases h1 : 13 ≤ k
 ·have hk0 : (((k : Int)) == 0) = false := by simp only [beq_eq_false_iff_ne]; omega
  have hk1 : decide ((13 : Int) ≤ (k : Int)) = true := decide_eq_true (by omega)
  clear hm r1 r2 r3 r4 r5 r6 r7 r8 rff rll hR h0
  go_enter Tryz.func87, Tryz.ntmps87
  go_wp2
  go_quiet (fail)
  go_wp2
  go_ret
  first | exact ⟨rfl, bdN hBW _⟩ | exact ⟨rfl, bdN (aB (Below.refl _ _) _) _⟩
 ·have hme : metB (nds k) nm fr sec mu ne na nb nl = false := by
   rcases hm with h | h | h
   ·omega
   ·omega
   ·exact h
  have hk0 : (((k : Int)) == 0) = false := by simp only [beq_eq_false_iff_ne]; omega
  have hk1 : decide ((13 : Int) ≤ (k : Int)) = false := decide_eq_false (by omega)
  rcases hnd : nds k with ⟨a0, a1, sc, mx, lo, hi, ar, bd, el⟩
  have hM := fun (w : World) (hT : Tb w) => met_any a0 a1 sc mx bd el lo hi ar k nm fr sec mu me ma mb ml ne na nb nl ce ca cb cl w hT
  rw [hnd] at hme
  rw [hme] at hM
  have hkn := kn_row hTW.kn k (by omega)
  rw [hnd] at hkn
  obtain ⟨x0, x1, x2, x3, x4, x5, x6, x7, x8⟩ := hkn
  go_enter Tryz.func87, Tryz.ntmps87
  go_wp2
  have hF0 : Below W.heap.size W W.drew := bdd (Below.refl _ _)
  have hTd := hTW.of hF0
  have hFi : ∀ w', Below W.heap.size W w' → w'.cell? ⟨w.heap.size, 0, none⟩ = some (.int .u8 (k : Int)) ∧ w.heap.size < w'.heap.size := fun w' hO => ⟨(rowG_b hR hO).1 0 (by simp), (rowG_b hR hO).2.2⟩
  have hlt : ((k : Int)) < 13 := by omega
  have hgl := World.block_lt_of_cell? W _ x0
  have hFk : ∀ w', Below W.heap.size W w' → w'.cell? ⟨1, k * 9, none⟩ = some (.int .u8 (a0 : Int)) ∧ w'.cell? ⟨1, k * 9 + 1, none⟩ = some (.int .u8 (a1 : Int)) ∧ w'.cell? ⟨1, k * 9 + 2, none⟩ = some (.bool sc) ∧ w'.cell? ⟨1, k * 9 + 3, none⟩ = some (.bool mx) ∧ w'.cell? ⟨1, k * 9 + 4, none⟩ = some (.int .i64 lo) ∧ w'.cell? ⟨1, k * 9 + 5, none⟩ = some (.int .i64 hi) ∧ w'.cell? ⟨1, k * 9 + 6, none⟩ = some (.int .i64 ar) ∧ w'.cell? ⟨1, k * 9 + 7, none⟩ = some (.bool bd) ∧ w'.cell? ⟨1, k * 9 + 8, none⟩ = some (.bool el) ∧ 1 < w'.heap.size := fun w' hO => ⟨stay hO x0, stay hO x1, stay hO x2, stay hO x3, stay hO x4, stay hO x5, stay hO x6, stay hO x7, stay hO x8, Nat.lt_of_lt_of_le hgl hO.size⟩
  have hFs : ∀ w', Below W.heap.size W w' → w'.cell? ⟨w.heap.size, 0, none⟩ = some (.int .u8 (k : Int)) ∧ w'.cell? ⟨w.heap.size, 1, none⟩ = some (.string (str nm)) ∧ w'.cell? ⟨w.heap.size, 2, none⟩ = some (.string (str fr)) ∧ w'.cell? ⟨w.heap.size, 3, none⟩ = some (.bool sec) ∧ w'.cell? ⟨w.heap.size, 4, none⟩ = some (.bool mu) ∧ w'.cell? ⟨w.heap.size, 5, none⟩ = some (.slice me ne ce) ∧ w'.cell? ⟨w.heap.size, 6, none⟩ = some (.slice ma na ca) ∧ w'.cell? ⟨w.heap.size, 7, none⟩ = some (.slice mb nb cb) ∧ w'.cell? ⟨w.heap.size, 8, none⟩ = some (.slice ml nl cl) ∧ w.heap.size < w'.heap.size := fun w' hO => ⟨stay hO r0, stay hO r1, stay hO r2, stay hO r3, stay hO r4, stay hO r5, stay hO r6, stay hO r7, stay hO r8, (rowG_b hR hO).2.2⟩
  refine region_K (fun w' => Below W.heap.size W w') (by kernel_rfl) ?_
  refine wpAnyK_take (i := 0) rfl (by kernel_rfl) (by kernel_rfl) (by kernel_rfl) (fun _ _ _ _ h => h) hF0 (fun K hK => ?_)
  apply Exists.intro
  refine ⟨Or.inl ⟨by kernel_rfl, fun w' _ => ?_⟩, ?_⟩
  ·go_simp
   try exact rfl
  go_simp
  refine hK _ ?_
  clear hK K
  have q : Pq [1] := trivial
  refine tkK q rfl (by kernel_rfl) (fun _ _ _ _ h => h) hF0 fun K hK => ?_
  replace q := q.tl
  apply Exists.intro
  refine ⟨Or.inl ⟨by kernel_rfl, fun w' hf => ?_⟩, ?_⟩
  ·obtain ⟨k0, kl⟩ := hFi _ hf
   go_simp
   try exact rfl
  go_simp
  refine hK _ ?_
  clear hK K
  refine wpAnyK_take (i := 2) rfl (by kernel_rfl) (by kernel_rfl) (by kernel_rfl) (fun _ _ _ _ h => h) hF0 (fun K hK => ?_)
  apply Exists.intro
  refine ⟨Or.inl ⟨by kernel_rfl, fun w' _ => ?_⟩, ?_⟩
  ·go_simp
   try rw [hk0]
   try exact rfl
  go_simp
  refine hK _ ?_
  clear hK K
  refine wpAnyK_take (i := 3) rfl (by kernel_rfl) (by kernel_rfl) (by kernel_rfl) (fun _ _ _ _ h => h) hF0 (fun K hK => ?_)
  apply Exists.intro
  refine ⟨Or.inl ⟨by kernel_rfl, fun w' _ => ?_⟩, ?_⟩
  ·go_simp
   try exact rfl
  go_simp
  refine hK _ ?_
  clear hK K
  refine wpAnyK_take (i := 4) rfl (by kernel_rfl) (by kernel_rfl) (by kernel_rfl) (fun _ _ _ _ h => h) hF0 (fun K hK => ?_)
  apply Exists.intro
  refine ⟨Or.inl ⟨by kernel_rfl, fun w' _ => ?_⟩, ?_⟩
  ·go_simp
   try exact rfl
  go_simp
  refine hK _ ?_
  clear hK K
  have q : Pq [5] := trivial
  refine tkK q rfl (by kernel_rfl) (fun _ _ _ _ h => h) hF0 fun K hK => ?_
  replace q := q.tl
  apply Exists.intro
  refine ⟨Or.inl ⟨by kernel_rfl, fun w' hf => ?_⟩, ?_⟩
  ·obtain ⟨k0, kl⟩ := hFi _ hf
   go_simp
   try exact rfl
  go_simp
  refine hK _ ?_
  clear hK K
  refine wpAnyK_take (i := 6) rfl (by kernel_rfl) (by kernel_rfl) (by kernel_rfl) (fun _ _ _ _ h => h) hF0 (fun K hK => ?_)
  apply Exists.intro
  refine ⟨Or.inl ⟨by kernel_rfl, fun w' _ => ?_⟩, ?_⟩
  ·go_simp
   try rw [hw]
   try exact rfl
  go_simp
  refine hK _ ?_
  clear hK K
  refine wpAnyK_take (i := 7) rfl (by kernel_rfl) (by kernel_rfl) (by kernel_rfl) (fun _ _ _ _ h => h) hF0 (fun K hK => ?_)
  apply Exists.intro
  refine ⟨Or.inl ⟨by kernel_rfl, fun w' _ => ?_⟩, ?_⟩
  ·go_simp
   try rw [hk1]
   try exact rfl
  go_simp
  refine hK _ ?_
  clear hK K
  refine wpAnyK_take (i := 8) rfl (by kernel_rfl) (by kernel_rfl) (by kernel_rfl) (fun _ _ _ _ h => h) hF0 (fun K hK => ?_)
  apply Exists.intro
  refine ⟨Or.inl ⟨by kernel_rfl, fun w' _ => ?_⟩, ?_⟩
  ·go_simp
   try exact rfl
  go_simp
  refine hK _ ?_
  clear hK K
  refine wpAnyK_take (i := 9) rfl (by kernel_rfl) (by kernel_rfl) (by kernel_rfl) (fun _ _ _ _ h => h) hF0 (fun K hK => ?_)
  apply Exists.intro
  refine ⟨Or.inl ⟨by kernel_rfl, fun w' _ => ?_⟩, ?_⟩
  ·go_simp
   try exact rfl
  go_simp
  refine hK _ ?_
  clear hK K
  refine wpAnyK_take (i := 10) rfl (by kernel_rfl) (by kernel_rfl) (by kernel_rfl) (fun _ _ _ _ h => h) hF0 (fun K hK => ?_)
  apply Exists.intro
  refine ⟨Or.inl ⟨by kernel_rfl, fun w' _ => ?_⟩, ?_⟩
  ·go_simp
   try exact rfl
  go_simp
  refine hK _ ?_
  clear hK K
  have q : Pq [11] := trivial
  refine tkK q rfl (by kernel_rfl) (fun _ _ _ _ h => h) hF0 fun K hK => ?_
  replace q := q.tl
  apply Exists.intro
  refine ⟨Or.inl ⟨by kernel_rfl, fun w' hf => ?_⟩, ?_⟩
  ·obtain ⟨k0, kl⟩ := hFi _ hf
   go_simp
   try exact rfl
  go_simp
  refine hK _ ?_
  clear hK K
  refine wpAnyK_take (i := 12) rfl (by kernel_rfl) (by kernel_rfl) (by kernel_rfl) (fun _ _ _ _ h => h) hF0 (fun K hK => ?_)
  apply Exists.intro
  refine ⟨Or.inl ⟨by kernel_rfl, fun w' _ => ?_⟩, ?_⟩
  ·go_simp
   try rw [if_pos hlt]
   try exact rfl
  go_simp
  refine hK _ ?_
  clear hK K
  have q : Pq [13] := trivial
  refine tkK q rfl (by kernel_rfl) (fun _ _ _ _ h => h) hF0 fun K hK => ?_
  replace q := q.tl
  apply Exists.intro
  refine ⟨Or.inl ⟨by kernel_rfl, fun w' hf => ?_⟩, ?_⟩
  ·obtain ⟨z0, z1, z2, z3, z4, z5, z6, z7, z8, zl⟩ := hFk _ hf
   go_simp
   try exact rfl
  go_simp
  refine hK _ ?_
  clear hK K
  have q : Pq [14] := trivial
  refine tkK q rfl (by kernel_rfl) (fun _ _ _ _ h => h) hF0 fun K hK => ?_
  replace q := q.tl
  apply Exists.intro
  refine ⟨Or.inl ⟨by kernel_rfl, fun w' hf => ?_⟩, ?_⟩
  ·obtain ⟨y0, y1, y2, y3, y4, y5, y6, y7, y8, yl⟩ := hFs _ hf
   go_simp
   try exact rfl
  go_simp
  refine hK _ ?_
  clear hK K
  refine wpAnyK_one (k := 15) (by kernel_rfl) ?_
  refine wpOp_step rfl (fun K hK => ?_)
  go_simp
  go_at_call 130
  with_reducible refine (hM _ hTd).mono ?_
  rintro e w1 ⟨rfl, hb1⟩
  have hF1 := hF0.trans (hb1.mono hF0.size)
  refine hK _ _ ⟨hF1, ?_⟩
  clear hK K
  refine wpAnyK_one (k := 16) (by kernel_rfl) ?_
  refine wpOp_step rfl (fun K hK => ?_)
  go_simp
  refine hK _ _ ⟨hF1, ?_⟩
  clear hK K
  refine wpAnyK_one (k := 17) (by kernel_rfl) ?_
  refine wpOp_step rfl (fun K hK => ?_)
  go_simp
  refine hK _ _ ⟨hF1, ?_⟩
  clear hK K
  refine wpAnyK_done (by kernel_rfl) ?_
  go_wp2
  go_ret
  exact ⟨rfl, hBW.trans (hF1.mono hBW.size)⟩
end
end Go.Proofs.YtkibkaoffgnmkaaGreatDoor
