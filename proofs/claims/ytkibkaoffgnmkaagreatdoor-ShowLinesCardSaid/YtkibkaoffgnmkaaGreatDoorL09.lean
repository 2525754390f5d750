/- Contracts of number, name, sign, signOf, fits, mayBe, Check. -/
import Derived.Test.YtkibkaoffgnmkaaGreatDoorL07
import Derived.Test.YtkibkaoffgnmkaaGreatDoorL08
namespace Go.Proofs.YtkibkaoffgnmkaaGreatDoor
set_option linter.unusedVariables false
set_option linter.unusedSimpArgs false
set_option maxRecDepth 100000
set_option maxHeartbeats 200000000
open Go.ChangeShapes Go.WideShapes Go.ChangeAt Go.RowKit
theorem number_any (n : Nat) (w : World) : Calls Tryz.prog 184 #[.int .u64 (n : Int)] w fun e w' => e = .returned (.agg #[.int .u8 3, .string ⟨#[]⟩, .int .u64 (n : Int), .int .i64 0]) ∧ Below w.heap.size w w' := by
 go_enter Tryz.func184, Tryz.ntmps184
 go_wp2
 exact bodyPost_ret (res_tok rfl _ _ w.heap.size _ _ _ _ rfl (rowG_at _ _ _ _ rfl)) rfl ⟨rfl, (Below.refl _ _).alloc (Nat.le_refl _) _⟩
theorem name_any (s : ByteArray) (w : World) : Calls Tryz.prog 185 #[.string s] w fun e w' => e = .returned (.agg #[.int .u8 1, .string s, .int .u64 0, .int .i64 0]) ∧ Below w.heap.size w w' := by
 go_enter Tryz.func185, Tryz.ntmps185
 go_wp2
 exact bodyPost_ret (res_tok rfl _ _ w.heap.size _ _ _ _ rfl (rowG_at _ _ _ _ rfl)) rfl ⟨rfl, (Below.refl _ _).alloc (Nat.le_refl _) _⟩
theorem sign_any (s : ByteArray) (w : World) : Calls Tryz.prog 186 #[.string s] w fun e w' => e = .returned (.agg #[.int .u8 4, .string s, .int .u64 0, .int .i64 0]) ∧ Below w.heap.size w w' := by
 go_enter Tryz.func186, Tryz.ntmps186
 go_wp2
 exact bodyPost_ret (res_tok rfl _ _ w.heap.size _ _ _ _ rfl (rowG_at _ _ _ _ rfl)) rfl ⟨rfl, (Below.refl _ _).alloc (Nat.le_refl _) _⟩
theorem opS_big {o : Nat} (h : 15 ≤ o) : opS o = [] := by unfold opS; rw [List.getD_eq_getElem?_getD, List.getElem?_eq_none (by simpa [opsL] using h)]; rfl
theorem signOf_any (o : Nat) (ho : o < 256) (w : World) (hT : Tb w) : Calls Tryz.prog 187 #[.int .u8 (o : Int)] w fun e w' => e = .returned (.string (str (opS o))) ∧ w = w' := by
 have hw : IntKind.i64.wrap (o : Int) = (o : Int) := by rw [IntKind.wrap_i64]; omega
 go_enter Tryz.func187, Tryz.ntmps187
 by_cases h : o < 15
 ·have c0 := hT.esg o h
  have hb := World.block_lt_of_cell? w _ c0
  go_wp2
  go_ret
  exact ⟨rfl, rfl⟩
 ·have e : opS o = [] := opS_big (by omega)
  rw [e]
  go_wp2
  go_ret
  exact ⟨rfl, rfl⟩
theorem hz1 {w w1 : World} {o : Obj} (hb : Below (w.alloc o).heap.size (w.alloc o) w1) : w.heap.size < w1.heap.size := by have := hb.size; simp at this; omega
theorem strE (s : List UInt8) : (str s).toList.isEmpty = decide (s = []) := by rw [ByteArray.toList_eq, str_list]; cases s <;> simp
theorem nmd_str (s : List UInt8) (w : World) (hT : Tb w) : Calls Tryz.prog 56 #[.string (str s)] w fun e w' => e = .returned (.bool (nmdB s)) ∧ Below w.heap.size w w' := by
 have := nmd_any (str s) w hT
 rw [str_list] at this
 exact this
theorem ne_beq {a b : Nat} (h : a ≠ b) : ((a : Int) == (b : Int)) = false := by simp only [beq_eq_false_iff_ne]; omega
theorem dec_beq (a : Nat) (b : Int) (c : Nat) (h : b = c) : ((a : Int) == b) = decide (a = c) := by
 subst h
 by_cases h : a = c
 ·subst h; simp
 ·rw [ne_beq h, decide_eq_false h]
theorem fits_any (k n : Nat) (s : List UInt8) (o : Nat) (ma : Option Addr) (m cap : Nat) (ho : o < 256) (w : World) (hT : Tb w) :
  Calls Tryz.prog 171 #[.agg #[.int .u8 (k : Int), .int .u64 (n : Int), .string (str s), .int .u8 (o : Int), .slice ma m cap]] w fun e w' => e = .returned (.bool (fitB k n s o m)) ∧ Below w.heap.size w w' := by
 have hn0 := dec_beq n 0 0 rfl
 have ho0 := dec_beq o 0 0 rfl
 have hm0 := dec_beq m 0 0 rfl
 have hm1 := dec_beq m 1 1 rfl
 have hm2 := dec_beq m 2 2 rfl
 have hsE := strE s
 have hN := nmd_str s
 have hS := signOf_any o ho
 go_enter Tryz.func171, Tryz.ntmps171
 by_cases h1 : k = 1
 ·subst h1
  cases q1 : decide (s = []) <;> cases q2 : decide (o = 0) <;> cases q3 : decide (m = 0)
  all_goals rw [q1] at hsE
  all_goals rw [q2] at ho0
  all_goals rw [q3] at hm0
  all_goals rw [show fitB 1 n s o m = (decide (s = []) && decide (o = 0) && decide (m = 0)) from rfl, q1, q2, q3]
  all_goals clear hn0 hm1 hm2 hN hS
  all_goals go_wp2_with (first | (go_at_call 56; ((with_reducible refine (hN _ (hT.alloc _)).mono ?_); (rintro e w1 ⟨rfl, hb⟩); obtain ⟨hc, hf⟩ := bcell hb; have hz := hz1 hb)) | (go_at_call 187; ((with_reducible refine (hS _ (hT.alloc _)).mono ?_); rintro e w1 ⟨rfl, rfl⟩)))
  all_goals go_ret
  all_goals first | exact ⟨rfl, aB (Below.refl _ _) _⟩ | exact ⟨rfl, tr (aB (Below.refl _ _) _) hb⟩
 by_cases h2 : k = 2
 ·subst h2
  cases q1 : decide (n = 0) <;> cases q4 : nmdB s <;> cases q2 : decide (o = 0) <;> cases q3 : decide (m = 0)
  all_goals rw [q1] at hn0
  all_goals rw [q2] at ho0
  all_goals rw [q3] at hm0
  all_goals rw [show fitB 2 n s o m = (decide (n = 0) && nmdB s && decide (o = 0) && decide (m = 0)) from rfl, q1, q4, q2, q3]
  all_goals rw [q4] at hN
  all_goals clear hm1 hm2 hS h1
  all_goals go_wp2_with (first | (go_at_call 56; ((with_reducible refine (hN _ (hT.alloc _)).mono ?_); (rintro e w1 ⟨rfl, hb⟩); obtain ⟨hc, hf⟩ := bcell hb; have hz := hz1 hb)) | (go_at_call 187; ((with_reducible refine (hS _ (hT.alloc _)).mono ?_); rintro e w1 ⟨rfl, rfl⟩)))
  all_goals go_ret
  all_goals first | exact ⟨rfl, aB (Below.refl _ _) _⟩ | exact ⟨rfl, tr (aB (Below.refl _ _) _) hb⟩
 by_cases h4 : k = 4
 ·subst h4
  cases q1 : decide (n = 0) <;> cases q4 : nmdB s <;> cases q2 : decide (o = 0) <;> cases q3 : decide (m = 0)
  all_goals rw [q1] at hn0
  all_goals rw [q2] at ho0
  all_goals rw [q3] at hm0
  all_goals rw [show fitB 4 n s o m = (decide (n = 0) && nmdB s && decide (o = 0) && decide (m = 0)) from rfl, q1, q4, q2, q3]
  all_goals rw [q4] at hN
  all_goals clear hm1 hm2 hS h1 h2
  all_goals go_wp2_with (first | (go_at_call 56; ((with_reducible refine (hN _ (hT.alloc _)).mono ?_); (rintro e w1 ⟨rfl, hb⟩); obtain ⟨hc, hf⟩ := bcell hb; have hz := hz1 hb)) | (go_at_call 187; ((with_reducible refine (hS _ (hT.alloc _)).mono ?_); rintro e w1 ⟨rfl, rfl⟩)))
  all_goals go_ret
  all_goals first | exact ⟨rfl, aB (Below.refl _ _) _⟩ | exact ⟨rfl, tr (aB (Below.refl _ _) _) hb⟩
 by_cases h5 : k = 5
 ·subst h5
  cases q1 : decide (n = 0) <;> cases q4 : nmdB s <;> cases q2 : decide (o = 0) <;> cases q3 : decide (m = 1)
  all_goals rw [q1] at hn0
  all_goals rw [q2] at ho0
  all_goals rw [q3] at hm1
  all_goals rw [show fitB 5 n s o m = (decide (n = 0) && nmdB s && decide (o = 0) && decide (m = 1)) from rfl, q1, q4, q2, q3]
  all_goals rw [q4] at hN
  all_goals clear hm0 hm2 hS h1 h2 h4
  all_goals go_wp2_with (first | (go_at_call 56; ((with_reducible refine (hN _ (hT.alloc _)).mono ?_); (rintro e w1 ⟨rfl, hb⟩); obtain ⟨hc, hf⟩ := bcell hb; have hz := hz1 hb)) | (go_at_call 187; ((with_reducible refine (hS _ (hT.alloc _)).mono ?_); rintro e w1 ⟨rfl, rfl⟩)))
  all_goals go_ret
  all_goals first | exact ⟨rfl, aB (Below.refl _ _) _⟩ | exact ⟨rfl, tr (aB (Below.refl _ _) _) hb⟩
 have hoE := strE (opS o)
 by_cases h3 : k = 3
 ·subst h3
  have hd : decide (opS o ≠ []) = !decide (opS o = []) := by simp
  cases q1 : decide (n = 0) <;> cases q2 : decide (s = []) <;> cases q4 : decide (opS o = []) <;> cases q3 : decide (m = 2)
  all_goals rw [q1] at hn0
  all_goals rw [q2] at hsE
  all_goals rw [q4] at hoE
  all_goals rw [q3] at hm2
  all_goals rw [show fitB 3 n s o m = (decide (n = 0) && decide (s = []) && decide (opS o ≠ []) && decide (m = 2)) from rfl, hd, q1, q2, q4, q3]
  all_goals clear hm0 hm1 hN h1 h2 h4 h5 hd ho0
  all_goals go_wp2_with (first | (go_at_call 56; ((with_reducible refine (hN _ (hT.alloc _)).mono ?_); (rintro e w1 ⟨rfl, hb⟩); obtain ⟨hc, hf⟩ := bcell hb; have hz := hz1 hb)) | (go_at_call 187; ((with_reducible refine (hS _ (hT.alloc _)).mono ?_); rintro e w1 ⟨rfl, rfl⟩)))
  all_goals go_ret
  all_goals exact ⟨rfl, aB (Below.refl _ _) _⟩
 ·have g1 := ne_beq h1
  have g2 := ne_beq h2
  have g3 := ne_beq h3
  have g4 := ne_beq h4
  have g5 := ne_beq h5
  have hF : fitB k n s o m = false := by unfold fitB; rw [if_neg h1, if_neg (by omega), if_neg h5, if_neg h3]
  rw [hF]
  clear hF h1 h2 h3 h4 h5 hn0 ho0 hm0 hm1 hm2 hsE hoE hN hS
  simp only [Int.ofNat_one] at g1
  go_wp2
  go_ret
  exact ⟨rfl, aB (Below.refl _ _) _⟩
end Go.Proofs.YtkibkaoffgnmkaaGreatDoor
