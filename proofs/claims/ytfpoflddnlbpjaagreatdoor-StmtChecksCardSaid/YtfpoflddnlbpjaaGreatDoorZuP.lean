/- Contracts of the reader of programs: a function. -/
import Derived.Test.YtfpoflddnlbpjaaGreatDoorZtP
import Derived.Test.YtfpoflddnlbpjaaGreatDoorZsP
import Derived.Recover
import Derived.Stop.Asserts
namespace Go.Proofs.YtfpoflddnlbpjaaGreatDoor
open Go.ChangeShapes Go.WideShapes Go.ChangeAt Go.RowKit
set_option linter.unusedVariables false

inductive IsFd (G : Nat → Prop) (w : World) : Value → Fd → Prop
  | mk {nm : List UInt8} {ps : List Pm} {bd : List St} {sec : Bool} {rt : List Xp} {mp mb mr : Option Addr} {cp cb cr : Nat} (hp : ps.length ≤ 140737488355328) (hb : bd.length ≤ 140737488355328) (hr : rt.length ≤ 140737488355328)
      (hP : PmsAt G w ps mp) (hB : StsAt G w bd mb) (hR : KidsAt G w rt mr) : IsFd G w (.agg #[.string (str nm), .slice mp ps.length cp, .slice mb bd.length cb, .bool sec, .slice mr rt.length cr]) ⟨nm, ps, bd, sec, rt⟩
def VF (w w' : World) (u : Value) (x : Fd) : Prop := IsFd (fun b => w.heap.size ≤ b ∧ b < w'.heap.size) w' u x

set_option maxRecDepth 100000 in
set_option maxHeartbeats 8000000 in
theorem function_any {w : World} {rb mb : Nat} {v : Value} {T : List (Tk × Int)} {p n : Nat} (h : IsRs w rb mb v T p 0 n) :
    Calls Tryz.prog 110 #[.pointer (some ⟨rb, 0, none⟩)] w (RP VF w rb mb v T 0 (funR (bareZ T) p n)) := by
  have hrl := h.rl
  have hTf : ∀ {W : World} {p n : Nat}, IsRs W rb mb v T p 0 n → Calls Tryz.prog 136 #[.pointer (some ⟨rb, 0, none⟩), .string ⟨#[102, 110]⟩] W (RP VU W rb mb v T 0 (takR (bareZ T) wFn p n)) := fun h => take_any h wFn (by decide)
  have hT1 : ∀ {W : World} {p n : Nat}, IsRs W rb mb v T p 0 n → Calls Tryz.prog 136 #[.pointer (some ⟨rb, 0, none⟩), .string ⟨#[40]⟩] W (RP VU W rb mb v T 0 (takR (bareZ T) [40] p n)) := fun h => take_any h [40] (by decide)
  have hT2 : ∀ {W : World} {p n : Nat}, IsRs W rb mb v T p 0 n → Calls Tryz.prog 136 #[.pointer (some ⟨rb, 0, none⟩), .string ⟨#[59]⟩] W (RP VU W rb mb v T 0 (takR (bareZ T) [59] p n)) := fun h => take_any h [59] (by decide)
  have hLp : ∀ {W : World} {p n : Nat}, IsRs W rb mb v T p 0 n → Calls Tryz.prog 142 #[.pointer (some ⟨rb, 0, none⟩), .func (.func 143) #[] #[], .string ⟨#[41]⟩] W (RP VPs W rb mb v T 0 (lisR (bareZ T) (parR (bareZ T)) [41] p n)) := fun h => listPl_any h [41] (by decide)
  have hBk : ∀ {W : World} {p n : Nat}, IsRs W rb mb v T p 0 n → Calls Tryz.prog 138 #[.pointer (some ⟨rb, 0, none⟩)] W (RP VB W rb mb v T 0 (blkR (bareZ T) 40 p n)) := fun {W p n} h => block_any 40 (Nat.le_refl _) h
  have hHt : ∀ {W : World} {q m : Nat}, txt (bareZ T) q = [61] → IsRs W rb mb v T q 0 m → Calls Tryz.prog 133 #[.pointer (some ⟨rb, 0, none⟩), .string ⟨#[61]⟩] W fun e w' => e = .returned (.bool true) ∧ Only (fun j => j = rb) W w' ∧ IsRs w' rb mb v T (q + 1) 0 m := fun hc h => by have := has_any h [61] (by decide); rw [isP_t hc, beP_t hc] at this; exact this
  have hHf : ∀ {W : World} {q m : Nat}, ¬ txt (bareZ T) q = [61] → IsRs W rb mb v T q 0 m → Calls Tryz.prog 133 #[.pointer (some ⟨rb, 0, none⟩), .string ⟨#[61]⟩] W fun e w' => e = .returned (.bool false) ∧ Only (fun j => j = rb) W w' ∧ IsRs w' rb mb v T q 0 m := fun hc h => by have := has_any h [61] (by decide); rw [isP_f hc, beP_f hc] at this; exact this
  have hHs : ∀ {W : World} {p n : Nat}, IsRs W rb mb v T p 0 n → Calls Tryz.prog 133 #[.pointer (some ⟨rb, 0, none⟩), .string ⟨#[115, 101, 99, 114, 101, 116]⟩] W fun e w' => e = .returned (.bool (isP (bareZ T) wSecret p)) ∧ Only (fun j => j = rb) W w' ∧ IsRs w' rb mb v T (beP (bareZ T) wSecret p) 0 n := fun h => has_any h wSecret (by decide)
  unfold funR
  go_enter Tryz.func110, Tryz.ntmps110
  go_wp2_with (first
    | (go_at_call 136; ((with_reducible refine (hTf (h.newer h (only_alloc (Only.refl _ _) _))).mono ?_); (rintro e w1 ⟨hO1, hR1⟩); (have hP1 : Only (fun j => j = rb) w w1 := ((Only.refl _ _).old (only_alloc (Only.refl _ _) _) (fun j hj => .inr hj)).trans hO1); (have hs1 := hO1.size); (simp only [World.size_alloc] at hs1); (have hZ1 : rowG #[.string ⟨#[]⟩, .slice none 0 0, .slice none 0 0, .bool false, .slice none 0 0] w1 (w.heap.size) := rowG_only (rowG_at #[.string ⟨#[]⟩, .slice none 0 0, .slice none 0 0, .bool false, .slice none 0 0] 47 w (w.heap.size) (by simp)) hO1 (by omega)); (rcases r1 : takR (bareZ T) wFn p n with ⟨c1, q1⟩ | ⟨x1, q1, m1⟩) <;> (rw [r1] at hR1; first | (unfold Flt at hR1; subst hR1) | (obtain ⟨hI1, z1, rfl, hV1⟩ := hR1; (unfold VU at hV1; subst hV1)))))
    | (go_at_call 134; ((with_reducible refine (nam_any hI1).mono ?_); (rintro e w2 ⟨hO2, hR2⟩); (have hP2 : Only (fun j => j = rb) w w2 := hP1.trans hO2); (have hs2 := hO2.size); (have hZ2 : rowG #[.string ⟨#[]⟩, .slice none 0 0, .slice none 0 0, .bool false, .slice none 0 0] w2 (w.heap.size) := rowG_only hZ1 hO2 (by omega)); (rcases r2 : namR (bareZ T) q1 m1 with ⟨c2, q2⟩ | ⟨x2, q2, m2⟩) <;> (rw [r2] at hR2; first | (unfold Flt at hR2; subst hR2) | (obtain ⟨hI2, z2, rfl, hV2⟩ := hR2; (unfold VN at hV2; subst hV2)))))
    | (go_at_call 136; ((with_reducible refine (hT1 (h.newer hI2 (only_alloc (Only.refl _ _) _))).mono ?_); (rintro e w3 ⟨hO3, hR3⟩); (have hP3 : Only (fun j => j = rb) w w3 := (hP2.old (only_alloc (Only.refl _ _) _) (fun j hj => .inr hj)).trans hO3); (have hs3 := hO3.size); (simp only [World.size_alloc] at hs3); (have hZ3 : rowG #[.string ⟨#[]⟩, .slice none 0 0, .slice none 0 0, .bool false, .slice none 0 0] w3 (w.heap.size) := rowG_only (rowG_alloc hZ2 _) hO3 (by omega)); (have hS3 : rowG #[.string (str x2), .slice none 0 0, .slice none 0 0, .bool false, .slice none 0 0] w3 (w2.heap.size) := rowG_only (rowG_at #[.string (str x2), .slice none 0 0, .slice none 0 0, .bool false, .slice none 0 0] 47 w2 (w2.heap.size) (by simp)) hO3 (by omega)); (rcases r3 : takR (bareZ T) [40] q2 m2 with ⟨c3, q3⟩ | ⟨x3, q3, m3⟩) <;> (rw [r3] at hR3; first | (unfold Flt at hR3; subst hR3) | (obtain ⟨hI3, z3, rfl, hV3⟩ := hR3; (unfold VU at hV3; subst hV3)))))
    | (go_at_call 142; ((with_reducible refine (hLp hI3).mono ?_); (rintro e w4 ⟨hO4, hR4⟩); (have hP4 : Only (fun j => j = rb) w w4 := hP3.trans hO4); (have hs4 := hO4.size); (have hZ4 : rowG #[.string ⟨#[]⟩, .slice none 0 0, .slice none 0 0, .bool false, .slice none 0 0] w4 (w.heap.size) := rowG_only hZ3 hO4 (by omega)); (have hS4 : rowG #[.string (str x2), .slice none 0 0, .slice none 0 0, .bool false, .slice none 0 0] w4 (w2.heap.size) := rowG_only hS3 hO4 (by omega)); (rcases r4 : lisR (bareZ T) (parR (bareZ T)) [41] q3 m3 with ⟨c4, q4⟩ | ⟨x4, q4, m4⟩) <;> (rw [r4] at hR4; first | (unfold Flt at hR4; subst hR4) | (obtain ⟨hI4, z4, rfl, hV4⟩ := hR4; (obtain ⟨mk4, cap4, rfl, hL4, hE4⟩ := hV4); (have fS1_4 := hS4.1 1 (by simp)); (have ffS_4 := hS4.2.1); (have flS_4 := hS4.2.2)))))
    | (go_at_call 138; ((with_reducible refine (hBk (h.newer hI4 (only_set (Only.refl _ _) _ _ _ (by omega)))).mono ?_); (rintro e w5 ⟨hO5, hR5⟩); (have hP5 : Only (fun j => j = rb) w w5 := (hP4.old (only_set (Only.refl _ _) _ _ _ (by omega)) (fun j hj => .inr hj)).trans hO5); (have hs5 := hO5.size); (simp only [World.size_setCell] at hs5); (have hZ5 : rowG #[.string ⟨#[]⟩, .slice none 0 0, .slice none 0 0, .bool false, .slice none 0 0] w5 (w.heap.size) := rowG_only (rowG_other _ hZ4 (by omega)) hO5 (by omega)); (have hS5 : rowG #[.string (str x2), .slice mk4 x4.length cap4, .slice none 0 0, .bool false, .slice none 0 0] w5 (w2.heap.size) := rowG_only (r5fs1 (.slice mk4 x4.length cap4) hS4) hO5 (by omega)); (have hE4_5 := ((hE4.only (os1 (or1 (w2.heap.size) _) 1 (.slice mk4 x4.length cap4)) (fun b hb e => by have := hb.1; have := hb.2; simp at *; omega))).only hO5 (fun b hb e => by have := hb.1; have := hb.2; simp at *; omega)); (rcases r5 : blkR (bareZ T) 40 q4 m4 with ⟨c5, q5⟩ | ⟨x5, q5, m5⟩) <;> (rw [r5] at hR5; first | (unfold Flt at hR5; subst hR5) | (obtain ⟨hI5, z5, rfl, hV5⟩ := hR5; (obtain ⟨mk5, cap5, rfl, hL5, hE5⟩ := hV5); (have fS2_5 := hS5.1 2 (by simp)); (have ffS_5 := hS5.2.1); (have flS_5 := hS5.2.2)))))
    | (go_at_call 133; ((rcases Classical.em (txt (bareZ T) q5 = [61]) with hc6 | hc6) <;> ((first | (with_reducible refine (hHt hc6 (h.newer hI5 (only_set (Only.refl _ _) _ _ _ (by omega)))).mono ?_) | (with_reducible refine (hHf hc6 (h.newer hI5 (only_set (Only.refl _ _) _ _ _ (by omega)))).mono ?_)); (rintro e w6 ⟨rfl, hO6, hI6⟩); (have hP6 : Only (fun j => j = rb) w w6 := (hP5.old (only_set (Only.refl _ _) _ _ _ (by omega)) (fun j hj => .inr hj)).trans hO6); (have hs6 := hO6.size); (simp only [World.size_setCell] at hs6); (have hZ6 : rowG #[.string ⟨#[]⟩, .slice none 0 0, .slice none 0 0, .bool false, .slice none 0 0] w6 (w.heap.size) := rowG_only (rowG_other _ hZ5 (by omega)) hO6 (by omega)); (have hS6 : rowG #[.string (str x2), .slice mk4 x4.length cap4, .slice mk5 x5.length cap5, .bool false, .slice none 0 0] w6 (w2.heap.size) := rowG_only (r5fs2 (.slice mk5 x5.length cap5) hS5) hO6 (by omega)); (have hE4_6 := ((hE4_5.only (os1 (or1 (w2.heap.size) _) 2 (.slice mk5 x5.length cap5)) (fun b hb e => by have := hb.1; have := hb.2; simp at *; omega))).only hO6 (fun b hb e => by have := hb.1; have := hb.2; simp at *; omega)); (have hE5_6 := ((hE5.only (os1 (or1 (w2.heap.size) _) 2 (.slice mk5 x5.length cap5)) (fun b hb e => by have := hb.1; have := hb.2; simp at *; omega))).only hO6 (fun b hb e => by have := hb.1; have := hb.2; simp at *; omega)))))
    | (go_at_call 133; ((with_reducible refine (hHs hI6).mono ?_); (rintro e w7 ⟨rfl, hO7, hI7⟩); (have hP7 : Only (fun j => j = rb) w w7 := hP6.trans hO7); (have hs7 := hO7.size); (have hZ7 : rowG #[.string ⟨#[]⟩, .slice none 0 0, .slice none 0 0, .bool false, .slice none 0 0] w7 (w.heap.size) := rowG_only hZ6 hO7 (by omega)); (have hS7 : rowG #[.string (str x2), .slice mk4 x4.length cap4, .slice mk5 x5.length cap5, .bool false, .slice none 0 0] w7 (w2.heap.size) := rowG_only hS6 hO7 (by omega)); (have hE4_7 := (hE4_6).only hO7 (fun b hb e => by have := hb.1; have := hb.2; simp at *; omega)); (have hE5_7 := (hE5_6).only hO7 (fun b hb e => by have := hb.1; have := hb.2; simp at *; omega)); (have fS3_7 := hS7.1 3 (by simp)); (have ffS_7 := hS7.2.1); (have flS_7 := hS7.2.2)))
    | (go_at_call 137; ((with_reducible refine (expr_any (h.newer hI7 (only_set (Only.refl _ _) _ _ _ (by omega)))).mono ?_); (rintro e w8 ⟨hO8, hR8⟩); (have hP8 : Only (fun j => j = rb) w w8 := (hP7.old (only_set (Only.refl _ _) _ _ _ (by omega)) (fun j hj => .inr hj)).trans hO8); (have hs8 := hO8.size); (simp only [World.size_setCell] at hs8); (have hZ8 : rowG #[.string ⟨#[]⟩, .slice none 0 0, .slice none 0 0, .bool false, .slice none 0 0] w8 (w.heap.size) := rowG_only (rowG_other _ hZ7 (by omega)) hO8 (by omega)); (have hS8 : rowG #[.string (str x2), .slice mk4 x4.length cap4, .slice mk5 x5.length cap5, .bool (isP (bareZ T) wSecret (q5 + 1)), .slice none 0 0] w8 (w2.heap.size) := rowG_only (r5fs3 (.bool (isP (bareZ T) wSecret (q5 + 1))) hS7) hO8 (by omega)); (have hE4_8 := ((hE4_7.only (os1 (or1 (w2.heap.size) _) 3 (.bool (isP (bareZ T) wSecret (q5 + 1)))) (fun b hb e => by have := hb.1; have := hb.2; simp at *; omega))).only hO8 (fun b hb e => by have := hb.1; have := hb.2; simp at *; omega)); (have hE5_8 := ((hE5_7.only (os1 (or1 (w2.heap.size) _) 3 (.bool (isP (bareZ T) wSecret (q5 + 1)))) (fun b hb e => by have := hb.1; have := hb.2; simp at *; omega))).only hO8 (fun b hb e => by have := hb.1; have := hb.2; simp at *; omega)); (rcases r8 : expR (bareZ T) (beP (bareZ T) wSecret (q5 + 1)) m5 with ⟨c8, q8⟩ | ⟨x8, q8, m8⟩) <;> (rw [r8] at hR8; first | (unfold Flt at hR8; subst hR8) | (obtain ⟨hI8, z8, rfl, hV8⟩ := hR8; (obtain ⟨k8, n8, s8, o8, mk8, mm8, cap8, rfl⟩ := vx_form hV8); (have fS4_8 := hS8.1 4 (by simp)); (have ffS_8 := hS8.2.1); (have flS_8 := hS8.2.2)))))
    | (go_at_call 136; ((with_reducible refine (hT2 (h.newer hI8 (only_alloc (only_set (Only.refl _ _) _ _ _ (by omega)) _))).mono ?_); (rintro e w9 ⟨hO9, hR9⟩); (have hP9 : Only (fun j => j = rb) w w9 := (hP8.old (only_alloc (only_set (Only.refl _ _) _ _ _ (by omega)) _) (fun j hj => .inr hj)).trans hO9); (have hs9 := hO9.size); (simp only [World.size_alloc, World.size_setCell] at hs9); (have hZ9 : rowG #[.string ⟨#[]⟩, .slice none 0 0, .slice none 0 0, .bool false, .slice none 0 0] w9 (w.heap.size) := rowG_only (rowG_alloc (rowG_other _ hZ8 (by omega)) _) hO9 (by omega)); (have hS9 : rowG #[.string (str x2), .slice mk4 x4.length cap4, .slice mk5 x5.length cap5, .bool (isP (bareZ T) wSecret (q5 + 1)), .slice (some ⟨w8.heap.size, 0, none⟩) 1 1] w9 (w2.heap.size) := rowG_only (rowG_alloc (r5fs4 (.slice (some ⟨w8.heap.size, 0, none⟩) 1 1) hS8) _) hO9 (by omega)); (have hK9 : rowG #[.int .u8 k8, .int .u64 n8, .string s8, .int .u8 o8, .slice mk8 mm8 cap8] w9 (w8.heap.size) := rowG_only (rowG_at #[.int .u8 k8, .int .u64 n8, .string s8, .int .u8 o8, .slice mk8 mm8 cap8] 52 (w8.setCell ⟨w2.heap.size, 4, none⟩ (.slice (some ⟨w8.heap.size, 0, none⟩) 1 1)) (w8.heap.size) (by simp)) hO9 (by omega)); (have hE4_9 := (((hE4_8.only (os1 (or1 (w2.heap.size) _) 4 (.slice (some ⟨w8.heap.size, 0, none⟩) 1 1)) (fun b hb e => by have := hb.1; have := hb.2; simp at *; omega)).of (aB (Below.refl _ _) _))).only hO9 (fun b hb e => by have := hb.1; have := hb.2; simp at *; omega)); (have hE5_9 := (((hE5_8.only (os1 (or1 (w2.heap.size) _) 4 (.slice (some ⟨w8.heap.size, 0, none⟩) 1 1)) (fun b hb e => by have := hb.1; have := hb.2; simp at *; omega)).of (aB (Below.refl _ _) _))).only hO9 (fun b hb e => by have := hb.1; have := hb.2; simp at *; omega)); (have hE8_9 := (((hV8.only (os1 (or1 (w2.heap.size) _) 4 (.slice (some ⟨w8.heap.size, 0, none⟩) 1 1)) (fun b hb e => by have := hb.1; have := hb.2; simp at *; omega)).of (aB (Below.refl _ _) _))).only hO9 (fun b hb e => by have := hb.1; have := hb.2; simp at *; omega)); (rcases r9 : takR (bareZ T) [59] q8 m8 with ⟨c9, q9⟩ | ⟨x9, q9, m9⟩) <;> (rw [r9] at hR9; first | (unfold Flt at hR9; subst hR9) | (obtain ⟨hI9, z9, rfl, hV9⟩ := hR9; (unfold VU at hV9; subst hV9)))))
    | (with_reducible refine ld5f rfl _ rfl (w2.heap.size) rfl (show rowG #[.string (str x2), .slice mk4 x4.length cap4, .slice mk5 x5.length cap5, .bool (isP (bareZ T) wSecret (q5 + 1)), .slice (some ⟨w8.heap.size, 0, none⟩) 1 1] _ _ from hS9) ?_)
    | (with_reducible refine st5f rfl _ _ rfl (w.heap.size) rfl rfl hZ9 ?_; intro wF hF hOF)
    | (go_at_call 136; ((with_reducible refine (hT2 hI6).mono ?_); (rintro e w7 ⟨hO7, hR7⟩); (have hP7 : Only (fun j => j = rb) w w7 := hP6.trans hO7); (have hs7 := hO7.size); (have hZ7 : rowG #[.string ⟨#[]⟩, .slice none 0 0, .slice none 0 0, .bool false, .slice none 0 0] w7 (w.heap.size) := rowG_only hZ6 hO7 (by omega)); (have hS7 : rowG #[.string (str x2), .slice mk4 x4.length cap4, .slice mk5 x5.length cap5, .bool false, .slice none 0 0] w7 (w2.heap.size) := rowG_only hS6 hO7 (by omega)); (have hE4_7 := (hE4_6).only hO7 (fun b hb e => by have := hb.1; have := hb.2; simp at *; omega)); (have hE5_7 := (hE5_6).only hO7 (fun b hb e => by have := hb.1; have := hb.2; simp at *; omega)); (rcases r7 : takR (bareZ T) [59] q5 m5 with ⟨c7, q7⟩ | ⟨x7, q7, m7⟩) <;> (rw [r7] at hR7; first | (unfold Flt at hR7; subst hR7) | (obtain ⟨hI7, z7, rfl, hV7⟩ := hR7; (unfold VU at hV7; subst hV7)))))
    | (with_reducible refine ld5f rfl _ rfl (w2.heap.size) rfl (show rowG #[.string (str x2), .slice mk4 x4.length cap4, .slice mk5 x5.length cap5, .bool false, .slice none 0 0] _ _ from hS7) ?_)
    | (with_reducible refine st5f rfl _ _ rfl (w.heap.size) rfl rfl hZ7 ?_; intro wF hF hOF)
    )
  all_goals first
    | (refine ⟨rfl, ?_⟩; simp only [r1, Rz.next]; exact .er hP1)
    | (refine ⟨rfl, ?_⟩; simp only [r1, r2, Rz.next]; exact .er hP2)
    | (refine ⟨rfl, ?_⟩; simp only [r1, r2, r3, Rz.next]; exact .er hP3)
    | (refine ⟨rfl, ?_⟩; simp only [r1, r2, r3, r4, Rz.next]; exact .er hP4)
    | (refine ⟨rfl, ?_⟩; simp only [r1, r2, r3, r4, r5, Rz.next]; exact .er hP5)
    | (refine ⟨rfl, ?_⟩; simp only [r1, r2, r3, r4, r5, Rz.next]; unfold retR; rw [if_pos hc6]; simp only [r8, Rz.next]; exact .er hP8)
    | (refine ⟨rfl, ?_⟩; simp only [r1, r2, r3, r4, r5, Rz.next]; unfold retR; rw [if_pos hc6]; simp only [r8, r9, Rz.next]; exact .er hP9)
    | (refine ⟨rfl, ?_⟩; simp only [r1, r2, r3, r4, r5, Rz.next]; unfold retR; rw [if_neg hc6]; simp only [r7, Rz.next]; exact .er hP7)
    | (simp only [r1, r2, r3, r4, r5, Rz.next]; unfold retR; rw [if_pos hc6]; simp only [r8, r9, Rz.next]
       have hsF := hOF.size
       have hOn : Only (fun j => w.heap.size ≤ j) w9 wF := (Only.refl _ _).trans (hOF.mono (fun j e => by have e2 : j = w.heap.size := e; omega))
       refine bodyPost_ret (res5f rfl _ _ (w.heap.size) _ _ _ _ _ rfl hF) rfl ?_
       exact .ok (hP9.old hOn (fun j hj => .inr hj)) (h.newer hI9 hOn) (IsFd.mk (nm := x2) (ps := x4) (bd := x5) (sec := isP (bareZ T) wSecret (q5 + 1)) (rt := [x8]) hL4 hL5 (by simp) ((hE4_9.only hOF (fun b hb e => by have := hb.1; have := hb.2; simp at *; omega)).mono (fun b hb => ⟨by have := hb.1; have := hb.2; simp at *; omega, by have := hb.1; have := hb.2; simp at *; omega⟩)) ((hE5_9.only hOF (fun b hb e => by have := hb.1; have := hb.2; simp at *; omega)).mono (fun b hb => ⟨by have := hb.1; have := hb.2; simp at *; omega, by have := hb.1; have := hb.2; simp at *; omega⟩)) (kid_one (rowG_only hK9 hOF (by omega)) ⟨by omega, by omega⟩ ((hE8_9.only hOF (fun b hb e => by have := hb.1; have := hb.2; simp at *; omega)).mono (fun b hb => ⟨by have := hb.1; have := hb.2; simp at *; omega, by have := hb.1; have := hb.2; simp at *; omega⟩)))))
    | (simp only [r1, r2, r3, r4, r5, Rz.next]; unfold retR; rw [if_neg hc6]; simp only [r7, Rz.next]
       have hsF := hOF.size
       have hOn : Only (fun j => w.heap.size ≤ j) w7 wF := (Only.refl _ _).trans (hOF.mono (fun j e => by have e2 : j = w.heap.size := e; omega))
       refine bodyPost_ret (res5f rfl _ _ (w.heap.size) _ _ _ _ _ rfl hF) rfl ?_
       exact .ok (hP7.old hOn (fun j hj => .inr hj)) (h.newer hI7 hOn) (IsFd.mk (nm := x2) (ps := x4) (bd := x5) (sec := false) (rt := []) hL4 hL5 (by simp) ((hE4_7.only hOF (fun b hb e => by have := hb.1; have := hb.2; simp at *; omega)).mono (fun b hb => ⟨by have := hb.1; have := hb.2; simp at *; omega, by have := hb.1; have := hb.2; simp at *; omega⟩)) ((hE5_7.only hOF (fun b hb e => by have := hb.1; have := hb.2; simp at *; omega)).mono (fun b hb => ⟨by have := hb.1; have := hb.2; simp at *; omega, by have := hb.1; have := hb.2; simp at *; omega⟩)) .nil))

end Go.Proofs.YtfpoflddnlbpjaaGreatDoor

/- Contract of the reader of programs: a program. -/
namespace Go.Proofs.YtfpoflddnlbpjaaGreatDoor
open Go.ChangeShapes Go.WideShapes Go.ChangeAt Go.RowKit
set_option linter.unusedVariables false
theorem IsFd.mv {G G' : Nat → Prop} {w w' : World} {v : Value} {x : Fd} (h : IsFd G w v x) (hg : ∀ b, G b → G' b) (hc : ∀ b o v, G b → w.cell? ⟨b, o, none⟩ = some v → w'.cell? ⟨b, o, none⟩ = some v) : IsFd G' w' v x := by
  cases h with
  | mk hp hb hr hP hB hR => exact .mk hp hb hr (hP.mv hg hc) (hB.mv hg hc) (hR.mv hg hc)
theorem IsFd.of {G : Nat → Prop} {w w' : World} {v : Value} {x : Fd} (h : IsFd G w v x) (hb : Below w.heap.size w w') : IsFd G w' v x := h.mv (fun _ h => h) (fun b o v _ hc => stay hb hc)
theorem IsFd.only {G S : Nat → Prop} {w w' : World} {v : Value} {x : Fd} (h : IsFd G w v x) (ho : Only S w w') (hs : ∀ b, G b → ¬ S b) : IsFd G w' v x := h.mv (fun _ h => h) (fun b o v hg hc => ho.cell (hs b hg) hc)
theorem IsFd.mono {G G' : Nat → Prop} {w : World} {v : Value} {x : Fd} (h : IsFd G w v x) (hg : ∀ b, G b → G' b) : IsFd G' w v x := h.mv hg (fun _ _ _ _ h => h)
structure Fx where
  nm : List UInt8
  mp : Option Addr
  np : Nat
  cp : Nat
  mb : Option Addr
  nb : Nat
  cb : Nat
  sec : Bool
  mr : Option Addr
  nr : Nat
  cr : Nat
  x : Fd
def Fx.cells (K : Fx) : List Value := [.string (str K.nm), .slice K.mp K.np K.cp, .slice K.mb K.nb K.cb, .bool K.sec, .slice K.mr K.nr K.cr]
def Fx.is (G : Nat → Prop) (w : World) (K : Fx) : Prop := IsFd G w (.agg #[.string (str K.nm), .slice K.mp K.np K.cp, .slice K.mb K.nb K.cb, .bool K.sec, .slice K.mr K.nr K.cr]) K.x
def fxs (L : List Fx) : List Value := L.flatMap Fx.cells
theorem fxs_app (a b : List Fx) : fxs (a ++ b) = fxs a ++ fxs b := by simp [fxs]
theorem fxs_one (L : List Fx) : ∀ u ∈ fxs L, u.oneCell' = true := by
  intro u hu
  unfold fxs at hu
  obtain ⟨K, _, hp⟩ := List.mem_flatMap.1 hu
  unfold Fx.cells at hp
  simp only [List.mem_cons, List.not_mem_nil, or_false] at hp
  rcases hp with rfl | rfl | rfl | rfl | rfl <;> rfl
theorem fxs_at : ∀ (L : List Fx) (i : Nat) (h : i < L.length) (r : Nat) (hr : r < 5), (fxs L)[i * 5 + r]? = L[i].cells[r]? := by
  intro L
  induction L with
  | nil => intro i h; simp at h
  | cons K L ih =>
    intro i h r hr
    cases i with
    | zero =>
      have hc : r = 0 ∨ r = 1 ∨ r = 2 ∨ r = 3 ∨ r = 4 := by omega
      rcases hc with rfl | rfl | rfl | rfl | rfl <;> rfl
    | succ i =>
      have := ih i (by simpa using h) r hr
      rw [show (i + 1) * 5 + r = (i * 5 + r) + 1 + 1 + 1 + 1 + 1 by omega]
      exact this
theorem vf_fx {w w' : World} {u : Value} {x : Fd} (h : VF w w' u x) : ∃ K : Fx, u = .agg #[.string (str K.nm), .slice K.mp K.np K.cp, .slice K.mb K.nb K.cb, .bool K.sec, .slice K.mr K.nr K.cr] ∧ K.x = x ∧ K.is (fun b => w.heap.size ≤ b ∧ b < w'.heap.size) w' := by
  cases h with
  | @mk nm ps bd sec rt mp mb mr cp cb cr hp hb hr hP hB hR => exact ⟨⟨nm, mp, ps.length, cp, mb, bd.length, cb, sec, mr, rt.length, cr, ⟨nm, ps, bd, sec, rt⟩⟩, rfl, rfl, .mk hp hb hr hP hB hR⟩
def FdsAt (G : Nat → Prop) (w : World) (l : List Fd) (ma : Option Addr) : Prop := ∀ i (h : i < l.length), ∃ (b o : Nat) (K : Fx), ma = some ⟨b, o, none⟩ ∧ G b ∧ K.x = l[i] ∧ K.is G w ∧ ∀ r u, K.cells[r]? = some u → w.cell? ⟨b, o + i * 5 + r, none⟩ = some u
theorem FdsAt.mv {G G' : Nat → Prop} {w w' : World} {l : List Fd} {ma : Option Addr} (h : FdsAt G w l ma) (hg : ∀ b, G b → G' b) (hc : ∀ b o v, G b → w.cell? ⟨b, o, none⟩ = some v → w'.cell? ⟨b, o, none⟩ = some v) : FdsAt G' w' l ma := fun i hi => by
  obtain ⟨b, o, K, e, hb, hx, hK, h1⟩ := h i hi
  exact ⟨b, o, K, e, hg _ hb, hx, IsFd.mv hK hg hc, fun r u hu => hc _ _ _ hb (h1 r u hu)⟩
theorem FdsAt.of {G : Nat → Prop} {w w' : World} {l : List Fd} {ma : Option Addr} (h : FdsAt G w l ma) (hb : Below w.heap.size w w') : FdsAt G w' l ma := h.mv (fun _ h => h) (fun b o v _ hc => stay hb hc)
theorem FdsAt.only {G S : Nat → Prop} {w w' : World} {l : List Fd} {ma : Option Addr} (h : FdsAt G w l ma) (ho : Only S w w') (hs : ∀ b, G b → ¬ S b) : FdsAt G w' l ma := h.mv (fun _ h => h) (fun b o v hg hc => ho.cell (hs b hg) hc)
theorem FdsAt.mono {G G' : Nat → Prop} {w : World} {l : List Fd} {ma : Option Addr} (h : FdsAt G w l ma) (hg : ∀ b, G b → G' b) : FdsAt G' w l ma := h.mv hg (fun _ _ _ _ h => h)
theorem FdsAt.nil {G : Nat → Prop} {w : World} {ma : Option Addr} : FdsAt G w [] ma := fun i h => by simp at h
theorem row_fds {w : World} {B M : Nat} {a : Option Addr} {c : Nat} {L : List Fx} (h : w.ownsRow B 47 5 (.slice a M c) M (fxs L)) (hM : M = L.length) (hK : ∀ K ∈ L, K.is (fun b => B ≤ b ∧ b < w.heap.size ∧ ¬ (Value.slice a M c).ownBlock = some b) w) :
    FdsAt (fun b => B ≤ b ∧ b < w.heap.size) w (L.map (·.x)) a := fun i hi => by
  have hi' : i < L.length := by simpa using hi
  obtain ⟨g, cg, e, hg1, hg2⟩ := h.form (by omega)
  simp only [Value.slice.injEq, true_and] at e
  obtain ⟨rfl, rfl⟩ := e
  refine ⟨g, 0, L[i], rfl, ⟨hg1, hg2⟩, by simp, IsFd.mono (hK _ (List.getElem_mem hi')) (fun b hb => ⟨hb.1, hb.2.1⟩), fun r u hu => ?_⟩
  have hr : r < 5 := by
    have := (List.getElem?_eq_some_iff.1 hu).1
    simpa [Fx.cells] using this
  rw [Nat.zero_add, h.cellAt (i * 5 + r) (by omega), fxs_at L i hi' r hr]
  exact hu
theorem fx_append {g H : Nat} {w w5 : World} {lv : Value} (hg : w.grownBy w5 lv.ownBlock) (hat : lv.ownBlock = some g ∨ g = H) (hH : w.heap.size = H) {B : Nat} (L : List Fx)
    (h : ∀ K ∈ L, K.is (fun b => B ≤ b ∧ b < w.heap.size ∧ ¬ lv.ownBlock = some b) w) (n cap : Nat) :
    ∀ K ∈ L, K.is (fun b => B ≤ b ∧ b < w5.heap.size ∧ ¬ (Value.slice (some ⟨g, 0, none⟩) n cap).ownBlock = some b) w5 := by
  intro K hK
  have ho := only_grown hg
  refine (IsFd.only (h K hK) ho (fun b hb e => hb.2.2 e.symm)).mono (fun b hb => ⟨hb.1, Nat.lt_of_lt_of_le hb.2.1 ho.size, fun e => ?_⟩)
  simp only [Value.ownBlock, Option.some.injEq] at e
  subst e
  rcases hat with h1 | h1
  · exact hb.2.2 h1
  · omega
def VG (w w' : World) (u : Value) (l : List Fd) : Prop := ∃ ma cap, u = .agg #[.slice ma l.length cap] ∧ l.length ≤ 16 ∧ FdsAt (fun b => w.heap.size ≤ b ∧ b < w'.heap.size) w' l ma
theorem infoF5 : (Tryz.prog.info? 47).map (fun i => (i.zero, i.size, i.bytes)) = some (some (.agg #[.string ⟨#[]⟩, .slice none 0 0, .slice none 0 0, .bool false, .slice none 0 0]), 5, 96) := by kernel_rfl
def cellN (w : World) (g : Nat) : Nat := match w.cell? ⟨g, 0, none⟩ with
  | some v => sliceN v
  | none => 0
set_option maxRecDepth 100000 in
set_option maxHeartbeats 8000000 in
theorem program_any {w : World} {rb mb : Nat} {v : Value} {T : List (Tk × Int)} (h : IsRs w rb mb v T 0 0 0) :
    Calls Tryz.prog 63 #[.pointer (some ⟨rb, 0, none⟩)] w (RP VG w rb mb v T 0 (proR (bareZ T))) := by
  obtain ⟨i0, hi, hz0, hz1, hz2⟩ := info_parts infoF5
  have hrl := h.rl
  unfold proR
  obtain ⟨R, hR⟩ : ∃ R, proL (bareZ T) 17 [] 0 0 = R := ⟨_, rfl⟩
  rw [hR]
  go_enter Tryz.func63, Tryz.ntmps63
  go_wp2
  obtain ⟨W, hW⟩ : ∃ W, w.alloc (.cells #[.slice none 0 0] 24) = W := ⟨_, rfl⟩
  have hIW : IsRs W rb mb v T 0 0 0 := by rw [← hW]; exact h.of (aB (Below.refl _ _) _)
  have hPW : Only (fun j => j = rb) w W := by rw [← hW]; exact ob1 rb (aB (Below.refl _ _) _)
  have hSW : rowG #[.slice none 0 0] W w.heap.size := by rw [← hW]; exact rowG_at _ _ _ _ rfl
  rw [hW]
  clear hW
  go_loopw [] (fun wr => ∃ (L : List Fx) (M f p n : Nat) (a : Option Addr) (c : Nat), M = L.length ∧ M ≤ 16 ∧ f + M = 17 ∧ proL (bareZ T) f (L.map (·.x)) p n = R ∧ wr.ownsRow (w.heap.size + 1) 47 5 (.slice a M c) M (fxs L) ∧ rowG #[.slice a M c] wr w.heap.size ∧ IsRs wr rb mb v T p 0 n ∧ Only (fun j => j = rb) w wr ∧ Hid (∀ K ∈ L, K.is (fun b => w.heap.size + 1 ≤ b ∧ b < wr.heap.size ∧ ¬ (Value.slice a M c).ownBlock = some b) wr)) (fun wr => 17 - cellN wr w.heap.size)
  case atStart => exact ⟨[], 0, 17, 0, 0, none, 0, rfl, by omega, rfl, hR, World.ownsRow_nil _ _ _ _, hSW, hIW, hPW, Lib.hid (fun K hK => by simp at hK)⟩
  case round =>
    obtain ⟨L, M, f, p, n, a, c, hM, hM16, hfM, hRR, hown, hS, hI, hP, HK⟩ := hrel
    obtain ⟨f, rfl⟩ : ∃ f', f = f' + 1 := ⟨f - 1, by omega⟩
    have HM := Lib.hid hM
    have HF := Lib.hid hfM
    have H16 := Lib.hid hM16
    have hsr := hP.size
    obtain ⟨t, z, ht⟩ := hI.tok
    obtain ⟨b, o, N, cc, c0, hpN, hN, hb, q0, q1, q2, q3⟩ := ht.at_
    have c1 := hI.c1
    have hrl' := hI.rl
    have hs0 := hS.1 0 (by simp)
    have hsl := hS.2.2
    have hxl : (L.map (·.x)).length = M := by simp [HM.out]
    rw [proL, ht.knd_, hxl] at hRR
    have htx := ht.txt_
    clear ht
    by_cases hk : t.k = 5
    · have h5 : ((t.k : Int) != 5) = false := by simp; omega
      rw [if_pos hk] at hRR
      clear hM hfM hM16 hk
      go_wp2
      go_quiet (fail)
      go_wp2_with (first
        | (with_reducible refine ld1p rfl _ rfl (w.heap.size) rfl (show rowG #[.slice a M c] _ _ from hS) ?_)
        | (with_reducible refine st1p rfl _ _ rfl (w.heap.size) rfl rfl hS ?_; intro wF hF hOF))
      have hOn : Only (fun j => w.heap.size ≤ j) (wr.drewN nq) wF := hOF.mono (fun j e => by have e2 : j = w.heap.size := e; omega)
      have hsF := hOF.size
      have hsF2 : wr.heap.size ≤ wF.heap.size := hsF
      rw [← hRR]
      refine bodyPost_ret (res1p rfl _ _ (w.heap.size) _ rfl hF) rfl ?_
      exact .ok ((only_drew hP nq).old hOn (fun j hj => .inr hj)) (h.newer (hI.drewN nq) hOn) ⟨a, c, by rw [hxl], by rw [hxl]; exact H16.out, ((row_fds hown HM.out HK.out).only (w' := wF) (S := fun j => j = w.heap.size) ((ob1 _ (bdN (Below.refl _ _) nq)).trans hOF) (fun b hb e => by have := hb.1; have e2 : b = w.heap.size := e; omega)).mono (fun b hb => ⟨by have := hb.1; omega, by have := hb.2; omega⟩)⟩
    have h5 : ((t.k : Int) != 5) = true := by simp; omega
    rw [if_neg hk] at hRR
    by_cases h16 : M = 16
    · have e16 : ((M : Int) == 16) = true := by simp; omega
      by_cases hfn : txt (bareZ T) p = wFn
      · rw [if_pos ⟨h16, hfn⟩] at hRR
        have hN0 : ∀ {W : World}, IsRs W rb mb v T p 0 n → Calls Tryz.prog 108 #[.pointer (some ⟨rb, 0, none⟩), .string ⟨#[102, 110]⟩] W fun e w' => e = .returned (.bool true) ∧ ∃ k, w' = W.drewN k := fun hI => by have := nx_any hI wFn; rw [isP_t hfn] at this; exact this
        rw [← hRR]
        have hS5 := fun W (hW : IsRs W rb mb v T p 0 n) => stop_any hW 5 5 rfl
        have hId := fun k => hI.drewN k
        clear hM hfM hM16 hk h16 hfn hRR
        go_wp2
        go_quiet (fail)
        go_wp2_with (first
          | (go_at_call 108; ((with_reducible refine (hN0 (hId nq)).mono ?_); (rintro e w3 ⟨rfl, k, rfl⟩)))
          | (go_at_call 109; ((with_reducible refine (hS5 _ (hId _)).mono ?_); (rintro e w5 ⟨he, k2, rfl⟩); (unfold Flt at he; subst he))))
        exact ⟨rfl, .er (only_drew hP _)⟩
      · rw [if_neg (fun e => hfn e.2)] at hRR
        have hfu : funR (bareZ T) p n = .er 7 p := by unfold funR takR; rw [if_neg hfn]; rfl
        rw [hfu] at hRR
        simp only [Rz.next] at hRR
        rw [← hRR]
        have hN0 : ∀ {W : World}, IsRs W rb mb v T p 0 n → Calls Tryz.prog 108 #[.pointer (some ⟨rb, 0, none⟩), .string ⟨#[102, 110]⟩] W fun e w' => e = .returned (.bool false) ∧ ∃ k, w' = W.drewN k := fun hI => by have := nx_any hI wFn; rw [isP_f hfn] at this; exact this
        have hId := fun k => hI.drewN k
        clear hM hfM hM16 hk h16 hfn hRR
        go_wp2
        go_quiet (fail)
        go_wp2_with (go_at_call 108; ((with_reducible refine (hN0 (hId nq)).mono ?_); (rintro e w3 ⟨rfl, k, rfl⟩)))
        obtain ⟨wB, hwB⟩ : ∃ wB, wr.drewN (nq + k) = wB := ⟨_, rfl⟩
        have hIB : IsRs wB rb mb v T p 0 n := by rw [← hwB]; exact hI.drewN _
        have hOB : Only (fun j => j = rb) wr wB := by rw [← hwB]; exact only_drew (Only.refl _ _) _
        have hPB := hP.trans hOB
        have hSB := rowG_only hS hOB (by omega)
        rw [hwB]
        clear hwB
        have hF0 : Only (fun j => j = rb) wB wB.drew := ob1 rb (bdd (Below.refl _ _))
        have hFi : ∀ w', Only (fun j => j = rb) wB w' → w'.cell? ⟨w.heap.size, 0, none⟩ = some (.slice a M c) ∧ w.heap.size < w'.heap.size := fun w' hO => ⟨(rowG_only hSB hO (by omega)).1 0 (by simp), (rowG_only hSB hO (by omega)).2.2⟩
        have hIc := hIB.of (bdd (Below.refl _ _))
        refine region_F (fun w' => Only (fun j => j = rb) wB w') 5 (by kernel_rfl) ?_
        refine wpAnyF_free (i := 0) rfl (by kernel_rfl) (by kernel_rfl) (by kernel_rfl) (by decide) (fun _ _ _ _ h => h) (fun _ => hF0) (fun K hK => ?_)
        apply Exists.intro
        refine ⟨Or.inl ⟨by kernel_rfl, fun w' _ => ?_⟩, ?_⟩
        · go_simp
          try exact rfl
        go_simp
        refine hK _ ?_
        clear hK K
        refine wpAnyF_take (i := 1) rfl (by kernel_rfl) (by kernel_rfl) (by kernel_rfl) (by kernel_rfl) (by kernel_rfl) (fun _ _ _ _ h => h) hF0 (fun K hK => ?_)
        apply Exists.intro
        refine ⟨Or.inl ⟨by kernel_rfl, fun w' hf => ?_⟩, ?_⟩
        · obtain ⟨k5, kl⟩ := hFi _ hf
          go_simp
          try exact rfl
        go_simp
        refine hK _ ?_
        clear hK K
        refine wpAnyF_free (i := 2) rfl (by kernel_rfl) (by kernel_rfl) (by kernel_rfl) (by decide) (fun _ _ _ _ h => h) (fun _ => hF0) (fun K hK => ?_)
        apply Exists.intro
        refine ⟨Or.inl ⟨by kernel_rfl, fun w' _ => ?_⟩, ?_⟩
        · go_simp
          try exact rfl
        go_simp
        refine hK _ ?_
        clear hK K
        refine wpAnyF_one (k := 3) (by kernel_rfl) ?_
        refine wpOp_step rfl (fun K hK => ?_)
        go_simp
        go_at_call 110
        with_reducible refine (function_any hIc).mono ?_
        rintro e w5 ⟨hO5, hR5⟩
        rw [hfu] at hR5
        unfold Flt at hR5
        subst hR5
        exact ⟨rfl, .er (hPB.trans (hF0.trans hO5))⟩
    have e16 : ((M : Int) == 16) = false := by simp; omega
    rw [if_neg (fun e => h16 e.1)] at hRR
    have H16n := Lib.hid h16
    clear hM hfM hM16 hk h16
    go_wp2
    go_quiet (fail)
    go_wp2
    obtain ⟨wB, hwB⟩ : ∃ wB, wr.drewN nq = wB := ⟨_, rfl⟩
    have hIB : IsRs wB rb mb v T p 0 n := by rw [← hwB]; exact hI.drewN _
    have hOB : Only (fun j => j = rb) wr wB := by rw [← hwB]; exact only_drew (Only.refl _ _) _
    have hPB := hP.trans hOB
    have hsB := hOB.size
    have hSB := rowG_only hS hOB (by omega)
    have hoB := own_only hown hOB (fun j hj e => by have := own_lt hown hj; have e2 : j = rb := e; omega)
    rw [hwB]
    clear hwB hs0 hsl c0 c1 q0 q1 q2 q3
    have hF0 : Only (fun j => j = rb) wB wB.drew := ob1 rb (bdd (Below.refl _ _))
    have hFi : ∀ w', Only (fun j => j = rb) wB w' → w'.cell? ⟨w.heap.size, 0, none⟩ = some (.slice a M c) ∧ w.heap.size < w'.heap.size := fun w' hO => ⟨(rowG_only hSB hO (by omega)).1 0 (by simp), (rowG_only hSB hO (by omega)).2.2⟩
    have hIc := hIB.of (bdd (Below.refl _ _))
    refine region_F (fun w' => Only (fun j => j = rb) wB w') 5 (by kernel_rfl) ?_
    refine wpAnyF_free (i := 0) rfl (by kernel_rfl) (by kernel_rfl) (by kernel_rfl) (by decide) (fun _ _ _ _ h => h) (fun _ => hF0) (fun K hK => ?_)
    apply Exists.intro
    refine ⟨Or.inl ⟨by kernel_rfl, fun w' _ => ?_⟩, ?_⟩
    · go_simp
      try exact rfl
    go_simp
    refine hK _ ?_
    clear hK K
    refine wpAnyF_take (i := 1) rfl (by kernel_rfl) (by kernel_rfl) (by kernel_rfl) (by kernel_rfl) (by kernel_rfl) (fun _ _ _ _ h => h) hF0 (fun K hK => ?_)
    apply Exists.intro
    refine ⟨Or.inl ⟨by kernel_rfl, fun w' hf => ?_⟩, ?_⟩
    · obtain ⟨k5, kl⟩ := hFi _ hf
      go_simp
      try exact rfl
    go_simp
    refine hK _ ?_
    clear hK K
    refine wpAnyF_free (i := 2) rfl (by kernel_rfl) (by kernel_rfl) (by kernel_rfl) (by decide) (fun _ _ _ _ h => h) (fun _ => hF0) (fun K hK => ?_)
    apply Exists.intro
    refine ⟨Or.inl ⟨by kernel_rfl, fun w' _ => ?_⟩, ?_⟩
    · go_simp
      try exact rfl
    go_simp
    refine hK _ ?_
    clear hK K
    refine wpAnyF_one (k := 3) (by kernel_rfl) ?_
    refine wpOp_step rfl (fun K hK => ?_)
    go_simp
    go_at_call 110
    with_reducible refine (function_any hIc).mono ?_
    rintro e w5 ⟨hO5, hR5⟩
    have hF5 := hF0.trans hO5
    have hP5 := hPB.trans hF5
    rcases r5 : funR (bareZ T) p n with ⟨c5, q5⟩ | ⟨x5, q5, m5⟩
    · rw [r5] at hR5 hRR; unfold Flt at hR5; subst hR5; simp only [Rz.next] at hRR; exact ⟨rfl, by rw [← hRR]; exact .er hP5⟩
    rw [r5] at hR5 hRR
    simp only [Rz.next] at hRR
    obtain ⟨hI5, z5, rfl, hV5⟩ := hR5
    obtain ⟨K5, rfl, e5, hK5⟩ := vf_fx hV5
    have hs5 := hF5.size
    have hS5 := rowG_only hSB hF5 (by omega)
    have ho5 := own_only hoB hF5 (fun j hj e => by have := own_lt hoB hj; have e2 : j = rb := e; omega)
    refine hK _ _ ⟨fun _ => hF5, ?_⟩
    clear hK K
    refine wpAnyF_one (k := 4) (by kernel_rfl) ?_
    refine wpOp_step rfl (fun K hK => ?_)
    go_simp
    refine hK _ _ ⟨fun _ => (only_alloc hF5 _), ?_⟩
    clear hK K
    refine wpAnyF_one (k := 5) (by kernel_rfl) ?_
    refine wpOp_step rfl (fun K hK => ?_)
    refine step_append_lies _ rfl (.tmp 26) (.tmp 29) 22 rfl (w.heap.size + 1) 47 i0 _ 5 96 Tryz.underlying22 hi hz0 hz1 hz2 rfl (by decide) (.slice a M c) M (fxs L) rfl (ho5.alloc _) ⟨w5.heap.size, 0, none⟩ 1 1 (fxs [K5]) rfl rfl (news_ok (fxs [K5]) 47 w5) (fxs_one _) (by decide) (by have := H16.out; unfold maxLen; omega) (by have := H16.out; omega) (by simp; omega) _ rfl ?_
    intro g cap' w6 hown6 hgrow hat hlt6
    have hba : Below w5.heap.size w5 (w5.alloc (.cells #[.string (str K5.nm), .slice K5.mp K5.np K5.cp, .slice K5.mb K5.nb K5.cb, .bool K5.sec, .slice K5.mr K5.nr K5.cr] 47)) := aB (Below.refl _ _) _
    have hog := only_grown hgrow
    have hsz6 := hog.size
    simp only [World.size_alloc] at hsz6
    have hnew : ∀ j, some j = (Value.slice a M c).ownBlock → w.heap.size + 1 ≤ j := fun j hj => (own_lt hoB hj.symm).1
    have hI6 : IsRs w6 rb mb v T q5 0 m5 := h.newer (hI5.of hba) (hog.mono (fun j hj => by have := hnew j hj; omega))
    have hP6 : Only (fun j => j = rb) w w6 := (hP5.trans (ob1 rb hba)).old hog (fun j hj => .inr (by have := hnew j hj; omega))
    have hS6 := rowG_only (rowG_alloc hS5 _) hog (fun e => by have := hnew _ e; omega)
    have f0 := hS6.1 0 (by simp)
    have ff := hS6.2.1
    have fl := hS6.2.2
    refine hK _ _ ⟨fun h => (Bool.false_ne_true (h.symm.trans (by kernel_rfl))).elim, ?_⟩
    clear hK K
    refine wpAnyF_one (k := 6) (by kernel_rfl) ?_
    refine wpOp_step rfl (fun K hK => ?_)
    go_simp
    refine hK _ _ ⟨fun h => (Bool.false_ne_true (h.symm.trans (by kernel_rfl))).elim, ?_⟩
    clear hK K
    refine wpAnyF_one (k := 7) (by kernel_rfl) ?_
    refine wpOp_step rfl (fun K hK => ?_)
    go_simp
    refine hK _ _ ⟨fun h => (Bool.false_ne_true (h.symm.trans (by kernel_rfl))).elim, ?_⟩
    clear hK K
    refine wpAnyF_done (by kernel_rfl) ?_
    go_wp2
    go_roundw
    case rel =>
      obtain ⟨wC, hwC⟩ : ∃ wC, w6.setCell ⟨w.heap.size, 0, none⟩ (.slice (some ⟨g, 0, none⟩) (M + 1) cap') = wC := ⟨_, rfl⟩
      have hOC : Only (fun j => j = w.heap.size) w6 wC := by rw [← hwC]; exact os1 (or1 _ _) _ _
      have hSC : rowG #[.slice (some ⟨g, 0, none⟩) (M + 1) cap'] wC w.heap.size := by rw [← hwC]; exact r1ps0 _ hS6
      have hsC := hOC.size
      rw [hwC]
      have hall : ∀ K ∈ L ++ [K5], K.is (fun b => w.heap.size + 1 ≤ b ∧ b < (w5.alloc (.cells #[.string (str K5.nm), .slice K5.mp K5.np K5.cp, .slice K5.mb K5.nb K5.cb, .bool K5.sec, .slice K5.mr K5.nr K5.cr] 47)).heap.size ∧ ¬ (Value.slice a M c).ownBlock = some b) (w5.alloc (.cells #[.string (str K5.nm), .slice K5.mp K5.np K5.cp, .slice K5.mb K5.nb K5.cb, .bool K5.sec, .slice K5.mr K5.nr K5.cr] 47)) := fun K hK => by
        rcases List.mem_append.1 hK with h1 | h1
        · exact IsFd.mono (IsFd.of (IsFd.only (IsFd.only (HK.out K h1) hOB (fun b hb e => by have := hb.1; have e2 : b = rb := e; omega)) hF5 (fun b hb e => by have := hb.1; have e2 : b = rb := e; omega)) (aB (Below.refl _ _) _)) (fun b hb => ⟨hb.1, by have := hb.2.1; simp; omega, hb.2.2⟩)
        · obtain rfl := List.mem_singleton.1 h1
          exact IsFd.mono (IsFd.of hK5 (aB (Below.refl _ _) _)) (fun b hb => ⟨by have := hb.1; have := hF0.size; have := hSB.2.2; omega, by have := hb.2; simp; omega, fun e => by have := own_lt hoB e; have := hb.1; have := hF0.size; omega⟩)
      have hall6 := fx_append hgrow hat (by simp) _ hall (M + 1) cap'
      exact ⟨L ++ [K5], M + 1, f, q5, m5, some ⟨g, 0, none⟩, cap', by simp [HM.out], by have := H16.out; have := H16n.out; omega, by have := HF.out; omega, by rw [← hRR]; simp [e5], by rw [fxs_app]; exact own_only hown6 hOC (fun j hj e => by have := own_lt hown6 hj; have e2 : j = w.heap.size := e; omega), hSC, h.newer hI6 (hOC.mono (fun j e => by have e2 : j = w.heap.size := e; omega)), hP6.old hOC (fun j e => .inr (by have e2 : j = w.heap.size := e; omega)), Lib.hid (fun K hK => IsFd.mono (IsFd.only (hall6 K hK) hOC (fun b hb e => by have := hb.1; have e2 : b = w.heap.size := e; omega)) (fun b hb => ⟨hb.1, by have := hb.2.1; omega, hb.2.2⟩))⟩
    case measure =>
      have hc2 : (w6.setCell ⟨w.heap.size, 0, none⟩ (.slice (some ⟨g, 0, none⟩) (M + 1) cap')).cell? ⟨w.heap.size, 0, none⟩ = some (.slice (some ⟨g, 0, none⟩) (M + 1) cap') := (r1ps0 _ hS6).1 0 (by simp)
      have hc1 : wr.cell? ⟨w.heap.size, 0, none⟩ = some (.slice a M c) := hS.1 0 (by simp)
      have := H16.out
      unfold cellN
      rw [hc1, hc2]
      simp only [sliceN]
      omega
end Go.Proofs.YtfpoflddnlbpjaaGreatDoor

/- Contracts of how statements are read by their first words, and of what is deferred by read. -/
namespace Go.Proofs.YtfpoflddnlbpjaaGreatDoor
open Go.ChangeShapes Go.WideShapes Go.ChangeAt Go.RowKit
set_option linter.unusedVariables false
theorem run_ins {w : World} {mb : Nat} {es : Array MapEntry} {c : Nat} (hb : w.heap[mb]? = some (.map es c)) {s : ByteArray} {u : Value} (hf : Instr.findNow .string (.string s) es.toList 0 = some none) :
    (Instr.mapUpdate 118 (.map (some mb)) (.string s) u).run Tryz.prog w = .ok () { w with heap := w.heap.setIfInBounds mb (.map (es.push ⟨.string s, u, c⟩) (c + 1)) } := by
  have hc : (Instr.checkKey false 10000 9 (.string s)).run Tryz.prog w = .ok () w := MapKept.run_checkKey (P := Tryz.prog) (w := w) (kt := 9) (d := .string) (k := .string s) Tryz.underlying9 trivial false 9999
  have hf := MapKept.run_findKey (P := Tryz.prog) (w := w) (kt := 9) Tryz.underlying9 hf
  simp [Instr.mapUpdate, run_underlying tM, MapKept.run_getObj_map hb, hc, hf, MapKept.run_setObj_map _ hb, Result.andThen]
theorem wpList_ins {ops : Array Oper} {rest : List Oper} {o : Oper} {a : Act} {w : World} {Q : Exit → Act → World → Prop} (hg : o.guard = none) (m x v : Operand) (hop : o.op = .insert 118 m x v) (mb : Nat) (hm : a.eval m = .map (some mb)) {s : ByteArray} (hx : a.eval x = .string s) {u : Value} (hv : a.eval v = u)
    {es : Array MapEntry} {c : Nat} (hb : w.heap[mb]? = some (.map es c)) (hf : Instr.findNow .string (.string s) es.toList 0 = some none)
    (h : ∀ w', w'.heap[mb]? = some (.map (es.push ⟨.string s, u, c⟩) (c + 1)) → Only (fun j => j = mb) w w' → wpList Tryz.prog ops Q rest (a.put o.dst undef) w') : wpList Tryz.prog ops Q (o :: rest) a w := by
  refine wpList_plain hg fun K' hK' => ?_
  have hrun := run_ins (u := u) hb hf
  unfold Oper.wp
  simp [execOp, hop, hm, hx, hv, hrun, Result.andThen]
  refine hK' _ _ (h _ (MapKept.heap_set hb).1 ⟨rfl, rfl, rfl, by simp, fun j hj hn => (MapKept.heap_set hb).2 j hn⟩)
def rM (k : Nat) : Array MapEntry := (readsM.toList.take k).toArray
theorem fr0 : Instr.findNow .string (.string ⟨#[108, 101, 116]⟩) (rM 0).toList 0 = some none := by kernel_rfl
theorem pr0 : (rM 0).push ⟨.string ⟨#[108, 101, 116]⟩, (.func (.func 97) #[] #[]), 0⟩ = rM (0 + 1) := by kernel_rfl
theorem ins0 {ops : Array Oper} {rest : List Oper} {o : Oper} {a : Act} {w : World} {Q : Exit → Act → World → Prop} (hg : o.guard = none) (m : Operand) (hop : o.op = .insert 118 m (.const (.string ⟨#[108, 101, 116]⟩)) (.func 97)) (mb : Nat) (hm : a.eval m = .map (some mb)) (hb : w.heap[mb]? = some (.map (rM 0) 0))
    (h : ∀ w', w'.heap[mb]? = some (.map (rM (0 + 1)) (0 + 1)) → Only (fun j => j = mb) w w' → wpList Tryz.prog ops Q rest (a.put o.dst undef) w') : wpList Tryz.prog ops Q (o :: rest) a w :=
  wpList_ins hg m _ _ hop mb hm (s := ⟨#[108, 101, 116]⟩) rfl (u := (.func (.func 97) #[] #[])) rfl hb fr0 (fun w' h1 => h w' (by rw [pr0] at h1; exact h1))
theorem fr1 : Instr.findNow .string (.string ⟨#[98, 117, 102]⟩) (rM 1).toList 0 = some none := by kernel_rfl
theorem pr1 : (rM 1).push ⟨.string ⟨#[98, 117, 102]⟩, (.func (.func 98) #[] #[]), 1⟩ = rM (1 + 1) := by kernel_rfl
theorem ins1 {ops : Array Oper} {rest : List Oper} {o : Oper} {a : Act} {w : World} {Q : Exit → Act → World → Prop} (hg : o.guard = none) (m : Operand) (hop : o.op = .insert 118 m (.const (.string ⟨#[98, 117, 102]⟩)) (.func 98)) (mb : Nat) (hm : a.eval m = .map (some mb)) (hb : w.heap[mb]? = some (.map (rM 1) 1))
    (h : ∀ w', w'.heap[mb]? = some (.map (rM (1 + 1)) (1 + 1)) → Only (fun j => j = mb) w w' → wpList Tryz.prog ops Q rest (a.put o.dst undef) w') : wpList Tryz.prog ops Q (o :: rest) a w :=
  wpList_ins hg m _ _ hop mb hm (s := ⟨#[98, 117, 102]⟩) rfl (u := (.func (.func 98) #[] #[])) rfl hb fr1 (fun w' h1 => h w' (by rw [pr1] at h1; exact h1))
theorem fr2 : Instr.findNow .string (.string ⟨#[105, 102]⟩) (rM 2).toList 0 = some none := by kernel_rfl
theorem pr2 : (rM 2).push ⟨.string ⟨#[105, 102]⟩, (.func (.func 99) #[] #[]), 2⟩ = rM (2 + 1) := by kernel_rfl
theorem ins2 {ops : Array Oper} {rest : List Oper} {o : Oper} {a : Act} {w : World} {Q : Exit → Act → World → Prop} (hg : o.guard = none) (m : Operand) (hop : o.op = .insert 118 m (.const (.string ⟨#[105, 102]⟩)) (.func 99)) (mb : Nat) (hm : a.eval m = .map (some mb)) (hb : w.heap[mb]? = some (.map (rM 2) 2))
    (h : ∀ w', w'.heap[mb]? = some (.map (rM (2 + 1)) (2 + 1)) → Only (fun j => j = mb) w w' → wpList Tryz.prog ops Q rest (a.put o.dst undef) w') : wpList Tryz.prog ops Q (o :: rest) a w :=
  wpList_ins hg m _ _ hop mb hm (s := ⟨#[105, 102]⟩) rfl (u := (.func (.func 99) #[] #[])) rfl hb fr2 (fun w' h1 => h w' (by rw [pr2] at h1; exact h1))
theorem fr3 : Instr.findNow .string (.string ⟨#[119, 104, 105, 108, 101]⟩) (rM 3).toList 0 = some none := by kernel_rfl
theorem pr3 : (rM 3).push ⟨.string ⟨#[119, 104, 105, 108, 101]⟩, (.func (.func 100) #[] #[]), 3⟩ = rM (3 + 1) := by kernel_rfl
theorem ins3 {ops : Array Oper} {rest : List Oper} {o : Oper} {a : Act} {w : World} {Q : Exit → Act → World → Prop} (hg : o.guard = none) (m : Operand) (hop : o.op = .insert 118 m (.const (.string ⟨#[119, 104, 105, 108, 101]⟩)) (.func 100)) (mb : Nat) (hm : a.eval m = .map (some mb)) (hb : w.heap[mb]? = some (.map (rM 3) 3))
    (h : ∀ w', w'.heap[mb]? = some (.map (rM (3 + 1)) (3 + 1)) → Only (fun j => j = mb) w w' → wpList Tryz.prog ops Q rest (a.put o.dst undef) w') : wpList Tryz.prog ops Q (o :: rest) a w :=
  wpList_ins hg m _ _ hop mb hm (s := ⟨#[119, 104, 105, 108, 101]⟩) rfl (u := (.func (.func 100) #[] #[])) rfl hb fr3 (fun w' h1 => h w' (by rw [pr3] at h1; exact h1))
theorem fr4 : Instr.findNow .string (.string ⟨#[102, 111, 114]⟩) (rM 4).toList 0 = some none := by kernel_rfl
theorem pr4 : (rM 4).push ⟨.string ⟨#[102, 111, 114]⟩, (.func (.func 101) #[] #[]), 4⟩ = rM (4 + 1) := by kernel_rfl
theorem ins4 {ops : Array Oper} {rest : List Oper} {o : Oper} {a : Act} {w : World} {Q : Exit → Act → World → Prop} (hg : o.guard = none) (m : Operand) (hop : o.op = .insert 118 m (.const (.string ⟨#[102, 111, 114]⟩)) (.func 101)) (mb : Nat) (hm : a.eval m = .map (some mb)) (hb : w.heap[mb]? = some (.map (rM 4) 4))
    (h : ∀ w', w'.heap[mb]? = some (.map (rM (4 + 1)) (4 + 1)) → Only (fun j => j = mb) w w' → wpList Tryz.prog ops Q rest (a.put o.dst undef) w') : wpList Tryz.prog ops Q (o :: rest) a w :=
  wpList_ins hg m _ _ hop mb hm (s := ⟨#[102, 111, 114]⟩) rfl (u := (.func (.func 101) #[] #[])) rfl hb fr4 (fun w' h1 => h w' (by rw [pr4] at h1; exact h1))
theorem fr5 : Instr.findNow .string (.string ⟨#[118, 105, 101, 119]⟩) (rM 5).toList 0 = some none := by kernel_rfl
theorem pr5 : (rM 5).push ⟨.string ⟨#[118, 105, 101, 119]⟩, (.func (.func 102) #[] #[]), 5⟩ = rM (5 + 1) := by kernel_rfl
theorem ins5 {ops : Array Oper} {rest : List Oper} {o : Oper} {a : Act} {w : World} {Q : Exit → Act → World → Prop} (hg : o.guard = none) (m : Operand) (hop : o.op = .insert 118 m (.const (.string ⟨#[118, 105, 101, 119]⟩)) (.func 102)) (mb : Nat) (hm : a.eval m = .map (some mb)) (hb : w.heap[mb]? = some (.map (rM 5) 5))
    (h : ∀ w', w'.heap[mb]? = some (.map (rM (5 + 1)) (5 + 1)) → Only (fun j => j = mb) w w' → wpList Tryz.prog ops Q rest (a.put o.dst undef) w') : wpList Tryz.prog ops Q (o :: rest) a w :=
  wpList_ins hg m _ _ hop mb hm (s := ⟨#[118, 105, 101, 119]⟩) rfl (u := (.func (.func 102) #[] #[])) rfl hb fr5 (fun w' h1 => h w' (by rw [pr5] at h1; exact h1))
theorem fr6 : Instr.findNow .string (.string ⟨#[101, 100, 105, 116]⟩) (rM 6).toList 0 = some none := by kernel_rfl
theorem pr6 : (rM 6).push ⟨.string ⟨#[101, 100, 105, 116]⟩, (.func (.func 103) #[] #[]), 6⟩ = rM (6 + 1) := by kernel_rfl
theorem ins6 {ops : Array Oper} {rest : List Oper} {o : Oper} {a : Act} {w : World} {Q : Exit → Act → World → Prop} (hg : o.guard = none) (m : Operand) (hop : o.op = .insert 118 m (.const (.string ⟨#[101, 100, 105, 116]⟩)) (.func 103)) (mb : Nat) (hm : a.eval m = .map (some mb)) (hb : w.heap[mb]? = some (.map (rM 6) 6))
    (h : ∀ w', w'.heap[mb]? = some (.map (rM (6 + 1)) (6 + 1)) → Only (fun j => j = mb) w w' → wpList Tryz.prog ops Q rest (a.put o.dst undef) w') : wpList Tryz.prog ops Q (o :: rest) a w :=
  wpList_ins hg m _ _ hop mb hm (s := ⟨#[101, 100, 105, 116]⟩) rfl (u := (.func (.func 103) #[] #[])) rfl hb fr6 (fun w' h1 => h w' (by rw [pr6] at h1; exact h1))
theorem fr7 : Instr.findNow .string (.string ⟨#[109, 111, 118, 101]⟩) (rM 7).toList 0 = some none := by kernel_rfl
theorem pr7 : (rM 7).push ⟨.string ⟨#[109, 111, 118, 101]⟩, (.func (.func 104) #[] #[]), 7⟩ = rM (7 + 1) := by kernel_rfl
theorem ins7 {ops : Array Oper} {rest : List Oper} {o : Oper} {a : Act} {w : World} {Q : Exit → Act → World → Prop} (hg : o.guard = none) (m : Operand) (hop : o.op = .insert 118 m (.const (.string ⟨#[109, 111, 118, 101]⟩)) (.func 104)) (mb : Nat) (hm : a.eval m = .map (some mb)) (hb : w.heap[mb]? = some (.map (rM 7) 7))
    (h : ∀ w', w'.heap[mb]? = some (.map (rM (7 + 1)) (7 + 1)) → Only (fun j => j = mb) w w' → wpList Tryz.prog ops Q rest (a.put o.dst undef) w') : wpList Tryz.prog ops Q (o :: rest) a w :=
  wpList_ins hg m _ _ hop mb hm (s := ⟨#[109, 111, 118, 101]⟩) rfl (u := (.func (.func 104) #[] #[])) rfl hb fr7 (fun w' h1 => h w' (by rw [pr7] at h1; exact h1))
theorem fr8 : Instr.findNow .string (.string ⟨#[111, 112, 101, 110]⟩) (rM 8).toList 0 = some none := by kernel_rfl
theorem pr8 : (rM 8).push ⟨.string ⟨#[111, 112, 101, 110]⟩, (.func (.func 105) #[] #[]), 8⟩ = rM (8 + 1) := by kernel_rfl
theorem ins8 {ops : Array Oper} {rest : List Oper} {o : Oper} {a : Act} {w : World} {Q : Exit → Act → World → Prop} (hg : o.guard = none) (m : Operand) (hop : o.op = .insert 118 m (.const (.string ⟨#[111, 112, 101, 110]⟩)) (.func 105)) (mb : Nat) (hm : a.eval m = .map (some mb)) (hb : w.heap[mb]? = some (.map (rM 8) 8))
    (h : ∀ w', w'.heap[mb]? = some (.map (rM (8 + 1)) (8 + 1)) → Only (fun j => j = mb) w w' → wpList Tryz.prog ops Q rest (a.put o.dst undef) w') : wpList Tryz.prog ops Q (o :: rest) a w :=
  wpList_ins hg m _ _ hop mb hm (s := ⟨#[111, 112, 101, 110]⟩) rfl (u := (.func (.func 105) #[] #[])) rfl hb fr8 (fun w' h1 => h w' (by rw [pr8] at h1; exact h1))
theorem fr9 : Instr.findNow .string (.string ⟨#[99, 97, 108, 108]⟩) (rM 9).toList 0 = some none := by kernel_rfl
theorem pr9 : (rM 9).push ⟨.string ⟨#[99, 97, 108, 108]⟩, (.func (.func 106) #[] #[]), 9⟩ = rM (9 + 1) := by kernel_rfl
theorem ins9 {ops : Array Oper} {rest : List Oper} {o : Oper} {a : Act} {w : World} {Q : Exit → Act → World → Prop} (hg : o.guard = none) (m : Operand) (hop : o.op = .insert 118 m (.const (.string ⟨#[99, 97, 108, 108]⟩)) (.func 106)) (mb : Nat) (hm : a.eval m = .map (some mb)) (hb : w.heap[mb]? = some (.map (rM 9) 9))
    (h : ∀ w', w'.heap[mb]? = some (.map (rM (9 + 1)) (9 + 1)) → Only (fun j => j = mb) w w' → wpList Tryz.prog ops Q rest (a.put o.dst undef) w') : wpList Tryz.prog ops Q (o :: rest) a w :=
  wpList_ins hg m _ _ hop mb hm (s := ⟨#[99, 97, 108, 108]⟩) rfl (u := (.func (.func 106) #[] #[])) rfl hb fr9 (fun w' h1 => h w' (by rw [pr9] at h1; exact h1))
theorem fr10 : Instr.findNow .string (.string ⟨#[115, 101, 97, 108]⟩) (rM 10).toList 0 = some none := by kernel_rfl
theorem pr10 : (rM 10).push ⟨.string ⟨#[115, 101, 97, 108]⟩, (.func (.func 107) #[] #[]), 10⟩ = rM (10 + 1) := by kernel_rfl
theorem ins10 {ops : Array Oper} {rest : List Oper} {o : Oper} {a : Act} {w : World} {Q : Exit → Act → World → Prop} (hg : o.guard = none) (m : Operand) (hop : o.op = .insert 118 m (.const (.string ⟨#[115, 101, 97, 108]⟩)) (.func 107)) (mb : Nat) (hm : a.eval m = .map (some mb)) (hb : w.heap[mb]? = some (.map (rM 10) 10))
    (h : ∀ w', w'.heap[mb]? = some (.map (rM (10 + 1)) (10 + 1)) → Only (fun j => j = mb) w w' → wpList Tryz.prog ops Q rest (a.put o.dst undef) w') : wpList Tryz.prog ops Q (o :: rest) a w :=
  wpList_ins hg m _ _ hop mb hm (s := ⟨#[115, 101, 97, 108]⟩) rfl (u := (.func (.func 107) #[] #[])) rfl hb fr10 (fun w' h1 => h w' (by rw [pr10] at h1; exact h1))
theorem run_mk (w : World) : (Instr.makeMap 118 none).run Tryz.prog w = .ok (.map (some w.heap.size)) (w.alloc (.map #[] 0)) := by kernel_rfl
set_option maxRecDepth 100000 in
set_option maxHeartbeats 4000000 in
theorem reads_any (w : World) : Calls Tryz.prog 62 #[] w fun e w' => e = .returned (.map (some w.heap.size)) ∧ w'.heap[w.heap.size]? = some (.map readsM 11) ∧ Below w.heap.size w w' := by
  have hm : (w.alloc (.map #[] 0)).heap[w.heap.size]? = some (.map (rM 0) 0) := by show (w.heap.push _)[w.heap.size]? = _; simp [rM]
  have hA : Only (fun j => j = w.heap.size) (w.alloc (.map #[] 0)) (w.alloc (.map #[] 0)) := Only.refl _ _
  have hmk := run_mk w
  go_enter Tryz.func62, Tryz.ntmps62
  go_wp2_with (first
    | (with_reducible refine ins0 rfl _ rfl (w.heap.size) rfl hm ?_; intro w1 hm2 hO; replace hA := hA.trans hO; clear hm; have hm := hm2; clear hm2 hO)
    | (with_reducible refine ins1 rfl _ rfl (w.heap.size) rfl hm ?_; intro w2 hm2 hO; replace hA := hA.trans hO; clear hm; have hm := hm2; clear hm2 hO)
    | (with_reducible refine ins2 rfl _ rfl (w.heap.size) rfl hm ?_; intro w3 hm2 hO; replace hA := hA.trans hO; clear hm; have hm := hm2; clear hm2 hO)
    | (with_reducible refine ins3 rfl _ rfl (w.heap.size) rfl hm ?_; intro w4 hm2 hO; replace hA := hA.trans hO; clear hm; have hm := hm2; clear hm2 hO)
    | (with_reducible refine ins4 rfl _ rfl (w.heap.size) rfl hm ?_; intro w5 hm2 hO; replace hA := hA.trans hO; clear hm; have hm := hm2; clear hm2 hO)
    | (with_reducible refine ins5 rfl _ rfl (w.heap.size) rfl hm ?_; intro w6 hm2 hO; replace hA := hA.trans hO; clear hm; have hm := hm2; clear hm2 hO)
    | (with_reducible refine ins6 rfl _ rfl (w.heap.size) rfl hm ?_; intro w7 hm2 hO; replace hA := hA.trans hO; clear hm; have hm := hm2; clear hm2 hO)
    | (with_reducible refine ins7 rfl _ rfl (w.heap.size) rfl hm ?_; intro w8 hm2 hO; replace hA := hA.trans hO; clear hm; have hm := hm2; clear hm2 hO)
    | (with_reducible refine ins8 rfl _ rfl (w.heap.size) rfl hm ?_; intro w9 hm2 hO; replace hA := hA.trans hO; clear hm; have hm := hm2; clear hm2 hO)
    | (with_reducible refine ins9 rfl _ rfl (w.heap.size) rfl hm ?_; intro w10 hm2 hO; replace hA := hA.trans hO; clear hm; have hm := hm2; clear hm2 hO)
    | (with_reducible refine ins10 rfl _ rfl (w.heap.size) rfl hm ?_; intro w11 hm2 hO; replace hA := hA.trans hO; clear hm; have hm := hm2; clear hm2 hO)
    )
  go_ret
  exact ⟨rfl, hm, (aB (Below.refl _ _) (.map #[] 0)).trans (hA.below (fun j hj => Nat.le_of_eq hj.symm) (by simp))⟩
end Go.Proofs.YtfpoflddnlbpjaaGreatDoor

/- Contracts of read, and of Parse. -/
namespace Go.Proofs.YtfpoflddnlbpjaaGreatDoor
open Go.ChangeShapes Go.WideShapes Go.ChangeAt Go.RowKit
set_option linter.unusedVariables false
theorem run_asE (v : Value) (w : World) : (Instr.typeAssert (.iface 36 v) 20 32 false).run Tryz.prog w = .ok (.iface 36 v) w := by kernel_rfl
set_option maxRecDepth 100000 in
theorem catch_p (p : Addr) (old v : Value) (older : List PanicEntry) (w : World) (hc : w.cell? p = some old) (hz : w.frozen? p = false) :
    CallsD Tryz.prog 61 #[.pointer (some p)] (.panicking ({ v := .iface 36 v, recovered := false } :: older)) w fun e u' w' => e = .returned (.tuple #[]) ∧ u' = .panicking ({ v := .iface 36 v, recovered := true } :: older) ∧ w' = w.setCell p (.iface 36 v) := by
  have hA := run_asE v
  refine callsD_of_wpS Tryz.func61 rfl fun c₀ cs hu => ?_
  apply wpS_seq
  apply wpS_region
  simp [wpOpsS, go_sem, recoverD, hu, Tryz.ntmps61, Exit.thenS]
  apply wpS_seq
  apply wpS_region
  simp [wpOpsS, go_sem, Exit.thenS]
  refine wpS_cond (t := true) (by simp [Act.eval, Array.replicate]) ?_
  simp only [if_true]
  apply wpS_region
  simp [wpOpsS, go_sem, hA, hc, hz, bodyPostS, results, Tryz.results61]
set_option maxRecDepth 100000 in
theorem catch_i (p : Addr) (w : World) : CallsD Tryz.prog 61 #[.pointer (some p)] .returning w fun e u' w' => e = .returned (.tuple #[]) ∧ u' = .returning ∧ w' = w := by
  refine callsD_of_wpS Tryz.func61 rfl fun c₀ cs hu => ?_
  apply wpS_seq
  apply wpS_region
  simp [wpOpsS, go_sem, recoverD, hu, Tryz.ntmps61, Exit.thenS]
  apply wpS_seq
  apply wpS_region
  simp [wpOpsS, go_sem, Exit.thenS]
  refine wpS_cond (t := false) (by simp [Act.eval, Array.replicate]) ?_
  simp only [Bool.false_eq_true, if_false]
  refine wpS_of_wp (wp_skip ?_)
  cases c₀
  simp_all [bodyPostS, results, Tryz.results61]
def RdPg (w : World) (T : List (Tk × Int)) (r : Rz (List Fd)) (e : Ending) (w' : World) : Prop := Below w.heap.size w w' ∧ match r with
  | .er c q => e = .returned (.tuple #[.agg #[.slice none 0 0], .iface 36 (.agg #[.int .i64 (placeZ T (q : Int)), .int .i64 (c : Int)])])
  | .ok l _ _ => ∃ ma cap, e = .returned (.tuple #[.agg #[.slice ma l.length cap], .nilIface]) ∧ l.length ≤ 16 ∧ FdsAt (fun b => w.heap.size ≤ b ∧ b < w'.heap.size) w' l ma
theorem rs_new {w w1 : World} {v : Value} {T : List (Tk × Int)} {mb : Nat} (hv : RowZ w v T) (hl : T.length ≤ 16385) (hpos : 0 < T.length) (hfin : ∃ a, T[T.length - 1]? = some (⟨5, [], 0⟩, a)) (hT : Tb w) (hb : Below w.heap.size w w1) (hmp : w1.heap[mb]? = some (.map readsM 11)) :
    IsRs (w1.alloc (.cells #[v, .int .i64 0, .map (some mb), .int .i64 0, .int .i64 0] 121)) w1.heap.size mb v T 0 0 0 := by
  have hbb := hb.alloc hb.size (.cells #[v, .int .i64 0, .map (some mb), .int .i64 0, .int .i64 0] 121)
  have hml : mb < w1.heap.size := by
    rcases Nat.lt_or_ge mb w1.heap.size with hh | hh
    · exact hh
    · rw [Array.getElem?_eq_none hh] at hmp; cases hmp
  exact { c0 := new_cell w1 _ _ 0, c1 := new_cell w1 _ _ 1, c2 := new_cell w1 _ _ 2, c3 := new_cell w1 _ _ 3, c4 := new_cell w1 _ _ 4, f := (fun k => new_frozen w1 _ _ k), row := hv.of hbb, ne := (fun e => by have := hv.ob_lt e; have := hb.size; omega), mp := (by rw [← hmp]; exact (aB (Below.refl w1.heap.size w1) _).block mb hml), nm := (by omega), len := hl, lt := hpos, fin := hfin, hd := (by omega), hn := (by omega), ng := (fun e => by have := hT.lt e; have := hb.size; omega), tb := hT.of hbb }
set_option maxRecDepth 100000 in
set_option maxHeartbeats 4000000 in
theorem rdg_er {w : World} {v : Value} {T : List (Tk × Int)} (hv : RowZ w v T) (hl : T.length ≤ 16385) (hpos : 0 < T.length) (hfin : ∃ a, T[T.length - 1]? = some (⟨5, [], 0⟩, a)) (hT : Tb w) {c q : Nat} (hr : proR (bareZ T) = .er c q) :
    Calls Tryz.prog 32 #[v] w (RdPg w T (.er c q)) := by
  have hmf : ∀ (fn : Fn) (first cap : Array Value) (w : World), (Instr.makeFunc fn first cap).run Tryz.prog w = .ok (.func fn first cap) w := fun _ _ _ _ => rfl
  obtain ⟨mv, cv, rfl⟩ : ∃ mv c, v = .slice mv T.length c := by
    obtain ⟨mv, c, h, -⟩ := hv.row
    exact ⟨mv, c, h⟩
  obtain ⟨W, hW⟩ : ∃ W, (w.alloc (.cells #[.slice none 0 0] 24)).alloc (.cells #[.nilIface] 32) = W := ⟨_, rfl⟩
  have hBW : Below w.heap.size w W := by rw [← hW]; exact aB (aB (Below.refl _ _) _) _
  have hsW : W.heap.size = w.heap.size + 2 := by rw [← hW]; simp
  have hrP : rowG #[.slice none 0 0] W w.heap.size := by rw [← hW]; exact rowG_alloc (rowG_at _ _ _ _ rfl) _
  have hrE : rowG #[.nilIface] W (w.heap.size + 1) := by rw [← hW]; exact rowG_at _ _ _ _ (by simp)
  have hRs := reads_any W
  go_enter_defers Tryz.func32, Tryz.ntmps32
  go_wp2_with first
    | (go_at_call 62; (with_reducible refine hRs.mono ?_); (rintro e w1 ⟨rfl, hmp, hb1⟩); (rw [hsW] at hmp); (have hB1 := hBW.trans (hb1.mono hBW.size)); (have hs1 := hb1.size); (have hP1 := rowG_b hrP hb1); (have hE1 := rowG_b hrE hb1); (have hI := rs_new hv hl hpos hfin hT hB1 hmp))
    | (go_at_call 63; ((with_reducible refine (program_any hI).mono ?_); (rintro e w2 ⟨hO2, hR2⟩); (rw [hr] at hR2); (have hP2 := rowG_only (rowG_alloc hP1 _) hO2 (fun e => by omega)); (have hE2 := rowG_only (rowG_alloc hE1 _) hO2 (fun e => by omega)); (have hs2 := hO2.size); (have hb2 : Below w.heap.size w w2 := (hB1.alloc hB1.size _).trans (hO2.below (B := w.heap.size) (fun j hj => by omega) (by simp; omega))); (have cP : w2.cell? ⟨w.heap.size, 0, none⟩ = some (.slice none 0 0) := hP2.1 0 (by simp)); (have fP : w2.frozen? ⟨w.heap.size, 0, none⟩ = false := hP2.2.1 0); (have cE : w2.cell? ⟨w.heap.size + 1, 0, none⟩ = some .nilIface := hE2.1 0 (by simp)); (have fE : w2.frozen? ⟨w.heap.size + 1, 0, none⟩ = false := hE2.2.1 0); (replace hR2 : e = Flt T c q := hR2; unfold Flt at hR2; subst hR2)))
  try simp only [bodyPostD]
  refine leaves_cons (f := 61) (args := #[.pointer (some ⟨w.heap.size + 1, 0, none⟩)]) (by simp) (by simp [go_sem]) ?_
  refine (catch_p ⟨w.heap.size + 1, 0, none⟩ .nilIface _ [] _ cE fE).mono ?_
  rintro e u' w'' ⟨rfl, rfl, rfl⟩
  simp [Leaves, settle, results, Tryz.results32, go_sem, cP, cE]
  exact ⟨(hb2.setCell (Nat.le_succ _) _), rfl⟩
set_option maxRecDepth 100000 in
set_option maxHeartbeats 4000000 in
theorem rdg_ok {w : World} {v : Value} {T : List (Tk × Int)} (hv : RowZ w v T) (hl : T.length ≤ 16385) (hpos : 0 < T.length) (hfin : ∃ a, T[T.length - 1]? = some (⟨5, [], 0⟩, a)) (hT : Tb w) {l : List Fd} {q m : Nat} (hr : proR (bareZ T) = .ok l q m) :
    Calls Tryz.prog 32 #[v] w (RdPg w T (.ok l q m)) := by
  have hmf : ∀ (fn : Fn) (first cap : Array Value) (w : World), (Instr.makeFunc fn first cap).run Tryz.prog w = .ok (.func fn first cap) w := fun _ _ _ _ => rfl
  obtain ⟨mv, cv, rfl⟩ : ∃ mv c, v = .slice mv T.length c := by
    obtain ⟨mv, c, h, -⟩ := hv.row
    exact ⟨mv, c, h⟩
  obtain ⟨W, hW⟩ : ∃ W, (w.alloc (.cells #[.slice none 0 0] 24)).alloc (.cells #[.nilIface] 32) = W := ⟨_, rfl⟩
  have hBW : Below w.heap.size w W := by rw [← hW]; exact aB (aB (Below.refl _ _) _) _
  have hsW : W.heap.size = w.heap.size + 2 := by rw [← hW]; simp
  have hrP : rowG #[.slice none 0 0] W w.heap.size := by rw [← hW]; exact rowG_alloc (rowG_at _ _ _ _ rfl) _
  have hrE : rowG #[.nilIface] W (w.heap.size + 1) := by rw [← hW]; exact rowG_at _ _ _ _ (by simp)
  have hRs := reads_any W
  go_enter_defers Tryz.func32, Tryz.ntmps32
  go_wp2_with first
    | (go_at_call 62; (with_reducible refine hRs.mono ?_); (rintro e w1 ⟨rfl, hmp, hb1⟩); (rw [hsW] at hmp); (have hB1 := hBW.trans (hb1.mono hBW.size)); (have hs1 := hb1.size); (have hP1 := rowG_b hrP hb1); (have hE1 := rowG_b hrE hb1); (have hI := rs_new hv hl hpos hfin hT hB1 hmp))
    | (go_at_call 63; ((with_reducible refine (program_any hI).mono ?_); (rintro e w2 ⟨hO2, hR2⟩); (rw [hr] at hR2); (have hP2 := rowG_only (rowG_alloc hP1 _) hO2 (fun e => by omega)); (have hE2 := rowG_only (rowG_alloc hE1 _) hO2 (fun e => by omega)); (have hs2 := hO2.size); (have hb2 : Below w.heap.size w w2 := (hB1.alloc hB1.size _).trans (hO2.below (B := w.heap.size) (fun j hj => by omega) (by simp; omega))); (have cP : w2.cell? ⟨w.heap.size, 0, none⟩ = some (.slice none 0 0) := hP2.1 0 (by simp)); (have fP : w2.frozen? ⟨w.heap.size, 0, none⟩ = false := hP2.2.1 0); (have cE : w2.cell? ⟨w.heap.size + 1, 0, none⟩ = some .nilIface := hE2.1 0 (by simp)); (have fE : w2.frozen? ⟨w.heap.size + 1, 0, none⟩ = false := hE2.2.1 0); (obtain ⟨hI2, u, rfl, ma, cap, rfl, hl16, hF⟩ := hR2)))
  try simp only [bodyPostD]
  refine leaves_cons (f := 61) (args := #[.pointer (some ⟨w.heap.size + 1, 0, none⟩)]) (by simp) (by simp [go_sem]) ?_
  refine (catch_i ⟨w.heap.size + 1, 0, none⟩ _).mono ?_
  rintro e u' w'' ⟨rfl, rfl, rfl⟩
  simp [Leaves, settle, results, Tryz.results32, go_sem, cP, cE]
  rw [World.size_alloc] at hs2
  refine ⟨(hb2.setCell (Nat.le_refl _) _).setCell (Nat.le_succ _) _, ma, cap, rfl, hl16, ?_⟩
  refine (hF.only (S := fun j => j = w.heap.size ∨ j = w.heap.size + 1) (only_set (only_set (Only.refl _ w2) _ _ _ (Or.inl rfl)) _ _ _ (Or.inr rfl)) (fun b h => by rw [World.size_alloc] at h; omega)).mono (fun b h => ⟨by rw [World.size_alloc] at h; omega, by simpa using h.2⟩)
theorem rdg_any {w : World} {v : Value} {T : List (Tk × Int)} (hv : RowZ w v T) (hl : T.length ≤ 16385) (hpos : 0 < T.length) (hfin : ∃ a, T[T.length - 1]? = some (⟨5, [], 0⟩, a)) (hT : Tb w) :
    Calls Tryz.prog 32 #[v] w (RdPg w T (proR (bareZ T))) := by
  rcases hr : proR (bareZ T) with ⟨c, q⟩ | ⟨l, q, m⟩
  · exact rdg_er hv hl hpos hfin hT hr
  · exact rdg_ok hv hl hpos hfin hT hr
end Go.Proofs.YtfpoflddnlbpjaaGreatDoor
