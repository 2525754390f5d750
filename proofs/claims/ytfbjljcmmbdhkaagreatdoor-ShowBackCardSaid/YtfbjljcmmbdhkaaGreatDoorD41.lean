/- Contracts of the reader of programs: calls. -/
import Derived.Test.YtfbjljcmmbdhkaaGreatDoorD39
import Derived.Test.YtfbjljcmmbdhkaaGreatDoorD01
import Derived.Test.YtfbjljcmmbdhkaaGreatDoorD37
namespace Go.Proofs.YtfbjljcmmbdhkaaGreatDoor
set_option linter.unusedVariables false
set_option linter.unusedSimpArgs false
set_option maxRecDepth 100000
set_option maxHeartbeats 200000000
open Go.ChangeShapes Go.WideShapes Go.ChangeAt Go.RowKit
theorem call_er {w : World} {rb mb : Nat} {v : Value} {T : List (Tk × Int)} {p d n : Nat} (h : IsRs w rb mb v T p d n) (c q : Nat) (r1 : namR (zQb T) p n = .er c q) :
 Calls Tryz.prog 110 #[.pointer (some ⟨rb, 0, none⟩)] w (RP VS w rb mb v T d (.er c q)) := by
 go_enter Tryz.func110, Tryz.ntmps110
 go_wp2_with (go_at_call 138; ((with_reducible refine (zXw (h.newer h (zQc (Only.refl _ _) _))).mono ?_); (rintro e w1 ⟨hO1, hR1⟩); (rw [r1] at hR1); (unfold Flt at hR1); (subst hR1)))
 exact ⟨rfl, .er ((ob1 rb (aB (Below.refl _ _) _)).trans hO1)⟩
theorem call_f {w : World} {rb mb : Nat} {v : Value} {T : List (Tk × Int)} {p d n : Nat} (h : IsRs w rb mb v T p d n) (x1 : List UInt8) (q1 m1 : Nat) (r1 : namR (zQb T) p n = .ok x1 q1 m1) (hc : ¬ txt (zQb T) q1 = [61]) :
 Calls Tryz.prog 110 #[.pointer (some ⟨rb, 0, none⟩)] w (RP VS w rb mb v T d (argR (zQb T) [] x1 q1 m1)) := by
 have hrl := h.rl
 have hHt : ∀ {W : World}, IsRs W rb mb v T q1 d m1 → Calls Tryz.prog 137 #[.pointer (some ⟨rb, 0, none⟩), .string ⟨#[61]⟩] W fun e w' => e = .returned (.bool false) ∧ Only (fun j => j = rb) W w' ∧ IsRs w' rb mb v T q1 d m1 := fun h => by have := zXd h [61] (by decide); rw [yJe hc, yKo hc] at this; exact this
 have hT1 : ∀ {W : World} {p n : Nat}, IsRs W rb mb v T p d n → Calls Tryz.prog 140 #[.pointer (some ⟨rb, 0, none⟩), .string ⟨#[40]⟩] W (RP VU W rb mb v T d (takR (zQb T) [40] p n)) := fun h => zXl h [40] (by decide)
 have hT2 : ∀ {W : World} {p n : Nat}, IsRs W rb mb v T p d n → Calls Tryz.prog 140 #[.pointer (some ⟨rb, 0, none⟩), .string ⟨#[59]⟩] W (RP VU W rb mb v T d (takR (zQb T) [59] p n)) := fun h => zXl h [59] (by decide)
 have hLx : ∀ {W : World} {p n : Nat}, IsRs W rb mb v T p d n → Calls Tryz.prog 144 #[.pointer (some ⟨rb, 0, none⟩), .func (.func 141) #[] #[], .string ⟨#[59]⟩] W (RP VXs W rb mb v T d (lisR (zQb T) (expR (zQb T)) [59] p n)) := fun h => xQb h [59] (by decide)
 have hLn : ∀ {W : World} {p n : Nat}, IsRs W rb mb v T p d n → Calls Tryz.prog 145 #[.pointer (some ⟨rb, 0, none⟩), .func (.func 138) #[] #[], .string ⟨#[41]⟩] W (RP VA W rb mb v T d (lisR (zQb T) (namR (zQb T)) [41] p n)) := fun h => xQc h [41] (by decide)
 unfold argR
 go_enter Tryz.func110, Tryz.ntmps110
 go_wp2_with (first
  | (go_at_call 138; ((with_reducible refine (zXw (h.newer h (zQc (Only.refl _ _) _))).mono ?_); (rintro e w1 ⟨hO1, hR1⟩); (have hP1 : Only (fun j => j = rb) w w1 := ((Only.refl _ _).old (zQc (Only.refl _ _) _) (fun j hj => .inr hj)).trans hO1); (have hs1 := hO1.size); (simp only [World.size_alloc] at hs1); (have hZ1 := zQa (zQf _ _ _ (w.heap.size) (by simp)) hO1 (by omega)); (rw [r1] at hR1); (obtain ⟨hI1, z1, rfl, hV1⟩ := hR1); (unfold VN at hV1; subst hV1)))
  | (go_at_call 137; ((with_reducible refine (hHt (h.newer hI1 (zQc (Only.refl _ _) _))).mono ?_); (rintro e w2 ⟨rfl, hO2, hI2⟩); (have hP2 : Only (fun j => j = rb) w w2 := (hP1.old (zQc (Only.refl _ _) _) (fun j hj => .inr hj)).trans hO2); (have hs2 := hO2.size); (simp only [World.size_alloc] at hs2); (have hZ2 := zQa (zQj hZ1 _) hO2 (by omega)); (have hS2 := zQa (zQf _ _ _ (w1.heap.size) (by simp)) hO2 (by omega))))
  | (go_at_call 140; ((with_reducible refine (hT1 hI2).mono ?_); (rintro e w3 ⟨hO3, hR3⟩); (have hP3 := hP2.trans hO3); (have hs3 := hO3.size); (have hZ3 := zQa hZ2 hO3 (by omega)); (have hS3 := zQa hS2 hO3 (by omega)); (rcases r3 : takR (zQb T) [40] q1 m1 with ⟨c3, q3⟩ | ⟨x3, q3, m3⟩) <;> (rw [r3] at hR3; first | (unfold Flt at hR3; subst hR3) | (obtain ⟨hI3, z3, rfl, hV3⟩ := hR3; (unfold VU at hV3; subst hV3)))))
  | (go_at_call 144; ((with_reducible refine (hLx hI3).mono ?_); (rintro e w4 ⟨hO4, hR4⟩); (have hP4 := hP3.trans hO4); (have hs4 := hO4.size); (have hZ4 := zQa hZ3 hO4 (by omega)); (have hS4 := zQa hS3 hO4 (by omega)); (rcases r4 : lisR (zQb T) (expR (zQb T)) [59] q3 m3 with ⟨c4, q4⟩ | ⟨x4, q4, m4⟩) <;> (rw [r4] at hR4; first | (unfold Flt at hR4; subst hR4) | (obtain ⟨hI4, z4, rfl, hV4⟩ := hR4; (obtain ⟨mk4, cap4, rfl, hL4, hE4⟩ := hV4); (have fS5_4 := hS4.1 5 (by simp)); (have ffS_4 := hS4.2.1); (have flS_4 := hS4.2.2)))))
  | (go_at_call 145; ((with_reducible refine (hLn (h.newer hI4 (zQi (Only.refl _ _) _ _ _ (by omega)))).mono ?_); (rintro e w5 ⟨hO5, hR5⟩); (have hP5 : Only (fun j => j = rb) w w5 := (hP4.old (zQi (Only.refl _ _) _ _ _ (by omega)) (fun j hj => .inr hj)).trans hO5); (have hs5 := hO5.size); (simp only [World.size_setCell] at hs5); (have hZ5 := zQa (zQm _ hZ4 (by omega)) hO5 (by omega)); (have hS5 := zQa (r9s5 (.slice mk4 x4.length cap4) hS4) hO5 (by omega)); (have hE4_5 := ((hE4.only (os1 (or1 (w1.heap.size) _) 5 (.slice mk4 x4.length cap4)) (fun b hb e => by simp at *; omega))).only hO5 (fun b hb e => by simp at *; omega)); (rcases r5 : lisR (zQb T) (namR (zQb T)) [41] q4 m4 with ⟨c5, q5⟩ | ⟨x5, q5, m5⟩) <;> (rw [r5] at hR5; first | (unfold Flt at hR5; subst hR5) | (obtain ⟨hI5, z5, rfl, hV5⟩ := hR5; (obtain ⟨mk5, cap5, rfl, hL5, hE5⟩ := hV5); (have fS6_5 := hS5.1 6 (by simp)); (have ffS_5 := hS5.2.1); (have flS_5 := hS5.2.2)))))
  | (go_at_call 140; ((with_reducible refine (hT2 (h.newer hI5 (zQi (Only.refl _ _) _ _ _ (by omega)))).mono ?_); (rintro e w6 ⟨hO6, hR6⟩); (have hP6 : Only (fun j => j = rb) w w6 := (hP5.old (zQi (Only.refl _ _) _ _ _ (by omega)) (fun j hj => .inr hj)).trans hO6); (have hs6 := hO6.size); (simp only [World.size_setCell] at hs6); (have hZ6 := zQa (zQm _ hZ5 (by omega)) hO6 (by omega)); (have hS6 := zQa (r9s6 (.slice mk5 x5.length cap5) hS5) hO6 (by omega)); (have hE4_6 := ((hE4_5.only (os1 (or1 (w1.heap.size) _) 6 (.slice mk5 x5.length cap5)) (fun b hb e => by simp at *; omega))).only hO6 (fun b hb e => by simp at *; omega)); (have hE5_6 := ((hE5.only (os1 (or1 (w1.heap.size) _) 6 (.slice mk5 x5.length cap5)) (fun b hb e => by simp at *; omega))).only hO6 (fun b hb e => by simp at *; omega)); (rcases r6 : takR (zQb T) [59] q5 m5 with ⟨c6, q6⟩ | ⟨x6, q6, m6⟩) <;> (rw [r6] at hR6; first | (unfold Flt at hR6; subst hR6) | (obtain ⟨hI6, z6, rfl, hV6⟩ := hR6; (unfold VU at hV6; subst hV6)))))
  | (with_reducible refine ld9 rfl _ rfl (w1.heap.size) rfl (show rowG #[.int .u8 11, .string ⟨#[]⟩, .string (str x1), .bool false, .bool false, .slice mk4 x4.length cap4, .slice mk5 x5.length cap5, .slice none 0 0, .slice none 0 0] _ _ from hS6) ?_)
  | (with_reducible refine st9 rfl _ _ rfl (w.heap.size) rfl rfl hZ6 ?_; intro wF hF hOF)
  )
 all_goals first
  | (refine ⟨rfl, ?_⟩; simp only [r3, Rz.next]; exact .er hP3)
  | (refine ⟨rfl, ?_⟩; simp only [r3, r4, Rz.next]; exact .er hP4)
  | (refine ⟨rfl, ?_⟩; simp only [r3, r4, r5, Rz.next]; exact .er hP5)
  | (refine ⟨rfl, ?_⟩; simp only [r3, r4, r5, r6, Rz.next]; exact .er hP6)
  | skip
 simp only [r3, r4, r5, r6, Rz.next]
 have hsF := hOF.size
 have hOn : Only (fun j => w.heap.size ≤ j) w6 wF := (Only.refl _ _).trans (hOF.mono (fun j e => by have e2 : j = w.heap.size := e; omega))
 refine bodyPost_ret (zJv rfl _ _ (w.heap.size) _ _ _ _ _ _ _ _ _ rfl hF) rfl ?_
 exact .ok (hP6.old hOn (fun j hj => .inr hj)) (h.newer hI6 hOn) (IsSt.mk (k := 11) (nm := []) (fr := x1) (ex := x4) (ar := x5) (bd := []) (el := []) (by omega) hL4 hL5 (by simp) (by simp) ((hE4_6.only hOF (fun b hb e => by simp at *; omega)).mono (fun b hb => ⟨by simp at *; omega, by simp at *; omega⟩)) ((hE5_6.only hOF (fun b hb e => by simp at *; omega)).mono (fun b hb => ⟨by simp at *; omega, by simp at *; omega⟩)) .nil .nil)
theorem call_t {w : World} {rb mb : Nat} {v : Value} {T : List (Tk × Int)} {p d n : Nat} (h : IsRs w rb mb v T p d n) (x1 : List UInt8) (q1 m1 : Nat) (r1 : namR (zQb T) p n = .ok x1 q1 m1) (hc : txt (zQb T) q1 = [61]) :
 Calls Tryz.prog 110 #[.pointer (some ⟨rb, 0, none⟩)] w (RP VS w rb mb v T d ((namR (zQb T) (q1 + 1) m1).next fun y p n => argR (zQb T) x1 y p n)) := by
 have hrl := h.rl
 have hHt : ∀ {W : World}, IsRs W rb mb v T q1 d m1 → Calls Tryz.prog 137 #[.pointer (some ⟨rb, 0, none⟩), .string ⟨#[61]⟩] W fun e w' => e = .returned (.bool true) ∧ Only (fun j => j = rb) W w' ∧ IsRs w' rb mb v T (q1 + 1) d m1 := fun h => by have := zXd h [61] (by decide); rw [yJd hc, yKn hc] at this; exact this
 have hT1 : ∀ {W : World} {p n : Nat}, IsRs W rb mb v T p d n → Calls Tryz.prog 140 #[.pointer (some ⟨rb, 0, none⟩), .string ⟨#[40]⟩] W (RP VU W rb mb v T d (takR (zQb T) [40] p n)) := fun h => zXl h [40] (by decide)
 have hT2 : ∀ {W : World} {p n : Nat}, IsRs W rb mb v T p d n → Calls Tryz.prog 140 #[.pointer (some ⟨rb, 0, none⟩), .string ⟨#[59]⟩] W (RP VU W rb mb v T d (takR (zQb T) [59] p n)) := fun h => zXl h [59] (by decide)
 have hLx : ∀ {W : World} {p n : Nat}, IsRs W rb mb v T p d n → Calls Tryz.prog 144 #[.pointer (some ⟨rb, 0, none⟩), .func (.func 141) #[] #[], .string ⟨#[59]⟩] W (RP VXs W rb mb v T d (lisR (zQb T) (expR (zQb T)) [59] p n)) := fun h => xQb h [59] (by decide)
 have hLn : ∀ {W : World} {p n : Nat}, IsRs W rb mb v T p d n → Calls Tryz.prog 145 #[.pointer (some ⟨rb, 0, none⟩), .func (.func 138) #[] #[], .string ⟨#[41]⟩] W (RP VA W rb mb v T d (lisR (zQb T) (namR (zQb T)) [41] p n)) := fun h => xQc h [41] (by decide)
 go_enter Tryz.func110, Tryz.ntmps110
 go_wp2_with (first
  | (go_at_call 138; ((with_reducible refine (zXw (h.newer h (zQc (Only.refl _ _) _))).mono ?_); (rintro e w1 ⟨hO1, hR1⟩); (have hP1 : Only (fun j => j = rb) w w1 := ((Only.refl _ _).old (zQc (Only.refl _ _) _) (fun j hj => .inr hj)).trans hO1); (have hs1 := hO1.size); (simp only [World.size_alloc] at hs1); (have hZ1 := zQa (zQf _ _ _ (w.heap.size) (by simp)) hO1 (by omega)); (rw [r1] at hR1); (obtain ⟨hI1, z1, rfl, hV1⟩ := hR1); (unfold VN at hV1; subst hV1)))
  | (go_at_call 137; ((with_reducible refine (hHt (h.newer hI1 (zQc (Only.refl _ _) _))).mono ?_); (rintro e w2 ⟨rfl, hO2, hI2⟩); (have hP2 : Only (fun j => j = rb) w w2 := (hP1.old (zQc (Only.refl _ _) _) (fun j hj => .inr hj)).trans hO2); (have hs2 := hO2.size); (simp only [World.size_alloc] at hs2); (have hZ2 := zQa (zQj hZ1 _) hO2 (by omega)); (have hS2 := zQa (zQf _ _ _ (w1.heap.size) (by simp)) hO2 (by omega))))
  )
 have hF0 : Only (fun j => j = rb) w2 w2.drew := ob1 rb (bdd (Below.refl _ _))
 have hFi : ∀ w', Only (fun j => j = rb) w2 w' → w'.cell? ⟨w1.heap.size, 2, none⟩ = some (.string (str x1)) ∧ w1.heap.size < w'.heap.size := fun w' hO => ⟨(zQa hS2 hO (by omega)).1 2 (by simp), (zQa hS2 hO (by omega)).2.2⟩
 have hIc := hI2.of (bdd (Below.refl _ _))
 refine zKc (fun w' => Only (fun j => j = rb) w2 w') 5 (by kernel_rfl) ?_
 refine zXt (i := 0) rfl (by kernel_rfl) (by kernel_rfl) (by kernel_rfl) (by decide) (fun _ _ _ _ h => h) (fun _ => hF0) (fun K hK => ?_)
 apply Exists.intro
 refine ⟨Or.inl ⟨by kernel_rfl, fun w' _ => ?_⟩, ?_⟩
 ·go_simp
  try exact rfl
 go_simp
 refine hK _ ?_
 clear hK K
 have q9 : Pq [1] := trivial
 refine tkF q9 rfl (by kernel_rfl) (fun _ _ _ _ h => h) hF0 fun K hK => ?_
 replace q9 := q9.tl
 apply Exists.intro
 refine ⟨Or.inl ⟨by kernel_rfl, fun w' hf => ?_⟩, ?_⟩
 ·obtain ⟨k2, kl⟩ := hFi _ hf
  go_simp
  try exact rfl
 go_simp
 refine hK _ ?_
 clear hK K
 refine zXt (i := 2) rfl (by kernel_rfl) (by kernel_rfl) (by kernel_rfl) (by decide) (fun _ _ _ _ h => h) (fun _ => hF0) (fun K hK => ?_)
 apply Exists.intro
 refine ⟨Or.inl ⟨by kernel_rfl, fun w' _ => ?_⟩, ?_⟩
 ·go_simp
  try exact rfl
 go_simp
 refine hK _ ?_
 clear hK K
 refine zXt (i := 4) rfl (by kernel_rfl) (by kernel_rfl) (by kernel_rfl) (by decide) (fun _ _ _ _ h => h) (fun _ => hF0) (fun K hK => ?_)
 apply Exists.intro
 refine ⟨Or.inl ⟨by kernel_rfl, fun w' _ => ?_⟩, ?_⟩
 ·go_simp
  try exact rfl
 go_simp
 refine hK _ ?_
 clear hK K
 refine zQv (k := 3) (by kernel_rfl) ?_
 refine wpOp_step rfl (fun K hK => ?_)
 go_simp
 go_at_call 138
 with_reducible refine (zXw hIc).mono ?_
 rintro e w3 ⟨hO3, hR3⟩
 have hF3 := hF0.trans hO3
 have hP3 := hP2.trans hF3
 rcases r3 : namR (zQb T) (q1 + 1) m1 with ⟨c3, q3⟩ | ⟨x3, q3, m3⟩
 ·rw [r3] at hR3; unfold Flt at hR3; subst hR3; exact ⟨rfl, by simp only [r3, Rz.next]; exact .er hP3⟩
 rw [r3] at hR3
 obtain ⟨hI3, z3, rfl, hV3⟩ := hR3
 unfold VN at hV3
 subst hV3
 have hs3 := hF3.size
 have hS3 := zQa hS2 hF3 (by omega)
 have hZ3 := zQa hZ2 hF3 (by omega)
 have f1 := hS3.1 1 (by simp)
 have f2 := hS3.1 2 (by simp)
 have ff := hS3.2.1
 have fl := hS3.2.2
 refine hK _ _ ⟨fun _ => hF3, ?_⟩
 clear hK K
 refine zQv (k := 5) (by kernel_rfl) ?_
 refine wpOp_step rfl (fun K hK => ?_)
 go_simp
 refine hK _ _ ⟨fun h => (Bool.false_ne_true (h.symm.trans (by kernel_rfl))).elim, ?_⟩
 clear hK K
 refine zQv (k := 6) (by kernel_rfl) ?_
 refine wpOp_step rfl (fun K hK => ?_)
 go_simp
 refine hK _ _ ⟨fun h => (Bool.false_ne_true (h.symm.trans (by kernel_rfl))).elim, ?_⟩
 clear hK K
 refine zQv (k := 7) (by kernel_rfl) ?_
 refine wpOp_step rfl (fun K hK => ?_)
 go_simp
 refine hK _ _ ⟨fun h => (Bool.false_ne_true (h.symm.trans (by kernel_rfl))).elim, ?_⟩
 clear hK K
 refine yQg (by kernel_rfl) ?_
 go_wp2_with (first
  | (go_at_call 140; ((with_reducible refine (hT1 (h.newer hI3 (zQi (zQi (Only.refl _ _) _ _ _ (by omega)) _ _ _ (by omega)))).mono ?_); (rintro e w4 ⟨hO4, hR4⟩); (have hP4 : Only (fun j => j = rb) w w4 := (hP3.old (zQi (zQi (Only.refl _ _) _ _ _ (by omega)) _ _ _ (by omega)) (fun j hj => .inr hj)).trans hO4); (have hs4 := hO4.size); (simp only [World.size_setCell] at hs4); (have hZ4 := zQa (zQm _ (zQm _ hZ3 (by omega)) (by omega)) hO4 (by omega)); (have hS4 := zQa (r9s2 (.string (str x3)) (r9s1 (.string (str x1)) hS3)) hO4 (by omega)); (rcases r4 : takR (zQb T) [40] q3 m3 with ⟨c4, q4⟩ | ⟨x4, q4, m4⟩) <;> (rw [r4] at hR4; first | (unfold Flt at hR4; subst hR4) | (obtain ⟨hI4, z4, rfl, hV4⟩ := hR4; (unfold VU at hV4; subst hV4)))))
  | (go_at_call 144; ((with_reducible refine (hLx hI4).mono ?_); (rintro e w5 ⟨hO5, hR5⟩); (have hP5 := hP4.trans hO5); (have hs5 := hO5.size); (have hZ5 := zQa hZ4 hO5 (by omega)); (have hS5 := zQa hS4 hO5 (by omega)); (rcases r5 : lisR (zQb T) (expR (zQb T)) [59] q4 m4 with ⟨c5, q5⟩ | ⟨x5, q5, m5⟩) <;> (rw [r5] at hR5; first | (unfold Flt at hR5; subst hR5) | (obtain ⟨hI5, z5, rfl, hV5⟩ := hR5; (obtain ⟨mk5, cap5, rfl, hL5, hE5⟩ := hV5); (have fS5_5 := hS5.1 5 (by simp)); (have ffS_5 := hS5.2.1); (have flS_5 := hS5.2.2)))))
  | (go_at_call 145; ((with_reducible refine (hLn (h.newer hI5 (zQi (Only.refl _ _) _ _ _ (by omega)))).mono ?_); (rintro e w6 ⟨hO6, hR6⟩); (have hP6 : Only (fun j => j = rb) w w6 := (hP5.old (zQi (Only.refl _ _) _ _ _ (by omega)) (fun j hj => .inr hj)).trans hO6); (have hs6 := hO6.size); (simp only [World.size_setCell] at hs6); (have hZ6 := zQa (zQm _ hZ5 (by omega)) hO6 (by omega)); (have hS6 := zQa (r9s5 (.slice mk5 x5.length cap5) hS5) hO6 (by omega)); (have hE5_6 := ((hE5.only (os1 (or1 (w1.heap.size) _) 5 (.slice mk5 x5.length cap5)) (fun b hb e => by simp at *; omega))).only hO6 (fun b hb e => by simp at *; omega)); (rcases r6 : lisR (zQb T) (namR (zQb T)) [41] q5 m5 with ⟨c6, q6⟩ | ⟨x6, q6, m6⟩) <;> (rw [r6] at hR6; first | (unfold Flt at hR6; subst hR6) | (obtain ⟨hI6, z6, rfl, hV6⟩ := hR6; (obtain ⟨mk6, cap6, rfl, hL6, hE6⟩ := hV6); (have fS6_6 := hS6.1 6 (by simp)); (have ffS_6 := hS6.2.1); (have flS_6 := hS6.2.2)))))
  | (go_at_call 140; ((with_reducible refine (hT2 (h.newer hI6 (zQi (Only.refl _ _) _ _ _ (by omega)))).mono ?_); (rintro e w7 ⟨hO7, hR7⟩); (have hP7 : Only (fun j => j = rb) w w7 := (hP6.old (zQi (Only.refl _ _) _ _ _ (by omega)) (fun j hj => .inr hj)).trans hO7); (have hs7 := hO7.size); (simp only [World.size_setCell] at hs7); (have hZ7 := zQa (zQm _ hZ6 (by omega)) hO7 (by omega)); (have hS7 := zQa (r9s6 (.slice mk6 x6.length cap6) hS6) hO7 (by omega)); (have hE5_7 := ((hE5_6.only (os1 (or1 (w1.heap.size) _) 6 (.slice mk6 x6.length cap6)) (fun b hb e => by simp at *; omega))).only hO7 (fun b hb e => by simp at *; omega)); (have hE6_7 := ((hE6.only (os1 (or1 (w1.heap.size) _) 6 (.slice mk6 x6.length cap6)) (fun b hb e => by simp at *; omega))).only hO7 (fun b hb e => by simp at *; omega)); (rcases r7 : takR (zQb T) [59] q6 m6 with ⟨c7, q7⟩ | ⟨x7, q7, m7⟩) <;> (rw [r7] at hR7; first | (unfold Flt at hR7; subst hR7) | (obtain ⟨hI7, z7, rfl, hV7⟩ := hR7; (unfold VU at hV7; subst hV7)))))
  | (with_reducible refine ld9 rfl _ rfl (w1.heap.size) rfl (show rowG #[.int .u8 11, .string (str x1), .string (str x3), .bool false, .bool false, .slice mk5 x5.length cap5, .slice mk6 x6.length cap6, .slice none 0 0, .slice none 0 0] _ _ from hS7) ?_)
  | (with_reducible refine st9 rfl _ _ rfl (w.heap.size) rfl rfl hZ7 ?_; intro wF hF hOF)
  )
 all_goals first
  | (refine ⟨rfl, ?_⟩; simp only [r3, argR, r4, Rz.next]; exact .er hP4)
  | (refine ⟨rfl, ?_⟩; simp only [r3, argR, r4, r5, Rz.next]; exact .er hP5)
  | (refine ⟨rfl, ?_⟩; simp only [r3, argR, r4, r5, r6, Rz.next]; exact .er hP6)
  | (refine ⟨rfl, ?_⟩; simp only [r3, argR, r4, r5, r6, r7, Rz.next]; exact .er hP7)
  | skip
 simp only [r3, argR, r4, r5, r6, r7, Rz.next]
 have hsF := hOF.size
 have hOn : Only (fun j => w.heap.size ≤ j) w7 wF := (Only.refl _ _).trans (hOF.mono (fun j e => by have e2 : j = w.heap.size := e; omega))
 refine bodyPost_ret (zJv rfl _ _ (w.heap.size) _ _ _ _ _ _ _ _ _ rfl hF) rfl ?_
 exact .ok (hP7.old hOn (fun j hj => .inr hj)) (h.newer hI7 hOn) (IsSt.mk (k := 11) (nm := x1) (fr := x3) (ex := x5) (ar := x6) (bd := []) (el := []) (by omega) hL5 hL6 (by simp) (by simp) ((hE5_7.only hOF (fun b hb e => by simp at *; omega)).mono (fun b hb => ⟨by simp at *; omega, by simp at *; omega⟩)) ((hE6_7.only hOF (fun b hb e => by simp at *; omega)).mono (fun b hb => ⟨by simp at *; omega, by simp at *; omega⟩)) .nil .nil)
theorem call_any {w : World} {rb mb : Nat} {v : Value} {T : List (Tk × Int)} {p d n : Nat} (h : IsRs w rb mb v T p d n) :
 Calls Tryz.prog 110 #[.pointer (some ⟨rb, 0, none⟩)] w (RP VS w rb mb v T d (calR (zQb T) p n)) := by
 unfold calR
 cases r1 : namR (zQb T) p n with
 | er c q => exact call_er h c q r1
 | ok x q m =>
  simp only [Rz.next]
  by_cases hc : txt (zQb T) q = [61]
  ·rw [if_pos hc]; exact call_t h x q m r1 hc
  ·rw [if_neg hc]; exact call_f h x q m r1 hc
theorem put_er {w : World} {rb mb : Nat} {v : Value} {T : List (Tk × Int)} {p d n : Nat} (h : IsRs w rb mb v T p d n) (c q : Nat) (r1 : namR (zQb T) p n = .er c q) :
 Calls Tryz.prog 180 #[.pointer (some ⟨rb, 0, none⟩)] w (RP VS w rb mb v T d (.er c q)) := by
 go_enter Tryz.func180, Tryz.ntmps180
 go_wp2_with (go_at_call 138; ((with_reducible refine (zXw (h.newer h (zQc (Only.refl _ _) _))).mono ?_); (rintro e w1 ⟨hO1, hR1⟩); (rw [r1] at hR1); (unfold Flt at hR1); (subst hR1)))
 exact ⟨rfl, .er ((ob1 rb (aB (Below.refl _ _) _)).trans hO1)⟩
theorem put_m {w : World} {rb mb : Nat} {v : Value} {T : List (Tk × Int)} {p d n : Nat} :
 (∀ (h : IsRs w rb mb v T p d n) (x1 : List UInt8) (q1 m1 : Nat) (r1 : namR (zQb T) p n = .ok x1 q1 m1) (hc : ¬ txt (zQb T) q1 = [91]), Calls Tryz.prog 180 #[.pointer (some ⟨rb, 0, none⟩)] w (RP VS w rb mb v T d ((betR (zQb T) [61] [59] q1 m1).next fun e p n => .ok (.mk 2 x1 [] false false [e] [] [] []) p n))) ∧
 (∀ (h : IsRs w rb mb v T p d n) (x1 : List UInt8) (q1 m1 : Nat) (r1 : namR (zQb T) p n = .ok x1 q1 m1) (hc : txt (zQb T) q1 = [91]), Calls Tryz.prog 180 #[.pointer (some ⟨rb, 0, none⟩)] w (RP VS w rb mb v T d ((betR (zQb T) [91] [93] q1 m1).next fun i p n => (betR (zQb T) [61] [59] p n).next fun e p n => .ok (.mk 4 x1 [] false false [i, e] [] [] []) p n))) := by
 refine ⟨(@fun h x1 q1 m1 r1 hc => have k1 : Nat := 0; ?_), (@fun h x1 q1 m1 r1 hc => have k2 : Nat := 0; ?_)⟩
 all_goals
  have hrl := h.rl
  obtain ⟨i0, hi, hz0, hz1, hz2⟩ := info_parts jZl
  first
  | (replace k1 := k1
     have hNx : ∀ {W : World}, IsRs W rb mb v T q1 d m1 → Calls Tryz.prog 112 #[.pointer (some ⟨rb, 0, none⟩), .string ⟨#[91]⟩] W fun e w' => e = .returned (.bool false) ∧ Only (fun j => j = rb) W w' ∧ IsRs w' rb mb v T q1 d m1 := fun h => by have := xXl h [91]; rw [yJe hc] at this; exact this.mono fun e w' ⟨he, k, hw⟩ => ⟨he, by rw [hw]; exact zXn (Only.refl _ _) k, by rw [hw]; exact h.drewN k⟩
     have hB : ∀ {W : World} {p n : Nat}, IsRs W rb mb v T p d n → Calls Tryz.prog 139 #[.pointer (some ⟨rb, 0, none⟩), .string ⟨#[61]⟩, .string ⟨#[59]⟩] W (RP VX W rb mb v T d (betR (zQb T) [61] [59] p n)) := fun h => yQn h [61] [59] (by decide) (by decide))
  | (replace k2 := k2
     have hNx : ∀ {W : World}, IsRs W rb mb v T q1 d m1 → Calls Tryz.prog 112 #[.pointer (some ⟨rb, 0, none⟩), .string ⟨#[91]⟩] W fun e w' => e = .returned (.bool true) ∧ Only (fun j => j = rb) W w' ∧ IsRs w' rb mb v T q1 d m1 := fun h => by have := xXl h [91]; rw [yJd hc] at this; exact this.mono fun e w' ⟨he, k, hw⟩ => ⟨he, by rw [hw]; exact zXn (Only.refl _ _) k, by rw [hw]; exact h.drewN k⟩
     have hB1 : ∀ {W : World} {p n : Nat}, IsRs W rb mb v T p d n → Calls Tryz.prog 139 #[.pointer (some ⟨rb, 0, none⟩), .string ⟨#[91]⟩, .string ⟨#[93]⟩] W (RP VX W rb mb v T d (betR (zQb T) [91] [93] p n)) := fun h => yQn h [91] [93] (by decide) (by decide)
     have hB2 : ∀ {W : World} {p n : Nat}, IsRs W rb mb v T p d n → Calls Tryz.prog 139 #[.pointer (some ⟨rb, 0, none⟩), .string ⟨#[61]⟩, .string ⟨#[59]⟩] W (RP VX W rb mb v T d (betR (zQb T) [61] [59] p n)) := fun h => yQn h [61] [59] (by decide) (by decide))
  go_enter Tryz.func180, Tryz.ntmps180
  first
  | (replace k1 := k1
     go_wp2_with (first
      | (go_at_call 138; ((with_reducible refine (zXw (h.newer h (zQc (Only.refl _ _) _))).mono ?_); (rintro e w1 ⟨hO1, hR1⟩); (have hP1 : Only (fun j => j = rb) w w1 := ((Only.refl _ _).old (zQc (Only.refl _ _) _) (fun j hj => .inr hj)).trans hO1); (have hs1 := hO1.size); (simp only [World.size_alloc] at hs1); (have hZ1 := zQa (zQf _ _ _ (w.heap.size) (by simp)) hO1 (by omega)); (rw [r1] at hR1); (obtain ⟨hI1, z1, rfl, hV1⟩ := hR1); (unfold VN at hV1; subst hV1)))
      | (go_at_call 112; ((with_reducible refine (hNx (h.newer hI1 (zQc (Only.refl _ _) _))).mono ?_); (rintro e w2 ⟨rfl, hO2, hI2⟩); (have hP2 : Only (fun j => j = rb) w w2 := (hP1.old (zQc (Only.refl _ _) _) (fun j hj => .inr hj)).trans hO2); (have hs2 := hO2.size); (simp only [World.size_alloc] at hs2); (have hZ2 := zQa (zQj hZ1 _) hO2 (by omega)); (have hS2 := zQa (zQf _ _ _ (w1.heap.size) (by simp)) hO2 (by omega))))
      )
     have ho0 : w2.ownsRow (w1.heap.size + 1) 47 5 (.slice none 0 0) 0 (kxs []) := World.ownsRow_nil _ _ _ _
     have hF0 : Only (fun j => j = rb) w2 w2.drew := ob1 rb (bdd (Below.refl _ _))
     have hFi : ∀ w', Only (fun j => j = rb) w2 w' → w'.cell? ⟨w1.heap.size, 5, none⟩ = some (.slice none 0 0) ∧ w1.heap.size < w'.heap.size := fun w' hO => ⟨(zQa hS2 hO (by omega)).1 5 (by simp), (zQa hS2 hO (by omega)).2.2⟩
     have hIc := hI2.of (bdd (Below.refl _ _))
     refine zKc (fun w' => Only (fun j => j = rb) w2 w') 5 (by kernel_rfl) ?_)
  | (replace k2 := k2
     go_wp2_with (first
      | (go_at_call 138; ((with_reducible refine (zXw (h.newer h (zQc (Only.refl _ _) _))).mono ?_); (rintro e w1 ⟨hO1, hR1⟩); (have hP1 : Only (fun j => j = rb) w w1 := ((Only.refl _ _).old (zQc (Only.refl _ _) _) (fun j hj => .inr hj)).trans hO1); (have hs1 := hO1.size); (simp only [World.size_alloc] at hs1); (have hZ1 := zQa (zQf _ _ _ (w.heap.size) (by simp)) hO1 (by omega)); (rw [r1] at hR1); (obtain ⟨hI1, z1, rfl, hV1⟩ := hR1); (unfold VN at hV1; subst hV1)))
      | (go_at_call 112; ((with_reducible refine (hNx (h.newer hI1 (zQc (Only.refl _ _) _))).mono ?_); (rintro e w2 ⟨rfl, hO2, hI2⟩); (have hP2 : Only (fun j => j = rb) w w2 := (hP1.old (zQc (Only.refl _ _) _) (fun j hj => .inr hj)).trans hO2); (have hs2 := hO2.size); (simp only [World.size_alloc] at hs2); (have hZ2 := zQa (zQj hZ1 _) hO2 (by omega)); (have hS2 := zQa (zQf _ _ _ (w1.heap.size) (by simp)) hO2 (by omega)); (have fS0_2 := hS2.1 0 (by simp)); (have ffS_2 := hS2.2.1); (have flS_2 := hS2.2.2)))
      )
     obtain ⟨wB, hwB⟩ : ∃ wB, w2.setCell ⟨w1.heap.size, 0, none⟩ (.int .u8 4) = wB := ⟨_, rfl⟩
     have hOB : Only (fun j => j = w1.heap.size) w2 wB := by rw [← hwB]; exact os1 (or1 _ _) _ _
     have hSB : rowG #[.int .u8 4, .string (str x1), .string ⟨#[]⟩, .bool false, .bool false, .slice none 0 0, .slice none 0 0, .slice none 0 0, .slice none 0 0] wB w1.heap.size := by rw [← hwB]; exact r9s0 (.int .u8 4) hS2
     have hZB := zQa hZ2 hOB (by omega)
     have hIB := h.newer hI2 (hOB.mono (fun j e => by have e2 : j = w1.heap.size := e; omega))
     have hPB := hP2.old hOB (fun j e => .inr (by have e2 : j = w1.heap.size := e; omega))
     have hsB := hOB.size
     rw [hwB]
     clear hwB
     have ho0 : wB.ownsRow (w1.heap.size + 1) 47 5 (.slice none 0 0) 0 (kxs []) := World.ownsRow_nil _ _ _ _
     have hF0 : Only (fun j => j = rb) wB wB.drew := ob1 rb (bdd (Below.refl _ _))
     have hFi : ∀ w', Only (fun j => j = rb) wB w' → w'.cell? ⟨w1.heap.size, 5, none⟩ = some (.slice none 0 0) ∧ w1.heap.size < w'.heap.size := fun w' hO => ⟨(zQa hSB hO (by omega)).1 5 (by simp), (zQa hSB hO (by omega)).2.2⟩
     have hIc := hIB.of (bdd (Below.refl _ _))
     refine zKc (fun w' => Only (fun j => j = rb) wB w') 5 (by kernel_rfl) ?_)
  refine zXt (i := 0) rfl (by kernel_rfl) (by kernel_rfl) (by kernel_rfl) (by decide) (fun _ _ _ _ h => h) (fun _ => hF0) (fun K hK => ?_)
  apply Exists.intro
  refine ⟨Or.inl ⟨by kernel_rfl, fun w' _ => ?_⟩, ?_⟩
  ·go_simp
   try exact rfl
  go_simp
  refine hK _ ?_
  clear hK K
  have q9 : Pq [1] := trivial
  refine tkF q9 rfl (by kernel_rfl) (fun _ _ _ _ h => h) hF0 fun K hK => ?_
  replace q9 := q9.tl
  apply Exists.intro
  refine ⟨Or.inl ⟨by kernel_rfl, fun w' hf => ?_⟩, ?_⟩
  ·obtain ⟨k5, kl⟩ := hFi _ hf
   go_simp
   try exact rfl
  go_simp
  refine hK _ ?_
  clear hK K
  refine zXt (i := 2) rfl (by kernel_rfl) (by kernel_rfl) (by kernel_rfl) (by decide) (fun _ _ _ _ h => h) (fun _ => hF0) (fun K hK => ?_)
  apply Exists.intro
  refine ⟨Or.inl ⟨by kernel_rfl, fun w' _ => ?_⟩, ?_⟩
  ·go_simp
   try exact rfl
  go_simp
  refine hK _ ?_
  clear hK K
  refine zQv (k := 3) (by kernel_rfl) ?_
  refine wpOp_step rfl (fun K hK => ?_)
  go_simp
  go_at_call 139
  first
  | (replace k1 := k1
     with_reducible refine (hB hIc).mono ?_)
  | (replace k2 := k2
     with_reducible refine (hB1 hIc).mono ?_)
  rintro e w3 ⟨hO3, hR3⟩
  have hF3 := hF0.trans hO3
  first
  | (replace k1 := k1
     have hP3 := hP2.trans hF3)
  | (replace k2 := k2
     have hP3 := hPB.trans hF3)
  first
  | (replace k1 := k1
     rcases r3 : betR (zQb T) [61] [59] q1 m1 with ⟨c3, q3⟩ | ⟨x3, q3, m3⟩)
  | (replace k2 := k2
     rcases r3 : betR (zQb T) [91] [93] q1 m1 with ⟨c3, q3⟩ | ⟨x3, q3, m3⟩)
  ·rw [r3] at hR3; unfold Flt at hR3; subst hR3; exact ⟨rfl, by simp only [r3, Rz.next]; exact .er hP3⟩
  rw [r3] at hR3
  obtain ⟨hI3, z3, rfl, hV3⟩ := hR3
  obtain ⟨K3, rfl, e3, hK3⟩ := jZj hV3
  have hs3 := hF3.size
  first
  | (replace k1 := k1
     have hS3 := zQa hS2 hF3 (by omega))
  | (replace k2 := k2
     have hS3 := zQa hSB hF3 (by omega))
  first
  | (replace k1 := k1
     have hZ3 := zQa hZ2 hF3 (by omega))
  | (replace k2 := k2
     have hZ3 := zQa hZB hF3 (by omega))
  have ho3 := zQy ho0 hF3 (fun j hj e => by have := zQu ho0 hj; have e2 : j = rb := e; omega)
  refine hK _ _ ⟨fun _ => hF3, ?_⟩
  clear hK K
  refine zQv (k := 4) (by kernel_rfl) ?_
  refine wpOp_step rfl (fun K hK => ?_)
  go_simp
  refine hK _ _ ⟨fun _ => (zQc hF3 _), ?_⟩
  clear hK K
  refine zQv (k := 5) (by kernel_rfl) ?_
  refine wpOp_step rfl (fun K hK => ?_)
  first
  | (replace k1 := k1
     refine step_append_lies _ rfl (.tmp 18) (.tmp 21) 41 rfl (w1.heap.size + 1) 47 i0 _ 5 64 Tryz.underlying41 hi hz0 hz1 hz2 rfl (by decide) (.slice none 0 0) 0 (kxs []) rfl (ho3.alloc _) ⟨w3.heap.size, 0, none⟩ 1 1 (kxs [K3]) rfl rfl (zXe (kxs [K3]) 47 w3) (yXl _) (by decide) (by unfold maxLen; omega) (by omega) (by simp; omega) _ rfl ?_)
  | (replace k2 := k2
     refine step_append_lies _ rfl (.tmp 11) (.tmp 14) 41 rfl (w1.heap.size + 1) 47 i0 _ 5 64 Tryz.underlying41 hi hz0 hz1 hz2 rfl (by decide) (.slice none 0 0) 0 (kxs []) rfl (ho3.alloc _) ⟨w3.heap.size, 0, none⟩ 1 1 (kxs [K3]) rfl rfl (zXe (kxs [K3]) 47 w3) (yXl _) (by decide) (by unfold maxLen; omega) (by omega) (by simp; omega) _ rfl ?_)
  intro g3 cap3 w36 hown3 hgrow3 hat3 hlt3
  have hba : Below w3.heap.size w3 (w3.alloc (.cells #[.int .u8 (K3.k : Int), .int .u64 (K3.n : Int), .string (str K3.s), .int .u8 (K3.o : Int), .slice K3.ma K3.m K3.cap] 47)) := aB (Below.refl _ _) _
  have hog := zXc hgrow3
  have hsz36 := hog.size
  simp only [World.size_alloc] at hsz36
  have hnew : ∀ j, some j = (.slice none 0 0 : Value).ownBlock → w1.heap.size + 1 ≤ j := fun j hj => (zQu ho0 hj.symm).1
  first
  | (replace k1 := k1
     have hnewl : ∀ j, some j = (.slice none 0 0 : Value).ownBlock → j < w2.heap.size := fun j hj => (zQu ho0 hj.symm).2)
  | (replace k2 := k2
     have hnewl : ∀ j, some j = (.slice none 0 0 : Value).ownBlock → j < wB.heap.size := fun j hj => (zQu ho0 hj.symm).2)
  have hI36 : IsRs w36 rb mb v T q3 d m3 := h.newer (hI3.of hba) (hog.mono (fun j hj => by have := hnew j hj; omega))
  have hP36 : Only (fun j => j = rb) w w36 := (hP3.trans (ob1 rb hba)).old hog (fun j hj => .inr (by have := hnew j hj; omega))
  have hS36 := zQa (zQj hS3 _) hog (fun e => by have := hnew _ e; omega)
  have hZ36 := zQa (zQj hZ3 _) hog (fun e => by have := hnew _ e; omega)
  have f5_3 := hS36.1 5 (by simp)
  have ff_3 := hS36.2.1
  have fl_3 := hS36.2.2
  refine hK _ _ ⟨fun h => (Bool.false_ne_true (h.symm.trans (by kernel_rfl))).elim, ?_⟩
  clear hK K
  refine zQv (k := 6) (by kernel_rfl) ?_
  refine wpOp_step rfl (fun K hK => ?_)
  go_simp
  refine hK _ _ ⟨fun h => (Bool.false_ne_true (h.symm.trans (by kernel_rfl))).elim, ?_⟩
  clear hK K
  refine zQv (k := 7) (by kernel_rfl) ?_
  refine wpOp_step rfl (fun K hK => ?_)
  go_simp
  refine hK _ _ ⟨fun h => (Bool.false_ne_true (h.symm.trans (by kernel_rfl))).elim, ?_⟩
  clear hK K
  refine yQg (by kernel_rfl) ?_
  first
  | (replace k1 := k1
     go_wp2_with (first
      | (with_reducible refine ld9 rfl _ rfl (w1.heap.size) rfl (show rowG #[.int .u8 2, .string (str x1), .string ⟨#[]⟩, .bool false, .bool false, .slice (some ⟨g3, 0, none⟩) 1 cap3, .slice none 0 0, .slice none 0 0, .slice none 0 0] _ _ from r9s5 (.slice (some ⟨g3, 0, none⟩) 1 cap3) hS36) ?_)
      | (with_reducible refine st9 rfl _ _ rfl (w.heap.size) rfl rfl (zQm _ hZ36 (by omega)) ?_; intro wF hF hOF)
      )
     simp only [r3, Rz.next])
  | (replace k2 := k2
     go_wp2
     obtain ⟨wC, hwC⟩ : ∃ wC, w36.setCell ⟨w1.heap.size, 5, none⟩ (.slice (some ⟨g3, 0, none⟩) 1 cap3) = wC := ⟨_, rfl⟩
     have hOC : Only (fun j => j = w1.heap.size) w36 wC := by rw [← hwC]; exact os1 (or1 _ _) _ _
     have hSC : rowG #[.int .u8 4, .string (str x1), .string ⟨#[]⟩, .bool false, .bool false, .slice (some ⟨g3, 0, none⟩) 1 cap3, .slice none 0 0, .slice none 0 0, .slice none 0 0] wC w1.heap.size := by rw [← hwC]; exact r9s5 (.slice (some ⟨g3, 0, none⟩) 1 cap3) hS36
     have hZC := zQa hZ36 hOC (by omega)
     have hIC := h.newer hI36 (hOC.mono (fun j e => by have e2 : j = w1.heap.size := e; omega))
     have hPC := hP36.old hOC (fun j e => .inr (by have e2 : j = w1.heap.size := e; omega))
     have hsC := hOC.size
     have hoC := zQy hown3 hOC (fun j hj e => by have := zQu hown3 hj; have e2 : j = w1.heap.size := e; omega)
     have hKC : K3.is (fun b => (w1.heap.size + 1) ≤ b ∧ b < wC.heap.size ∧ ¬ (Value.slice (some ⟨g3, 0, none⟩) 1 cap3).ownBlock = some b) wC := (IsE.only (yQc hgrow3 hat3 (by simp) [K3] (fun K hK => by rw [List.mem_singleton] at hK; subst hK; exact (IsE.of hK3 (aB (Below.refl _ _) _)).mono (fun b hb => ⟨by have := hb.1; simp at this; omega, by have := hb.2; simp; omega, fun e => by simp [Value.ownBlock] at e⟩)) 1 cap3 K3 (by simp)) hOC (fun b hb e => by have := hb.1; have e2 : b = w1.heap.size := e; omega)).mono (fun b hb => ⟨hb.1, by have := hb.2.1; omega, hb.2.2⟩)
     have hw1C : w1.heap.size + 1 ≤ wC.heap.size := by have := hSC.2.2; omega
     rw [hwC]
     clear hwC hF0 hFi hIc hba hog hnew hnewl f5_3 ff_3 fl_3
     have hF0 : Only (fun j => j = rb) wC wC.drew := ob1 rb (bdd (Below.refl _ _))
     have hFi : ∀ w', Only (fun j => j = rb) wC w' → w'.cell? ⟨w1.heap.size, 5, none⟩ = some (.slice (some ⟨g3, 0, none⟩) 1 cap3) ∧ w1.heap.size < w'.heap.size := fun w' hO => ⟨(zQa hSC hO (by omega)).1 5 (by simp), (zQa hSC hO (by omega)).2.2⟩
     have hIc := hIC.of (bdd (Below.refl _ _))
     refine zKc (fun w' => Only (fun j => j = rb) wC w') 5 (by kernel_rfl) ?_
     refine zXt (i := 0) rfl (by kernel_rfl) (by kernel_rfl) (by kernel_rfl) (by decide) (fun _ _ _ _ h => h) (fun _ => hF0) (fun K hK => ?_)
     apply Exists.intro
     refine ⟨Or.inl ⟨by kernel_rfl, fun w' _ => ?_⟩, ?_⟩
     ·go_simp
      try exact rfl
     go_simp
     refine hK _ ?_
     clear hK K
     have q9 : Pq [1] := trivial
     refine tkF q9 rfl (by kernel_rfl) (fun _ _ _ _ h => h) hF0 fun K hK => ?_
     replace q9 := q9.tl
     apply Exists.intro
     refine ⟨Or.inl ⟨by kernel_rfl, fun w' hf => ?_⟩, ?_⟩
     ·obtain ⟨k5, kl⟩ := hFi _ hf
      go_simp
      try exact rfl
     go_simp
     refine hK _ ?_
     clear hK K
     refine zXt (i := 2) rfl (by kernel_rfl) (by kernel_rfl) (by kernel_rfl) (by decide) (fun _ _ _ _ h => h) (fun _ => hF0) (fun K hK => ?_)
     apply Exists.intro
     refine ⟨Or.inl ⟨by kernel_rfl, fun w' _ => ?_⟩, ?_⟩
     ·go_simp
      try exact rfl
     go_simp
     refine hK _ ?_
     clear hK K
     refine zQv (k := 3) (by kernel_rfl) ?_
     refine wpOp_step rfl (fun K hK => ?_)
     go_simp
     go_at_call 139
     with_reducible refine (hB2 hIc).mono ?_
     rintro e w4 ⟨hO4, hR4⟩
     have hF4 := hF0.trans hO4
     have hP4 := hPC.trans hF4
     rcases r4 : betR (zQb T) [61] [59] q3 m3 with ⟨c4, q4⟩ | ⟨x4, q4, m4⟩
     ·rw [r4] at hR4; unfold Flt at hR4; subst hR4; exact ⟨rfl, by simp only [r3, r4, Rz.next]; exact .er hP4⟩
     rw [r4] at hR4
     obtain ⟨hI4, z4, rfl, hV4⟩ := hR4
     obtain ⟨K4, rfl, e4, hK4⟩ := jZj hV4
     have hs4 := hF4.size
     have hS4 := zQa hSC hF4 (by omega)
     have hZ4 := zQa hZC hF4 (by omega)
     have ho4 := zQy hoC hF4 (fun j hj e => by have := zQu hoC hj; have e2 : j = rb := e; omega)
     have hK3a := IsE.only hKC hF4 (fun b hb e => by have := hb.1; have e2 : b = rb := e; omega)
     refine hK _ _ ⟨fun _ => hF4, ?_⟩
     clear hK K
     refine zQv (k := 4) (by kernel_rfl) ?_
     refine wpOp_step rfl (fun K hK => ?_)
     go_simp
     refine hK _ _ ⟨fun _ => (zQc hF4 _), ?_⟩
     clear hK K
     refine zQv (k := 5) (by kernel_rfl) ?_
     refine wpOp_step rfl (fun K hK => ?_)
     refine step_append_lies _ rfl (.tmp 18) (.tmp 21) 41 rfl (w1.heap.size + 1) 47 i0 _ 5 64 Tryz.underlying41 hi hz0 hz1 hz2 rfl (by decide) (.slice (some ⟨g3, 0, none⟩) 1 cap3) 1 (kxs [K3]) rfl (ho4.alloc _) ⟨w4.heap.size, 0, none⟩ 1 1 (kxs [K4]) rfl rfl (zXe (kxs [K4]) 47 w4) (yXl _) (by decide) (by unfold maxLen; omega) (by omega) (by simp; omega) _ rfl ?_
     intro g4 cap4 w46 hown4 hgrow4 hat4 hlt4
     have hba : Below w4.heap.size w4 (w4.alloc (.cells #[.int .u8 (K4.k : Int), .int .u64 (K4.n : Int), .string (str K4.s), .int .u8 (K4.o : Int), .slice K4.ma K4.m K4.cap] 47)) := aB (Below.refl _ _) _
     have hog := zXc hgrow4
     have hsz46 := hog.size
     simp only [World.size_alloc] at hsz46
     have hnew : ∀ j, some j = (.slice (some ⟨g3, 0, none⟩) 1 cap3 : Value).ownBlock → w1.heap.size + 1 ≤ j := fun j hj => (zQu hoC hj.symm).1
     have hnewl : ∀ j, some j = (.slice (some ⟨g3, 0, none⟩) 1 cap3 : Value).ownBlock → j < wC.heap.size := fun j hj => (zQu hoC hj.symm).2
     have hI46 : IsRs w46 rb mb v T q4 d m4 := h.newer (hI4.of hba) (hog.mono (fun j hj => by have := hnew j hj; omega))
     have hP46 : Only (fun j => j = rb) w w46 := (hP4.trans (ob1 rb hba)).old hog (fun j hj => .inr (by have := hnew j hj; omega))
     have hS46 := zQa (zQj hS4 _) hog (fun e => by have := hnew _ e; omega)
     have hZ46 := zQa (zQj hZ4 _) hog (fun e => by have := hnew _ e; omega)
     have f5_4 := hS46.1 5 (by simp)
     have ff_4 := hS46.2.1
     have fl_4 := hS46.2.2
     refine hK _ _ ⟨fun h => (Bool.false_ne_true (h.symm.trans (by kernel_rfl))).elim, ?_⟩
     clear hK K
     refine zQv (k := 6) (by kernel_rfl) ?_
     refine wpOp_step rfl (fun K hK => ?_)
     go_simp
     refine hK _ _ ⟨fun h => (Bool.false_ne_true (h.symm.trans (by kernel_rfl))).elim, ?_⟩
     clear hK K
     refine zQv (k := 7) (by kernel_rfl) ?_
     refine wpOp_step rfl (fun K hK => ?_)
     go_simp
     refine hK _ _ ⟨fun h => (Bool.false_ne_true (h.symm.trans (by kernel_rfl))).elim, ?_⟩
     clear hK K
     refine yQg (by kernel_rfl) ?_
     go_wp2_with (first
      | (with_reducible refine ld9 rfl _ rfl (w1.heap.size) rfl (show rowG #[.int .u8 4, .string (str x1), .string ⟨#[]⟩, .bool false, .bool false, .slice (some ⟨g4, 0, none⟩) 2 cap4, .slice none 0 0, .slice none 0 0, .slice none 0 0] _ _ from r9s5 (.slice (some ⟨g4, 0, none⟩) 2 cap4) hS46) ?_)
      | (with_reducible refine st9 rfl _ _ rfl (w.heap.size) rfl rfl (zQm _ hZ46 (by omega)) ?_; intro wF hF hOF)
      )
     simp only [r3, r4, Rz.next])
  have hsF := hOF.size
  simp only [World.size_setCell] at hsF
  first
  | (replace k1 := k1
     have hOX : Only (fun j => w.heap.size ≤ j) w36 wF := (zQi (Only.refl _ _) _ _ _ (by omega)).trans (hOF.mono (fun j e => by have e2 : j = w.heap.size := e; omega))
     have hOY : Only (fun j => j = w1.heap.size ∨ j = w.heap.size) w36 wF := (zQi (Only.refl _ _) _ _ _ (.inl rfl)).trans (hOF.mono (fun j e => .inr e))
     have hownF := zQy hown3 hOY (fun j hj e => by have := zQu hown3 hj; rcases e with e | e <;> omega)
     have hKF : K3.is (fun b => (w1.heap.size + 1) ≤ b ∧ b < wF.heap.size ∧ ¬ (Value.slice (some ⟨g3, 0, none⟩) 1 cap3).ownBlock = some b) wF := (IsE.only (yQc hgrow3 hat3 (by simp) [K3] (fun K hK => by rw [List.mem_singleton] at hK; subst hK; exact (IsE.of hK3 (aB (Below.refl _ _) _)).mono (fun b hb => ⟨by have := hb.1; simp at this; omega, by have := hb.2; simp; omega, fun e => by simp [Value.ownBlock] at e⟩)) 1 cap3 K3 (by simp)) hOY (fun b hb e => by have := hb.1; rcases e with e | e <;> omega)).mono (fun b hb => ⟨hb.1, by have := hb.2.1; omega, hb.2.2⟩)
     obtain ⟨ma, ca, hm, hkk⟩ := yXw (L := [K3]) hownF rfl (fun K hK => by rw [List.mem_singleton] at hK; subst hK; exact hKF)
     simp only [Value.slice.injEq, true_and] at hm
     obtain ⟨rfl, rfl⟩ := hm)
  | (replace k2 := k2
     have hOX : Only (fun j => w.heap.size ≤ j) w46 wF := (zQi (Only.refl _ _) _ _ _ (by omega)).trans (hOF.mono (fun j e => by have e2 : j = w.heap.size := e; omega))
     have hOY : Only (fun j => j = w1.heap.size ∨ j = w.heap.size) w46 wF := (zQi (Only.refl _ _) _ _ _ (.inl rfl)).trans (hOF.mono (fun j e => .inr e))
     have hownF := zQy hown4 hOY (fun j hj e => by have := zQu hown4 hj; rcases e with e | e <;> omega)
     have hall : ∀ K ∈ [K3] ++ [K4], K.is (fun b => (w1.heap.size + 1) ≤ b ∧ b < (w4.alloc (.cells #[.int .u8 (K4.k : Int), .int .u64 (K4.n : Int), .string (str K4.s), .int .u8 (K4.o : Int), .slice K4.ma K4.m K4.cap] 47)).heap.size ∧ ¬ (.slice (some ⟨g3, 0, none⟩) 1 cap3 : Value).ownBlock = some b) (w4.alloc (.cells #[.int .u8 (K4.k : Int), .int .u64 (K4.n : Int), .string (str K4.s), .int .u8 (K4.o : Int), .slice K4.ma K4.m K4.cap] 47)) := fun K hK => by
      rcases List.mem_append.1 hK with h1 | h1
      ·rw [List.mem_singleton] at h1; subst h1
       exact (IsE.of hK3a (aB (Below.refl _ _) _)).mono (fun b hb => ⟨hb.1, by have := hb.2.1; simp; omega, hb.2.2⟩)
      ·rw [List.mem_singleton] at h1; subst h1
       exact (IsE.of hK4 (aB (Below.refl _ _) _)).mono (fun b hb => ⟨by have := hb.1; simp at this; omega, by have := hb.2; simp; omega, fun e => by have := zQu hoC e; have := hb.1; simp at *; omega⟩)
     have hKF : ∀ K ∈ [K3] ++ [K4], K.is (fun b => (w1.heap.size + 1) ≤ b ∧ b < wF.heap.size ∧ ¬ (Value.slice (some ⟨g4, 0, none⟩) 2 cap4).ownBlock = some b) wF := fun K hK => (IsE.only (yQc hgrow4 hat4 (by simp) _ hall 2 cap4 K hK) hOY (fun b hb e => by have := hb.1; rcases e with e | e <;> omega)).mono (fun b hb => ⟨hb.1, by have := hb.2.1; omega, hb.2.2⟩)
     obtain ⟨ma, ca, hm, hkk⟩ := yXw (L := [K3] ++ [K4]) (by rw [yJy]; exact hownF) rfl hKF
     simp only [Value.slice.injEq] at hm
     obtain ⟨rfl, _, rfl⟩ := hm)
  refine bodyPost_ret (zJv rfl _ _ (w.heap.size) _ _ _ _ _ _ _ _ _ rfl hF) rfl ?_
  first
  | (replace k1 := k1
     exact .ok (hP36.old hOX (fun j hj => .inr hj)) (h.newer hI36 hOX) (IsSt.mk (k := 2) (nm := x1) (fr := []) (ex := [x3]) (ar := []) (bd := []) (el := []) (by omega) (by simp) (by simp) (by simp) (by simp) (by rw [← e3]; exact hkk.mono (fun b hb => ⟨by have := hb.1; omega, hb.2⟩)) .nil .nil .nil))
  | (replace k2 := k2
     exact .ok (hP46.old hOX (fun j hj => .inr hj)) (h.newer hI46 hOX) (IsSt.mk (k := 4) (nm := x1) (fr := []) (ex := [x3, x4]) (ar := []) (bd := []) (el := []) (by omega) (by simp) (by simp) (by simp) (by simp) (by rw [← e3, ← e4]; exact hkk.mono (fun b hb => ⟨by have := hb.1; omega, hb.2⟩)) .nil .nil .nil))
theorem put_any {w : World} {rb mb : Nat} {v : Value} {T : List (Tk × Int)} {p d n : Nat} (h : IsRs w rb mb v T p d n) :
 Calls Tryz.prog 180 #[.pointer (some ⟨rb, 0, none⟩)] w (RP VS w rb mb v T d (setR (zQb T) p n)) := by
 unfold setR
 cases r1 : namR (zQb T) p n with
 | er c q => exact put_er h c q r1
 | ok x q m =>
  simp only [Rz.next]
  by_cases hc : txt (zQb T) q = [91]
  ·rw [if_pos hc]; exact put_m.2 h x q m r1 hc
  ·rw [if_neg hc]; exact put_m.1 h x q m r1 hc
theorem view_any {w : World} {rb mb : Nat} {v : Value} {T : List (Tk × Int)} {p d n : Nat} (h : IsRs w rb mb v T p d n) {blk : Nat → Nat → Rz (List St)} (hK : BlkC rb mb v T d blk) :
 Calls Tryz.prog 106 #[.pointer (some ⟨rb, 0, none⟩)] w (RP VS w rb mb v T d (lenR (zQb T) blk false p n)) := by
 have hrl := h.rl
 go_enter Tryz.func106, Tryz.ntmps106
 go_wp2_with (first
  | (go_at_call 143; ((with_reducible refine (xKd (h.newer h (zQc (Only.refl _ _) _)) hK false).mono ?_); (rintro e w1 ⟨hO1, hR1⟩); (have hP1 : Only (fun j => j = rb) w w1 := ((Only.refl _ _).old (zQc (Only.refl _ _) _) (fun j hj => .inr hj)).trans hO1); (have hs1 := hO1.size); (simp only [World.size_alloc] at hs1); (have hZ1 := zQa (zQf _ _ _ (w.heap.size) (by simp)) hO1 (by omega)); (rcases r1 : lenR (zQb T) blk false p n with ⟨c1, q1⟩ | ⟨x1, q1, m1⟩) <;> (rw [r1] at hR1; first | (unfold Flt at hR1; subst hR1) | (obtain ⟨hI1, z1, rfl, hV1⟩ := hR1; (obtain ⟨K1, rfl, -⟩ := yZl hV1)))))
  | (with_reducible refine st9 rfl _ _ rfl (w.heap.size) rfl rfl hZ1 ?_; intro wF hF hOF)
  )
 all_goals first
  | (refine ⟨rfl, ?_⟩; exact .er hP1)
  | skip
 have hsF := hOF.size
 have hOn : Only (fun j => w.heap.size ≤ j) w1 wF := (Only.refl _ _).trans (hOF.mono (fun j e => by have e2 : j = w.heap.size := e; omega))
 refine bodyPost_ret (zJv rfl _ _ (w.heap.size) _ _ _ _ _ _ _ _ _ rfl hF) rfl ?_
 rw [r1]
 exact .ok (hP1.old hOn (fun j hj => .inr hj)) (h.newer hI1 hOn) (show VS w wF (.agg #[.int .u8 (K1.k : Int), .string (str K1.nm), .string (str K1.fr), .bool K1.sec, .bool K1.mu, .slice K1.mx K1.nx K1.cx, .slice K1.ma K1.na K1.ca, .slice K1.mb K1.nb K1.cb, .slice K1.ml K1.nl K1.cl]) x1 from ((hV1.only hOF (fun b hb e => by simp at *; omega)).mono (fun b hb => ⟨by simp at *; omega, by simp at *; omega⟩)))
theorem edit_any {w : World} {rb mb : Nat} {v : Value} {T : List (Tk × Int)} {p d n : Nat} (h : IsRs w rb mb v T p d n) {blk : Nat → Nat → Rz (List St)} (hK : BlkC rb mb v T d blk) :
 Calls Tryz.prog 107 #[.pointer (some ⟨rb, 0, none⟩)] w (RP VS w rb mb v T d (lenR (zQb T) blk true p n)) := by
 have hrl := h.rl
 go_enter Tryz.func107, Tryz.ntmps107
 go_wp2_with (first
  | (go_at_call 143; ((with_reducible refine (xKd (h.newer h (zQc (Only.refl _ _) _)) hK true).mono ?_); (rintro e w1 ⟨hO1, hR1⟩); (have hP1 : Only (fun j => j = rb) w w1 := ((Only.refl _ _).old (zQc (Only.refl _ _) _) (fun j hj => .inr hj)).trans hO1); (have hs1 := hO1.size); (simp only [World.size_alloc] at hs1); (have hZ1 := zQa (zQf _ _ _ (w.heap.size) (by simp)) hO1 (by omega)); (rcases r1 : lenR (zQb T) blk true p n with ⟨c1, q1⟩ | ⟨x1, q1, m1⟩) <;> (rw [r1] at hR1; first | (unfold Flt at hR1; subst hR1) | (obtain ⟨hI1, z1, rfl, hV1⟩ := hR1; (obtain ⟨K1, rfl, -⟩ := yZl hV1)))))
  | (with_reducible refine st9 rfl _ _ rfl (w.heap.size) rfl rfl hZ1 ?_; intro wF hF hOF)
  )
 all_goals first
  | (refine ⟨rfl, ?_⟩; exact .er hP1)
  | skip
 have hsF := hOF.size
 have hOn : Only (fun j => w.heap.size ≤ j) w1 wF := (Only.refl _ _).trans (hOF.mono (fun j e => by have e2 : j = w.heap.size := e; omega))
 refine bodyPost_ret (zJv rfl _ _ (w.heap.size) _ _ _ _ _ _ _ _ _ rfl hF) rfl ?_
 rw [r1]
 exact .ok (hP1.old hOn (fun j hj => .inr hj)) (h.newer hI1 hOn) (show VS w wF (.agg #[.int .u8 (K1.k : Int), .string (str K1.nm), .string (str K1.fr), .bool K1.sec, .bool K1.mu, .slice K1.mx K1.nx K1.cx, .slice K1.ma K1.na K1.ca, .slice K1.mb K1.nb K1.cb, .slice K1.ml K1.nl K1.cl]) x1 from ((hV1.only hOF (fun b hb e => by simp at *; omega)).mono (fun b hb => ⟨by simp at *; omega, by simp at *; omega⟩)))
theorem branch_any {w : World} {rb mb : Nat} {v : Value} {T : List (Tk × Int)} {p d n : Nat} (h : IsRs w rb mb v T p d n) {blk : Nat → Nat → Rz (List St)} (hK : BlkC rb mb v T d blk) :
 Calls Tryz.prog 103 #[.pointer (some ⟨rb, 0, none⟩)] w (RP VS w rb mb v T d (ifR (zQb T) blk p n)) := by
 have hrl := h.rl
 unfold BlkC at hK
 have hHt : ∀ {W : World} {q m : Nat}, txt (zQb T) q = zKg → IsRs W rb mb v T q d m → Calls Tryz.prog 137 #[.pointer (some ⟨rb, 0, none⟩), .string ⟨#[101, 108, 115, 101]⟩] W fun e w' => e = .returned (.bool true) ∧ Only (fun j => j = rb) W w' ∧ IsRs w' rb mb v T (q + 1) d m := fun hc h => by have := zXd h zKg (by decide); rw [yJd hc, yKn hc] at this; exact this
 have hHf : ∀ {W : World} {q m : Nat}, ¬ txt (zQb T) q = zKg → IsRs W rb mb v T q d m → Calls Tryz.prog 137 #[.pointer (some ⟨rb, 0, none⟩), .string ⟨#[101, 108, 115, 101]⟩] W fun e w' => e = .returned (.bool false) ∧ Only (fun j => j = rb) W w' ∧ IsRs w' rb mb v T q d m := fun hc h => by have := zXd h zKg (by decide); rw [yJe hc, yKo hc] at this; exact this
 unfold ifR
 go_enter Tryz.func103, Tryz.ntmps103
 go_wp2_with (first
  | (go_at_call 141; ((with_reducible refine (zKe (h.newer h (zQc (Only.refl _ _) _))).mono ?_); (rintro e w1 ⟨hO1, hR1⟩); (have hP1 : Only (fun j => j = rb) w w1 := ((Only.refl _ _).old (zQc (Only.refl _ _) _) (fun j hj => .inr hj)).trans hO1); (have hs1 := hO1.size); (simp only [World.size_alloc] at hs1); (have hZ1 := zQa (zQf _ _ _ (w.heap.size) (by simp)) hO1 (by omega)); (rcases r1 : expR (zQb T) p n with ⟨c1, q1⟩ | ⟨x1, q1, m1⟩) <;> (rw [r1] at hR1; first | (unfold Flt at hR1; subst hR1) | (obtain ⟨hI1, z1, rfl, hV1⟩ := hR1; (obtain ⟨k1, n1, s1, o1, mk1, mm1, cap1, rfl⟩ := zKt hV1)))))
  | (go_at_call 142; ((with_reducible refine (hK (h.newer hI1 (zQc (Only.refl _ _) _))).mono ?_); (rintro e w2 ⟨hO2, hR2⟩); (have hP2 : Only (fun j => j = rb) w w2 := (hP1.old (zQc (Only.refl _ _) _) (fun j hj => .inr hj)).trans hO2); (have hs2 := hO2.size); (simp only [World.size_alloc] at hs2); (have hZ2 := zQa (zQj hZ1 _) hO2 (by omega)); (have hK2 := zQa (zQf _ _ _ (w1.heap.size) (by simp)) hO2 (by omega)); (have hE1_2 := ((hV1.of (aB (Below.refl _ _) _))).only hO2 (fun b hb e => by simp at *; omega)); (rcases r2 : blk q1 m1 with ⟨c2, q2⟩ | ⟨x2, q2, m2⟩) <;> (rw [r2] at hR2; first | (unfold Flt at hR2; subst hR2) | (obtain ⟨hI2, z2, rfl, hV2⟩ := hR2; (obtain ⟨mk2, cap2, rfl, hL2, hE2⟩ := hV2)))))
  | (go_at_call 137; ((rcases Classical.em (txt (zQb T) q2 = zKg) with hc3 | hc3) <;> ((first | (with_reducible refine (hHt hc3 (h.newer hI2 (zQc (Only.refl _ _) _))).mono ?_) | (with_reducible refine (hHf hc3 (h.newer hI2 (zQc (Only.refl _ _) _))).mono ?_)); (rintro e w3 ⟨rfl, hO3, hI3⟩); (have hP3 : Only (fun j => j = rb) w w3 := (hP2.old (zQc (Only.refl _ _) _) (fun j hj => .inr hj)).trans hO3); (have hs3 := hO3.size); (simp only [World.size_alloc] at hs3); (have hZ3 := zQa (zQj hZ2 _) hO3 (by omega)); (have hK3 := zQa (zQj hK2 _) hO3 (by omega)); (have hS3 := zQa (zQf _ _ _ (w2.heap.size) (by simp)) hO3 (by omega)); (have hE1_3 := ((hE1_2.of (aB (Below.refl _ _) _))).only hO3 (fun b hb e => by simp at *; omega)); (have hE2_3 := ((hE2.of (aB (Below.refl _ _) _))).only hO3 (fun b hb e => by simp at *; omega)))))
  | (go_at_call 142; ((with_reducible refine (hK hI3).mono ?_); (rintro e w4 ⟨hO4, hR4⟩); (have hP4 := hP3.trans hO4); (have hs4 := hO4.size); (have hZ4 := zQa hZ3 hO4 (by omega)); (have hK4 := zQa hK3 hO4 (by omega)); (have hS4 := zQa hS3 hO4 (by omega)); (have hE1_4 := (hE1_3).only hO4 (fun b hb e => by simp at *; omega)); (have hE2_4 := (hE2_3).only hO4 (fun b hb e => by simp at *; omega)); (rcases r4 : blk (q2 + 1) m2 with ⟨c4, q4⟩ | ⟨x4, q4, m4⟩) <;> (rw [r4] at hR4; first | (unfold Flt at hR4; subst hR4) | (obtain ⟨hI4, z4, rfl, hV4⟩ := hR4; (obtain ⟨mk4, cap4, rfl, hL4, hE4⟩ := hV4); (have fS8_4 := hS4.1 8 (by simp)); (have ffS_4 := hS4.2.1); (have flS_4 := hS4.2.2)))))
  | (with_reducible refine ld9 rfl _ rfl (w2.heap.size) rfl (show rowG #[.int .u8 5, .string ⟨#[]⟩, .string ⟨#[]⟩, .bool false, .bool false, .slice (some ⟨w1.heap.size, 0, none⟩) 1 1, .slice none 0 0, .slice mk2 x2.length cap2, .slice mk4 x4.length cap4] _ _ from (r9s8 (.slice mk4 x4.length cap4) hS4)) ?_)
  | (with_reducible refine st9 rfl _ _ rfl (w.heap.size) rfl rfl (zQm _ hZ4 (by omega)) ?_; intro wF hF hOF)
  | (with_reducible refine ld9 rfl _ rfl (w2.heap.size) rfl (show rowG #[.int .u8 5, .string ⟨#[]⟩, .string ⟨#[]⟩, .bool false, .bool false, .slice (some ⟨w1.heap.size, 0, none⟩) 1 1, .slice none 0 0, .slice mk2 x2.length cap2, .slice none 0 0] _ _ from hS3) ?_)
  | (with_reducible refine st9 rfl _ _ rfl (w.heap.size) rfl rfl hZ3 ?_; intro wF hF hOF)
  )
 all_goals first
  | (refine ⟨rfl, ?_⟩; simp only [r1, Rz.next]; exact .er hP1)
  | (refine ⟨rfl, ?_⟩; simp only [r1, r2, Rz.next]; exact .er hP2)
  | (refine ⟨rfl, ?_⟩; simp only [r1, r2, Rz.next]; rw [if_pos hc3]; simp only [r4]; exact .er hP4)
  | (simp only [r1, r2, Rz.next]; rw [if_pos hc3]; simp only [r4]
     have hsF := hOF.size
     simp only [World.size_setCell] at hsF
     have hOn : Only (fun j => w.heap.size ≤ j) w4 wF := (zQi (Only.refl _ _) _ _ _ (by omega)).trans (hOF.mono (fun j e => by have e2 : j = w.heap.size := e; omega))
     refine bodyPost_ret (zJv rfl _ _ (w.heap.size) _ _ _ _ _ _ _ _ _ rfl hF) rfl ?_
     exact .ok (hP4.old hOn (fun j hj => .inr hj)) (h.newer hI4 hOn) (IsSt.mk (k := 5) (nm := []) (fr := []) (ex := [x1]) (ar := []) (bd := x2) (el := x4) (by omega) (by simp) (by simp) hL2 hL4 (yQv (zQa (zQm _ hK4 (by omega)) hOF (by omega)) ⟨by omega, by omega⟩ (((hE1_4.only (os1 (or1 (w2.heap.size) _) 8 (.slice mk4 x4.length cap4)) (fun b hb e => by simp at *; omega)).only hOF (fun b hb e => by simp at *; omega)).mono (fun b hb => ⟨by simp at *; omega, by simp at *; omega⟩))) .nil (((hE2_4.only (os1 (or1 (w2.heap.size) _) 8 (.slice mk4 x4.length cap4)) (fun b hb e => by simp at *; omega)).only hOF (fun b hb e => by simp at *; omega)).mono (fun b hb => ⟨by simp at *; omega, by simp at *; omega⟩)) (((hE4.only (os1 (or1 (w2.heap.size) _) 8 (.slice mk4 x4.length cap4)) (fun b hb e => by simp at *; omega)).only hOF (fun b hb e => by simp at *; omega)).mono (fun b hb => ⟨by simp at *; omega, by simp at *; omega⟩))))
  | (simp only [r1, r2, Rz.next]; rw [if_neg hc3]
     have hsF := hOF.size
     have hOn : Only (fun j => w.heap.size ≤ j) w3 wF := (Only.refl _ _).trans (hOF.mono (fun j e => by have e2 : j = w.heap.size := e; omega))
     refine bodyPost_ret (zJv rfl _ _ (w.heap.size) _ _ _ _ _ _ _ _ _ rfl hF) rfl ?_
     exact .ok (hP3.old hOn (fun j hj => .inr hj)) (h.newer hI3 hOn) (IsSt.mk (k := 5) (nm := []) (fr := []) (ex := [x1]) (ar := []) (bd := x2) (el := []) (by omega) (by simp) (by simp) hL2 (by simp) (yQv (zQa hK3 hOF (by omega)) ⟨by omega, by omega⟩ ((hE1_3.only hOF (fun b hb e => by simp at *; omega)).mono (fun b hb => ⟨by simp at *; omega, by simp at *; omega⟩))) .nil ((hE2_3.only hOF (fun b hb e => by simp at *; omega)).mono (fun b hb => ⟨by simp at *; omega, by simp at *; omega⟩)) .nil))
theorem jJu : (Tryz.prog.info? 49).map (fun i => (i.zero, i.size, i.bytes)) = some (some (.agg #[.string ⟨#[]⟩, .bool false, .bool false, .bool false]), 4, 24) := by kernel_rfl
theorem listPl_any {w : World} {rb mb : Nat} {v : Value} {T : List (Tk × Int)} {p d n : Nat} (h : IsRs w rb mb v T p d n) (bh : List UInt8) (hbh : bh ≠ []) :
 Calls Tryz.prog 146 #[.pointer (some ⟨rb, 0, none⟩), .func (.func 147) #[] #[], .string (str bh)] w (RP VPs w rb mb v T d (lisR (zQb T) (parR (zQb T)) bh p n)) := by
 obtain ⟨i0, hi, hz0, hz1, hz2⟩ := info_parts jJu
 have hrl := h.rl
 by_cases hc : txt (zQb T) p = bh
 ·have hH0 := zXd h bh hbh
  rw [yJd hc, yKn hc] at hH0
  rw [show lisR (zQb T) (parR (zQb T)) bh p n = .ok [] (p + 1) n from by unfold lisR; rw [if_pos hc]]
  go_enter Tryz.func146, Tryz.ntmps146
  go_wp2_with (go_at_call 137; ((with_reducible refine hH0.mono ?_); (rintro e w1 ⟨rfl, hO1, hI1⟩)))
  go_ret
  exact .ok hO1 hI1 ⟨none, 0, rfl, by simp, .nil⟩
 have hH0 := zXd h bh hbh
 rw [yJe hc, yKo hc] at hH0
 cases r1 : parR (zQb T) p n with
 | er c q =>
  rw [show lisR (zQb T) (parR (zQb T)) bh p n = .er c q from by unfold lisR; rw [if_neg hc, r1]; rfl]
  have h1 := fun w1 (hI1 : IsRs w1 rb mb v T p d n) => xZm hI1
  rw [r1] at h1
  go_enter Tryz.func146, Tryz.ntmps146
  go_wp2_with (first
   | (go_at_call 137; ((with_reducible refine hH0.mono ?_); (rintro e w1 ⟨rfl, hO1, hI1⟩)))
   | (go_at_call 147; ((with_reducible refine (h1 _ hI1).mono ?_); (rintro e w2 ⟨hO2, he⟩); (unfold Flt at he; subst he))))
  exact ⟨rfl, .er (hO1.trans hO2)⟩
 | ok x q m =>
  have hR0 : lisR (zQb T) (parR (zQb T)) bh p n = lisL (zQb T) (parR (zQb T)) bh 9 [x] q m := by unfold lisR; rw [if_neg hc, r1]; rfl
  obtain ⟨R, hR⟩ : ∃ R, lisL (zQb T) (parR (zQb T)) bh 9 [x] q m = R := ⟨_, rfl⟩
  rw [hR0, hR]
  have h1 := fun w1 (hI1 : IsRs w1 rb mb v T p d n) => xZm hI1
  rw [r1] at h1
  go_enter Tryz.func146, Tryz.ntmps146
  go_wp2_with (first
   | (go_at_call 137; ((with_reducible refine hH0.mono ?_); (rintro e w1 ⟨rfl, hO1, hI1⟩)))
   | (go_at_call 147; ((with_reducible refine (h1 _ hI1).mono ?_); (rintro e w2 ⟨hO2, hI2, u, rfl, hV2⟩); (unfold VP at hV2; subst hV2))))
  have hP2 := hO1.trans hO2
  have hs2 := hP2.size
  obtain ⟨W, hW⟩ : ∃ W, w2.alloc (.cells #[.string (str x.nm), .bool x.buf, .bool x.sec, .bool x.mu] 49) = W := ⟨_, rfl⟩
  have hBW : Below w2.heap.size w2 W := by rw [← hW]; exact aB (Below.refl _ _) _
  have hown0 : W.ownsRow w.heap.size 49 4 (.slice (some ⟨w2.heap.size, 0, none⟩) 1 1) 1 (pmC [x]) := by rw [← hW]; exact World.ownsRow_lit w2 #[.string (str x.nm), .bool x.buf, .bool x.sec, .bool x.mu] 1 hs2 (by unfold maxLen; omega) rfl
  have hIW := hI2.of hBW
  have hPW := hP2.trans (ob1 rb hBW)
  have hsW : W.heap.size = w2.heap.size + 1 := by rw [← hW]; simp
  rw [hW]
  clear hW h1 hH0
  go_loopw [7] (fun lv wr => ∃ (L : List Pm) (M f p n : Nat), M = L.length ∧ 1 ≤ M ∧ M ≤ 8 ∧ f + M = 10 ∧ lisL (zQb T) (parR (zQb T)) bh f (L) p n = R ∧ wr.ownsRow w.heap.size 49 4 lv M (pmC L) ∧ IsRs wr rb mb v T p d n ∧ Only (fun j => j = rb) w wr) (fun lv _ => 9 - yXc lv)
  case atStart => exact ⟨[x], 1, 9, q, m, rfl, by omega, by omega, rfl, hR, hown0, hIW, hPW⟩
  case round =>
   obtain ⟨L, M, f, p, n, hM, hM1, hM8, hf, hRR, hown, hI, hP⟩ := hrel
   obtain ⟨f, rfl⟩ : ∃ f', f = f' + 1 := ⟨f - 1, by omega⟩
   have HM := Lib.hid hM
   have Hf := Lib.hid hf
   have hsr := hP.size
   obtain ⟨a, c, rfl⟩ := zKb hown
   by_cases hc : txt (zQb T) p = bh
   ·have hH0 := zXd hI bh hbh
    rw [yJd hc, yKn hc] at hH0
    have hRe : R = .ok (L) (p + 1) n := by rw [← hRR]; unfold lisL; rw [if_pos hc]
    clear hM hf
    go_wp2_with (go_at_call 137; ((with_reducible refine hH0.mono ?_); (rintro e w3 ⟨rfl, hO3, hI3⟩)))
    go_ret
    rw [hRe]
    have ho3 := zQy hown hO3 (fun j hj e => by have := zQu hown hj; have e2 : j = rb := e; omega)
    exact .ok (u := .slice a M c) (hP.trans hO3) hI3 ⟨a, c, by rw [← HM.out], by rw [← HM.out]; omega, jQf ho3 HM.out⟩
   have hH0 := zXd hI bh hbh
   rw [yJe hc, yKo hc] at hH0
   have hT0 : ∀ {W : World}, IsRs W rb mb v T p d n → Calls Tryz.prog 140 #[.pointer (some ⟨rb, 0, none⟩), .string ⟨#[44]⟩] W (RP VU W rb mb v T d (takR (zQb T) [44] p n)) := fun h => zXl h [44] (by decide)
   rw [show lisL (zQb T) (parR (zQb T)) bh (f + 1) (L) p n = (takR (zQb T) [44] p n).next fun _ p n => if (L).length = 8 then .er 5 p else (parR (zQb T) p n).next fun x p n => lisL (zQb T) (parR (zQb T)) bh f ((L) ++ [x]) p n from by rw [lisL, if_neg hc]] at hRR
   have hxl : (L).length = M := by simp [HM.out]
   rw [hxl] at hRR
   cases r3 : takR (zQb T) [44] p n with
   | er c3 q3 =>
    rw [r3] at hRR hT0
    simp only [Rz.next] at hRR
    rw [← hRR]
    clear hM hf hRR
    go_wp2_with (first
     | (go_at_call 137; ((with_reducible refine hH0.mono ?_); (rintro e w3 ⟨rfl, hO3, hI3⟩)))
     | (go_at_call 140; ((with_reducible refine (hT0 hI3).mono ?_); (rintro e w4 ⟨hO4, he⟩); (unfold Flt at he; subst he))))
    exact ⟨rfl, .er ((hP.trans hO3).trans hO4)⟩
   | ok u3 q3 m3 =>
    rw [r3] at hRR hT0
    simp only [Rz.next] at hRR
    by_cases hM8' : M = 8
    ·rw [if_pos hM8'] at hRR
     rw [← hRR]
     have h8 : ((M : Int) == 8) = true := by simp; omega
     have hS := fun W (hW : IsRs W rb mb v T q3 d m3) => zKo hW 5 5 rfl
     clear hM hf hRR hM8'
     go_wp2_with (first
      | (go_at_call 137; ((with_reducible refine hH0.mono ?_); (rintro e w3 ⟨rfl, hO3, hI3⟩)))
      | (go_at_call 140; ((with_reducible refine (hT0 hI3).mono ?_); (rintro e w4 ⟨hO4, hI4, u4, rfl, hV4⟩); (unfold VU at hV4; subst hV4)))
      | (go_at_call 113; ((with_reducible refine (hS _ hI4).mono ?_); (rintro e w5 ⟨he, k, rfl⟩); (unfold Flt at he; subst he))))
     exact ⟨rfl, .er (zXn ((hP.trans hO3).trans hO4) k)⟩
    rw [if_neg hM8'] at hRR
    have h8 : ((M : Int) == 8) = false := by simp; omega
    have h1 := fun w1 (hI1 : IsRs w1 rb mb v T q3 d m3) => xZm hI1
    cases r5 : parR (zQb T) q3 m3 with
    | er c5 q5 =>
     rw [r5] at hRR h1
     simp only at hRR
     rw [← hRR]
     clear hM hf hRR hM8'
     go_wp2_with (first
      | (go_at_call 137; ((with_reducible refine hH0.mono ?_); (rintro e w3 ⟨rfl, hO3, hI3⟩)))
      | (go_at_call 140; ((with_reducible refine (hT0 hI3).mono ?_); (rintro e w4 ⟨hO4, hI4, u4, rfl, hV4⟩); (unfold VU at hV4; subst hV4)))
      | (go_at_call 147; ((with_reducible refine (h1 _ hI4).mono ?_); (rintro e w5 ⟨hO5, he⟩); (unfold Flt at he; subst he))))
     exact ⟨rfl, .er (((hP.trans hO3).trans hO4).trans hO5)⟩
    | ok x5 q5 m5 =>
     rw [r5] at hRR h1
     simp only at hRR
     have Hne := Lib.hid hM8'
     clear hM hf hM8'
     go_wp2_with (first
      | (go_at_call 137; ((with_reducible refine hH0.mono ?_); (rintro e w3 ⟨rfl, hO3, hI3⟩)))
      | (go_at_call 140; ((with_reducible refine (hT0 hI3).mono ?_); (rintro e w4 ⟨hO4, hI4, u4, rfl, hV4⟩); (unfold VU at hV4; subst hV4)))
      | (go_at_call 147; ((with_reducible refine (h1 _ hI4).mono ?_); (rintro e w5 ⟨hO5, hI5, u5, rfl, hV5⟩); (unfold VP at hV5; subst hV5); (have hO35 := (hO3.trans hO4).trans hO5); (have ho5 := zQy hown hO35 (fun j hj e => by have := zQu hown hj; have e2 : j = rb := e; omega))))
      | (at_builtin; refine wpList_append_lies _ rfl _ _ 40 rfl w.heap.size 49 i0 _ 4 24 Tryz.underlying40 hi hz0 hz1 hz2 rfl (by decide) _ M (pmC L) rfl (ho5.alloc _) ⟨w5.heap.size, 0, none⟩ 1 1 (pmC [x5]) rfl rfl ?cN ?c0 (by decide) ?c1 ?c2 ?c3 _ rfl ?_))
     case cN => exact zXe (pmC [x5]) 49 w5
     case c0 => exact jQg _
     case c1 => unfold maxLen; omega
     case c2 => omega
     case c3 => have := hO35.size; simp; omega
     obtain ⟨wa, hwa⟩ : ∃ wa, w5.alloc (.cells #[.string (str x5.nm), .bool x5.buf, .bool x5.sec, .bool x5.mu] 49) = wa := ⟨_, rfl⟩
     have hba : Below w5.heap.size w5 wa := by rw [← hwa]; exact aB (Below.refl _ _) _
     intro g cap' w6 hown6 hgrow hat hlt6
     rw [hwa] at hgrow
     have hsz : wa.heap.size = w5.heap.size + 1 := by rw [← hwa]; simp
     have hs5 := hO35.size
     have hog := zXc hgrow
     have hP5 : Only (fun j => j = rb) w w5 := hP.trans hO35
     have hIa : IsRs wa rb mb v T q5 d m5 := hI5.of hba
     have hnew : ∀ j, some j = (Value.slice a M c).ownBlock → w.heap.size ≤ j := fun j hj => (zQu hown hj.symm).1
     have hI6 : IsRs w6 rb mb v T q5 d m5 := h.newer hIa (hog.mono hnew)
     have hP6 : Only (fun j => j = rb) w w6 := (hP5.trans (ob1 rb hba)).old hog (fun j hj => .inr (hnew j hj))
     go_wp2
     go_roundw
     case rel => exact ⟨L ++ [x5], M + 1, f, q5, m5, by simp [HM.out], by omega, by have := Hne.out; omega, by have := Hf.out; omega, hRR, by rw [pmC_app]; exact hown6, hI6, hP6⟩
     case measure => simp [yXc]; omega
end Go.Proofs.YtfbjljcmmbdhkaaGreatDoor
