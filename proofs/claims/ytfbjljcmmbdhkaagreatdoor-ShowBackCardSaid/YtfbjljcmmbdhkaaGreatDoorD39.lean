/- Contracts of the reader of programs: statements without blocks. -/
import Derived.Test.YtfbjljcmmbdhkaaGreatDoorD19
import Derived.Test.YtfbjljcmmbdhkaaGreatDoorD37
namespace Go.Proofs.YtfbjljcmmbdhkaaGreatDoor
set_option linter.unusedVariables false
set_option linter.unusedSimpArgs false
set_option maxRecDepth 100000
set_option maxHeartbeats 200000000
open Go.ChangeShapes Go.WideShapes Go.ChangeAt Go.RowKit
theorem let_any {w : World} {rb mb : Nat} {v : Value} {T : List (Tk × Int)} {p d n : Nat} (h : IsRs w rb mb v T p d n) :
 Calls Tryz.prog 101 #[.pointer (some ⟨rb, 0, none⟩)] w (RP VS w rb mb v T d (letR (zQb T) p n)) := by
 have hrl := h.rl
 have hH : ∀ {W : World} {p n : Nat}, IsRs W rb mb v T p d n → Calls Tryz.prog 137 #[.pointer (some ⟨rb, 0, none⟩), .string ⟨#[115, 101, 99, 114, 101, 116]⟩] W fun e w' => e = .returned (.bool (isP (zQb T) zQo p)) ∧ Only (fun j => j = rb) W w' ∧ IsRs w' rb mb v T (beP (zQb T) zQo p) d n := fun h => zXd h zQo (by decide)
 have hB : ∀ {W : World} {p n : Nat}, IsRs W rb mb v T p d n → Calls Tryz.prog 139 #[.pointer (some ⟨rb, 0, none⟩), .string ⟨#[61]⟩, .string ⟨#[59]⟩] W (RP VX W rb mb v T d (betR (zQb T) [61] [59] p n)) := fun h => yQn h [61] [59] (by decide) (by decide)
 unfold letR
 go_enter Tryz.func101, Tryz.ntmps101
 go_wp2_with (first
  | (go_at_call 137; ((with_reducible refine (hH (h.newer h (zQc (Only.refl _ _) _))).mono ?_); (rintro e w1 ⟨rfl, hO1, hI1⟩); (have hP1 : Only (fun j => j = rb) w w1 := ((Only.refl _ _).old (zQc (Only.refl _ _) _) (fun j hj => .inr hj)).trans hO1); (have hs1 := hO1.size); (simp only [World.size_alloc] at hs1); (have hZ1 := zQa (zQf _ _ _ (w.heap.size) (by simp)) hO1 (by omega))))
  | (go_at_call 138; ((with_reducible refine (zXw hI1).mono ?_); (rintro e w2 ⟨hO2, hR2⟩); (have hP2 := hP1.trans hO2); (have hs2 := hO2.size); (have hZ2 := zQa hZ1 hO2 (by omega)); (rcases r2 : namR (zQb T) (beP (zQb T) zQo p) n with ⟨c2, q2⟩ | ⟨x2, q2, m2⟩) <;> (rw [r2] at hR2; first | (unfold Flt at hR2; subst hR2) | (obtain ⟨hI2, z2, rfl, hV2⟩ := hR2; (unfold VN at hV2; subst hV2)))))
  | (go_at_call 139; ((with_reducible refine (hB (h.newer hI2 (zQc (Only.refl _ _) _))).mono ?_); (rintro e w3 ⟨hO3, hR3⟩); (have hP3 : Only (fun j => j = rb) w w3 := (hP2.old (zQc (Only.refl _ _) _) (fun j hj => .inr hj)).trans hO3); (have hs3 := hO3.size); (simp only [World.size_alloc] at hs3); (have hZ3 := zQa (zQj hZ2 _) hO3 (by omega)); (have hS3 := zQa (zQf _ _ _ (w2.heap.size) (by simp)) hO3 (by omega)); (rcases r3 : betR (zQb T) [61] [59] q2 m2 with ⟨c3, q3⟩ | ⟨x3, q3, m3⟩) <;> (rw [r3] at hR3; first | (unfold Flt at hR3; subst hR3) | (obtain ⟨hI3, z3, rfl, hV3⟩ := hR3; (obtain ⟨k3, n3, s3, o3, mk3, mm3, cap3, rfl⟩ := zKt hV3); (have fS5_3 := hS3.1 5 (by simp)); (have ffS_3 := hS3.2.1); (have flS_3 := hS3.2.2)))))
  | (with_reducible refine ld9 rfl _ rfl (w2.heap.size) rfl (show rowG #[.int .u8 1, .string (str x2), .string ⟨#[]⟩, .bool (isP (zQb T) zQo p), .bool false, .slice (some ⟨w3.heap.size, 0, none⟩) 1 1, .slice none 0 0, .slice none 0 0, .slice none 0 0] _ _ from (zQj (r9s5 (.slice (some ⟨w3.heap.size, 0, none⟩) 1 1) hS3) _)) ?_)
  | (with_reducible refine st9 rfl _ _ rfl (w.heap.size) rfl rfl (zQj (zQm _ hZ3 (by omega)) _) ?_; intro wF hF hOF)
  )
 all_goals first
  | (refine ⟨rfl, ?_⟩; simp only [r2, Rz.next]; exact .er hP2)
  | (refine ⟨rfl, ?_⟩; simp only [r2, r3, Rz.next]; exact .er hP3)
  | skip
 simp only [r2, r3, Rz.next]
 have hsF := hOF.size
 simp only [World.size_alloc, World.size_setCell] at hsF
 have hOn : Only (fun j => w.heap.size ≤ j) w3 wF := (zQc (zQi (Only.refl _ _) _ _ _ (by omega)) _).trans (hOF.mono (fun j e => by have e2 : j = w.heap.size := e; omega))
 refine bodyPost_ret (zJv rfl _ _ (w.heap.size) _ _ _ _ _ _ _ _ _ rfl hF) rfl ?_
 exact .ok (hP3.old hOn (fun j hj => .inr hj)) (h.newer hI3 hOn) (IsSt.mk (k := 1) (nm := x2) (fr := []) (ex := [x3]) (ar := []) (bd := []) (el := []) (by omega) (by simp) (by simp) (by simp) (by simp) (yQv (zQa (zQf #[.int .u8 k3, .int .u64 n3, .string s3, .int .u8 o3, .slice mk3 mm3 cap3] 47 (w3.setCell ⟨w2.heap.size, 5, none⟩ (.slice (some ⟨w3.heap.size, 0, none⟩) 1 1)) (w3.heap.size) (by simp)) hOF (by omega)) ⟨by omega, by omega⟩ ((((hV3.only (os1 (or1 (w2.heap.size) _) 5 (.slice (some ⟨w3.heap.size, 0, none⟩) 1 1)) (fun b hb e => by simp at *; omega)).of (aB (Below.refl _ _) _)).only hOF (fun b hb e => by simp at *; omega)).mono (fun b hb => ⟨by simp at *; omega, by simp at *; omega⟩))) .nil .nil .nil)
theorem buf_any {w : World} {rb mb : Nat} {v : Value} {T : List (Tk × Int)} {p d n : Nat} (h : IsRs w rb mb v T p d n) :
 Calls Tryz.prog 102 #[.pointer (some ⟨rb, 0, none⟩)] w (RP VS w rb mb v T d (bufR (zQb T) p n)) := by
 have hrl := h.rl
 have hH : ∀ {W : World} {p n : Nat}, IsRs W rb mb v T p d n → Calls Tryz.prog 137 #[.pointer (some ⟨rb, 0, none⟩), .string ⟨#[115, 101, 99, 114, 101, 116]⟩] W fun e w' => e = .returned (.bool (isP (zQb T) zQo p)) ∧ Only (fun j => j = rb) W w' ∧ IsRs w' rb mb v T (beP (zQb T) zQo p) d n := fun h => zXd h zQo (by decide)
 have hB : ∀ {W : World} {p n : Nat}, IsRs W rb mb v T p d n → Calls Tryz.prog 139 #[.pointer (some ⟨rb, 0, none⟩), .string ⟨#[91]⟩, .string ⟨#[93]⟩] W (RP VX W rb mb v T d (betR (zQb T) [91] [93] p n)) := fun h => yQn h [91] [93] (by decide) (by decide)
 have hT : ∀ {W : World} {p n : Nat}, IsRs W rb mb v T p d n → Calls Tryz.prog 140 #[.pointer (some ⟨rb, 0, none⟩), .string ⟨#[59]⟩] W (RP VU W rb mb v T d (takR (zQb T) [59] p n)) := fun h => zXl h [59] (by decide)
 unfold bufR
 go_enter Tryz.func102, Tryz.ntmps102
 go_wp2_with (first
  | (go_at_call 137; ((with_reducible refine (hH (h.newer h (zQc (Only.refl _ _) _))).mono ?_); (rintro e w1 ⟨rfl, hO1, hI1⟩); (have hP1 : Only (fun j => j = rb) w w1 := ((Only.refl _ _).old (zQc (Only.refl _ _) _) (fun j hj => .inr hj)).trans hO1); (have hs1 := hO1.size); (simp only [World.size_alloc] at hs1); (have hZ1 := zQa (zQf _ _ _ (w.heap.size) (by simp)) hO1 (by omega))))
  | (go_at_call 138; ((with_reducible refine (zXw hI1).mono ?_); (rintro e w2 ⟨hO2, hR2⟩); (have hP2 := hP1.trans hO2); (have hs2 := hO2.size); (have hZ2 := zQa hZ1 hO2 (by omega)); (rcases r2 : namR (zQb T) (beP (zQb T) zQo p) n with ⟨c2, q2⟩ | ⟨x2, q2, m2⟩) <;> (rw [r2] at hR2; first | (unfold Flt at hR2; subst hR2) | (obtain ⟨hI2, z2, rfl, hV2⟩ := hR2; (unfold VN at hV2; subst hV2)))))
  | (go_at_call 139; ((with_reducible refine (hB (h.newer hI2 (zQc (Only.refl _ _) _))).mono ?_); (rintro e w3 ⟨hO3, hR3⟩); (have hP3 : Only (fun j => j = rb) w w3 := (hP2.old (zQc (Only.refl _ _) _) (fun j hj => .inr hj)).trans hO3); (have hs3 := hO3.size); (simp only [World.size_alloc] at hs3); (have hZ3 := zQa (zQj hZ2 _) hO3 (by omega)); (have hS3 := zQa (zQf _ _ _ (w2.heap.size) (by simp)) hO3 (by omega)); (rcases r3 : betR (zQb T) [91] [93] q2 m2 with ⟨c3, q3⟩ | ⟨x3, q3, m3⟩) <;> (rw [r3] at hR3; first | (unfold Flt at hR3; subst hR3) | (obtain ⟨hI3, z3, rfl, hV3⟩ := hR3; (obtain ⟨k3, n3, s3, o3, mk3, mm3, cap3, rfl⟩ := zKt hV3); (have fS5_3 := hS3.1 5 (by simp)); (have ffS_3 := hS3.2.1); (have flS_3 := hS3.2.2)))))
  | (go_at_call 140; ((with_reducible refine (hT (h.newer hI3 (zQc (zQi (Only.refl _ _) _ _ _ (by omega)) _))).mono ?_); (rintro e w4 ⟨hO4, hR4⟩); (have hP4 : Only (fun j => j = rb) w w4 := (hP3.old (zQc (zQi (Only.refl _ _) _ _ _ (by omega)) _) (fun j hj => .inr hj)).trans hO4); (have hs4 := hO4.size); (simp only [World.size_alloc, World.size_setCell] at hs4); (have hZ4 := zQa (zQj (zQm _ hZ3 (by omega)) _) hO4 (by omega)); (have hS4 := zQa (zQj (r9s5 (.slice (some ⟨w3.heap.size, 0, none⟩) 1 1) hS3) _) hO4 (by omega)); (have hK4 := zQa (zQf #[.int .u8 k3, .int .u64 n3, .string s3, .int .u8 o3, .slice mk3 mm3 cap3] 47 (w3.setCell ⟨w2.heap.size, 5, none⟩ (.slice (some ⟨w3.heap.size, 0, none⟩) 1 1)) (w3.heap.size) (by simp)) hO4 (by omega)); (have hE3_4 := (((hV3.only (os1 (or1 (w2.heap.size) _) 5 (.slice (some ⟨w3.heap.size, 0, none⟩) 1 1)) (fun b hb e => by simp at *; omega)).of (aB (Below.refl _ _) _))).only hO4 (fun b hb e => by simp at *; omega)); (rcases r4 : takR (zQb T) [59] q3 m3 with ⟨c4, q4⟩ | ⟨x4, q4, m4⟩) <;> (rw [r4] at hR4; first | (unfold Flt at hR4; subst hR4) | (obtain ⟨hI4, z4, rfl, hV4⟩ := hR4; (unfold VU at hV4; subst hV4)))))
  | (with_reducible refine ld9 rfl _ rfl (w2.heap.size) rfl (show rowG #[.int .u8 3, .string (str x2), .string ⟨#[]⟩, .bool (isP (zQb T) zQo p), .bool false, .slice (some ⟨w3.heap.size, 0, none⟩) 1 1, .slice none 0 0, .slice none 0 0, .slice none 0 0] _ _ from hS4) ?_)
  | (with_reducible refine st9 rfl _ _ rfl (w.heap.size) rfl rfl hZ4 ?_; intro wF hF hOF)
  )
 all_goals first
  | (refine ⟨rfl, ?_⟩; simp only [r2, Rz.next]; exact .er hP2)
  | (refine ⟨rfl, ?_⟩; simp only [r2, r3, Rz.next]; exact .er hP3)
  | (refine ⟨rfl, ?_⟩; simp only [r2, r3, r4, Rz.next]; exact .er hP4)
  | skip
 simp only [r2, r3, r4, Rz.next]
 have hsF := hOF.size
 have hOn : Only (fun j => w.heap.size ≤ j) w4 wF := (Only.refl _ _).trans (hOF.mono (fun j e => by have e2 : j = w.heap.size := e; omega))
 refine bodyPost_ret (zJv rfl _ _ (w.heap.size) _ _ _ _ _ _ _ _ _ rfl hF) rfl ?_
 exact .ok (hP4.old hOn (fun j hj => .inr hj)) (h.newer hI4 hOn) (IsSt.mk (k := 3) (nm := x2) (fr := []) (ex := [x3]) (ar := []) (bd := []) (el := []) (by omega) (by simp) (by simp) (by simp) (by simp) (yQv (zQa hK4 hOF (by omega)) ⟨by omega, by omega⟩ ((hE3_4.only hOF (fun b hb e => by simp at *; omega)).mono (fun b hb => ⟨by simp at *; omega, by simp at *; omega⟩))) .nil .nil .nil)
theorem move_any {w : World} {rb mb : Nat} {v : Value} {T : List (Tk × Int)} {p d n : Nat} (h : IsRs w rb mb v T p d n) :
 Calls Tryz.prog 108 #[.pointer (some ⟨rb, 0, none⟩)] w (RP VS w rb mb v T d (movR (zQb T) p n)) := by
 have hrl := h.rl
 have hT1 : ∀ {W : World} {p n : Nat}, IsRs W rb mb v T p d n → Calls Tryz.prog 140 #[.pointer (some ⟨rb, 0, none⟩), .string ⟨#[61]⟩] W (RP VU W rb mb v T d (takR (zQb T) [61] p n)) := fun h => zXl h [61] (by decide)
 have hT2 : ∀ {W : World} {p n : Nat}, IsRs W rb mb v T p d n → Calls Tryz.prog 140 #[.pointer (some ⟨rb, 0, none⟩), .string ⟨#[59]⟩] W (RP VU W rb mb v T d (takR (zQb T) [59] p n)) := fun h => zXl h [59] (by decide)
 unfold movR
 go_enter Tryz.func108, Tryz.ntmps108
 go_wp2_with (first
  | (go_at_call 138; ((with_reducible refine (zXw (h.newer h (zQc (Only.refl _ _) _))).mono ?_); (rintro e w1 ⟨hO1, hR1⟩); (have hP1 : Only (fun j => j = rb) w w1 := ((Only.refl _ _).old (zQc (Only.refl _ _) _) (fun j hj => .inr hj)).trans hO1); (have hs1 := hO1.size); (simp only [World.size_alloc] at hs1); (have hZ1 := zQa (zQf _ _ _ (w.heap.size) (by simp)) hO1 (by omega)); (rcases r1 : namR (zQb T) p n with ⟨c1, q1⟩ | ⟨x1, q1, m1⟩) <;> (rw [r1] at hR1; first | (unfold Flt at hR1; subst hR1) | (obtain ⟨hI1, z1, rfl, hV1⟩ := hR1; (unfold VN at hV1; subst hV1)))))
  | (go_at_call 140; ((with_reducible refine (hT1 (h.newer hI1 (zQc (Only.refl _ _) _))).mono ?_); (rintro e w2 ⟨hO2, hR2⟩); (have hP2 : Only (fun j => j = rb) w w2 := (hP1.old (zQc (Only.refl _ _) _) (fun j hj => .inr hj)).trans hO2); (have hs2 := hO2.size); (simp only [World.size_alloc] at hs2); (have hZ2 := zQa (zQj hZ1 _) hO2 (by omega)); (have hS2 := zQa (zQf _ _ _ (w1.heap.size) (by simp)) hO2 (by omega)); (rcases r2 : takR (zQb T) [61] q1 m1 with ⟨c2, q2⟩ | ⟨x2, q2, m2⟩) <;> (rw [r2] at hR2; first | (unfold Flt at hR2; subst hR2) | (obtain ⟨hI2, z2, rfl, hV2⟩ := hR2; (unfold VU at hV2; subst hV2)))))
  | (go_at_call 138; ((with_reducible refine (zXw hI2).mono ?_); (rintro e w3 ⟨hO3, hR3⟩); (have hP3 := hP2.trans hO3); (have hs3 := hO3.size); (have hZ3 := zQa hZ2 hO3 (by omega)); (have hS3 := zQa hS2 hO3 (by omega)); (rcases r3 : namR (zQb T) q2 m2 with ⟨c3, q3⟩ | ⟨x3, q3, m3⟩) <;> (rw [r3] at hR3; first | (unfold Flt at hR3; subst hR3) | (obtain ⟨hI3, z3, rfl, hV3⟩ := hR3; (unfold VN at hV3; subst hV3); (have fS2_3 := hS3.1 2 (by simp)); (have ffS_3 := hS3.2.1); (have flS_3 := hS3.2.2)))))
  | (go_at_call 140; ((with_reducible refine (hT2 (h.newer hI3 (zQi (Only.refl _ _) _ _ _ (by omega)))).mono ?_); (rintro e w4 ⟨hO4, hR4⟩); (have hP4 : Only (fun j => j = rb) w w4 := (hP3.old (zQi (Only.refl _ _) _ _ _ (by omega)) (fun j hj => .inr hj)).trans hO4); (have hs4 := hO4.size); (simp only [World.size_setCell] at hs4); (have hZ4 := zQa (zQm _ hZ3 (by omega)) hO4 (by omega)); (have hS4 := zQa (r9s2 (.string (str x3)) hS3) hO4 (by omega)); (rcases r4 : takR (zQb T) [59] q3 m3 with ⟨c4, q4⟩ | ⟨x4, q4, m4⟩) <;> (rw [r4] at hR4; first | (unfold Flt at hR4; subst hR4) | (obtain ⟨hI4, z4, rfl, hV4⟩ := hR4; (unfold VU at hV4; subst hV4)))))
  | (with_reducible refine ld9 rfl _ rfl (w1.heap.size) rfl (show rowG #[.int .u8 9, .string (str x1), .string (str x3), .bool false, .bool false, .slice none 0 0, .slice none 0 0, .slice none 0 0, .slice none 0 0] _ _ from hS4) ?_)
  | (with_reducible refine st9 rfl _ _ rfl (w.heap.size) rfl rfl hZ4 ?_; intro wF hF hOF)
  )
 all_goals first
  | (refine ⟨rfl, ?_⟩; simp only [r1, Rz.next]; exact .er hP1)
  | (refine ⟨rfl, ?_⟩; simp only [r1, r2, Rz.next]; exact .er hP2)
  | (refine ⟨rfl, ?_⟩; simp only [r1, r2, r3, Rz.next]; exact .er hP3)
  | (refine ⟨rfl, ?_⟩; simp only [r1, r2, r3, r4, Rz.next]; exact .er hP4)
  | skip
 simp only [r1, r2, r3, r4, Rz.next]
 have hsF := hOF.size
 have hOn : Only (fun j => w.heap.size ≤ j) w4 wF := (Only.refl _ _).trans (hOF.mono (fun j e => by have e2 : j = w.heap.size := e; omega))
 refine bodyPost_ret (zJv rfl _ _ (w.heap.size) _ _ _ _ _ _ _ _ _ rfl hF) rfl ?_
 exact .ok (hP4.old hOn (fun j hj => .inr hj)) (h.newer hI4 hOn) (IsSt.mk (k := 9) (nm := x1) (fr := x3) (ex := []) (ar := []) (bd := []) (el := []) (by omega) (by simp) (by simp) (by simp) (by simp) .nil .nil .nil .nil)
theorem open_any {w : World} {rb mb : Nat} {v : Value} {T : List (Tk × Int)} {p d n : Nat} (h : IsRs w rb mb v T p d n) :
 Calls Tryz.prog 109 #[.pointer (some ⟨rb, 0, none⟩)] w (RP VS w rb mb v T d (opnR (zQb T) p n)) := by
 have hrl := h.rl
 have hB : ∀ {W : World} {p n : Nat}, IsRs W rb mb v T p d n → Calls Tryz.prog 139 #[.pointer (some ⟨rb, 0, none⟩), .string ⟨#[61]⟩, .string ⟨#[59]⟩] W (RP VX W rb mb v T d (betR (zQb T) [61] [59] p n)) := fun h => yQn h [61] [59] (by decide) (by decide)
 unfold opnR
 go_enter Tryz.func109, Tryz.ntmps109
 go_wp2_with (first
  | (go_at_call 138; ((with_reducible refine (zXw (h.newer h (zQc (Only.refl _ _) _))).mono ?_); (rintro e w1 ⟨hO1, hR1⟩); (have hP1 : Only (fun j => j = rb) w w1 := ((Only.refl _ _).old (zQc (Only.refl _ _) _) (fun j hj => .inr hj)).trans hO1); (have hs1 := hO1.size); (simp only [World.size_alloc] at hs1); (have hZ1 := zQa (zQf _ _ _ (w.heap.size) (by simp)) hO1 (by omega)); (rcases r1 : namR (zQb T) p n with ⟨c1, q1⟩ | ⟨x1, q1, m1⟩) <;> (rw [r1] at hR1; first | (unfold Flt at hR1; subst hR1) | (obtain ⟨hI1, z1, rfl, hV1⟩ := hR1; (unfold VN at hV1; subst hV1)))))
  | (go_at_call 139; ((with_reducible refine (hB (h.newer hI1 (zQc (Only.refl _ _) _))).mono ?_); (rintro e w2 ⟨hO2, hR2⟩); (have hP2 : Only (fun j => j = rb) w w2 := (hP1.old (zQc (Only.refl _ _) _) (fun j hj => .inr hj)).trans hO2); (have hs2 := hO2.size); (simp only [World.size_alloc] at hs2); (have hZ2 := zQa (zQj hZ1 _) hO2 (by omega)); (have hS2 := zQa (zQf _ _ _ (w1.heap.size) (by simp)) hO2 (by omega)); (rcases r2 : betR (zQb T) [61] [59] q1 m1 with ⟨c2, q2⟩ | ⟨x2, q2, m2⟩) <;> (rw [r2] at hR2; first | (unfold Flt at hR2; subst hR2) | (obtain ⟨hI2, z2, rfl, hV2⟩ := hR2; (obtain ⟨k2, n2, s2, o2, mk2, mm2, cap2, rfl⟩ := zKt hV2); (have fS5_2 := hS2.1 5 (by simp)); (have ffS_2 := hS2.2.1); (have flS_2 := hS2.2.2)))))
  | (with_reducible refine ld9 rfl _ rfl (w1.heap.size) rfl (show rowG #[.int .u8 10, .string (str x1), .string ⟨#[]⟩, .bool false, .bool false, .slice (some ⟨w2.heap.size, 0, none⟩) 1 1, .slice none 0 0, .slice none 0 0, .slice none 0 0] _ _ from (zQj (r9s5 (.slice (some ⟨w2.heap.size, 0, none⟩) 1 1) hS2) _)) ?_)
  | (with_reducible refine st9 rfl _ _ rfl (w.heap.size) rfl rfl (zQj (zQm _ hZ2 (by omega)) _) ?_; intro wF hF hOF)
  )
 all_goals first
  | (refine ⟨rfl, ?_⟩; simp only [r1, Rz.next]; exact .er hP1)
  | (refine ⟨rfl, ?_⟩; simp only [r1, r2, Rz.next]; exact .er hP2)
  | skip
 simp only [r1, r2, Rz.next]
 have hsF := hOF.size
 simp only [World.size_alloc, World.size_setCell] at hsF
 have hOn : Only (fun j => w.heap.size ≤ j) w2 wF := (zQc (zQi (Only.refl _ _) _ _ _ (by omega)) _).trans (hOF.mono (fun j e => by have e2 : j = w.heap.size := e; omega))
 refine bodyPost_ret (zJv rfl _ _ (w.heap.size) _ _ _ _ _ _ _ _ _ rfl hF) rfl ?_
 exact .ok (hP2.old hOn (fun j hj => .inr hj)) (h.newer hI2 hOn) (IsSt.mk (k := 10) (nm := x1) (fr := []) (ex := [x2]) (ar := []) (bd := []) (el := []) (by omega) (by simp) (by simp) (by simp) (by simp) (yQv (zQa (zQf #[.int .u8 k2, .int .u64 n2, .string s2, .int .u8 o2, .slice mk2 mm2 cap2] 47 (w2.setCell ⟨w1.heap.size, 5, none⟩ (.slice (some ⟨w2.heap.size, 0, none⟩) 1 1)) (w2.heap.size) (by simp)) hOF (by omega)) ⟨by omega, by omega⟩ ((((hV2.only (os1 (or1 (w1.heap.size) _) 5 (.slice (some ⟨w2.heap.size, 0, none⟩) 1 1)) (fun b hb e => by simp at *; omega)).of (aB (Below.refl _ _) _)).only hOF (fun b hb e => by simp at *; omega)).mono (fun b hb => ⟨by simp at *; omega, by simp at *; omega⟩))) .nil .nil .nil)
theorem seal_any {w : World} {rb mb : Nat} {v : Value} {T : List (Tk × Int)} {p d n : Nat} (h : IsRs w rb mb v T p d n) :
 Calls Tryz.prog 111 #[.pointer (some ⟨rb, 0, none⟩)] w (RP VS w rb mb v T d (seaR (zQb T) p n)) := by
 have hrl := h.rl
 have hT : ∀ {W : World} {p n : Nat}, IsRs W rb mb v T p d n → Calls Tryz.prog 140 #[.pointer (some ⟨rb, 0, none⟩), .string ⟨#[59]⟩] W (RP VU W rb mb v T d (takR (zQb T) [59] p n)) := fun h => zXl h [59] (by decide)
 unfold seaR
 go_enter Tryz.func111, Tryz.ntmps111
 go_wp2_with (first
  | (go_at_call 140; ((with_reducible refine (hT (h.newer h (zQc (Only.refl _ _) _))).mono ?_); (rintro e w1 ⟨hO1, hR1⟩); (have hP1 : Only (fun j => j = rb) w w1 := ((Only.refl _ _).old (zQc (Only.refl _ _) _) (fun j hj => .inr hj)).trans hO1); (have hs1 := hO1.size); (simp only [World.size_alloc] at hs1); (have hZ1 := zQa (zQf _ _ _ (w.heap.size) (by simp)) hO1 (by omega)); (rcases r1 : takR (zQb T) [59] p n with ⟨c1, q1⟩ | ⟨x1, q1, m1⟩) <;> (rw [r1] at hR1; first | (unfold Flt at hR1; subst hR1) | (obtain ⟨hI1, z1, rfl, hV1⟩ := hR1; (unfold VU at hV1; subst hV1)))))
  | (with_reducible refine st9 rfl _ _ rfl (w.heap.size) rfl rfl hZ1 ?_; intro wF hF hOF)
  )
 all_goals first
  | (refine ⟨rfl, ?_⟩; simp only [r1, Rz.next]; exact .er hP1)
  | skip
 simp only [r1, Rz.next]
 have hsF := hOF.size
 have hOn : Only (fun j => w.heap.size ≤ j) w1 wF := (Only.refl _ _).trans (hOF.mono (fun j e => by have e2 : j = w.heap.size := e; omega))
 refine bodyPost_ret (zJv rfl _ _ (w.heap.size) _ _ _ _ _ _ _ _ _ rfl hF) rfl ?_
 exact .ok (hP1.old hOn (fun j hj => .inr hj)) (h.newer hI1 hOn) (IsSt.mk (k := 12) (nm := []) (fr := []) (ex := []) (ar := []) (bd := []) (el := []) (by omega) (by simp) (by simp) (by simp) (by simp) .nil .nil .nil .nil)
theorem while_any {w : World} {rb mb : Nat} {v : Value} {T : List (Tk × Int)} {p d n : Nat} (h : IsRs w rb mb v T p d n) {blk : Nat → Nat → Rz (List St)} (hK : BlkC rb mb v T d blk) :
 Calls Tryz.prog 104 #[.pointer (some ⟨rb, 0, none⟩)] w (RP VS w rb mb v T d (whiR (zQb T) blk p n)) := by
 have hrl := h.rl
 unfold BlkC at hK
 unfold whiR
 go_enter Tryz.func104, Tryz.ntmps104
 go_wp2_with (first
  | (go_at_call 141; ((with_reducible refine (zKe (h.newer h (zQc (Only.refl _ _) _))).mono ?_); (rintro e w1 ⟨hO1, hR1⟩); (have hP1 : Only (fun j => j = rb) w w1 := ((Only.refl _ _).old (zQc (Only.refl _ _) _) (fun j hj => .inr hj)).trans hO1); (have hs1 := hO1.size); (simp only [World.size_alloc] at hs1); (have hZ1 := zQa (zQf _ _ _ (w.heap.size) (by simp)) hO1 (by omega)); (rcases r1 : expR (zQb T) p n with ⟨c1, q1⟩ | ⟨x1, q1, m1⟩) <;> (rw [r1] at hR1; first | (unfold Flt at hR1; subst hR1) | (obtain ⟨hI1, z1, rfl, hV1⟩ := hR1; (obtain ⟨k1, n1, s1, o1, mk1, mm1, cap1, rfl⟩ := zKt hV1)))))
  | (go_at_call 142; ((with_reducible refine (hK (h.newer hI1 (zQc (Only.refl _ _) _))).mono ?_); (rintro e w2 ⟨hO2, hR2⟩); (have hP2 : Only (fun j => j = rb) w w2 := (hP1.old (zQc (Only.refl _ _) _) (fun j hj => .inr hj)).trans hO2); (have hs2 := hO2.size); (simp only [World.size_alloc] at hs2); (have hZ2 := zQa (zQj hZ1 _) hO2 (by omega)); (have hK2 := zQa (zQf _ _ _ (w1.heap.size) (by simp)) hO2 (by omega)); (have hE1_2 := ((hV1.of (aB (Below.refl _ _) _))).only hO2 (fun b hb e => by simp at *; omega)); (rcases r2 : blk q1 m1 with ⟨c2, q2⟩ | ⟨x2, q2, m2⟩) <;> (rw [r2] at hR2; first | (unfold Flt at hR2; subst hR2) | (obtain ⟨hI2, z2, rfl, hV2⟩ := hR2; (obtain ⟨mk2, cap2, rfl, hL2, hE2⟩ := hV2)))))
  | (with_reducible refine st9 rfl _ _ rfl (w.heap.size) rfl rfl hZ2 ?_; intro wF hF hOF)
  )
 all_goals first
  | (refine ⟨rfl, ?_⟩; simp only [r1, Rz.next]; exact .er hP1)
  | (refine ⟨rfl, ?_⟩; simp only [r1, r2, Rz.next]; exact .er hP2)
  | skip
 simp only [r1, r2, Rz.next]
 have hsF := hOF.size
 have hOn : Only (fun j => w.heap.size ≤ j) w2 wF := (Only.refl _ _).trans (hOF.mono (fun j e => by have e2 : j = w.heap.size := e; omega))
 refine bodyPost_ret (zJv rfl _ _ (w.heap.size) _ _ _ _ _ _ _ _ _ rfl hF) rfl ?_
 exact .ok (hP2.old hOn (fun j hj => .inr hj)) (h.newer hI2 hOn) (IsSt.mk (k := 6) (nm := []) (fr := []) (ex := [x1]) (ar := []) (bd := x2) (el := []) (by omega) (by simp) (by simp) hL2 (by simp) (yQv (zQa hK2 hOF (by omega)) ⟨by omega, by omega⟩ ((hE1_2.only hOF (fun b hb e => by simp at *; omega)).mono (fun b hb => ⟨by simp at *; omega, by simp at *; omega⟩))) .nil ((hE2.only hOF (fun b hb e => by simp at *; omega)).mono (fun b hb => ⟨by simp at *; omega, by simp at *; omega⟩)) .nil)
theorem count_any {w : World} {rb mb : Nat} {v : Value} {T : List (Tk × Int)} {p d n : Nat} (h : IsRs w rb mb v T p d n) {blk : Nat → Nat → Rz (List St)} (hK : BlkC rb mb v T d blk) :
 Calls Tryz.prog 105 #[.pointer (some ⟨rb, 0, none⟩)] w (RP VS w rb mb v T d (forR (zQb T) blk p n)) := by
 have hrl := h.rl
 unfold BlkC at hK
 have hT : ∀ {W : World} {p n : Nat}, IsRs W rb mb v T p d n → Calls Tryz.prog 140 #[.pointer (some ⟨rb, 0, none⟩), .string ⟨#[60]⟩] W (RP VU W rb mb v T d (takR (zQb T) [60] p n)) := fun h => zXl h [60] (by decide)
 unfold forR
 go_enter Tryz.func105, Tryz.ntmps105
 go_wp2_with (first
  | (go_at_call 138; ((with_reducible refine (zXw (h.newer h (zQc (Only.refl _ _) _))).mono ?_); (rintro e w1 ⟨hO1, hR1⟩); (have hP1 : Only (fun j => j = rb) w w1 := ((Only.refl _ _).old (zQc (Only.refl _ _) _) (fun j hj => .inr hj)).trans hO1); (have hs1 := hO1.size); (simp only [World.size_alloc] at hs1); (have hZ1 := zQa (zQf _ _ _ (w.heap.size) (by simp)) hO1 (by omega)); (rcases r1 : namR (zQb T) p n with ⟨c1, q1⟩ | ⟨x1, q1, m1⟩) <;> (rw [r1] at hR1; first | (unfold Flt at hR1; subst hR1) | (obtain ⟨hI1, z1, rfl, hV1⟩ := hR1; (unfold VN at hV1; subst hV1)))))
  | (go_at_call 140; ((with_reducible refine (hT (h.newer hI1 (zQc (Only.refl _ _) _))).mono ?_); (rintro e w2 ⟨hO2, hR2⟩); (have hP2 : Only (fun j => j = rb) w w2 := (hP1.old (zQc (Only.refl _ _) _) (fun j hj => .inr hj)).trans hO2); (have hs2 := hO2.size); (simp only [World.size_alloc] at hs2); (have hZ2 := zQa (zQj hZ1 _) hO2 (by omega)); (have hS2 := zQa (zQf _ _ _ (w1.heap.size) (by simp)) hO2 (by omega)); (rcases r2 : takR (zQb T) [60] q1 m1 with ⟨c2, q2⟩ | ⟨x2, q2, m2⟩) <;> (rw [r2] at hR2; first | (unfold Flt at hR2; subst hR2) | (obtain ⟨hI2, z2, rfl, hV2⟩ := hR2; (unfold VU at hV2; subst hV2)))))
  | (go_at_call 141; ((with_reducible refine (zKe hI2).mono ?_); (rintro e w3 ⟨hO3, hR3⟩); (have hP3 := hP2.trans hO3); (have hs3 := hO3.size); (have hZ3 := zQa hZ2 hO3 (by omega)); (have hS3 := zQa hS2 hO3 (by omega)); (rcases r3 : expR (zQb T) q2 m2 with ⟨c3, q3⟩ | ⟨x3, q3, m3⟩) <;> (rw [r3] at hR3; first | (unfold Flt at hR3; subst hR3) | (obtain ⟨hI3, z3, rfl, hV3⟩ := hR3; (obtain ⟨k3, n3, s3, o3, mk3, mm3, cap3, rfl⟩ := zKt hV3); (have fS5_3 := hS3.1 5 (by simp)); (have ffS_3 := hS3.2.1); (have flS_3 := hS3.2.2)))))
  | (go_at_call 142; ((with_reducible refine (hK (h.newer hI3 (zQc (zQi (Only.refl _ _) _ _ _ (by omega)) _))).mono ?_); (rintro e w4 ⟨hO4, hR4⟩); (have hP4 : Only (fun j => j = rb) w w4 := (hP3.old (zQc (zQi (Only.refl _ _) _ _ _ (by omega)) _) (fun j hj => .inr hj)).trans hO4); (have hs4 := hO4.size); (simp only [World.size_alloc, World.size_setCell] at hs4); (have hZ4 := zQa (zQj (zQm _ hZ3 (by omega)) _) hO4 (by omega)); (have hS4 := zQa (zQj (r9s5 (.slice (some ⟨w3.heap.size, 0, none⟩) 1 1) hS3) _) hO4 (by omega)); (have hK4 := zQa (zQf #[.int .u8 k3, .int .u64 n3, .string s3, .int .u8 o3, .slice mk3 mm3 cap3] 47 (w3.setCell ⟨w1.heap.size, 5, none⟩ (.slice (some ⟨w3.heap.size, 0, none⟩) 1 1)) (w3.heap.size) (by simp)) hO4 (by omega)); (have hE3_4 := (((hV3.only (os1 (or1 (w1.heap.size) _) 5 (.slice (some ⟨w3.heap.size, 0, none⟩) 1 1)) (fun b hb e => by simp at *; omega)).of (aB (Below.refl _ _) _))).only hO4 (fun b hb e => by simp at *; omega)); (rcases r4 : blk q3 m3 with ⟨c4, q4⟩ | ⟨x4, q4, m4⟩) <;> (rw [r4] at hR4; first | (unfold Flt at hR4; subst hR4) | (obtain ⟨hI4, z4, rfl, hV4⟩ := hR4; (obtain ⟨mk4, cap4, rfl, hL4, hE4⟩ := hV4); (have fS7_4 := hS4.1 7 (by simp)); (have ffS_4 := hS4.2.1); (have flS_4 := hS4.2.2)))))
  | (with_reducible refine ld9 rfl _ rfl (w1.heap.size) rfl (show rowG #[.int .u8 7, .string (str x1), .string ⟨#[]⟩, .bool false, .bool false, .slice (some ⟨w3.heap.size, 0, none⟩) 1 1, .slice none 0 0, .slice mk4 x4.length cap4, .slice none 0 0] _ _ from (r9s7 (.slice mk4 x4.length cap4) hS4)) ?_)
  | (with_reducible refine st9 rfl _ _ rfl (w.heap.size) rfl rfl (zQm _ hZ4 (by omega)) ?_; intro wF hF hOF)
  )
 all_goals first
  | (refine ⟨rfl, ?_⟩; simp only [r1, Rz.next]; exact .er hP1)
  | (refine ⟨rfl, ?_⟩; simp only [r1, r2, Rz.next]; exact .er hP2)
  | (refine ⟨rfl, ?_⟩; simp only [r1, r2, r3, Rz.next]; exact .er hP3)
  | (refine ⟨rfl, ?_⟩; simp only [r1, r2, r3, r4, Rz.next]; exact .er hP4)
  | skip
 simp only [r1, r2, r3, r4, Rz.next]
 have hsF := hOF.size
 simp only [World.size_setCell] at hsF
 have hOn : Only (fun j => w.heap.size ≤ j) w4 wF := (zQi (Only.refl _ _) _ _ _ (by omega)).trans (hOF.mono (fun j e => by have e2 : j = w.heap.size := e; omega))
 refine bodyPost_ret (zJv rfl _ _ (w.heap.size) _ _ _ _ _ _ _ _ _ rfl hF) rfl ?_
 exact .ok (hP4.old hOn (fun j hj => .inr hj)) (h.newer hI4 hOn) (IsSt.mk (k := 7) (nm := x1) (fr := []) (ex := [x3]) (ar := []) (bd := x4) (el := []) (by omega) (by simp) (by simp) hL4 (by simp) (yQv (zQa (zQm _ hK4 (by omega)) hOF (by omega)) ⟨by omega, by omega⟩ (((hE3_4.only (os1 (or1 (w1.heap.size) _) 7 (.slice mk4 x4.length cap4)) (fun b hb e => by simp at *; omega)).only hOF (fun b hb e => by simp at *; omega)).mono (fun b hb => ⟨by simp at *; omega, by simp at *; omega⟩))) .nil (((hE4.only (os1 (or1 (w1.heap.size) _) 7 (.slice mk4 x4.length cap4)) (fun b hb e => by simp at *; omega)).only hOF (fun b hb e => by simp at *; omega)).mono (fun b hb => ⟨by simp at *; omega, by simp at *; omega⟩)) .nil)
theorem jJt : (Tryz.prog.info? 9).map (fun i => (i.zero, i.size, i.bytes)) = some (some (.string ⟨#[]⟩), 1, 16) := by kernel_rfl
theorem xQc {w : World} {rb mb : Nat} {v : Value} {T : List (Tk × Int)} {p d n : Nat} (h : IsRs w rb mb v T p d n) (bh : List UInt8) (hbh : bh ≠ []) :
 Calls Tryz.prog 145 #[.pointer (some ⟨rb, 0, none⟩), .func (.func 138) #[] #[], .string (str bh)] w (RP VA w rb mb v T d (lisR (zQb T) (namR (zQb T)) bh p n)) := by
 obtain ⟨i0, hi, hz0, hz1, hz2⟩ := info_parts jJt
 have hrl := h.rl
 by_cases hc : txt (zQb T) p = bh
 ·have hH0 := zXd h bh hbh
  rw [yJd hc, yKn hc] at hH0
  rw [show lisR (zQb T) (namR (zQb T)) bh p n = .ok [] (p + 1) n from by unfold lisR; rw [if_pos hc]]
  go_enter Tryz.func145, Tryz.ntmps145
  go_wp2_with (go_at_call 137; ((with_reducible refine hH0.mono ?_); (rintro e w1 ⟨rfl, hO1, hI1⟩)))
  go_ret
  exact .ok hO1 hI1 ⟨none, 0, rfl, by simp, .nil⟩
 have hH0 := zXd h bh hbh
 rw [yJe hc, yKo hc] at hH0
 cases r1 : namR (zQb T) p n with
 | er c q =>
  rw [show lisR (zQb T) (namR (zQb T)) bh p n = .er c q from by unfold lisR; rw [if_neg hc, r1]; rfl]
  have h1 := fun w1 (hI1 : IsRs w1 rb mb v T p d n) => zXw hI1
  rw [r1] at h1
  go_enter Tryz.func145, Tryz.ntmps145
  go_wp2_with (first
   | (go_at_call 137; ((with_reducible refine hH0.mono ?_); (rintro e w1 ⟨rfl, hO1, hI1⟩)))
   | (go_at_call 138; ((with_reducible refine (h1 _ hI1).mono ?_); (rintro e w2 ⟨hO2, he⟩); (unfold Flt at he; subst he))))
  exact ⟨rfl, .er (hO1.trans hO2)⟩
 | ok x q m =>
  have hR0 : lisR (zQb T) (namR (zQb T)) bh p n = lisL (zQb T) (namR (zQb T)) bh 9 [x] q m := by unfold lisR; rw [if_neg hc, r1]; rfl
  obtain ⟨R, hR⟩ : ∃ R, lisL (zQb T) (namR (zQb T)) bh 9 [x] q m = R := ⟨_, rfl⟩
  rw [hR0, hR]
  have h1 := fun w1 (hI1 : IsRs w1 rb mb v T p d n) => zXw hI1
  rw [r1] at h1
  go_enter Tryz.func145, Tryz.ntmps145
  go_wp2_with (first
   | (go_at_call 137; ((with_reducible refine hH0.mono ?_); (rintro e w1 ⟨rfl, hO1, hI1⟩)))
   | (go_at_call 138; ((with_reducible refine (h1 _ hI1).mono ?_); (rintro e w2 ⟨hO2, hI2, u, rfl, hV2⟩); (unfold VN at hV2; subst hV2))))
  have hP2 := hO1.trans hO2
  have hs2 := hP2.size
  obtain ⟨W, hW⟩ : ∃ W, w2.alloc (.cells #[.string (str x)] 9) = W := ⟨_, rfl⟩
  have hBW : Below w2.heap.size w2 W := by rw [← hW]; exact aB (Below.refl _ _) _
  have hown0 : W.ownsRow w.heap.size 9 1 (.slice (some ⟨w2.heap.size, 0, none⟩) 1 1) 1 (strC [x]) := by rw [← hW]; exact World.ownsRow_lit w2 #[.string (str x)] 1 hs2 (by unfold maxLen; omega) rfl
  have hIW := hI2.of hBW
  have hPW := hP2.trans (ob1 rb hBW)
  have hsW : W.heap.size = w2.heap.size + 1 := by rw [← hW]; simp
  rw [hW]
  clear hW h1 hH0
  go_loopw [7] (fun lv wr => ∃ (L : List (List UInt8)) (M f p n : Nat), M = L.length ∧ 1 ≤ M ∧ M ≤ 8 ∧ f + M = 10 ∧ lisL (zQb T) (namR (zQb T)) bh f (L) p n = R ∧ wr.ownsRow w.heap.size 9 1 lv M (strC L) ∧ IsRs wr rb mb v T p d n ∧ Only (fun j => j = rb) w wr) (fun lv _ => 9 - yXc lv)
  case atStart => exact ⟨[x], 1, 9, q, m, rfl, by omega, by omega, rfl, hR, hown0, hIW, hPW⟩
  case round =>
   obtain ⟨L, M, f, p, n, hM, hM1, hM8, hf, hRR, hown, hI, hP⟩ := hrel
   obtain ⟨f, rfl⟩ : ∃ f', f = f' + 1 := ⟨f - 1, by omega⟩
   have HM := Lib.hid hM
   have Hf := Lib.hid hf
   have hsr := hP.size
   obtain ⟨a, c, rfl⟩ := zKb hown
   by_cases hc : txt (zQb T) p = bh
   ·have hH0 := zXd hI bh hbh
    rw [yJd hc, yKn hc] at hH0
    have hRe : R = .ok (L) (p + 1) n := by rw [← hRR]; unfold lisL; rw [if_pos hc]
    clear hM hf
    go_wp2_with (go_at_call 137; ((with_reducible refine hH0.mono ?_); (rintro e w3 ⟨rfl, hO3, hI3⟩)))
    go_ret
    rw [hRe]
    have ho3 := zQy hown hO3 (fun j hj e => by have := zQu hown hj; have e2 : j = rb := e; omega)
    exact .ok (u := .slice a M c) (hP.trans hO3) hI3 ⟨a, c, by rw [← HM.out], by rw [← HM.out]; omega, xJl ho3 HM.out⟩
   have hH0 := zXd hI bh hbh
   rw [yJe hc, yKo hc] at hH0
   have hT0 : ∀ {W : World}, IsRs W rb mb v T p d n → Calls Tryz.prog 140 #[.pointer (some ⟨rb, 0, none⟩), .string ⟨#[44]⟩] W (RP VU W rb mb v T d (takR (zQb T) [44] p n)) := fun h => zXl h [44] (by decide)
   rw [show lisL (zQb T) (namR (zQb T)) bh (f + 1) (L) p n = (takR (zQb T) [44] p n).next fun _ p n => if (L).length = 8 then .er 5 p else (namR (zQb T) p n).next fun x p n => lisL (zQb T) (namR (zQb T)) bh f ((L) ++ [x]) p n from by rw [lisL, if_neg hc]] at hRR
   have hxl : (L).length = M := by simp [HM.out]
   rw [hxl] at hRR
   cases r3 : takR (zQb T) [44] p n with
   | er c3 q3 =>
    rw [r3] at hRR hT0
    simp only [Rz.next] at hRR
    rw [← hRR]
    clear hM hf hRR
    go_wp2_with (first
     | (go_at_call 137; ((with_reducible refine hH0.mono ?_); (rintro e w3 ⟨rfl, hO3, hI3⟩)))
     | (go_at_call 140; ((with_reducible refine (hT0 hI3).mono ?_); (rintro e w4 ⟨hO4, he⟩); (unfold Flt at he; subst he))))
    exact ⟨rfl, .er ((hP.trans hO3).trans hO4)⟩
   | ok u3 q3 m3 =>
    rw [r3] at hRR hT0
    simp only [Rz.next] at hRR
    by_cases hM8' : M = 8
    ·rw [if_pos hM8'] at hRR
     rw [← hRR]
     have h8 : ((M : Int) == 8) = true := by simp; omega
     have hS := fun W (hW : IsRs W rb mb v T q3 d m3) => zKo hW 5 5 rfl
     clear hM hf hRR hM8'
     go_wp2_with (first
      | (go_at_call 137; ((with_reducible refine hH0.mono ?_); (rintro e w3 ⟨rfl, hO3, hI3⟩)))
      | (go_at_call 140; ((with_reducible refine (hT0 hI3).mono ?_); (rintro e w4 ⟨hO4, hI4, u4, rfl, hV4⟩); (unfold VU at hV4; subst hV4)))
      | (go_at_call 113; ((with_reducible refine (hS _ hI4).mono ?_); (rintro e w5 ⟨he, k, rfl⟩); (unfold Flt at he; subst he))))
     exact ⟨rfl, .er (zXn ((hP.trans hO3).trans hO4) k)⟩
    rw [if_neg hM8'] at hRR
    have h8 : ((M : Int) == 8) = false := by simp; omega
    have h1 := fun w1 (hI1 : IsRs w1 rb mb v T q3 d m3) => zXw hI1
    cases r5 : namR (zQb T) q3 m3 with
    | er c5 q5 =>
     rw [r5] at hRR h1
     simp only at hRR
     rw [← hRR]
     clear hM hf hRR hM8'
     go_wp2_with (first
      | (go_at_call 137; ((with_reducible refine hH0.mono ?_); (rintro e w3 ⟨rfl, hO3, hI3⟩)))
      | (go_at_call 140; ((with_reducible refine (hT0 hI3).mono ?_); (rintro e w4 ⟨hO4, hI4, u4, rfl, hV4⟩); (unfold VU at hV4; subst hV4)))
      | (go_at_call 138; ((with_reducible refine (h1 _ hI4).mono ?_); (rintro e w5 ⟨hO5, he⟩); (unfold Flt at he; subst he))))
     exact ⟨rfl, .er (((hP.trans hO3).trans hO4).trans hO5)⟩
    | ok x5 q5 m5 =>
     rw [r5] at hRR h1
     simp only at hRR
     have Hne := Lib.hid hM8'
     clear hM hf hM8'
     go_wp2_with (first
      | (go_at_call 137; ((with_reducible refine hH0.mono ?_); (rintro e w3 ⟨rfl, hO3, hI3⟩)))
      | (go_at_call 140; ((with_reducible refine (hT0 hI3).mono ?_); (rintro e w4 ⟨hO4, hI4, u4, rfl, hV4⟩); (unfold VU at hV4; subst hV4)))
      | (go_at_call 138; ((with_reducible refine (h1 _ hI4).mono ?_); (rintro e w5 ⟨hO5, hI5, u5, rfl, hV5⟩); (unfold VN at hV5; subst hV5); (have hO35 := (hO3.trans hO4).trans hO5); (have ho5 := zQy hown hO35 (fun j hj e => by have := zQu hown hj; have e2 : j = rb := e; omega))))
      | (at_builtin; refine wpList_append_lies _ rfl _ _ 50 rfl w.heap.size 9 i0 _ 1 16 Tryz.underlying50 hi hz0 hz1 hz2 rfl (by decide) _ M (strC L) rfl (ho5.alloc _) ⟨w5.heap.size, 0, none⟩ 1 1 (strC [x5]) rfl rfl ?cN ?c0 (by decide) ?c1 ?c2 ?c3 _ rfl ?_))
     case cN => exact zXe (strC [x5]) 9 w5
     case c0 => exact xJn _
     case c1 => unfold maxLen; omega
     case c2 => omega
     case c3 => have := hO35.size; simp; omega
     obtain ⟨wa, hwa⟩ : ∃ wa, w5.alloc (.cells #[.string (str x5)] 9) = wa := ⟨_, rfl⟩
     have hba : Below w5.heap.size w5 wa := by rw [← hwa]; exact aB (Below.refl _ _) _
     intro g cap' w6 hown6 hgrow hat hlt6
     rw [hwa] at hgrow
     have hsz : wa.heap.size = w5.heap.size + 1 := by rw [← hwa]; simp
     have hs5 := hO35.size
     have hog := zXc hgrow
     have hP5 : Only (fun j => j = rb) w w5 := hP.trans hO35
     have hIa : IsRs wa rb mb v T q5 d m5 := hI5.of hba
     have hnew : ∀ j, some j = (Value.slice a M c).ownBlock → w.heap.size ≤ j := fun j hj => (zQu hown hj.symm).1
     have hI6 : IsRs w6 rb mb v T q5 d m5 := h.newer hIa (hog.mono hnew)
     have hP6 : Only (fun j => j = rb) w w6 := (hP5.trans (ob1 rb hba)).old hog (fun j hj => .inr (hnew j hj))
     go_wp2
     go_roundw
     case rel => exact ⟨L ++ [x5], M + 1, f, q5, m5, by simp [HM.out], by omega, by have := Hne.out; omega, by have := Hf.out; omega, hRR, by rw [strC_app]; exact hown6, hI6, hP6⟩
     case measure => simp [yXc]; omega
theorem par_m {w : World} {rb mb : Nat} {v : Value} {T : List (Tk × Int)} {p d n : Nat} :
 (∀ (h : IsRs w rb mb v T p d n) (hmu : isP (zQb T) zQt p = true), Calls Tryz.prog 147 #[.pointer (some ⟨rb, 0, none⟩)] w (RP VP w rb mb v T d ((namR (zQb T) (beP (zQb T) zQo (beP (zQb T) zQt p)) n).next fun x q n => .ok ⟨x, true, (isP (zQb T) zQo (beP (zQb T) zQt p)), true⟩ q n))) ∧
 (∀ (h : IsRs w rb mb v T p d n) (hmu : isP (zQb T) zQt p = false) (hvw : isP (zQb T) zXf (beP (zQb T) zQt p) = true), Calls Tryz.prog 147 #[.pointer (some ⟨rb, 0, none⟩)] w (RP VP w rb mb v T d ((namR (zQb T) (beP (zQb T) zQo (beP (zQb T) zXf (beP (zQb T) zQt p))) n).next fun x q n => .ok ⟨x, true, (isP (zQb T) zQo (beP (zQb T) zXf (beP (zQb T) zQt p))), false⟩ q n))) ∧
 (∀ (h : IsRs w rb mb v T p d n) (hmu : isP (zQb T) zQt p = false) (hvw : isP (zQb T) zXf (beP (zQb T) zQt p) = false) (hsec : isP (zQb T) zQo (beP (zQb T) zXf (beP (zQb T) zQt p)) = true), Calls Tryz.prog 147 #[.pointer (some ⟨rb, 0, none⟩)] w (RP VP w rb mb v T d ((namR (zQb T) (beP (zQb T) zQo (beP (zQb T) zXf (beP (zQb T) zQt p))) n).next fun x q n => .ok ⟨x, false, true, false⟩ q n))) ∧
 (∀ (h : IsRs w rb mb v T p d n) (hmu : isP (zQb T) zQt p = false) (hvw : isP (zQb T) zXf (beP (zQb T) zQt p) = false) (hsec : isP (zQb T) zQo (beP (zQb T) zXf (beP (zQb T) zQt p)) = false), Calls Tryz.prog 147 #[.pointer (some ⟨rb, 0, none⟩)] w (RP VP w rb mb v T d ((takR (zQb T) wNum (beP (zQb T) zQo (beP (zQb T) zXf (beP (zQb T) zQt p))) n).next fun _ q n => (namR (zQb T) q n).next fun x q n => .ok ⟨x, false, false, false⟩ q n))) := by
 refine ⟨(@fun h hmu => have k1 : Nat := 0; ?_), (@fun h hmu hvw => have k2 : Nat := 0; ?_), (@fun h hmu hvw hsec => have k3 : Nat := 0; ?_), (@fun h hmu hvw hsec => have k4 : Nat := 0; ?_)⟩
 all_goals
  have hrl := h.rl
  first
  | (replace k1 := k1
     have hH1 : ∀ {W : World}, IsRs W rb mb v T p d n → Calls Tryz.prog 137 #[.pointer (some ⟨rb, 0, none⟩), .string ⟨#[101, 100, 105, 116]⟩] W fun e w' => e = .returned (.bool true) ∧ Only (fun j => j = rb) W w' ∧ IsRs w' rb mb v T (beP (zQb T) zQt p) d n := fun h => by have := zXd h zQt (by decide); rw [hmu] at this; exact this
     have hH3 : ∀ {W : World}, IsRs W rb mb v T (beP (zQb T) zQt p) d n → Calls Tryz.prog 137 #[.pointer (some ⟨rb, 0, none⟩), .string ⟨#[115, 101, 99, 114, 101, 116]⟩] W fun e w' => e = .returned (.bool (isP (zQb T) zQo (beP (zQb T) zQt p))) ∧ Only (fun j => j = rb) W w' ∧ IsRs w' rb mb v T (beP (zQb T) zQo (beP (zQb T) zQt p)) d n := fun h => by have := zXd h zQo (by decide); exact this)
  | (replace k2 := k2
     have hH1 : ∀ {W : World}, IsRs W rb mb v T p d n → Calls Tryz.prog 137 #[.pointer (some ⟨rb, 0, none⟩), .string ⟨#[101, 100, 105, 116]⟩] W fun e w' => e = .returned (.bool false) ∧ Only (fun j => j = rb) W w' ∧ IsRs w' rb mb v T (beP (zQb T) zQt p) d n := fun h => by have := zXd h zQt (by decide); rw [hmu] at this; exact this
     have hH2 : ∀ {W : World}, IsRs W rb mb v T (beP (zQb T) zQt p) d n → Calls Tryz.prog 137 #[.pointer (some ⟨rb, 0, none⟩), .string ⟨#[118, 105, 101, 119]⟩] W fun e w' => e = .returned (.bool true) ∧ Only (fun j => j = rb) W w' ∧ IsRs w' rb mb v T (beP (zQb T) zXf (beP (zQb T) zQt p)) d n := fun h => by have := zXd h zXf (by decide); rw [hvw] at this; exact this
     have hH3 : ∀ {W : World}, IsRs W rb mb v T (beP (zQb T) zXf (beP (zQb T) zQt p)) d n → Calls Tryz.prog 137 #[.pointer (some ⟨rb, 0, none⟩), .string ⟨#[115, 101, 99, 114, 101, 116]⟩] W fun e w' => e = .returned (.bool (isP (zQb T) zQo (beP (zQb T) zXf (beP (zQb T) zQt p)))) ∧ Only (fun j => j = rb) W w' ∧ IsRs w' rb mb v T (beP (zQb T) zQo (beP (zQb T) zXf (beP (zQb T) zQt p))) d n := fun h => by have := zXd h zQo (by decide); exact this)
  | (replace k3 := k3
     have hH1 : ∀ {W : World}, IsRs W rb mb v T p d n → Calls Tryz.prog 137 #[.pointer (some ⟨rb, 0, none⟩), .string ⟨#[101, 100, 105, 116]⟩] W fun e w' => e = .returned (.bool false) ∧ Only (fun j => j = rb) W w' ∧ IsRs w' rb mb v T (beP (zQb T) zQt p) d n := fun h => by have := zXd h zQt (by decide); rw [hmu] at this; exact this
     have hH2 : ∀ {W : World}, IsRs W rb mb v T (beP (zQb T) zQt p) d n → Calls Tryz.prog 137 #[.pointer (some ⟨rb, 0, none⟩), .string ⟨#[118, 105, 101, 119]⟩] W fun e w' => e = .returned (.bool false) ∧ Only (fun j => j = rb) W w' ∧ IsRs w' rb mb v T (beP (zQb T) zXf (beP (zQb T) zQt p)) d n := fun h => by have := zXd h zXf (by decide); rw [hvw] at this; exact this
     have hH3 : ∀ {W : World}, IsRs W rb mb v T (beP (zQb T) zXf (beP (zQb T) zQt p)) d n → Calls Tryz.prog 137 #[.pointer (some ⟨rb, 0, none⟩), .string ⟨#[115, 101, 99, 114, 101, 116]⟩] W fun e w' => e = .returned (.bool true) ∧ Only (fun j => j = rb) W w' ∧ IsRs w' rb mb v T (beP (zQb T) zQo (beP (zQb T) zXf (beP (zQb T) zQt p))) d n := fun h => by have := zXd h zQo (by decide); rw [hsec] at this; exact this)
  | (replace k4 := k4
     have hH1 : ∀ {W : World}, IsRs W rb mb v T p d n → Calls Tryz.prog 137 #[.pointer (some ⟨rb, 0, none⟩), .string ⟨#[101, 100, 105, 116]⟩] W fun e w' => e = .returned (.bool false) ∧ Only (fun j => j = rb) W w' ∧ IsRs w' rb mb v T (beP (zQb T) zQt p) d n := fun h => by have := zXd h zQt (by decide); rw [hmu] at this; exact this
     have hH2 : ∀ {W : World}, IsRs W rb mb v T (beP (zQb T) zQt p) d n → Calls Tryz.prog 137 #[.pointer (some ⟨rb, 0, none⟩), .string ⟨#[118, 105, 101, 119]⟩] W fun e w' => e = .returned (.bool false) ∧ Only (fun j => j = rb) W w' ∧ IsRs w' rb mb v T (beP (zQb T) zXf (beP (zQb T) zQt p)) d n := fun h => by have := zXd h zXf (by decide); rw [hvw] at this; exact this
     have hH3 : ∀ {W : World}, IsRs W rb mb v T (beP (zQb T) zXf (beP (zQb T) zQt p)) d n → Calls Tryz.prog 137 #[.pointer (some ⟨rb, 0, none⟩), .string ⟨#[115, 101, 99, 114, 101, 116]⟩] W fun e w' => e = .returned (.bool false) ∧ Only (fun j => j = rb) W w' ∧ IsRs w' rb mb v T (beP (zQb T) zQo (beP (zQb T) zXf (beP (zQb T) zQt p))) d n := fun h => by have := zXd h zQo (by decide); rw [hsec] at this; exact this
     have hT : ∀ {W : World} {p n : Nat}, IsRs W rb mb v T p d n → Calls Tryz.prog 140 #[.pointer (some ⟨rb, 0, none⟩), .string ⟨#[110, 117, 109]⟩] W (RP VU W rb mb v T d (takR (zQb T) wNum p n)) := fun h => zXl h wNum (by decide))
  go_enter Tryz.func147, Tryz.ntmps147
  go_wp2_with (first
   | (go_at_call 137; ((with_reducible refine (hH1 (h.newer h (zQc (Only.refl _ _) _))).mono ?_); (rintro e w1 ⟨rfl, hO1, hI1⟩); (have hP1 : Only (fun j => j = rb) w w1 := ((Only.refl _ _).old (zQc (Only.refl _ _) _) (fun j hj => .inr hj)).trans hO1); (have hs1 := hO1.size); (simp only [World.size_alloc] at hs1); (have hZ1 := zQa (zQf _ _ _ (w.heap.size) (by simp)) hO1 (by omega))))
   | (replace k1 := k1; (go_at_call 137; ((with_reducible refine (hH3 (h.newer hI1 (zQc (Only.refl _ _) _))).mono ?_); (rintro e w2 ⟨rfl, hO2, hI2⟩); (have hP2 : Only (fun j => j = rb) w w2 := (hP1.old (zQc (Only.refl _ _) _) (fun j hj => .inr hj)).trans hO2); (have hs2 := hO2.size); (simp only [World.size_alloc] at hs2); (have hZ2 := zQa (zQj hZ1 _) hO2 (by omega)); (have hS2 := zQa (zQf _ _ _ (w1.heap.size) (by simp)) hO2 (by omega)); (have fS1_2 := hS2.1 1 (by simp)); (have fS2_2 := hS2.1 2 (by simp)); (have ffS_2 := hS2.2.1); (have flS_2 := hS2.2.2))))
   | (replace k1 := k1; (go_at_call 138; ((with_reducible refine (zXw (h.newer hI2 (zQi (Only.refl _ _) _ _ _ (by omega)))).mono ?_); (rintro e w3 ⟨hO3, hR3⟩); (have hP3 : Only (fun j => j = rb) w w3 := (hP2.old (zQi (Only.refl _ _) _ _ _ (by omega)) (fun j hj => .inr hj)).trans hO3); (have hs3 := hO3.size); (simp only [World.size_setCell] at hs3); (have hZ3 := zQa (zQm _ hZ2 (by omega)) hO3 (by omega)); (have hS3 := zQa (r4s2 (.bool (isP (zQb T) zQo (beP (zQb T) zQt p))) hS2) hO3 (by omega)); (rcases r3 : namR (zQb T) (beP (zQb T) zQo (beP (zQb T) zQt p)) n with ⟨c3, q3⟩ | ⟨x3, q3, m3⟩) <;> (rw [r3] at hR3; first | (unfold Flt at hR3; subst hR3) | (obtain ⟨hI3, z3, rfl, hV3⟩ := hR3; (unfold VN at hV3; subst hV3); (have fS0_3 := hS3.1 0 (by simp)); (have ffS_3 := hS3.2.1); (have flS_3 := hS3.2.2))))))
   | (replace k1 := k1; (with_reducible refine ld4 rfl _ rfl (w1.heap.size) rfl (show rowG #[.string (str x3), .bool true, .bool (isP (zQb T) zQo (beP (zQb T) zQt p)), .bool true] _ _ from (r4s0 (.string (str x3)) hS3)) ?_))
   | (replace k1 := k1; (with_reducible refine st4 rfl _ _ rfl (w.heap.size) rfl rfl (zQm _ hZ3 (by omega)) ?_; intro wF hF hOF))
   | (replace k2 := k2; (go_at_call 137; ((with_reducible refine (hH2 (h.newer hI1 (zQc (Only.refl _ _) _))).mono ?_); (rintro e w2 ⟨rfl, hO2, hI2⟩); (have hP2 : Only (fun j => j = rb) w w2 := (hP1.old (zQc (Only.refl _ _) _) (fun j hj => .inr hj)).trans hO2); (have hs2 := hO2.size); (simp only [World.size_alloc] at hs2); (have hZ2 := zQa (zQj hZ1 _) hO2 (by omega)); (have hS2 := zQa (zQf _ _ _ (w1.heap.size) (by simp)) hO2 (by omega)); (have fS1_2 := hS2.1 1 (by simp)); (have ffS_2 := hS2.2.1); (have flS_2 := hS2.2.2))))
   | (replace k2 := k2; (go_at_call 137; ((with_reducible refine (hH3 (h.newer hI2 (zQi (Only.refl _ _) _ _ _ (by omega)))).mono ?_); (rintro e w3 ⟨rfl, hO3, hI3⟩); (have hP3 : Only (fun j => j = rb) w w3 := (hP2.old (zQi (Only.refl _ _) _ _ _ (by omega)) (fun j hj => .inr hj)).trans hO3); (have hs3 := hO3.size); (simp only [World.size_setCell] at hs3); (have hZ3 := zQa (zQm _ hZ2 (by omega)) hO3 (by omega)); (have hS3 := zQa (r4s1 (.bool true) hS2) hO3 (by omega)); (have fS1_3 := hS3.1 1 (by simp)); (have fS2_3 := hS3.1 2 (by simp)); (have ffS_3 := hS3.2.1); (have flS_3 := hS3.2.2))))
   | (replace k2 := k2; (go_at_call 138; ((with_reducible refine (zXw (h.newer hI3 (zQi (Only.refl _ _) _ _ _ (by omega)))).mono ?_); (rintro e w4 ⟨hO4, hR4⟩); (have hP4 : Only (fun j => j = rb) w w4 := (hP3.old (zQi (Only.refl _ _) _ _ _ (by omega)) (fun j hj => .inr hj)).trans hO4); (have hs4 := hO4.size); (simp only [World.size_setCell] at hs4); (have hZ4 := zQa (zQm _ hZ3 (by omega)) hO4 (by omega)); (have hS4 := zQa (r4s2 (.bool (isP (zQb T) zQo (beP (zQb T) zXf (beP (zQb T) zQt p)))) hS3) hO4 (by omega)); (rcases r4 : namR (zQb T) (beP (zQb T) zQo (beP (zQb T) zXf (beP (zQb T) zQt p))) n with ⟨c4, q4⟩ | ⟨x4, q4, m4⟩) <;> (rw [r4] at hR4; first | (unfold Flt at hR4; subst hR4) | (obtain ⟨hI4, z4, rfl, hV4⟩ := hR4; (unfold VN at hV4; subst hV4); (have fS0_4 := hS4.1 0 (by simp)); (have ffS_4 := hS4.2.1); (have flS_4 := hS4.2.2))))))
   | (replace k2 := k2; (with_reducible refine ld4 rfl _ rfl (w1.heap.size) rfl (show rowG #[.string (str x4), .bool true, .bool (isP (zQb T) zQo (beP (zQb T) zXf (beP (zQb T) zQt p))), .bool false] _ _ from (r4s0 (.string (str x4)) hS4)) ?_))
   | (replace k2 := k2; (with_reducible refine st4 rfl _ _ rfl (w.heap.size) rfl rfl (zQm _ hZ4 (by omega)) ?_; intro wF hF hOF))
   | (replace k3 := k3; (go_at_call 137; ((with_reducible refine (hH2 (h.newer hI1 (zQc (Only.refl _ _) _))).mono ?_); (rintro e w2 ⟨rfl, hO2, hI2⟩); (have hP2 : Only (fun j => j = rb) w w2 := (hP1.old (zQc (Only.refl _ _) _) (fun j hj => .inr hj)).trans hO2); (have hs2 := hO2.size); (simp only [World.size_alloc] at hs2); (have hZ2 := zQa (zQj hZ1 _) hO2 (by omega)); (have hS2 := zQa (zQf _ _ _ (w1.heap.size) (by simp)) hO2 (by omega)); (have fS1_2 := hS2.1 1 (by simp)); (have ffS_2 := hS2.2.1); (have flS_2 := hS2.2.2))))
   | (replace k3 := k3; (go_at_call 137; ((with_reducible refine (hH3 (h.newer hI2 (zQi (Only.refl _ _) _ _ _ (by omega)))).mono ?_); (rintro e w3 ⟨rfl, hO3, hI3⟩); (have hP3 : Only (fun j => j = rb) w w3 := (hP2.old (zQi (Only.refl _ _) _ _ _ (by omega)) (fun j hj => .inr hj)).trans hO3); (have hs3 := hO3.size); (simp only [World.size_setCell] at hs3); (have hZ3 := zQa (zQm _ hZ2 (by omega)) hO3 (by omega)); (have hS3 := zQa (r4s1 (.bool false) hS2) hO3 (by omega)); (have fS1_3 := hS3.1 1 (by simp)); (have fS2_3 := hS3.1 2 (by simp)); (have ffS_3 := hS3.2.1); (have flS_3 := hS3.2.2))))
   | (replace k3 := k3; (go_at_call 138; ((with_reducible refine (zXw (h.newer hI3 (zQi (Only.refl _ _) _ _ _ (by omega)))).mono ?_); (rintro e w4 ⟨hO4, hR4⟩); (have hP4 : Only (fun j => j = rb) w w4 := (hP3.old (zQi (Only.refl _ _) _ _ _ (by omega)) (fun j hj => .inr hj)).trans hO4); (have hs4 := hO4.size); (simp only [World.size_setCell] at hs4); (have hZ4 := zQa (zQm _ hZ3 (by omega)) hO4 (by omega)); (have hS4 := zQa (r4s2 (.bool true) hS3) hO4 (by omega)); (rcases r4 : namR (zQb T) (beP (zQb T) zQo (beP (zQb T) zXf (beP (zQb T) zQt p))) n with ⟨c4, q4⟩ | ⟨x4, q4, m4⟩) <;> (rw [r4] at hR4; first | (unfold Flt at hR4; subst hR4) | (obtain ⟨hI4, z4, rfl, hV4⟩ := hR4; (unfold VN at hV4; subst hV4); (have fS0_4 := hS4.1 0 (by simp)); (have ffS_4 := hS4.2.1); (have flS_4 := hS4.2.2))))))
   | (replace k3 := k3; (with_reducible refine ld4 rfl _ rfl (w1.heap.size) rfl (show rowG #[.string (str x4), .bool false, .bool true, .bool false] _ _ from (r4s0 (.string (str x4)) hS4)) ?_))
   | (replace k3 := k3; (with_reducible refine st4 rfl _ _ rfl (w.heap.size) rfl rfl (zQm _ hZ4 (by omega)) ?_; intro wF hF hOF))
   | (replace k4 := k4; (go_at_call 137; ((with_reducible refine (hH2 (h.newer hI1 (zQc (Only.refl _ _) _))).mono ?_); (rintro e w2 ⟨rfl, hO2, hI2⟩); (have hP2 : Only (fun j => j = rb) w w2 := (hP1.old (zQc (Only.refl _ _) _) (fun j hj => .inr hj)).trans hO2); (have hs2 := hO2.size); (simp only [World.size_alloc] at hs2); (have hZ2 := zQa (zQj hZ1 _) hO2 (by omega)); (have hS2 := zQa (zQf _ _ _ (w1.heap.size) (by simp)) hO2 (by omega)); (have fS1_2 := hS2.1 1 (by simp)); (have ffS_2 := hS2.2.1); (have flS_2 := hS2.2.2))))
   | (replace k4 := k4; (go_at_call 137; ((with_reducible refine (hH3 (h.newer hI2 (zQi (Only.refl _ _) _ _ _ (by omega)))).mono ?_); (rintro e w3 ⟨rfl, hO3, hI3⟩); (have hP3 : Only (fun j => j = rb) w w3 := (hP2.old (zQi (Only.refl _ _) _ _ _ (by omega)) (fun j hj => .inr hj)).trans hO3); (have hs3 := hO3.size); (simp only [World.size_setCell] at hs3); (have hZ3 := zQa (zQm _ hZ2 (by omega)) hO3 (by omega)); (have hS3 := zQa (r4s1 (.bool false) hS2) hO3 (by omega)); (have fS1_3 := hS3.1 1 (by simp)); (have fS2_3 := hS3.1 2 (by simp)); (have ffS_3 := hS3.2.1); (have flS_3 := hS3.2.2))))
   | (replace k4 := k4; (go_at_call 140; ((with_reducible refine (hT (h.newer hI3 (zQi (Only.refl _ _) _ _ _ (by omega)))).mono ?_); (rintro e w4 ⟨hO4, hR4⟩); (have hP4 : Only (fun j => j = rb) w w4 := (hP3.old (zQi (Only.refl _ _) _ _ _ (by omega)) (fun j hj => .inr hj)).trans hO4); (have hs4 := hO4.size); (simp only [World.size_setCell] at hs4); (have hZ4 := zQa (zQm _ hZ3 (by omega)) hO4 (by omega)); (have hS4 := zQa (r4s2 (.bool false) hS3) hO4 (by omega)); (rcases r4 : takR (zQb T) wNum (beP (zQb T) zQo (beP (zQb T) zXf (beP (zQb T) zQt p))) n with ⟨c4, q4⟩ | ⟨x4, q4, m4⟩) <;> (rw [r4] at hR4; first | (unfold Flt at hR4; subst hR4) | (obtain ⟨hI4, z4, rfl, hV4⟩ := hR4; (unfold VU at hV4; subst hV4))))))
   | (replace k4 := k4; (go_at_call 138; ((with_reducible refine (zXw hI4).mono ?_); (rintro e w5 ⟨hO5, hR5⟩); (have hP5 := hP4.trans hO5); (have hs5 := hO5.size); (have hZ5 := zQa hZ4 hO5 (by omega)); (have hS5 := zQa hS4 hO5 (by omega)); (rcases r5 : namR (zQb T) q4 m4 with ⟨c5, q5⟩ | ⟨x5, q5, m5⟩) <;> (rw [r5] at hR5; first | (unfold Flt at hR5; subst hR5) | (obtain ⟨hI5, z5, rfl, hV5⟩ := hR5; (unfold VN at hV5; subst hV5); (have fS0_5 := hS5.1 0 (by simp)); (have ffS_5 := hS5.2.1); (have flS_5 := hS5.2.2))))))
   | (replace k4 := k4; (with_reducible refine ld4 rfl _ rfl (w1.heap.size) rfl (show rowG #[.string (str x5), .bool false, .bool false, .bool false] _ _ from (r4s0 (.string (str x5)) hS5)) ?_))
   | (replace k4 := k4; (with_reducible refine st4 rfl _ _ rfl (w.heap.size) rfl rfl (zQm _ hZ5 (by omega)) ?_; intro wF hF hOF))
   )
  all_goals first
   | (replace k1 := k1; (refine ⟨rfl, ?_⟩; simp only [r3, Rz.next]; exact .er hP3))
   | (replace k2 := k2; (refine ⟨rfl, ?_⟩; simp only [r4, Rz.next]; exact .er hP4))
   | (replace k3 := k3; (refine ⟨rfl, ?_⟩; simp only [r4, Rz.next]; exact .er hP4))
   | (replace k4 := k4; (refine ⟨rfl, ?_⟩; simp only [r4, Rz.next]; exact .er hP4))
   | (replace k4 := k4; (refine ⟨rfl, ?_⟩; simp only [r4, r5, Rz.next]; exact .er hP5))
   | skip
  first
  | (replace k1 := k1
     simp only [r3, Rz.next])
  | (replace k2 := k2
     simp only [r4, Rz.next])
  | (replace k3 := k3
     simp only [r4, Rz.next])
  | (replace k4 := k4
     simp only [r4, r5, Rz.next])
  have hsF := hOF.size
  simp only [World.size_setCell] at hsF
  first
  | (replace k1 := k1
     have hOn : Only (fun j => w.heap.size ≤ j) w3 wF := (zQi (Only.refl _ _) _ _ _ (by omega)).trans (hOF.mono (fun j e => by have e2 : j = w.heap.size := e; omega)))
  | (replace k2 := k2
     have hOn : Only (fun j => w.heap.size ≤ j) w4 wF := (zQi (Only.refl _ _) _ _ _ (by omega)).trans (hOF.mono (fun j e => by have e2 : j = w.heap.size := e; omega)))
  | (replace k3 := k3
     have hOn : Only (fun j => w.heap.size ≤ j) w4 wF := (zQi (Only.refl _ _) _ _ _ (by omega)).trans (hOF.mono (fun j e => by have e2 : j = w.heap.size := e; omega)))
  | (replace k4 := k4
     have hOn : Only (fun j => w.heap.size ≤ j) w5 wF := (zQi (Only.refl _ _) _ _ _ (by omega)).trans (hOF.mono (fun j e => by have e2 : j = w.heap.size := e; omega)))
  refine bodyPost_ret (res4 rfl _ _ (w.heap.size) _ _ _ _ rfl hF) rfl ?_
  first
  | (replace k1 := k1
     exact .ok (hP3.old hOn (fun j hj => .inr hj)) (h.newer hI3 hOn) (by unfold VP; rfl))
  | (replace k2 := k2
     exact .ok (hP4.old hOn (fun j hj => .inr hj)) (h.newer hI4 hOn) (by unfold VP; rfl))
  | (replace k3 := k3
     exact .ok (hP4.old hOn (fun j hj => .inr hj)) (h.newer hI4 hOn) (by unfold VP; rfl))
  | (replace k4 := k4
     exact .ok (hP5.old hOn (fun j hj => .inr hj)) (h.newer hI5 hOn) (by unfold VP; rfl))
theorem xZm {w : World} {rb mb : Nat} {v : Value} {T : List (Tk × Int)} {p d n : Nat} (h : IsRs w rb mb v T p d n) :
 Calls Tryz.prog 147 #[.pointer (some ⟨rb, 0, none⟩)] w (RP VP w rb mb v T d (parR (zQb T) p n)) := by
 unfold parR
 simp only
 cases hmu : isP (zQb T) zQt p with
 | true =>
  have := par_m.1 h hmu
  simpa using this
 | false =>
  cases hvw : isP (zQb T) zXf (beP (zQb T) zQt p) with
  | true =>
   have := par_m.2.1 h hmu hvw
   simpa using this
  | false =>
   cases hsec : isP (zQb T) zQo (beP (zQb T) zXf (beP (zQb T) zQt p)) with
   | true =>
    have := par_m.2.2.1 h hmu hvw hsec
    simpa [hsec] using this
   | false =>
    have := par_m.2.2.2 h hmu hvw hsec
    simpa [hsec] using this
end Go.Proofs.YtfbjljcmmbdhkaaGreatDoor
