/- Contracts of the reader of programs: statements without blocks. -/
import Derived.Test.YtfpoflddnlbpjaaGreatDoorZmP
namespace Go.Proofs.YtfpoflddnlbpjaaGreatDoor
open Go.ChangeShapes Go.WideShapes Go.ChangeAt Go.RowKit
set_option linter.unusedVariables false

set_option maxRecDepth 100000 in
set_option maxHeartbeats 8000000 in
theorem let_any {w : World} {rb mb : Nat} {v : Value} {T : List (Tk × Int)} {p d n : Nat} (h : IsRs w rb mb v T p d n) :
    Calls Tryz.prog 97 #[.pointer (some ⟨rb, 0, none⟩)] w (RP VS w rb mb v T d (letR (bareZ T) p n)) := by
  have hrl := h.rl
  have hH : ∀ {W : World} {p n : Nat}, IsRs W rb mb v T p d n → Calls Tryz.prog 133 #[.pointer (some ⟨rb, 0, none⟩), .string ⟨#[115, 101, 99, 114, 101, 116]⟩] W fun e w' => e = .returned (.bool (isP (bareZ T) wSecret p)) ∧ Only (fun j => j = rb) W w' ∧ IsRs w' rb mb v T (beP (bareZ T) wSecret p) d n := fun h => has_any h wSecret (by decide)
  have hB : ∀ {W : World} {p n : Nat}, IsRs W rb mb v T p d n → Calls Tryz.prog 135 #[.pointer (some ⟨rb, 0, none⟩), .string ⟨#[61]⟩, .string ⟨#[59]⟩] W (RP VX W rb mb v T d (betR (bareZ T) [61] [59] p n)) := fun h => betw_any h [61] [59] (by decide) (by decide)
  unfold letR
  go_enter Tryz.func97, Tryz.ntmps97
  go_wp2_with (first
    | (go_at_call 133; ((with_reducible refine (hH (h.newer h (only_alloc (Only.refl _ _) _))).mono ?_); (rintro e w1 ⟨rfl, hO1, hI1⟩); (have hP1 : Only (fun j => j = rb) w w1 := ((Only.refl _ _).old (only_alloc (Only.refl _ _) _) (fun j hj => .inr hj)).trans hO1); (have hs1 := hO1.size); (simp only [World.size_alloc] at hs1); (have hZ1 : rowG #[.int .u8 0, .string ⟨#[]⟩, .string ⟨#[]⟩, .bool false, .bool false, .slice none 0 0, .slice none 0 0, .slice none 0 0, .slice none 0 0] w1 (w.heap.size) := rowG_only (rowG_at #[.int .u8 0, .string ⟨#[]⟩, .string ⟨#[]⟩, .bool false, .bool false, .slice none 0 0, .slice none 0 0, .slice none 0 0, .slice none 0 0] 44 w (w.heap.size) (by simp)) hO1 (by omega))))
    | (go_at_call 134; ((with_reducible refine (nam_any hI1).mono ?_); (rintro e w2 ⟨hO2, hR2⟩); (have hP2 : Only (fun j => j = rb) w w2 := hP1.trans hO2); (have hs2 := hO2.size); (have hZ2 : rowG #[.int .u8 0, .string ⟨#[]⟩, .string ⟨#[]⟩, .bool false, .bool false, .slice none 0 0, .slice none 0 0, .slice none 0 0, .slice none 0 0] w2 (w.heap.size) := rowG_only hZ1 hO2 (by omega)); (rcases r2 : namR (bareZ T) (beP (bareZ T) wSecret p) n with ⟨c2, q2⟩ | ⟨x2, q2, m2⟩) <;> (rw [r2] at hR2; first | (unfold Flt at hR2; subst hR2) | (obtain ⟨hI2, z2, rfl, hV2⟩ := hR2; (unfold VN at hV2; subst hV2)))))
    | (go_at_call 135; ((with_reducible refine (hB (h.newer hI2 (only_alloc (Only.refl _ _) _))).mono ?_); (rintro e w3 ⟨hO3, hR3⟩); (have hP3 : Only (fun j => j = rb) w w3 := (hP2.old (only_alloc (Only.refl _ _) _) (fun j hj => .inr hj)).trans hO3); (have hs3 := hO3.size); (simp only [World.size_alloc] at hs3); (have hZ3 : rowG #[.int .u8 0, .string ⟨#[]⟩, .string ⟨#[]⟩, .bool false, .bool false, .slice none 0 0, .slice none 0 0, .slice none 0 0, .slice none 0 0] w3 (w.heap.size) := rowG_only (rowG_alloc hZ2 _) hO3 (by omega)); (have hS3 : rowG #[.int .u8 1, .string (str x2), .string ⟨#[]⟩, .bool (isP (bareZ T) wSecret p), .bool false, .slice none 0 0, .slice none 0 0, .slice none 0 0, .slice none 0 0] w3 (w2.heap.size) := rowG_only (rowG_at #[.int .u8 1, .string (str x2), .string ⟨#[]⟩, .bool (isP (bareZ T) wSecret p), .bool false, .slice none 0 0, .slice none 0 0, .slice none 0 0, .slice none 0 0] 44 w2 (w2.heap.size) (by simp)) hO3 (by omega)); (rcases r3 : betR (bareZ T) [61] [59] q2 m2 with ⟨c3, q3⟩ | ⟨x3, q3, m3⟩) <;> (rw [r3] at hR3; first | (unfold Flt at hR3; subst hR3) | (obtain ⟨hI3, z3, rfl, hV3⟩ := hR3; (obtain ⟨k3, n3, s3, o3, mk3, mm3, cap3, rfl⟩ := vx_form hV3); (have fS5_3 := hS3.1 5 (by simp)); (have ffS_3 := hS3.2.1); (have flS_3 := hS3.2.2)))))
    | (with_reducible refine ld9 rfl _ rfl (w2.heap.size) rfl (show rowG #[.int .u8 1, .string (str x2), .string ⟨#[]⟩, .bool (isP (bareZ T) wSecret p), .bool false, .slice (some ⟨w3.heap.size, 0, none⟩) 1 1, .slice none 0 0, .slice none 0 0, .slice none 0 0] _ _ from (rowG_alloc (r9s5 (.slice (some ⟨w3.heap.size, 0, none⟩) 1 1) hS3) _)) ?_)
    | (with_reducible refine st9 rfl _ _ rfl (w.heap.size) rfl rfl (rowG_alloc (rowG_other _ hZ3 (by omega)) _) ?_; intro wF hF hOF)
    )
  all_goals first
    | (refine ⟨rfl, ?_⟩; simp only [r2, Rz.next]; exact .er hP2)
    | (refine ⟨rfl, ?_⟩; simp only [r2, r3, Rz.next]; exact .er hP3)
    | skip
  simp only [r2, r3, Rz.next]
  have hsF := hOF.size
  simp only [World.size_alloc, World.size_setCell] at hsF
  have hOn : Only (fun j => w.heap.size ≤ j) w3 wF := (only_alloc (only_set (Only.refl _ _) _ _ _ (by omega)) _).trans (hOF.mono (fun j e => by have e2 : j = w.heap.size := e; omega))
  refine bodyPost_ret (res_st rfl _ _ (w.heap.size) _ _ _ _ _ _ _ _ _ rfl hF) rfl ?_
  exact .ok (hP3.old hOn (fun j hj => .inr hj)) (h.newer hI3 hOn) (IsSt.mk (k := 1) (nm := x2) (fr := []) (ex := [x3]) (ar := []) (bd := []) (el := []) (by omega) (by simp) (by simp) (by simp) (by simp) (kid_one (rowG_only (rowG_at #[.int .u8 k3, .int .u64 n3, .string s3, .int .u8 o3, .slice mk3 mm3 cap3] 52 (w3.setCell ⟨w2.heap.size, 5, none⟩ (.slice (some ⟨w3.heap.size, 0, none⟩) 1 1)) (w3.heap.size) (by simp)) hOF (by omega)) ⟨by omega, by omega⟩ ((((hV3.only (os1 (or1 (w2.heap.size) _) 5 (.slice (some ⟨w3.heap.size, 0, none⟩) 1 1)) (fun b hb e => by have := hb.1; have := hb.2; simp at *; omega)).of (aB (Below.refl _ _) _)).only hOF (fun b hb e => by have := hb.1; have := hb.2; simp at *; omega)).mono (fun b hb => ⟨by have := hb.1; have := hb.2; simp at *; omega, by have := hb.1; have := hb.2; simp at *; omega⟩))) .nil .nil .nil)

set_option maxRecDepth 100000 in
set_option maxHeartbeats 8000000 in
theorem buf_any {w : World} {rb mb : Nat} {v : Value} {T : List (Tk × Int)} {p d n : Nat} (h : IsRs w rb mb v T p d n) :
    Calls Tryz.prog 98 #[.pointer (some ⟨rb, 0, none⟩)] w (RP VS w rb mb v T d (bufR (bareZ T) p n)) := by
  have hrl := h.rl
  have hH : ∀ {W : World} {p n : Nat}, IsRs W rb mb v T p d n → Calls Tryz.prog 133 #[.pointer (some ⟨rb, 0, none⟩), .string ⟨#[115, 101, 99, 114, 101, 116]⟩] W fun e w' => e = .returned (.bool (isP (bareZ T) wSecret p)) ∧ Only (fun j => j = rb) W w' ∧ IsRs w' rb mb v T (beP (bareZ T) wSecret p) d n := fun h => has_any h wSecret (by decide)
  have hB : ∀ {W : World} {p n : Nat}, IsRs W rb mb v T p d n → Calls Tryz.prog 135 #[.pointer (some ⟨rb, 0, none⟩), .string ⟨#[91]⟩, .string ⟨#[93]⟩] W (RP VX W rb mb v T d (betR (bareZ T) [91] [93] p n)) := fun h => betw_any h [91] [93] (by decide) (by decide)
  have hT : ∀ {W : World} {p n : Nat}, IsRs W rb mb v T p d n → Calls Tryz.prog 136 #[.pointer (some ⟨rb, 0, none⟩), .string ⟨#[59]⟩] W (RP VU W rb mb v T d (takR (bareZ T) [59] p n)) := fun h => take_any h [59] (by decide)
  unfold bufR
  go_enter Tryz.func98, Tryz.ntmps98
  go_wp2_with (first
    | (go_at_call 133; ((with_reducible refine (hH (h.newer h (only_alloc (Only.refl _ _) _))).mono ?_); (rintro e w1 ⟨rfl, hO1, hI1⟩); (have hP1 : Only (fun j => j = rb) w w1 := ((Only.refl _ _).old (only_alloc (Only.refl _ _) _) (fun j hj => .inr hj)).trans hO1); (have hs1 := hO1.size); (simp only [World.size_alloc] at hs1); (have hZ1 : rowG #[.int .u8 0, .string ⟨#[]⟩, .string ⟨#[]⟩, .bool false, .bool false, .slice none 0 0, .slice none 0 0, .slice none 0 0, .slice none 0 0] w1 (w.heap.size) := rowG_only (rowG_at #[.int .u8 0, .string ⟨#[]⟩, .string ⟨#[]⟩, .bool false, .bool false, .slice none 0 0, .slice none 0 0, .slice none 0 0, .slice none 0 0] 44 w (w.heap.size) (by simp)) hO1 (by omega))))
    | (go_at_call 134; ((with_reducible refine (nam_any hI1).mono ?_); (rintro e w2 ⟨hO2, hR2⟩); (have hP2 : Only (fun j => j = rb) w w2 := hP1.trans hO2); (have hs2 := hO2.size); (have hZ2 : rowG #[.int .u8 0, .string ⟨#[]⟩, .string ⟨#[]⟩, .bool false, .bool false, .slice none 0 0, .slice none 0 0, .slice none 0 0, .slice none 0 0] w2 (w.heap.size) := rowG_only hZ1 hO2 (by omega)); (rcases r2 : namR (bareZ T) (beP (bareZ T) wSecret p) n with ⟨c2, q2⟩ | ⟨x2, q2, m2⟩) <;> (rw [r2] at hR2; first | (unfold Flt at hR2; subst hR2) | (obtain ⟨hI2, z2, rfl, hV2⟩ := hR2; (unfold VN at hV2; subst hV2)))))
    | (go_at_call 135; ((with_reducible refine (hB (h.newer hI2 (only_alloc (Only.refl _ _) _))).mono ?_); (rintro e w3 ⟨hO3, hR3⟩); (have hP3 : Only (fun j => j = rb) w w3 := (hP2.old (only_alloc (Only.refl _ _) _) (fun j hj => .inr hj)).trans hO3); (have hs3 := hO3.size); (simp only [World.size_alloc] at hs3); (have hZ3 : rowG #[.int .u8 0, .string ⟨#[]⟩, .string ⟨#[]⟩, .bool false, .bool false, .slice none 0 0, .slice none 0 0, .slice none 0 0, .slice none 0 0] w3 (w.heap.size) := rowG_only (rowG_alloc hZ2 _) hO3 (by omega)); (have hS3 : rowG #[.int .u8 3, .string (str x2), .string ⟨#[]⟩, .bool (isP (bareZ T) wSecret p), .bool false, .slice none 0 0, .slice none 0 0, .slice none 0 0, .slice none 0 0] w3 (w2.heap.size) := rowG_only (rowG_at #[.int .u8 3, .string (str x2), .string ⟨#[]⟩, .bool (isP (bareZ T) wSecret p), .bool false, .slice none 0 0, .slice none 0 0, .slice none 0 0, .slice none 0 0] 44 w2 (w2.heap.size) (by simp)) hO3 (by omega)); (rcases r3 : betR (bareZ T) [91] [93] q2 m2 with ⟨c3, q3⟩ | ⟨x3, q3, m3⟩) <;> (rw [r3] at hR3; first | (unfold Flt at hR3; subst hR3) | (obtain ⟨hI3, z3, rfl, hV3⟩ := hR3; (obtain ⟨k3, n3, s3, o3, mk3, mm3, cap3, rfl⟩ := vx_form hV3); (have fS5_3 := hS3.1 5 (by simp)); (have ffS_3 := hS3.2.1); (have flS_3 := hS3.2.2)))))
    | (go_at_call 136; ((with_reducible refine (hT (h.newer hI3 (only_alloc (only_set (Only.refl _ _) _ _ _ (by omega)) _))).mono ?_); (rintro e w4 ⟨hO4, hR4⟩); (have hP4 : Only (fun j => j = rb) w w4 := (hP3.old (only_alloc (only_set (Only.refl _ _) _ _ _ (by omega)) _) (fun j hj => .inr hj)).trans hO4); (have hs4 := hO4.size); (simp only [World.size_alloc, World.size_setCell] at hs4); (have hZ4 : rowG #[.int .u8 0, .string ⟨#[]⟩, .string ⟨#[]⟩, .bool false, .bool false, .slice none 0 0, .slice none 0 0, .slice none 0 0, .slice none 0 0] w4 (w.heap.size) := rowG_only (rowG_alloc (rowG_other _ hZ3 (by omega)) _) hO4 (by omega)); (have hS4 : rowG #[.int .u8 3, .string (str x2), .string ⟨#[]⟩, .bool (isP (bareZ T) wSecret p), .bool false, .slice (some ⟨w3.heap.size, 0, none⟩) 1 1, .slice none 0 0, .slice none 0 0, .slice none 0 0] w4 (w2.heap.size) := rowG_only (rowG_alloc (r9s5 (.slice (some ⟨w3.heap.size, 0, none⟩) 1 1) hS3) _) hO4 (by omega)); (have hK4 : rowG #[.int .u8 k3, .int .u64 n3, .string s3, .int .u8 o3, .slice mk3 mm3 cap3] w4 (w3.heap.size) := rowG_only (rowG_at #[.int .u8 k3, .int .u64 n3, .string s3, .int .u8 o3, .slice mk3 mm3 cap3] 52 (w3.setCell ⟨w2.heap.size, 5, none⟩ (.slice (some ⟨w3.heap.size, 0, none⟩) 1 1)) (w3.heap.size) (by simp)) hO4 (by omega)); (have hE3_4 := (((hV3.only (os1 (or1 (w2.heap.size) _) 5 (.slice (some ⟨w3.heap.size, 0, none⟩) 1 1)) (fun b hb e => by have := hb.1; have := hb.2; simp at *; omega)).of (aB (Below.refl _ _) _))).only hO4 (fun b hb e => by have := hb.1; have := hb.2; simp at *; omega)); (rcases r4 : takR (bareZ T) [59] q3 m3 with ⟨c4, q4⟩ | ⟨x4, q4, m4⟩) <;> (rw [r4] at hR4; first | (unfold Flt at hR4; subst hR4) | (obtain ⟨hI4, z4, rfl, hV4⟩ := hR4; (unfold VU at hV4; subst hV4)))))
    | (with_reducible refine ld9 rfl _ rfl (w2.heap.size) rfl (show rowG #[.int .u8 3, .string (str x2), .string ⟨#[]⟩, .bool (isP (bareZ T) wSecret p), .bool false, .slice (some ⟨w3.heap.size, 0, none⟩) 1 1, .slice none 0 0, .slice none 0 0, .slice none 0 0] _ _ from hS4) ?_)
    | (with_reducible refine st9 rfl _ _ rfl (w.heap.size) rfl rfl hZ4 ?_; intro wF hF hOF)
    )
  all_goals first
    | (refine ⟨rfl, ?_⟩; simp only [r2, Rz.next]; exact .er hP2)
    | (refine ⟨rfl, ?_⟩; simp only [r2, r3, Rz.next]; exact .er hP3)
    | (refine ⟨rfl, ?_⟩; simp only [r2, r3, r4, Rz.next]; exact .er hP4)
    | skip
  simp only [r2, r3, r4, Rz.next]
  have hsF := hOF.size
  have hOn : Only (fun j => w.heap.size ≤ j) w4 wF := (Only.refl _ _).trans (hOF.mono (fun j e => by have e2 : j = w.heap.size := e; omega))
  refine bodyPost_ret (res_st rfl _ _ (w.heap.size) _ _ _ _ _ _ _ _ _ rfl hF) rfl ?_
  exact .ok (hP4.old hOn (fun j hj => .inr hj)) (h.newer hI4 hOn) (IsSt.mk (k := 3) (nm := x2) (fr := []) (ex := [x3]) (ar := []) (bd := []) (el := []) (by omega) (by simp) (by simp) (by simp) (by simp) (kid_one (rowG_only hK4 hOF (by omega)) ⟨by omega, by omega⟩ ((hE3_4.only hOF (fun b hb e => by have := hb.1; have := hb.2; simp at *; omega)).mono (fun b hb => ⟨by have := hb.1; have := hb.2; simp at *; omega, by have := hb.1; have := hb.2; simp at *; omega⟩))) .nil .nil .nil)

set_option maxRecDepth 100000 in
set_option maxHeartbeats 8000000 in
theorem move_any {w : World} {rb mb : Nat} {v : Value} {T : List (Tk × Int)} {p d n : Nat} (h : IsRs w rb mb v T p d n) :
    Calls Tryz.prog 104 #[.pointer (some ⟨rb, 0, none⟩)] w (RP VS w rb mb v T d (movR (bareZ T) p n)) := by
  have hrl := h.rl
  have hT1 : ∀ {W : World} {p n : Nat}, IsRs W rb mb v T p d n → Calls Tryz.prog 136 #[.pointer (some ⟨rb, 0, none⟩), .string ⟨#[61]⟩] W (RP VU W rb mb v T d (takR (bareZ T) [61] p n)) := fun h => take_any h [61] (by decide)
  have hT2 : ∀ {W : World} {p n : Nat}, IsRs W rb mb v T p d n → Calls Tryz.prog 136 #[.pointer (some ⟨rb, 0, none⟩), .string ⟨#[59]⟩] W (RP VU W rb mb v T d (takR (bareZ T) [59] p n)) := fun h => take_any h [59] (by decide)
  unfold movR
  go_enter Tryz.func104, Tryz.ntmps104
  go_wp2_with (first
    | (go_at_call 134; ((with_reducible refine (nam_any (h.newer h (only_alloc (Only.refl _ _) _))).mono ?_); (rintro e w1 ⟨hO1, hR1⟩); (have hP1 : Only (fun j => j = rb) w w1 := ((Only.refl _ _).old (only_alloc (Only.refl _ _) _) (fun j hj => .inr hj)).trans hO1); (have hs1 := hO1.size); (simp only [World.size_alloc] at hs1); (have hZ1 : rowG #[.int .u8 0, .string ⟨#[]⟩, .string ⟨#[]⟩, .bool false, .bool false, .slice none 0 0, .slice none 0 0, .slice none 0 0, .slice none 0 0] w1 (w.heap.size) := rowG_only (rowG_at #[.int .u8 0, .string ⟨#[]⟩, .string ⟨#[]⟩, .bool false, .bool false, .slice none 0 0, .slice none 0 0, .slice none 0 0, .slice none 0 0] 44 w (w.heap.size) (by simp)) hO1 (by omega)); (rcases r1 : namR (bareZ T) p n with ⟨c1, q1⟩ | ⟨x1, q1, m1⟩) <;> (rw [r1] at hR1; first | (unfold Flt at hR1; subst hR1) | (obtain ⟨hI1, z1, rfl, hV1⟩ := hR1; (unfold VN at hV1; subst hV1)))))
    | (go_at_call 136; ((with_reducible refine (hT1 (h.newer hI1 (only_alloc (Only.refl _ _) _))).mono ?_); (rintro e w2 ⟨hO2, hR2⟩); (have hP2 : Only (fun j => j = rb) w w2 := (hP1.old (only_alloc (Only.refl _ _) _) (fun j hj => .inr hj)).trans hO2); (have hs2 := hO2.size); (simp only [World.size_alloc] at hs2); (have hZ2 : rowG #[.int .u8 0, .string ⟨#[]⟩, .string ⟨#[]⟩, .bool false, .bool false, .slice none 0 0, .slice none 0 0, .slice none 0 0, .slice none 0 0] w2 (w.heap.size) := rowG_only (rowG_alloc hZ1 _) hO2 (by omega)); (have hS2 : rowG #[.int .u8 9, .string (str x1), .string ⟨#[]⟩, .bool false, .bool false, .slice none 0 0, .slice none 0 0, .slice none 0 0, .slice none 0 0] w2 (w1.heap.size) := rowG_only (rowG_at #[.int .u8 9, .string (str x1), .string ⟨#[]⟩, .bool false, .bool false, .slice none 0 0, .slice none 0 0, .slice none 0 0, .slice none 0 0] 44 w1 (w1.heap.size) (by simp)) hO2 (by omega)); (rcases r2 : takR (bareZ T) [61] q1 m1 with ⟨c2, q2⟩ | ⟨x2, q2, m2⟩) <;> (rw [r2] at hR2; first | (unfold Flt at hR2; subst hR2) | (obtain ⟨hI2, z2, rfl, hV2⟩ := hR2; (unfold VU at hV2; subst hV2)))))
    | (go_at_call 134; ((with_reducible refine (nam_any hI2).mono ?_); (rintro e w3 ⟨hO3, hR3⟩); (have hP3 : Only (fun j => j = rb) w w3 := hP2.trans hO3); (have hs3 := hO3.size); (have hZ3 : rowG #[.int .u8 0, .string ⟨#[]⟩, .string ⟨#[]⟩, .bool false, .bool false, .slice none 0 0, .slice none 0 0, .slice none 0 0, .slice none 0 0] w3 (w.heap.size) := rowG_only hZ2 hO3 (by omega)); (have hS3 : rowG #[.int .u8 9, .string (str x1), .string ⟨#[]⟩, .bool false, .bool false, .slice none 0 0, .slice none 0 0, .slice none 0 0, .slice none 0 0] w3 (w1.heap.size) := rowG_only hS2 hO3 (by omega)); (rcases r3 : namR (bareZ T) q2 m2 with ⟨c3, q3⟩ | ⟨x3, q3, m3⟩) <;> (rw [r3] at hR3; first | (unfold Flt at hR3; subst hR3) | (obtain ⟨hI3, z3, rfl, hV3⟩ := hR3; (unfold VN at hV3; subst hV3); (have fS2_3 := hS3.1 2 (by simp)); (have ffS_3 := hS3.2.1); (have flS_3 := hS3.2.2)))))
    | (go_at_call 136; ((with_reducible refine (hT2 (h.newer hI3 (only_set (Only.refl _ _) _ _ _ (by omega)))).mono ?_); (rintro e w4 ⟨hO4, hR4⟩); (have hP4 : Only (fun j => j = rb) w w4 := (hP3.old (only_set (Only.refl _ _) _ _ _ (by omega)) (fun j hj => .inr hj)).trans hO4); (have hs4 := hO4.size); (simp only [World.size_setCell] at hs4); (have hZ4 : rowG #[.int .u8 0, .string ⟨#[]⟩, .string ⟨#[]⟩, .bool false, .bool false, .slice none 0 0, .slice none 0 0, .slice none 0 0, .slice none 0 0] w4 (w.heap.size) := rowG_only (rowG_other _ hZ3 (by omega)) hO4 (by omega)); (have hS4 : rowG #[.int .u8 9, .string (str x1), .string (str x3), .bool false, .bool false, .slice none 0 0, .slice none 0 0, .slice none 0 0, .slice none 0 0] w4 (w1.heap.size) := rowG_only (r9s2 (.string (str x3)) hS3) hO4 (by omega)); (rcases r4 : takR (bareZ T) [59] q3 m3 with ⟨c4, q4⟩ | ⟨x4, q4, m4⟩) <;> (rw [r4] at hR4; first | (unfold Flt at hR4; subst hR4) | (obtain ⟨hI4, z4, rfl, hV4⟩ := hR4; (unfold VU at hV4; subst hV4)))))
    | (with_reducible refine ld9 rfl _ rfl (w1.heap.size) rfl (show rowG #[.int .u8 9, .string (str x1), .string (str x3), .bool false, .bool false, .slice none 0 0, .slice none 0 0, .slice none 0 0, .slice none 0 0] _ _ from hS4) ?_)
    | (with_reducible refine st9 rfl _ _ rfl (w.heap.size) rfl rfl hZ4 ?_; intro wF hF hOF)
    )
  all_goals first
    | (refine ⟨rfl, ?_⟩; simp only [r1, Rz.next]; exact .er hP1)
    | (refine ⟨rfl, ?_⟩; simp only [r1, r2, Rz.next]; exact .er hP2)
    | (refine ⟨rfl, ?_⟩; simp only [r1, r2, r3, Rz.next]; exact .er hP3)
    | (refine ⟨rfl, ?_⟩; simp only [r1, r2, r3, r4, Rz.next]; exact .er hP4)
    | skip
  simp only [r1, r2, r3, r4, Rz.next]
  have hsF := hOF.size
  have hOn : Only (fun j => w.heap.size ≤ j) w4 wF := (Only.refl _ _).trans (hOF.mono (fun j e => by have e2 : j = w.heap.size := e; omega))
  refine bodyPost_ret (res_st rfl _ _ (w.heap.size) _ _ _ _ _ _ _ _ _ rfl hF) rfl ?_
  exact .ok (hP4.old hOn (fun j hj => .inr hj)) (h.newer hI4 hOn) (IsSt.mk (k := 9) (nm := x1) (fr := x3) (ex := []) (ar := []) (bd := []) (el := []) (by omega) (by simp) (by simp) (by simp) (by simp) .nil .nil .nil .nil)

set_option maxRecDepth 100000 in
set_option maxHeartbeats 8000000 in
theorem open_any {w : World} {rb mb : Nat} {v : Value} {T : List (Tk × Int)} {p d n : Nat} (h : IsRs w rb mb v T p d n) :
    Calls Tryz.prog 105 #[.pointer (some ⟨rb, 0, none⟩)] w (RP VS w rb mb v T d (opnR (bareZ T) p n)) := by
  have hrl := h.rl
  have hB : ∀ {W : World} {p n : Nat}, IsRs W rb mb v T p d n → Calls Tryz.prog 135 #[.pointer (some ⟨rb, 0, none⟩), .string ⟨#[61]⟩, .string ⟨#[59]⟩] W (RP VX W rb mb v T d (betR (bareZ T) [61] [59] p n)) := fun h => betw_any h [61] [59] (by decide) (by decide)
  unfold opnR
  go_enter Tryz.func105, Tryz.ntmps105
  go_wp2_with (first
    | (go_at_call 134; ((with_reducible refine (nam_any (h.newer h (only_alloc (Only.refl _ _) _))).mono ?_); (rintro e w1 ⟨hO1, hR1⟩); (have hP1 : Only (fun j => j = rb) w w1 := ((Only.refl _ _).old (only_alloc (Only.refl _ _) _) (fun j hj => .inr hj)).trans hO1); (have hs1 := hO1.size); (simp only [World.size_alloc] at hs1); (have hZ1 : rowG #[.int .u8 0, .string ⟨#[]⟩, .string ⟨#[]⟩, .bool false, .bool false, .slice none 0 0, .slice none 0 0, .slice none 0 0, .slice none 0 0] w1 (w.heap.size) := rowG_only (rowG_at #[.int .u8 0, .string ⟨#[]⟩, .string ⟨#[]⟩, .bool false, .bool false, .slice none 0 0, .slice none 0 0, .slice none 0 0, .slice none 0 0] 44 w (w.heap.size) (by simp)) hO1 (by omega)); (rcases r1 : namR (bareZ T) p n with ⟨c1, q1⟩ | ⟨x1, q1, m1⟩) <;> (rw [r1] at hR1; first | (unfold Flt at hR1; subst hR1) | (obtain ⟨hI1, z1, rfl, hV1⟩ := hR1; (unfold VN at hV1; subst hV1)))))
    | (go_at_call 135; ((with_reducible refine (hB (h.newer hI1 (only_alloc (Only.refl _ _) _))).mono ?_); (rintro e w2 ⟨hO2, hR2⟩); (have hP2 : Only (fun j => j = rb) w w2 := (hP1.old (only_alloc (Only.refl _ _) _) (fun j hj => .inr hj)).trans hO2); (have hs2 := hO2.size); (simp only [World.size_alloc] at hs2); (have hZ2 : rowG #[.int .u8 0, .string ⟨#[]⟩, .string ⟨#[]⟩, .bool false, .bool false, .slice none 0 0, .slice none 0 0, .slice none 0 0, .slice none 0 0] w2 (w.heap.size) := rowG_only (rowG_alloc hZ1 _) hO2 (by omega)); (have hS2 : rowG #[.int .u8 10, .string (str x1), .string ⟨#[]⟩, .bool false, .bool false, .slice none 0 0, .slice none 0 0, .slice none 0 0, .slice none 0 0] w2 (w1.heap.size) := rowG_only (rowG_at #[.int .u8 10, .string (str x1), .string ⟨#[]⟩, .bool false, .bool false, .slice none 0 0, .slice none 0 0, .slice none 0 0, .slice none 0 0] 44 w1 (w1.heap.size) (by simp)) hO2 (by omega)); (rcases r2 : betR (bareZ T) [61] [59] q1 m1 with ⟨c2, q2⟩ | ⟨x2, q2, m2⟩) <;> (rw [r2] at hR2; first | (unfold Flt at hR2; subst hR2) | (obtain ⟨hI2, z2, rfl, hV2⟩ := hR2; (obtain ⟨k2, n2, s2, o2, mk2, mm2, cap2, rfl⟩ := vx_form hV2); (have fS5_2 := hS2.1 5 (by simp)); (have ffS_2 := hS2.2.1); (have flS_2 := hS2.2.2)))))
    | (with_reducible refine ld9 rfl _ rfl (w1.heap.size) rfl (show rowG #[.int .u8 10, .string (str x1), .string ⟨#[]⟩, .bool false, .bool false, .slice (some ⟨w2.heap.size, 0, none⟩) 1 1, .slice none 0 0, .slice none 0 0, .slice none 0 0] _ _ from (rowG_alloc (r9s5 (.slice (some ⟨w2.heap.size, 0, none⟩) 1 1) hS2) _)) ?_)
    | (with_reducible refine st9 rfl _ _ rfl (w.heap.size) rfl rfl (rowG_alloc (rowG_other _ hZ2 (by omega)) _) ?_; intro wF hF hOF)
    )
  all_goals first
    | (refine ⟨rfl, ?_⟩; simp only [r1, Rz.next]; exact .er hP1)
    | (refine ⟨rfl, ?_⟩; simp only [r1, r2, Rz.next]; exact .er hP2)
    | skip
  simp only [r1, r2, Rz.next]
  have hsF := hOF.size
  simp only [World.size_alloc, World.size_setCell] at hsF
  have hOn : Only (fun j => w.heap.size ≤ j) w2 wF := (only_alloc (only_set (Only.refl _ _) _ _ _ (by omega)) _).trans (hOF.mono (fun j e => by have e2 : j = w.heap.size := e; omega))
  refine bodyPost_ret (res_st rfl _ _ (w.heap.size) _ _ _ _ _ _ _ _ _ rfl hF) rfl ?_
  exact .ok (hP2.old hOn (fun j hj => .inr hj)) (h.newer hI2 hOn) (IsSt.mk (k := 10) (nm := x1) (fr := []) (ex := [x2]) (ar := []) (bd := []) (el := []) (by omega) (by simp) (by simp) (by simp) (by simp) (kid_one (rowG_only (rowG_at #[.int .u8 k2, .int .u64 n2, .string s2, .int .u8 o2, .slice mk2 mm2 cap2] 52 (w2.setCell ⟨w1.heap.size, 5, none⟩ (.slice (some ⟨w2.heap.size, 0, none⟩) 1 1)) (w2.heap.size) (by simp)) hOF (by omega)) ⟨by omega, by omega⟩ ((((hV2.only (os1 (or1 (w1.heap.size) _) 5 (.slice (some ⟨w2.heap.size, 0, none⟩) 1 1)) (fun b hb e => by have := hb.1; have := hb.2; simp at *; omega)).of (aB (Below.refl _ _) _)).only hOF (fun b hb e => by have := hb.1; have := hb.2; simp at *; omega)).mono (fun b hb => ⟨by have := hb.1; have := hb.2; simp at *; omega, by have := hb.1; have := hb.2; simp at *; omega⟩))) .nil .nil .nil)

set_option maxRecDepth 100000 in
set_option maxHeartbeats 8000000 in
theorem seal_any {w : World} {rb mb : Nat} {v : Value} {T : List (Tk × Int)} {p d n : Nat} (h : IsRs w rb mb v T p d n) :
    Calls Tryz.prog 107 #[.pointer (some ⟨rb, 0, none⟩)] w (RP VS w rb mb v T d (seaR (bareZ T) p n)) := by
  have hrl := h.rl
  have hT : ∀ {W : World} {p n : Nat}, IsRs W rb mb v T p d n → Calls Tryz.prog 136 #[.pointer (some ⟨rb, 0, none⟩), .string ⟨#[59]⟩] W (RP VU W rb mb v T d (takR (bareZ T) [59] p n)) := fun h => take_any h [59] (by decide)
  unfold seaR
  go_enter Tryz.func107, Tryz.ntmps107
  go_wp2_with (first
    | (go_at_call 136; ((with_reducible refine (hT (h.newer h (only_alloc (Only.refl _ _) _))).mono ?_); (rintro e w1 ⟨hO1, hR1⟩); (have hP1 : Only (fun j => j = rb) w w1 := ((Only.refl _ _).old (only_alloc (Only.refl _ _) _) (fun j hj => .inr hj)).trans hO1); (have hs1 := hO1.size); (simp only [World.size_alloc] at hs1); (have hZ1 : rowG #[.int .u8 0, .string ⟨#[]⟩, .string ⟨#[]⟩, .bool false, .bool false, .slice none 0 0, .slice none 0 0, .slice none 0 0, .slice none 0 0] w1 (w.heap.size) := rowG_only (rowG_at #[.int .u8 0, .string ⟨#[]⟩, .string ⟨#[]⟩, .bool false, .bool false, .slice none 0 0, .slice none 0 0, .slice none 0 0, .slice none 0 0] 44 w (w.heap.size) (by simp)) hO1 (by omega)); (rcases r1 : takR (bareZ T) [59] p n with ⟨c1, q1⟩ | ⟨x1, q1, m1⟩) <;> (rw [r1] at hR1; first | (unfold Flt at hR1; subst hR1) | (obtain ⟨hI1, z1, rfl, hV1⟩ := hR1; (unfold VU at hV1; subst hV1)))))
    | (with_reducible refine st9 rfl _ _ rfl (w.heap.size) rfl rfl hZ1 ?_; intro wF hF hOF)
    )
  all_goals first
    | (refine ⟨rfl, ?_⟩; simp only [r1, Rz.next]; exact .er hP1)
    | skip
  simp only [r1, Rz.next]
  have hsF := hOF.size
  have hOn : Only (fun j => w.heap.size ≤ j) w1 wF := (Only.refl _ _).trans (hOF.mono (fun j e => by have e2 : j = w.heap.size := e; omega))
  refine bodyPost_ret (res_st rfl _ _ (w.heap.size) _ _ _ _ _ _ _ _ _ rfl hF) rfl ?_
  exact .ok (hP1.old hOn (fun j hj => .inr hj)) (h.newer hI1 hOn) (IsSt.mk (k := 12) (nm := []) (fr := []) (ex := []) (ar := []) (bd := []) (el := []) (by omega) (by simp) (by simp) (by simp) (by simp) .nil .nil .nil .nil)

end Go.Proofs.YtfpoflddnlbpjaaGreatDoor

/- Contracts of the reader of programs: statements without blocks. -/
namespace Go.Proofs.YtfpoflddnlbpjaaGreatDoor
open Go.ChangeShapes Go.WideShapes Go.ChangeAt Go.RowKit
set_option linter.unusedVariables false

set_option maxRecDepth 100000 in
set_option maxHeartbeats 8000000 in
theorem while_any {w : World} {rb mb : Nat} {v : Value} {T : List (Tk × Int)} {p d n : Nat} (h : IsRs w rb mb v T p d n) {blk : Nat → Nat → Rz (List St)} (hK : BlkC rb mb v T d blk) :
    Calls Tryz.prog 100 #[.pointer (some ⟨rb, 0, none⟩)] w (RP VS w rb mb v T d (whiR (bareZ T) blk p n)) := by
  have hrl := h.rl
  unfold BlkC at hK
  unfold whiR
  go_enter Tryz.func100, Tryz.ntmps100
  go_wp2_with (first
    | (go_at_call 137; ((with_reducible refine (expr_any (h.newer h (only_alloc (Only.refl _ _) _))).mono ?_); (rintro e w1 ⟨hO1, hR1⟩); (have hP1 : Only (fun j => j = rb) w w1 := ((Only.refl _ _).old (only_alloc (Only.refl _ _) _) (fun j hj => .inr hj)).trans hO1); (have hs1 := hO1.size); (simp only [World.size_alloc] at hs1); (have hZ1 : rowG #[.int .u8 0, .string ⟨#[]⟩, .string ⟨#[]⟩, .bool false, .bool false, .slice none 0 0, .slice none 0 0, .slice none 0 0, .slice none 0 0] w1 (w.heap.size) := rowG_only (rowG_at #[.int .u8 0, .string ⟨#[]⟩, .string ⟨#[]⟩, .bool false, .bool false, .slice none 0 0, .slice none 0 0, .slice none 0 0, .slice none 0 0] 44 w (w.heap.size) (by simp)) hO1 (by omega)); (rcases r1 : expR (bareZ T) p n with ⟨c1, q1⟩ | ⟨x1, q1, m1⟩) <;> (rw [r1] at hR1; first | (unfold Flt at hR1; subst hR1) | (obtain ⟨hI1, z1, rfl, hV1⟩ := hR1; (obtain ⟨k1, n1, s1, o1, mk1, mm1, cap1, rfl⟩ := vx_form hV1)))))
    | (go_at_call 138; ((with_reducible refine (hK (h.newer hI1 (only_alloc (Only.refl _ _) _))).mono ?_); (rintro e w2 ⟨hO2, hR2⟩); (have hP2 : Only (fun j => j = rb) w w2 := (hP1.old (only_alloc (Only.refl _ _) _) (fun j hj => .inr hj)).trans hO2); (have hs2 := hO2.size); (simp only [World.size_alloc] at hs2); (have hZ2 : rowG #[.int .u8 0, .string ⟨#[]⟩, .string ⟨#[]⟩, .bool false, .bool false, .slice none 0 0, .slice none 0 0, .slice none 0 0, .slice none 0 0] w2 (w.heap.size) := rowG_only (rowG_alloc hZ1 _) hO2 (by omega)); (have hK2 : rowG #[.int .u8 k1, .int .u64 n1, .string s1, .int .u8 o1, .slice mk1 mm1 cap1] w2 (w1.heap.size) := rowG_only (rowG_at #[.int .u8 k1, .int .u64 n1, .string s1, .int .u8 o1, .slice mk1 mm1 cap1] 52 w1 (w1.heap.size) (by simp)) hO2 (by omega)); (have hE1_2 := ((hV1.of (aB (Below.refl _ _) _))).only hO2 (fun b hb e => by have := hb.1; have := hb.2; simp at *; omega)); (rcases r2 : blk q1 m1 with ⟨c2, q2⟩ | ⟨x2, q2, m2⟩) <;> (rw [r2] at hR2; first | (unfold Flt at hR2; subst hR2) | (obtain ⟨hI2, z2, rfl, hV2⟩ := hR2; (obtain ⟨mk2, cap2, rfl, hL2, hE2⟩ := hV2)))))
    | (with_reducible refine st9 rfl _ _ rfl (w.heap.size) rfl rfl hZ2 ?_; intro wF hF hOF)
    )
  all_goals first
    | (refine ⟨rfl, ?_⟩; simp only [r1, Rz.next]; exact .er hP1)
    | (refine ⟨rfl, ?_⟩; simp only [r1, r2, Rz.next]; exact .er hP2)
    | skip
  simp only [r1, r2, Rz.next]
  have hsF := hOF.size
  have hOn : Only (fun j => w.heap.size ≤ j) w2 wF := (Only.refl _ _).trans (hOF.mono (fun j e => by have e2 : j = w.heap.size := e; omega))
  refine bodyPost_ret (res_st rfl _ _ (w.heap.size) _ _ _ _ _ _ _ _ _ rfl hF) rfl ?_
  exact .ok (hP2.old hOn (fun j hj => .inr hj)) (h.newer hI2 hOn) (IsSt.mk (k := 6) (nm := []) (fr := []) (ex := [x1]) (ar := []) (bd := x2) (el := []) (by omega) (by simp) (by simp) hL2 (by simp) (kid_one (rowG_only hK2 hOF (by omega)) ⟨by omega, by omega⟩ ((hE1_2.only hOF (fun b hb e => by have := hb.1; have := hb.2; simp at *; omega)).mono (fun b hb => ⟨by have := hb.1; have := hb.2; simp at *; omega, by have := hb.1; have := hb.2; simp at *; omega⟩))) .nil ((hE2.only hOF (fun b hb e => by have := hb.1; have := hb.2; simp at *; omega)).mono (fun b hb => ⟨by have := hb.1; have := hb.2; simp at *; omega, by have := hb.1; have := hb.2; simp at *; omega⟩)) .nil)

set_option maxRecDepth 100000 in
set_option maxHeartbeats 8000000 in
theorem count_any {w : World} {rb mb : Nat} {v : Value} {T : List (Tk × Int)} {p d n : Nat} (h : IsRs w rb mb v T p d n) {blk : Nat → Nat → Rz (List St)} (hK : BlkC rb mb v T d blk) :
    Calls Tryz.prog 101 #[.pointer (some ⟨rb, 0, none⟩)] w (RP VS w rb mb v T d (forR (bareZ T) blk p n)) := by
  have hrl := h.rl
  unfold BlkC at hK
  have hT : ∀ {W : World} {p n : Nat}, IsRs W rb mb v T p d n → Calls Tryz.prog 136 #[.pointer (some ⟨rb, 0, none⟩), .string ⟨#[60]⟩] W (RP VU W rb mb v T d (takR (bareZ T) [60] p n)) := fun h => take_any h [60] (by decide)
  unfold forR
  go_enter Tryz.func101, Tryz.ntmps101
  go_wp2_with (first
    | (go_at_call 134; ((with_reducible refine (nam_any (h.newer h (only_alloc (Only.refl _ _) _))).mono ?_); (rintro e w1 ⟨hO1, hR1⟩); (have hP1 : Only (fun j => j = rb) w w1 := ((Only.refl _ _).old (only_alloc (Only.refl _ _) _) (fun j hj => .inr hj)).trans hO1); (have hs1 := hO1.size); (simp only [World.size_alloc] at hs1); (have hZ1 : rowG #[.int .u8 0, .string ⟨#[]⟩, .string ⟨#[]⟩, .bool false, .bool false, .slice none 0 0, .slice none 0 0, .slice none 0 0, .slice none 0 0] w1 (w.heap.size) := rowG_only (rowG_at #[.int .u8 0, .string ⟨#[]⟩, .string ⟨#[]⟩, .bool false, .bool false, .slice none 0 0, .slice none 0 0, .slice none 0 0, .slice none 0 0] 44 w (w.heap.size) (by simp)) hO1 (by omega)); (rcases r1 : namR (bareZ T) p n with ⟨c1, q1⟩ | ⟨x1, q1, m1⟩) <;> (rw [r1] at hR1; first | (unfold Flt at hR1; subst hR1) | (obtain ⟨hI1, z1, rfl, hV1⟩ := hR1; (unfold VN at hV1; subst hV1)))))
    | (go_at_call 136; ((with_reducible refine (hT (h.newer hI1 (only_alloc (Only.refl _ _) _))).mono ?_); (rintro e w2 ⟨hO2, hR2⟩); (have hP2 : Only (fun j => j = rb) w w2 := (hP1.old (only_alloc (Only.refl _ _) _) (fun j hj => .inr hj)).trans hO2); (have hs2 := hO2.size); (simp only [World.size_alloc] at hs2); (have hZ2 : rowG #[.int .u8 0, .string ⟨#[]⟩, .string ⟨#[]⟩, .bool false, .bool false, .slice none 0 0, .slice none 0 0, .slice none 0 0, .slice none 0 0] w2 (w.heap.size) := rowG_only (rowG_alloc hZ1 _) hO2 (by omega)); (have hS2 : rowG #[.int .u8 7, .string (str x1), .string ⟨#[]⟩, .bool false, .bool false, .slice none 0 0, .slice none 0 0, .slice none 0 0, .slice none 0 0] w2 (w1.heap.size) := rowG_only (rowG_at #[.int .u8 7, .string (str x1), .string ⟨#[]⟩, .bool false, .bool false, .slice none 0 0, .slice none 0 0, .slice none 0 0, .slice none 0 0] 44 w1 (w1.heap.size) (by simp)) hO2 (by omega)); (rcases r2 : takR (bareZ T) [60] q1 m1 with ⟨c2, q2⟩ | ⟨x2, q2, m2⟩) <;> (rw [r2] at hR2; first | (unfold Flt at hR2; subst hR2) | (obtain ⟨hI2, z2, rfl, hV2⟩ := hR2; (unfold VU at hV2; subst hV2)))))
    | (go_at_call 137; ((with_reducible refine (expr_any hI2).mono ?_); (rintro e w3 ⟨hO3, hR3⟩); (have hP3 : Only (fun j => j = rb) w w3 := hP2.trans hO3); (have hs3 := hO3.size); (have hZ3 : rowG #[.int .u8 0, .string ⟨#[]⟩, .string ⟨#[]⟩, .bool false, .bool false, .slice none 0 0, .slice none 0 0, .slice none 0 0, .slice none 0 0] w3 (w.heap.size) := rowG_only hZ2 hO3 (by omega)); (have hS3 : rowG #[.int .u8 7, .string (str x1), .string ⟨#[]⟩, .bool false, .bool false, .slice none 0 0, .slice none 0 0, .slice none 0 0, .slice none 0 0] w3 (w1.heap.size) := rowG_only hS2 hO3 (by omega)); (rcases r3 : expR (bareZ T) q2 m2 with ⟨c3, q3⟩ | ⟨x3, q3, m3⟩) <;> (rw [r3] at hR3; first | (unfold Flt at hR3; subst hR3) | (obtain ⟨hI3, z3, rfl, hV3⟩ := hR3; (obtain ⟨k3, n3, s3, o3, mk3, mm3, cap3, rfl⟩ := vx_form hV3); (have fS5_3 := hS3.1 5 (by simp)); (have ffS_3 := hS3.2.1); (have flS_3 := hS3.2.2)))))
    | (go_at_call 138; ((with_reducible refine (hK (h.newer hI3 (only_alloc (only_set (Only.refl _ _) _ _ _ (by omega)) _))).mono ?_); (rintro e w4 ⟨hO4, hR4⟩); (have hP4 : Only (fun j => j = rb) w w4 := (hP3.old (only_alloc (only_set (Only.refl _ _) _ _ _ (by omega)) _) (fun j hj => .inr hj)).trans hO4); (have hs4 := hO4.size); (simp only [World.size_alloc, World.size_setCell] at hs4); (have hZ4 : rowG #[.int .u8 0, .string ⟨#[]⟩, .string ⟨#[]⟩, .bool false, .bool false, .slice none 0 0, .slice none 0 0, .slice none 0 0, .slice none 0 0] w4 (w.heap.size) := rowG_only (rowG_alloc (rowG_other _ hZ3 (by omega)) _) hO4 (by omega)); (have hS4 : rowG #[.int .u8 7, .string (str x1), .string ⟨#[]⟩, .bool false, .bool false, .slice (some ⟨w3.heap.size, 0, none⟩) 1 1, .slice none 0 0, .slice none 0 0, .slice none 0 0] w4 (w1.heap.size) := rowG_only (rowG_alloc (r9s5 (.slice (some ⟨w3.heap.size, 0, none⟩) 1 1) hS3) _) hO4 (by omega)); (have hK4 : rowG #[.int .u8 k3, .int .u64 n3, .string s3, .int .u8 o3, .slice mk3 mm3 cap3] w4 (w3.heap.size) := rowG_only (rowG_at #[.int .u8 k3, .int .u64 n3, .string s3, .int .u8 o3, .slice mk3 mm3 cap3] 52 (w3.setCell ⟨w1.heap.size, 5, none⟩ (.slice (some ⟨w3.heap.size, 0, none⟩) 1 1)) (w3.heap.size) (by simp)) hO4 (by omega)); (have hE3_4 := (((hV3.only (os1 (or1 (w1.heap.size) _) 5 (.slice (some ⟨w3.heap.size, 0, none⟩) 1 1)) (fun b hb e => by have := hb.1; have := hb.2; simp at *; omega)).of (aB (Below.refl _ _) _))).only hO4 (fun b hb e => by have := hb.1; have := hb.2; simp at *; omega)); (rcases r4 : blk q3 m3 with ⟨c4, q4⟩ | ⟨x4, q4, m4⟩) <;> (rw [r4] at hR4; first | (unfold Flt at hR4; subst hR4) | (obtain ⟨hI4, z4, rfl, hV4⟩ := hR4; (obtain ⟨mk4, cap4, rfl, hL4, hE4⟩ := hV4); (have fS7_4 := hS4.1 7 (by simp)); (have ffS_4 := hS4.2.1); (have flS_4 := hS4.2.2)))))
    | (with_reducible refine ld9 rfl _ rfl (w1.heap.size) rfl (show rowG #[.int .u8 7, .string (str x1), .string ⟨#[]⟩, .bool false, .bool false, .slice (some ⟨w3.heap.size, 0, none⟩) 1 1, .slice none 0 0, .slice mk4 x4.length cap4, .slice none 0 0] _ _ from (r9s7 (.slice mk4 x4.length cap4) hS4)) ?_)
    | (with_reducible refine st9 rfl _ _ rfl (w.heap.size) rfl rfl (rowG_other _ hZ4 (by omega)) ?_; intro wF hF hOF)
    )
  all_goals first
    | (refine ⟨rfl, ?_⟩; simp only [r1, Rz.next]; exact .er hP1)
    | (refine ⟨rfl, ?_⟩; simp only [r1, r2, Rz.next]; exact .er hP2)
    | (refine ⟨rfl, ?_⟩; simp only [r1, r2, r3, Rz.next]; exact .er hP3)
    | (refine ⟨rfl, ?_⟩; simp only [r1, r2, r3, r4, Rz.next]; exact .er hP4)
    | skip
  simp only [r1, r2, r3, r4, Rz.next]
  have hsF := hOF.size
  simp only [World.size_setCell] at hsF
  have hOn : Only (fun j => w.heap.size ≤ j) w4 wF := (only_set (Only.refl _ _) _ _ _ (by omega)).trans (hOF.mono (fun j e => by have e2 : j = w.heap.size := e; omega))
  refine bodyPost_ret (res_st rfl _ _ (w.heap.size) _ _ _ _ _ _ _ _ _ rfl hF) rfl ?_
  exact .ok (hP4.old hOn (fun j hj => .inr hj)) (h.newer hI4 hOn) (IsSt.mk (k := 7) (nm := x1) (fr := []) (ex := [x3]) (ar := []) (bd := x4) (el := []) (by omega) (by simp) (by simp) hL4 (by simp) (kid_one (rowG_only (rowG_other _ hK4 (by omega)) hOF (by omega)) ⟨by omega, by omega⟩ (((hE3_4.only (os1 (or1 (w1.heap.size) _) 7 (.slice mk4 x4.length cap4)) (fun b hb e => by have := hb.1; have := hb.2; simp at *; omega)).only hOF (fun b hb e => by have := hb.1; have := hb.2; simp at *; omega)).mono (fun b hb => ⟨by have := hb.1; have := hb.2; simp at *; omega, by have := hb.1; have := hb.2; simp at *; omega⟩))) .nil (((hE4.only (os1 (or1 (w1.heap.size) _) 7 (.slice mk4 x4.length cap4)) (fun b hb e => by have := hb.1; have := hb.2; simp at *; omega)).only hOF (fun b hb e => by have := hb.1; have := hb.2; simp at *; omega)).mono (fun b hb => ⟨by have := hb.1; have := hb.2; simp at *; omega, by have := hb.1; have := hb.2; simp at *; omega⟩)) .nil)

end Go.Proofs.YtfpoflddnlbpjaaGreatDoor
