/- Contracts of the reader of programs: a param. -/
import Derived.Test.YtfpoflddnlbpjaaGreatDoorZpP
import Derived.Test.YtfpoflddnlbpjaaGreatDoorZmP
namespace Go.Proofs.YtfpoflddnlbpjaaGreatDoor
open Go.ChangeShapes Go.WideShapes Go.ChangeAt Go.RowKit
set_option linter.unusedVariables false

set_option maxRecDepth 100000 in
set_option maxHeartbeats 8000000 in
theorem par_a {w : World} {rb mb : Nat} {v : Value} {T : List (Tk × Int)} {p d n : Nat} (h : IsRs w rb mb v T p d n) (hmu : isP (bareZ T) wEdit p = true) :
    Calls Tryz.prog 143 #[.pointer (some ⟨rb, 0, none⟩)] w (RP VP w rb mb v T d ((namR (bareZ T) (beP (bareZ T) wSecret (beP (bareZ T) wEdit p)) n).next fun x q n => .ok ⟨x, true, (isP (bareZ T) wSecret (beP (bareZ T) wEdit p)), true⟩ q n)) := by
  have hrl := h.rl
  have hH1 : ∀ {W : World}, IsRs W rb mb v T p d n → Calls Tryz.prog 133 #[.pointer (some ⟨rb, 0, none⟩), .string ⟨#[101, 100, 105, 116]⟩] W fun e w' => e = .returned (.bool true) ∧ Only (fun j => j = rb) W w' ∧ IsRs w' rb mb v T (beP (bareZ T) wEdit p) d n := fun h => by have := has_any h wEdit (by decide); rw [hmu] at this; exact this
  have hH3 : ∀ {W : World}, IsRs W rb mb v T (beP (bareZ T) wEdit p) d n → Calls Tryz.prog 133 #[.pointer (some ⟨rb, 0, none⟩), .string ⟨#[115, 101, 99, 114, 101, 116]⟩] W fun e w' => e = .returned (.bool (isP (bareZ T) wSecret (beP (bareZ T) wEdit p))) ∧ Only (fun j => j = rb) W w' ∧ IsRs w' rb mb v T (beP (bareZ T) wSecret (beP (bareZ T) wEdit p)) d n := fun h => by have := has_any h wSecret (by decide); exact this
  go_enter Tryz.func143, Tryz.ntmps143
  go_wp2_with (first
    | (go_at_call 133; ((with_reducible refine (hH1 (h.newer h (only_alloc (Only.refl _ _) _))).mono ?_); (rintro e w1 ⟨rfl, hO1, hI1⟩); (have hP1 : Only (fun j => j = rb) w w1 := ((Only.refl _ _).old (only_alloc (Only.refl _ _) _) (fun j hj => .inr hj)).trans hO1); (have hs1 := hO1.size); (simp only [World.size_alloc] at hs1); (have hZ1 : rowG #[.string ⟨#[]⟩, .bool false, .bool false, .bool false] w1 (w.heap.size) := rowG_only (rowG_at #[.string ⟨#[]⟩, .bool false, .bool false, .bool false] 49 w (w.heap.size) (by simp)) hO1 (by omega))))
    | (go_at_call 133; ((with_reducible refine (hH3 (h.newer hI1 (only_alloc (Only.refl _ _) _))).mono ?_); (rintro e w2 ⟨rfl, hO2, hI2⟩); (have hP2 : Only (fun j => j = rb) w w2 := (hP1.old (only_alloc (Only.refl _ _) _) (fun j hj => .inr hj)).trans hO2); (have hs2 := hO2.size); (simp only [World.size_alloc] at hs2); (have hZ2 : rowG #[.string ⟨#[]⟩, .bool false, .bool false, .bool false] w2 (w.heap.size) := rowG_only (rowG_alloc hZ1 _) hO2 (by omega)); (have hS2 : rowG #[.string ⟨#[]⟩, .bool true, .bool false, .bool true] w2 (w1.heap.size) := rowG_only (rowG_at #[.string ⟨#[]⟩, .bool true, .bool false, .bool true] 49 w1 (w1.heap.size) (by simp)) hO2 (by omega)); (have fS1_2 := hS2.1 1 (by simp)); (have fS2_2 := hS2.1 2 (by simp)); (have ffS_2 := hS2.2.1); (have flS_2 := hS2.2.2)))
    | (go_at_call 134; ((with_reducible refine (nam_any (h.newer hI2 (only_set (Only.refl _ _) _ _ _ (by omega)))).mono ?_); (rintro e w3 ⟨hO3, hR3⟩); (have hP3 : Only (fun j => j = rb) w w3 := (hP2.old (only_set (Only.refl _ _) _ _ _ (by omega)) (fun j hj => .inr hj)).trans hO3); (have hs3 := hO3.size); (simp only [World.size_setCell] at hs3); (have hZ3 : rowG #[.string ⟨#[]⟩, .bool false, .bool false, .bool false] w3 (w.heap.size) := rowG_only (rowG_other _ hZ2 (by omega)) hO3 (by omega)); (have hS3 : rowG #[.string ⟨#[]⟩, .bool true, .bool (isP (bareZ T) wSecret (beP (bareZ T) wEdit p)), .bool true] w3 (w1.heap.size) := rowG_only (r4s2 (.bool (isP (bareZ T) wSecret (beP (bareZ T) wEdit p))) hS2) hO3 (by omega)); (rcases r3 : namR (bareZ T) (beP (bareZ T) wSecret (beP (bareZ T) wEdit p)) n with ⟨c3, q3⟩ | ⟨x3, q3, m3⟩) <;> (rw [r3] at hR3; first | (unfold Flt at hR3; subst hR3) | (obtain ⟨hI3, z3, rfl, hV3⟩ := hR3; (unfold VN at hV3; subst hV3); (have fS0_3 := hS3.1 0 (by simp)); (have ffS_3 := hS3.2.1); (have flS_3 := hS3.2.2)))))
    | (with_reducible refine ld4 rfl _ rfl (w1.heap.size) rfl (show rowG #[.string (str x3), .bool true, .bool (isP (bareZ T) wSecret (beP (bareZ T) wEdit p)), .bool true] _ _ from (r4s0 (.string (str x3)) hS3)) ?_)
    | (with_reducible refine st4 rfl _ _ rfl (w.heap.size) rfl rfl (rowG_other _ hZ3 (by omega)) ?_; intro wF hF hOF)
    )
  all_goals first
    | (refine ⟨rfl, ?_⟩; simp only [r3, Rz.next]; exact .er hP3)
    | skip
  simp only [r3, Rz.next]
  have hsF := hOF.size
  simp only [World.size_setCell] at hsF
  have hOn : Only (fun j => w.heap.size ≤ j) w3 wF := (only_set (Only.refl _ _) _ _ _ (by omega)).trans (hOF.mono (fun j e => by have e2 : j = w.heap.size := e; omega))
  refine bodyPost_ret (res4 rfl _ _ (w.heap.size) _ _ _ _ rfl hF) rfl ?_
  exact .ok (hP3.old hOn (fun j hj => .inr hj)) (h.newer hI3 hOn) (by unfold VP; rfl)

set_option maxRecDepth 100000 in
set_option maxHeartbeats 8000000 in
theorem par_b {w : World} {rb mb : Nat} {v : Value} {T : List (Tk × Int)} {p d n : Nat} (h : IsRs w rb mb v T p d n) (hmu : isP (bareZ T) wEdit p = false) (hvw : isP (bareZ T) wView (beP (bareZ T) wEdit p) = true) :
    Calls Tryz.prog 143 #[.pointer (some ⟨rb, 0, none⟩)] w (RP VP w rb mb v T d ((namR (bareZ T) (beP (bareZ T) wSecret (beP (bareZ T) wView (beP (bareZ T) wEdit p))) n).next fun x q n => .ok ⟨x, true, (isP (bareZ T) wSecret (beP (bareZ T) wView (beP (bareZ T) wEdit p))), false⟩ q n)) := by
  have hrl := h.rl
  have hH1 : ∀ {W : World}, IsRs W rb mb v T p d n → Calls Tryz.prog 133 #[.pointer (some ⟨rb, 0, none⟩), .string ⟨#[101, 100, 105, 116]⟩] W fun e w' => e = .returned (.bool false) ∧ Only (fun j => j = rb) W w' ∧ IsRs w' rb mb v T (beP (bareZ T) wEdit p) d n := fun h => by have := has_any h wEdit (by decide); rw [hmu] at this; exact this
  have hH2 : ∀ {W : World}, IsRs W rb mb v T (beP (bareZ T) wEdit p) d n → Calls Tryz.prog 133 #[.pointer (some ⟨rb, 0, none⟩), .string ⟨#[118, 105, 101, 119]⟩] W fun e w' => e = .returned (.bool true) ∧ Only (fun j => j = rb) W w' ∧ IsRs w' rb mb v T (beP (bareZ T) wView (beP (bareZ T) wEdit p)) d n := fun h => by have := has_any h wView (by decide); rw [hvw] at this; exact this
  have hH3 : ∀ {W : World}, IsRs W rb mb v T (beP (bareZ T) wView (beP (bareZ T) wEdit p)) d n → Calls Tryz.prog 133 #[.pointer (some ⟨rb, 0, none⟩), .string ⟨#[115, 101, 99, 114, 101, 116]⟩] W fun e w' => e = .returned (.bool (isP (bareZ T) wSecret (beP (bareZ T) wView (beP (bareZ T) wEdit p)))) ∧ Only (fun j => j = rb) W w' ∧ IsRs w' rb mb v T (beP (bareZ T) wSecret (beP (bareZ T) wView (beP (bareZ T) wEdit p))) d n := fun h => by have := has_any h wSecret (by decide); exact this
  go_enter Tryz.func143, Tryz.ntmps143
  go_wp2_with (first
    | (go_at_call 133; ((with_reducible refine (hH1 (h.newer h (only_alloc (Only.refl _ _) _))).mono ?_); (rintro e w1 ⟨rfl, hO1, hI1⟩); (have hP1 : Only (fun j => j = rb) w w1 := ((Only.refl _ _).old (only_alloc (Only.refl _ _) _) (fun j hj => .inr hj)).trans hO1); (have hs1 := hO1.size); (simp only [World.size_alloc] at hs1); (have hZ1 : rowG #[.string ⟨#[]⟩, .bool false, .bool false, .bool false] w1 (w.heap.size) := rowG_only (rowG_at #[.string ⟨#[]⟩, .bool false, .bool false, .bool false] 49 w (w.heap.size) (by simp)) hO1 (by omega))))
    | (go_at_call 133; ((with_reducible refine (hH2 (h.newer hI1 (only_alloc (Only.refl _ _) _))).mono ?_); (rintro e w2 ⟨rfl, hO2, hI2⟩); (have hP2 : Only (fun j => j = rb) w w2 := (hP1.old (only_alloc (Only.refl _ _) _) (fun j hj => .inr hj)).trans hO2); (have hs2 := hO2.size); (simp only [World.size_alloc] at hs2); (have hZ2 : rowG #[.string ⟨#[]⟩, .bool false, .bool false, .bool false] w2 (w.heap.size) := rowG_only (rowG_alloc hZ1 _) hO2 (by omega)); (have hS2 : rowG #[.string ⟨#[]⟩, .bool false, .bool false, .bool false] w2 (w1.heap.size) := rowG_only (rowG_at #[.string ⟨#[]⟩, .bool false, .bool false, .bool false] 49 w1 (w1.heap.size) (by simp)) hO2 (by omega)); (have fS1_2 := hS2.1 1 (by simp)); (have ffS_2 := hS2.2.1); (have flS_2 := hS2.2.2)))
    | (go_at_call 133; ((with_reducible refine (hH3 (h.newer hI2 (only_set (Only.refl _ _) _ _ _ (by omega)))).mono ?_); (rintro e w3 ⟨rfl, hO3, hI3⟩); (have hP3 : Only (fun j => j = rb) w w3 := (hP2.old (only_set (Only.refl _ _) _ _ _ (by omega)) (fun j hj => .inr hj)).trans hO3); (have hs3 := hO3.size); (simp only [World.size_setCell] at hs3); (have hZ3 : rowG #[.string ⟨#[]⟩, .bool false, .bool false, .bool false] w3 (w.heap.size) := rowG_only (rowG_other _ hZ2 (by omega)) hO3 (by omega)); (have hS3 : rowG #[.string ⟨#[]⟩, .bool true, .bool false, .bool false] w3 (w1.heap.size) := rowG_only (r4s1 (.bool true) hS2) hO3 (by omega)); (have fS1_3 := hS3.1 1 (by simp)); (have fS2_3 := hS3.1 2 (by simp)); (have ffS_3 := hS3.2.1); (have flS_3 := hS3.2.2)))
    | (go_at_call 134; ((with_reducible refine (nam_any (h.newer hI3 (only_set (Only.refl _ _) _ _ _ (by omega)))).mono ?_); (rintro e w4 ⟨hO4, hR4⟩); (have hP4 : Only (fun j => j = rb) w w4 := (hP3.old (only_set (Only.refl _ _) _ _ _ (by omega)) (fun j hj => .inr hj)).trans hO4); (have hs4 := hO4.size); (simp only [World.size_setCell] at hs4); (have hZ4 : rowG #[.string ⟨#[]⟩, .bool false, .bool false, .bool false] w4 (w.heap.size) := rowG_only (rowG_other _ hZ3 (by omega)) hO4 (by omega)); (have hS4 : rowG #[.string ⟨#[]⟩, .bool true, .bool (isP (bareZ T) wSecret (beP (bareZ T) wView (beP (bareZ T) wEdit p))), .bool false] w4 (w1.heap.size) := rowG_only (r4s2 (.bool (isP (bareZ T) wSecret (beP (bareZ T) wView (beP (bareZ T) wEdit p)))) hS3) hO4 (by omega)); (rcases r4 : namR (bareZ T) (beP (bareZ T) wSecret (beP (bareZ T) wView (beP (bareZ T) wEdit p))) n with ⟨c4, q4⟩ | ⟨x4, q4, m4⟩) <;> (rw [r4] at hR4; first | (unfold Flt at hR4; subst hR4) | (obtain ⟨hI4, z4, rfl, hV4⟩ := hR4; (unfold VN at hV4; subst hV4); (have fS0_4 := hS4.1 0 (by simp)); (have ffS_4 := hS4.2.1); (have flS_4 := hS4.2.2)))))
    | (with_reducible refine ld4 rfl _ rfl (w1.heap.size) rfl (show rowG #[.string (str x4), .bool true, .bool (isP (bareZ T) wSecret (beP (bareZ T) wView (beP (bareZ T) wEdit p))), .bool false] _ _ from (r4s0 (.string (str x4)) hS4)) ?_)
    | (with_reducible refine st4 rfl _ _ rfl (w.heap.size) rfl rfl (rowG_other _ hZ4 (by omega)) ?_; intro wF hF hOF)
    )
  all_goals first
    | (refine ⟨rfl, ?_⟩; simp only [r4, Rz.next]; exact .er hP4)
    | skip
  simp only [r4, Rz.next]
  have hsF := hOF.size
  simp only [World.size_setCell] at hsF
  have hOn : Only (fun j => w.heap.size ≤ j) w4 wF := (only_set (Only.refl _ _) _ _ _ (by omega)).trans (hOF.mono (fun j e => by have e2 : j = w.heap.size := e; omega))
  refine bodyPost_ret (res4 rfl _ _ (w.heap.size) _ _ _ _ rfl hF) rfl ?_
  exact .ok (hP4.old hOn (fun j hj => .inr hj)) (h.newer hI4 hOn) (by unfold VP; rfl)

set_option maxRecDepth 100000 in
set_option maxHeartbeats 8000000 in
theorem par_c {w : World} {rb mb : Nat} {v : Value} {T : List (Tk × Int)} {p d n : Nat} (h : IsRs w rb mb v T p d n) (hmu : isP (bareZ T) wEdit p = false) (hvw : isP (bareZ T) wView (beP (bareZ T) wEdit p) = false) (hsec : isP (bareZ T) wSecret (beP (bareZ T) wView (beP (bareZ T) wEdit p)) = true) :
    Calls Tryz.prog 143 #[.pointer (some ⟨rb, 0, none⟩)] w (RP VP w rb mb v T d ((namR (bareZ T) (beP (bareZ T) wSecret (beP (bareZ T) wView (beP (bareZ T) wEdit p))) n).next fun x q n => .ok ⟨x, false, true, false⟩ q n)) := by
  have hrl := h.rl
  have hH1 : ∀ {W : World}, IsRs W rb mb v T p d n → Calls Tryz.prog 133 #[.pointer (some ⟨rb, 0, none⟩), .string ⟨#[101, 100, 105, 116]⟩] W fun e w' => e = .returned (.bool false) ∧ Only (fun j => j = rb) W w' ∧ IsRs w' rb mb v T (beP (bareZ T) wEdit p) d n := fun h => by have := has_any h wEdit (by decide); rw [hmu] at this; exact this
  have hH2 : ∀ {W : World}, IsRs W rb mb v T (beP (bareZ T) wEdit p) d n → Calls Tryz.prog 133 #[.pointer (some ⟨rb, 0, none⟩), .string ⟨#[118, 105, 101, 119]⟩] W fun e w' => e = .returned (.bool false) ∧ Only (fun j => j = rb) W w' ∧ IsRs w' rb mb v T (beP (bareZ T) wView (beP (bareZ T) wEdit p)) d n := fun h => by have := has_any h wView (by decide); rw [hvw] at this; exact this
  have hH3 : ∀ {W : World}, IsRs W rb mb v T (beP (bareZ T) wView (beP (bareZ T) wEdit p)) d n → Calls Tryz.prog 133 #[.pointer (some ⟨rb, 0, none⟩), .string ⟨#[115, 101, 99, 114, 101, 116]⟩] W fun e w' => e = .returned (.bool true) ∧ Only (fun j => j = rb) W w' ∧ IsRs w' rb mb v T (beP (bareZ T) wSecret (beP (bareZ T) wView (beP (bareZ T) wEdit p))) d n := fun h => by have := has_any h wSecret (by decide); rw [hsec] at this; exact this
  go_enter Tryz.func143, Tryz.ntmps143
  go_wp2_with (first
    | (go_at_call 133; ((with_reducible refine (hH1 (h.newer h (only_alloc (Only.refl _ _) _))).mono ?_); (rintro e w1 ⟨rfl, hO1, hI1⟩); (have hP1 : Only (fun j => j = rb) w w1 := ((Only.refl _ _).old (only_alloc (Only.refl _ _) _) (fun j hj => .inr hj)).trans hO1); (have hs1 := hO1.size); (simp only [World.size_alloc] at hs1); (have hZ1 : rowG #[.string ⟨#[]⟩, .bool false, .bool false, .bool false] w1 (w.heap.size) := rowG_only (rowG_at #[.string ⟨#[]⟩, .bool false, .bool false, .bool false] 49 w (w.heap.size) (by simp)) hO1 (by omega))))
    | (go_at_call 133; ((with_reducible refine (hH2 (h.newer hI1 (only_alloc (Only.refl _ _) _))).mono ?_); (rintro e w2 ⟨rfl, hO2, hI2⟩); (have hP2 : Only (fun j => j = rb) w w2 := (hP1.old (only_alloc (Only.refl _ _) _) (fun j hj => .inr hj)).trans hO2); (have hs2 := hO2.size); (simp only [World.size_alloc] at hs2); (have hZ2 : rowG #[.string ⟨#[]⟩, .bool false, .bool false, .bool false] w2 (w.heap.size) := rowG_only (rowG_alloc hZ1 _) hO2 (by omega)); (have hS2 : rowG #[.string ⟨#[]⟩, .bool false, .bool false, .bool false] w2 (w1.heap.size) := rowG_only (rowG_at #[.string ⟨#[]⟩, .bool false, .bool false, .bool false] 49 w1 (w1.heap.size) (by simp)) hO2 (by omega)); (have fS1_2 := hS2.1 1 (by simp)); (have ffS_2 := hS2.2.1); (have flS_2 := hS2.2.2)))
    | (go_at_call 133; ((with_reducible refine (hH3 (h.newer hI2 (only_set (Only.refl _ _) _ _ _ (by omega)))).mono ?_); (rintro e w3 ⟨rfl, hO3, hI3⟩); (have hP3 : Only (fun j => j = rb) w w3 := (hP2.old (only_set (Only.refl _ _) _ _ _ (by omega)) (fun j hj => .inr hj)).trans hO3); (have hs3 := hO3.size); (simp only [World.size_setCell] at hs3); (have hZ3 : rowG #[.string ⟨#[]⟩, .bool false, .bool false, .bool false] w3 (w.heap.size) := rowG_only (rowG_other _ hZ2 (by omega)) hO3 (by omega)); (have hS3 : rowG #[.string ⟨#[]⟩, .bool false, .bool false, .bool false] w3 (w1.heap.size) := rowG_only (r4s1 (.bool false) hS2) hO3 (by omega)); (have fS1_3 := hS3.1 1 (by simp)); (have fS2_3 := hS3.1 2 (by simp)); (have ffS_3 := hS3.2.1); (have flS_3 := hS3.2.2)))
    | (go_at_call 134; ((with_reducible refine (nam_any (h.newer hI3 (only_set (Only.refl _ _) _ _ _ (by omega)))).mono ?_); (rintro e w4 ⟨hO4, hR4⟩); (have hP4 : Only (fun j => j = rb) w w4 := (hP3.old (only_set (Only.refl _ _) _ _ _ (by omega)) (fun j hj => .inr hj)).trans hO4); (have hs4 := hO4.size); (simp only [World.size_setCell] at hs4); (have hZ4 : rowG #[.string ⟨#[]⟩, .bool false, .bool false, .bool false] w4 (w.heap.size) := rowG_only (rowG_other _ hZ3 (by omega)) hO4 (by omega)); (have hS4 : rowG #[.string ⟨#[]⟩, .bool false, .bool true, .bool false] w4 (w1.heap.size) := rowG_only (r4s2 (.bool true) hS3) hO4 (by omega)); (rcases r4 : namR (bareZ T) (beP (bareZ T) wSecret (beP (bareZ T) wView (beP (bareZ T) wEdit p))) n with ⟨c4, q4⟩ | ⟨x4, q4, m4⟩) <;> (rw [r4] at hR4; first | (unfold Flt at hR4; subst hR4) | (obtain ⟨hI4, z4, rfl, hV4⟩ := hR4; (unfold VN at hV4; subst hV4); (have fS0_4 := hS4.1 0 (by simp)); (have ffS_4 := hS4.2.1); (have flS_4 := hS4.2.2)))))
    | (with_reducible refine ld4 rfl _ rfl (w1.heap.size) rfl (show rowG #[.string (str x4), .bool false, .bool true, .bool false] _ _ from (r4s0 (.string (str x4)) hS4)) ?_)
    | (with_reducible refine st4 rfl _ _ rfl (w.heap.size) rfl rfl (rowG_other _ hZ4 (by omega)) ?_; intro wF hF hOF)
    )
  all_goals first
    | (refine ⟨rfl, ?_⟩; simp only [r4, Rz.next]; exact .er hP4)
    | skip
  simp only [r4, Rz.next]
  have hsF := hOF.size
  simp only [World.size_setCell] at hsF
  have hOn : Only (fun j => w.heap.size ≤ j) w4 wF := (only_set (Only.refl _ _) _ _ _ (by omega)).trans (hOF.mono (fun j e => by have e2 : j = w.heap.size := e; omega))
  refine bodyPost_ret (res4 rfl _ _ (w.heap.size) _ _ _ _ rfl hF) rfl ?_
  exact .ok (hP4.old hOn (fun j hj => .inr hj)) (h.newer hI4 hOn) (by unfold VP; rfl)

set_option maxRecDepth 100000 in
set_option maxHeartbeats 8000000 in
theorem par_d {w : World} {rb mb : Nat} {v : Value} {T : List (Tk × Int)} {p d n : Nat} (h : IsRs w rb mb v T p d n) (hmu : isP (bareZ T) wEdit p = false) (hvw : isP (bareZ T) wView (beP (bareZ T) wEdit p) = false) (hsec : isP (bareZ T) wSecret (beP (bareZ T) wView (beP (bareZ T) wEdit p)) = false) :
    Calls Tryz.prog 143 #[.pointer (some ⟨rb, 0, none⟩)] w (RP VP w rb mb v T d ((takR (bareZ T) wNum (beP (bareZ T) wSecret (beP (bareZ T) wView (beP (bareZ T) wEdit p))) n).next fun _ q n => (namR (bareZ T) q n).next fun x q n => .ok ⟨x, false, false, false⟩ q n)) := by
  have hrl := h.rl
  have hH1 : ∀ {W : World}, IsRs W rb mb v T p d n → Calls Tryz.prog 133 #[.pointer (some ⟨rb, 0, none⟩), .string ⟨#[101, 100, 105, 116]⟩] W fun e w' => e = .returned (.bool false) ∧ Only (fun j => j = rb) W w' ∧ IsRs w' rb mb v T (beP (bareZ T) wEdit p) d n := fun h => by have := has_any h wEdit (by decide); rw [hmu] at this; exact this
  have hH2 : ∀ {W : World}, IsRs W rb mb v T (beP (bareZ T) wEdit p) d n → Calls Tryz.prog 133 #[.pointer (some ⟨rb, 0, none⟩), .string ⟨#[118, 105, 101, 119]⟩] W fun e w' => e = .returned (.bool false) ∧ Only (fun j => j = rb) W w' ∧ IsRs w' rb mb v T (beP (bareZ T) wView (beP (bareZ T) wEdit p)) d n := fun h => by have := has_any h wView (by decide); rw [hvw] at this; exact this
  have hH3 : ∀ {W : World}, IsRs W rb mb v T (beP (bareZ T) wView (beP (bareZ T) wEdit p)) d n → Calls Tryz.prog 133 #[.pointer (some ⟨rb, 0, none⟩), .string ⟨#[115, 101, 99, 114, 101, 116]⟩] W fun e w' => e = .returned (.bool false) ∧ Only (fun j => j = rb) W w' ∧ IsRs w' rb mb v T (beP (bareZ T) wSecret (beP (bareZ T) wView (beP (bareZ T) wEdit p))) d n := fun h => by have := has_any h wSecret (by decide); rw [hsec] at this; exact this
  have hT : ∀ {W : World} {p n : Nat}, IsRs W rb mb v T p d n → Calls Tryz.prog 136 #[.pointer (some ⟨rb, 0, none⟩), .string ⟨#[110, 117, 109]⟩] W (RP VU W rb mb v T d (takR (bareZ T) wNum p n)) := fun h => take_any h wNum (by decide)
  go_enter Tryz.func143, Tryz.ntmps143
  go_wp2_with (first
    | (go_at_call 133; ((with_reducible refine (hH1 (h.newer h (only_alloc (Only.refl _ _) _))).mono ?_); (rintro e w1 ⟨rfl, hO1, hI1⟩); (have hP1 : Only (fun j => j = rb) w w1 := ((Only.refl _ _).old (only_alloc (Only.refl _ _) _) (fun j hj => .inr hj)).trans hO1); (have hs1 := hO1.size); (simp only [World.size_alloc] at hs1); (have hZ1 : rowG #[.string ⟨#[]⟩, .bool false, .bool false, .bool false] w1 (w.heap.size) := rowG_only (rowG_at #[.string ⟨#[]⟩, .bool false, .bool false, .bool false] 49 w (w.heap.size) (by simp)) hO1 (by omega))))
    | (go_at_call 133; ((with_reducible refine (hH2 (h.newer hI1 (only_alloc (Only.refl _ _) _))).mono ?_); (rintro e w2 ⟨rfl, hO2, hI2⟩); (have hP2 : Only (fun j => j = rb) w w2 := (hP1.old (only_alloc (Only.refl _ _) _) (fun j hj => .inr hj)).trans hO2); (have hs2 := hO2.size); (simp only [World.size_alloc] at hs2); (have hZ2 : rowG #[.string ⟨#[]⟩, .bool false, .bool false, .bool false] w2 (w.heap.size) := rowG_only (rowG_alloc hZ1 _) hO2 (by omega)); (have hS2 : rowG #[.string ⟨#[]⟩, .bool false, .bool false, .bool false] w2 (w1.heap.size) := rowG_only (rowG_at #[.string ⟨#[]⟩, .bool false, .bool false, .bool false] 49 w1 (w1.heap.size) (by simp)) hO2 (by omega)); (have fS1_2 := hS2.1 1 (by simp)); (have ffS_2 := hS2.2.1); (have flS_2 := hS2.2.2)))
    | (go_at_call 133; ((with_reducible refine (hH3 (h.newer hI2 (only_set (Only.refl _ _) _ _ _ (by omega)))).mono ?_); (rintro e w3 ⟨rfl, hO3, hI3⟩); (have hP3 : Only (fun j => j = rb) w w3 := (hP2.old (only_set (Only.refl _ _) _ _ _ (by omega)) (fun j hj => .inr hj)).trans hO3); (have hs3 := hO3.size); (simp only [World.size_setCell] at hs3); (have hZ3 : rowG #[.string ⟨#[]⟩, .bool false, .bool false, .bool false] w3 (w.heap.size) := rowG_only (rowG_other _ hZ2 (by omega)) hO3 (by omega)); (have hS3 : rowG #[.string ⟨#[]⟩, .bool false, .bool false, .bool false] w3 (w1.heap.size) := rowG_only (r4s1 (.bool false) hS2) hO3 (by omega)); (have fS1_3 := hS3.1 1 (by simp)); (have fS2_3 := hS3.1 2 (by simp)); (have ffS_3 := hS3.2.1); (have flS_3 := hS3.2.2)))
    | (go_at_call 136; ((with_reducible refine (hT (h.newer hI3 (only_set (Only.refl _ _) _ _ _ (by omega)))).mono ?_); (rintro e w4 ⟨hO4, hR4⟩); (have hP4 : Only (fun j => j = rb) w w4 := (hP3.old (only_set (Only.refl _ _) _ _ _ (by omega)) (fun j hj => .inr hj)).trans hO4); (have hs4 := hO4.size); (simp only [World.size_setCell] at hs4); (have hZ4 : rowG #[.string ⟨#[]⟩, .bool false, .bool false, .bool false] w4 (w.heap.size) := rowG_only (rowG_other _ hZ3 (by omega)) hO4 (by omega)); (have hS4 : rowG #[.string ⟨#[]⟩, .bool false, .bool false, .bool false] w4 (w1.heap.size) := rowG_only (r4s2 (.bool false) hS3) hO4 (by omega)); (rcases r4 : takR (bareZ T) wNum (beP (bareZ T) wSecret (beP (bareZ T) wView (beP (bareZ T) wEdit p))) n with ⟨c4, q4⟩ | ⟨x4, q4, m4⟩) <;> (rw [r4] at hR4; first | (unfold Flt at hR4; subst hR4) | (obtain ⟨hI4, z4, rfl, hV4⟩ := hR4; (unfold VU at hV4; subst hV4)))))
    | (go_at_call 134; ((with_reducible refine (nam_any hI4).mono ?_); (rintro e w5 ⟨hO5, hR5⟩); (have hP5 : Only (fun j => j = rb) w w5 := hP4.trans hO5); (have hs5 := hO5.size); (have hZ5 : rowG #[.string ⟨#[]⟩, .bool false, .bool false, .bool false] w5 (w.heap.size) := rowG_only hZ4 hO5 (by omega)); (have hS5 : rowG #[.string ⟨#[]⟩, .bool false, .bool false, .bool false] w5 (w1.heap.size) := rowG_only hS4 hO5 (by omega)); (rcases r5 : namR (bareZ T) q4 m4 with ⟨c5, q5⟩ | ⟨x5, q5, m5⟩) <;> (rw [r5] at hR5; first | (unfold Flt at hR5; subst hR5) | (obtain ⟨hI5, z5, rfl, hV5⟩ := hR5; (unfold VN at hV5; subst hV5); (have fS0_5 := hS5.1 0 (by simp)); (have ffS_5 := hS5.2.1); (have flS_5 := hS5.2.2)))))
    | (with_reducible refine ld4 rfl _ rfl (w1.heap.size) rfl (show rowG #[.string (str x5), .bool false, .bool false, .bool false] _ _ from (r4s0 (.string (str x5)) hS5)) ?_)
    | (with_reducible refine st4 rfl _ _ rfl (w.heap.size) rfl rfl (rowG_other _ hZ5 (by omega)) ?_; intro wF hF hOF)
    )
  all_goals first
    | (refine ⟨rfl, ?_⟩; simp only [r4, Rz.next]; exact .er hP4)
    | (refine ⟨rfl, ?_⟩; simp only [r4, r5, Rz.next]; exact .er hP5)
    | skip
  simp only [r4, r5, Rz.next]
  have hsF := hOF.size
  simp only [World.size_setCell] at hsF
  have hOn : Only (fun j => w.heap.size ≤ j) w5 wF := (only_set (Only.refl _ _) _ _ _ (by omega)).trans (hOF.mono (fun j e => by have e2 : j = w.heap.size := e; omega))
  refine bodyPost_ret (res4 rfl _ _ (w.heap.size) _ _ _ _ rfl hF) rfl ?_
  exact .ok (hP5.old hOn (fun j hj => .inr hj)) (h.newer hI5 hOn) (by unfold VP; rfl)

theorem par_any {w : World} {rb mb : Nat} {v : Value} {T : List (Tk × Int)} {p d n : Nat} (h : IsRs w rb mb v T p d n) :
    Calls Tryz.prog 143 #[.pointer (some ⟨rb, 0, none⟩)] w (RP VP w rb mb v T d (parR (bareZ T) p n)) := by
  unfold parR
  simp only
  cases hmu : isP (bareZ T) wEdit p with
  | true =>
    have := par_a h hmu
    simpa using this
  | false =>
    cases hvw : isP (bareZ T) wView (beP (bareZ T) wEdit p) with
    | true =>
      have := par_b h hmu hvw
      simpa using this
    | false =>
      cases hsec : isP (bareZ T) wSecret (beP (bareZ T) wView (beP (bareZ T) wEdit p)) with
      | true =>
        have := par_c h hmu hvw hsec
        simpa [hsec] using this
      | false =>
        have := par_d h hmu hvw hsec
        simpa [hsec] using this

end Go.Proofs.YtfpoflddnlbpjaaGreatDoor

/- Contract of the reader of programs: a list of params. -/
namespace Go.Proofs.YtfpoflddnlbpjaaGreatDoor
open Go.ChangeShapes Go.WideShapes Go.ChangeAt Go.RowKit
set_option linter.unusedVariables false

theorem infoPl : (Tryz.prog.info? 49).map (fun i => (i.zero, i.size, i.bytes)) = some (some (.agg #[.string ⟨#[]⟩, .bool false, .bool false, .bool false]), 4, 24) := by kernel_rfl
set_option maxRecDepth 100000 in
set_option maxHeartbeats 8000000 in
theorem listPl_any {w : World} {rb mb : Nat} {v : Value} {T : List (Tk × Int)} {p d n : Nat} (h : IsRs w rb mb v T p d n) (bh : List UInt8) (hbh : bh ≠ []) :
    Calls Tryz.prog 142 #[.pointer (some ⟨rb, 0, none⟩), .func (.func 143) #[] #[], .string (str bh)] w (RP VPs w rb mb v T d (lisR (bareZ T) (parR (bareZ T)) bh p n)) := by
  obtain ⟨i0, hi, hz0, hz1, hz2⟩ := info_parts infoPl
  have hrl := h.rl
  by_cases hc : txt (bareZ T) p = bh
  · have hH0 := has_any h bh hbh
    rw [isP_t hc, beP_t hc] at hH0
    rw [show lisR (bareZ T) (parR (bareZ T)) bh p n = .ok [] (p + 1) n from by unfold lisR; rw [if_pos hc]]
    go_enter Tryz.func142, Tryz.ntmps142
    go_wp2_with (go_at_call 133; ((with_reducible refine hH0.mono ?_); (rintro e w1 ⟨rfl, hO1, hI1⟩)))
    go_ret
    exact .ok hO1 hI1 ⟨none, 0, rfl, by simp, .nil⟩
  have hH0 := has_any h bh hbh
  rw [isP_f hc, beP_f hc] at hH0
  cases r1 : parR (bareZ T) p n with
  | er c q =>
    rw [show lisR (bareZ T) (parR (bareZ T)) bh p n = .er c q from by unfold lisR; rw [if_neg hc, r1]; rfl]
    have h1 := fun w1 (hI1 : IsRs w1 rb mb v T p d n) => par_any hI1
    rw [r1] at h1
    go_enter Tryz.func142, Tryz.ntmps142
    go_wp2_with (first
      | (go_at_call 133; ((with_reducible refine hH0.mono ?_); (rintro e w1 ⟨rfl, hO1, hI1⟩)))
      | (go_at_call 143; ((with_reducible refine (h1 _ hI1).mono ?_); (rintro e w2 ⟨hO2, he⟩); (unfold Flt at he; subst he))))
    exact ⟨rfl, .er (hO1.trans hO2)⟩
  | ok x q m =>
    have hR0 : lisR (bareZ T) (parR (bareZ T)) bh p n = lisL (bareZ T) (parR (bareZ T)) bh 9 [x] q m := by unfold lisR; rw [if_neg hc, r1]; rfl
    obtain ⟨R, hR⟩ : ∃ R, lisL (bareZ T) (parR (bareZ T)) bh 9 [x] q m = R := ⟨_, rfl⟩
    rw [hR0, hR]
    have h1 := fun w1 (hI1 : IsRs w1 rb mb v T p d n) => par_any hI1
    rw [r1] at h1
    go_enter Tryz.func142, Tryz.ntmps142
    go_wp2_with (first
      | (go_at_call 133; ((with_reducible refine hH0.mono ?_); (rintro e w1 ⟨rfl, hO1, hI1⟩)))
      | (go_at_call 143; ((with_reducible refine (h1 _ hI1).mono ?_); (rintro e w2 ⟨hO2, hI2, u, rfl, hV2⟩); (unfold VP at hV2; subst hV2))))
    have hP2 := hO1.trans hO2
    have hs2 := hP2.size
    obtain ⟨W, hW⟩ : ∃ W, w2.alloc (.cells #[.string (str x.nm), .bool x.buf, .bool x.sec, .bool x.mu] 49) = W := ⟨_, rfl⟩
    have hBW : Below w2.heap.size w2 W := by rw [← hW]; exact aB (Below.refl _ _) _
    have hown0 : W.ownsRow w.heap.size 49 4 (.slice (some ⟨w2.heap.size, 0, none⟩) 1 1) 1 (pmC [x]) := by rw [← hW]; exact World.ownsRow_lit w2 #[.string (str x.nm), .bool x.buf, .bool x.sec, .bool x.mu] 1 hs2 (by unfold maxLen; omega) rfl
    have hIW := hI2.of hBW
    have hPW := hP2.trans (ob1 rb hBW)
    have hsW : W.heap.size = w2.heap.size + 1 := by rw [← hW]; simp
    rw [hW]
    clear hW h1 hH0
    go_loopw [7] (fun lv wr => ∃ (L : List Pm) (M f p n : Nat), M = L.length ∧ 1 ≤ M ∧ M ≤ 8 ∧ f + M = 10 ∧ lisL (bareZ T) (parR (bareZ T)) bh f (L) p n = R ∧ wr.ownsRow w.heap.size 49 4 lv M (pmC L) ∧ IsRs wr rb mb v T p d n ∧ Only (fun j => j = rb) w wr) (fun lv _ => 9 - sliceN lv)
    case atStart => exact ⟨[x], 1, 9, q, m, rfl, by omega, by omega, rfl, hR, hown0, hIW, hPW⟩
    case round =>
      obtain ⟨L, M, f, p, n, hM, hM1, hM8, hf, hRR, hown, hI, hP⟩ := hrel
      obtain ⟨f, rfl⟩ : ∃ f', f = f' + 1 := ⟨f - 1, by omega⟩
      have HM := Lib.hid hM
      have Hf := Lib.hid hf
      have hsr := hP.size
      obtain ⟨a, c, rfl⟩ := row_form hown
      by_cases hc : txt (bareZ T) p = bh
      · have hH0 := has_any hI bh hbh
        rw [isP_t hc, beP_t hc] at hH0
        have hRe : R = .ok (L) (p + 1) n := by rw [← hRR]; unfold lisL; rw [if_pos hc]
        clear hM hf
        go_wp2_with (go_at_call 133; ((with_reducible refine hH0.mono ?_); (rintro e w3 ⟨rfl, hO3, hI3⟩)))
        go_ret
        rw [hRe]
        have ho3 := own_only hown hO3 (fun j hj e => by have := own_lt hown hj; have e2 : j = rb := e; omega)
        exact .ok (u := .slice a M c) (hP.trans hO3) hI3 ⟨a, c, by rw [← HM.out], by rw [← HM.out]; omega, pms_own ho3 HM.out⟩
      have hH0 := has_any hI bh hbh
      rw [isP_f hc, beP_f hc] at hH0
      have hT0 : ∀ {W : World}, IsRs W rb mb v T p d n → Calls Tryz.prog 136 #[.pointer (some ⟨rb, 0, none⟩), .string ⟨#[44]⟩] W (RP VU W rb mb v T d (takR (bareZ T) [44] p n)) := fun h => take_any h [44] (by decide)
      rw [show lisL (bareZ T) (parR (bareZ T)) bh (f + 1) (L) p n = (takR (bareZ T) [44] p n).next fun _ p n => if (L).length = 8 then .er 5 p else (parR (bareZ T) p n).next fun x p n => lisL (bareZ T) (parR (bareZ T)) bh f ((L) ++ [x]) p n from by rw [lisL, if_neg hc]] at hRR
      have hxl : (L).length = M := by simp [HM.out]
      rw [hxl] at hRR
      cases r3 : takR (bareZ T) [44] p n with
      | er c3 q3 =>
        rw [r3] at hRR hT0
        simp only [Rz.next] at hRR
        rw [← hRR]
        clear hM hf hRR
        go_wp2_with (first
          | (go_at_call 133; ((with_reducible refine hH0.mono ?_); (rintro e w3 ⟨rfl, hO3, hI3⟩)))
          | (go_at_call 136; ((with_reducible refine (hT0 hI3).mono ?_); (rintro e w4 ⟨hO4, he⟩); (unfold Flt at he; subst he))))
        exact ⟨rfl, .er ((hP.trans hO3).trans hO4)⟩
      | ok u3 q3 m3 =>
        rw [r3] at hRR hT0
        simp only [Rz.next] at hRR
        by_cases hM8' : M = 8
        · rw [if_pos hM8'] at hRR
          rw [← hRR]
          have h8 : ((M : Int) == 8) = true := by simp; omega
          have hS := fun W (hW : IsRs W rb mb v T q3 d m3) => stop_any hW 5 5 rfl
          clear hM hf hRR hM8'
          go_wp2_with (first
            | (go_at_call 133; ((with_reducible refine hH0.mono ?_); (rintro e w3 ⟨rfl, hO3, hI3⟩)))
            | (go_at_call 136; ((with_reducible refine (hT0 hI3).mono ?_); (rintro e w4 ⟨hO4, hI4, u4, rfl, hV4⟩); (unfold VU at hV4; subst hV4)))
            | (go_at_call 109; ((with_reducible refine (hS _ hI4).mono ?_); (rintro e w5 ⟨he, k, rfl⟩); (unfold Flt at he; subst he))))
          exact ⟨rfl, .er (only_drew ((hP.trans hO3).trans hO4) k)⟩
        rw [if_neg hM8'] at hRR
        have h8 : ((M : Int) == 8) = false := by simp; omega
        have h1 := fun w1 (hI1 : IsRs w1 rb mb v T q3 d m3) => par_any hI1
        cases r5 : parR (bareZ T) q3 m3 with
        | er c5 q5 =>
          rw [r5] at hRR h1
          simp only at hRR
          rw [← hRR]
          clear hM hf hRR hM8'
          go_wp2_with (first
            | (go_at_call 133; ((with_reducible refine hH0.mono ?_); (rintro e w3 ⟨rfl, hO3, hI3⟩)))
            | (go_at_call 136; ((with_reducible refine (hT0 hI3).mono ?_); (rintro e w4 ⟨hO4, hI4, u4, rfl, hV4⟩); (unfold VU at hV4; subst hV4)))
            | (go_at_call 143; ((with_reducible refine (h1 _ hI4).mono ?_); (rintro e w5 ⟨hO5, he⟩); (unfold Flt at he; subst he))))
          exact ⟨rfl, .er (((hP.trans hO3).trans hO4).trans hO5)⟩
        | ok x5 q5 m5 =>
          rw [r5] at hRR h1
          simp only at hRR
          have Hne := Lib.hid hM8'
          clear hM hf hM8'
          go_wp2_with (first
            | (go_at_call 133; ((with_reducible refine hH0.mono ?_); (rintro e w3 ⟨rfl, hO3, hI3⟩)))
            | (go_at_call 136; ((with_reducible refine (hT0 hI3).mono ?_); (rintro e w4 ⟨hO4, hI4, u4, rfl, hV4⟩); (unfold VU at hV4; subst hV4)))
            | (go_at_call 143; ((with_reducible refine (h1 _ hI4).mono ?_); (rintro e w5 ⟨hO5, hI5, u5, rfl, hV5⟩); (unfold VP at hV5; subst hV5); (have hO35 := (hO3.trans hO4).trans hO5); (have ho5 := own_only hown hO35 (fun j hj e => by have := own_lt hown hj; have e2 : j = rb := e; omega))))
            | (at_builtin; refine wpList_append_lies _ rfl _ _ 45 rfl w.heap.size 49 i0 _ 4 24 Tryz.underlying45 hi hz0 hz1 hz2 rfl (by decide) _ M (pmC L) rfl (ho5.alloc _) ⟨w5.heap.size, 0, none⟩ 1 1 (pmC [x5]) rfl rfl ?cN ?c0 (by decide) ?c1 ?c2 ?c3 _ rfl ?_))
          case cN => exact news_ok (pmC [x5]) 49 w5
          case c0 => exact pmC_one _
          case c1 => unfold maxLen; omega
          case c2 => omega
          case c3 => have := hO35.size; simp; omega
          obtain ⟨wa, hwa⟩ : ∃ wa, w5.alloc (.cells #[.string (str x5.nm), .bool x5.buf, .bool x5.sec, .bool x5.mu] 49) = wa := ⟨_, rfl⟩
          have hba : Below w5.heap.size w5 wa := by rw [← hwa]; exact aB (Below.refl _ _) _
          intro g cap' w6 hown6 hgrow hat hlt6
          rw [hwa] at hgrow
          have hsz : wa.heap.size = w5.heap.size + 1 := by rw [← hwa]; simp
          have hs5 := hO35.size
          have hog := only_grown hgrow
          have hP5 : Only (fun j => j = rb) w w5 := hP.trans hO35
          have hIa : IsRs wa rb mb v T q5 d m5 := hI5.of hba
          have hnew : ∀ j, some j = (Value.slice a M c).ownBlock → w.heap.size ≤ j := fun j hj => (own_lt hown hj.symm).1
          have hI6 : IsRs w6 rb mb v T q5 d m5 := h.newer hIa (hog.mono hnew)
          have hP6 : Only (fun j => j = rb) w w6 := (hP5.trans (ob1 rb hba)).old hog (fun j hj => .inr (hnew j hj))
          go_wp2
          go_roundw
          case rel => exact ⟨L ++ [x5], M + 1, f, q5, m5, by simp [HM.out], by omega, by have := Hne.out; omega, by have := Hf.out; omega, hRR, by rw [pmC_app]; exact hown6, hI6, hP6⟩
          case measure => simp [sliceN]; omega
end Go.Proofs.YtfpoflddnlbpjaaGreatDoor
