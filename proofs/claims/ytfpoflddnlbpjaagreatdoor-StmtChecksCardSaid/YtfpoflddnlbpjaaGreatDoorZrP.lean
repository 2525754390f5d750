/- Contracts of the reader of programs: calls. -/
import Derived.Test.YtfpoflddnlbpjaaGreatDoorZpP
import Derived.Test.YtfpoflddnlbpjaaGreatDoorZaP
namespace Go.Proofs.YtfpoflddnlbpjaaGreatDoor
open Go.ChangeShapes Go.WideShapes Go.ChangeAt Go.RowKit
set_option linter.unusedVariables false

set_option maxRecDepth 100000 in
set_option maxHeartbeats 2000000 in
theorem call_er {w : World} {rb mb : Nat} {v : Value} {T : List (Tk × Int)} {p d n : Nat} (h : IsRs w rb mb v T p d n) (c q : Nat) (r1 : namR (bareZ T) p n = .er c q) :
    Calls Tryz.prog 106 #[.pointer (some ⟨rb, 0, none⟩)] w (RP VS w rb mb v T d (.er c q)) := by
  go_enter Tryz.func106, Tryz.ntmps106
  go_wp2_with (go_at_call 134; ((with_reducible refine (nam_any (h.newer h (only_alloc (Only.refl _ _) _))).mono ?_); (rintro e w1 ⟨hO1, hR1⟩); (rw [r1] at hR1); (unfold Flt at hR1); (subst hR1)))
  exact ⟨rfl, .er ((ob1 rb (aB (Below.refl _ _) _)).trans hO1)⟩

set_option maxRecDepth 100000 in
set_option maxHeartbeats 8000000 in
theorem call_f {w : World} {rb mb : Nat} {v : Value} {T : List (Tk × Int)} {p d n : Nat} (h : IsRs w rb mb v T p d n) (x1 : List UInt8) (q1 m1 : Nat) (r1 : namR (bareZ T) p n = .ok x1 q1 m1) (hc : ¬ txt (bareZ T) q1 = [61]) :
    Calls Tryz.prog 106 #[.pointer (some ⟨rb, 0, none⟩)] w (RP VS w rb mb v T d (argR (bareZ T) [] x1 q1 m1)) := by
  have hrl := h.rl
  have hHt : ∀ {W : World}, IsRs W rb mb v T q1 d m1 → Calls Tryz.prog 133 #[.pointer (some ⟨rb, 0, none⟩), .string ⟨#[61]⟩] W fun e w' => e = .returned (.bool false) ∧ Only (fun j => j = rb) W w' ∧ IsRs w' rb mb v T q1 d m1 := fun h => by have := has_any h [61] (by decide); rw [isP_f hc, beP_f hc] at this; exact this
  have hT1 : ∀ {W : World} {p n : Nat}, IsRs W rb mb v T p d n → Calls Tryz.prog 136 #[.pointer (some ⟨rb, 0, none⟩), .string ⟨#[40]⟩] W (RP VU W rb mb v T d (takR (bareZ T) [40] p n)) := fun h => take_any h [40] (by decide)
  have hT2 : ∀ {W : World} {p n : Nat}, IsRs W rb mb v T p d n → Calls Tryz.prog 136 #[.pointer (some ⟨rb, 0, none⟩), .string ⟨#[59]⟩] W (RP VU W rb mb v T d (takR (bareZ T) [59] p n)) := fun h => take_any h [59] (by decide)
  have hLx : ∀ {W : World} {p n : Nat}, IsRs W rb mb v T p d n → Calls Tryz.prog 140 #[.pointer (some ⟨rb, 0, none⟩), .func (.func 137) #[] #[], .string ⟨#[59]⟩] W (RP VXs W rb mb v T d (lisR (bareZ T) (expR (bareZ T)) [59] p n)) := fun h => listXl_any h [59] (by decide)
  have hLn : ∀ {W : World} {p n : Nat}, IsRs W rb mb v T p d n → Calls Tryz.prog 141 #[.pointer (some ⟨rb, 0, none⟩), .func (.func 134) #[] #[], .string ⟨#[41]⟩] W (RP VA W rb mb v T d (lisR (bareZ T) (namR (bareZ T)) [41] p n)) := fun h => listSl_any h [41] (by decide)
  unfold argR
  go_enter Tryz.func106, Tryz.ntmps106
  go_wp2_with (first
    | (go_at_call 134; ((with_reducible refine (nam_any (h.newer h (only_alloc (Only.refl _ _) _))).mono ?_); (rintro e w1 ⟨hO1, hR1⟩); (have hP1 : Only (fun j => j = rb) w w1 := ((Only.refl _ _).old (only_alloc (Only.refl _ _) _) (fun j hj => .inr hj)).trans hO1); (have hs1 := hO1.size); (simp only [World.size_alloc] at hs1); (have hZ1 : rowG #[.int .u8 0, .string ⟨#[]⟩, .string ⟨#[]⟩, .bool false, .bool false, .slice none 0 0, .slice none 0 0, .slice none 0 0, .slice none 0 0] w1 (w.heap.size) := rowG_only (rowG_at #[.int .u8 0, .string ⟨#[]⟩, .string ⟨#[]⟩, .bool false, .bool false, .slice none 0 0, .slice none 0 0, .slice none 0 0, .slice none 0 0] 44 w (w.heap.size) (by simp)) hO1 (by omega)); (rw [r1] at hR1); (obtain ⟨hI1, z1, rfl, hV1⟩ := hR1); (unfold VN at hV1; subst hV1)))
    | (go_at_call 133; ((with_reducible refine (hHt (h.newer hI1 (only_alloc (Only.refl _ _) _))).mono ?_); (rintro e w2 ⟨rfl, hO2, hI2⟩); (have hP2 : Only (fun j => j = rb) w w2 := (hP1.old (only_alloc (Only.refl _ _) _) (fun j hj => .inr hj)).trans hO2); (have hs2 := hO2.size); (simp only [World.size_alloc] at hs2); (have hZ2 : rowG #[.int .u8 0, .string ⟨#[]⟩, .string ⟨#[]⟩, .bool false, .bool false, .slice none 0 0, .slice none 0 0, .slice none 0 0, .slice none 0 0] w2 (w.heap.size) := rowG_only (rowG_alloc hZ1 _) hO2 (by omega)); (have hS2 : rowG #[.int .u8 11, .string ⟨#[]⟩, .string (str x1), .bool false, .bool false, .slice none 0 0, .slice none 0 0, .slice none 0 0, .slice none 0 0] w2 (w1.heap.size) := rowG_only (rowG_at #[.int .u8 11, .string ⟨#[]⟩, .string (str x1), .bool false, .bool false, .slice none 0 0, .slice none 0 0, .slice none 0 0, .slice none 0 0] 44 w1 (w1.heap.size) (by simp)) hO2 (by omega))))
    | (go_at_call 136; ((with_reducible refine (hT1 hI2).mono ?_); (rintro e w3 ⟨hO3, hR3⟩); (have hP3 : Only (fun j => j = rb) w w3 := hP2.trans hO3); (have hs3 := hO3.size); (have hZ3 : rowG #[.int .u8 0, .string ⟨#[]⟩, .string ⟨#[]⟩, .bool false, .bool false, .slice none 0 0, .slice none 0 0, .slice none 0 0, .slice none 0 0] w3 (w.heap.size) := rowG_only hZ2 hO3 (by omega)); (have hS3 : rowG #[.int .u8 11, .string ⟨#[]⟩, .string (str x1), .bool false, .bool false, .slice none 0 0, .slice none 0 0, .slice none 0 0, .slice none 0 0] w3 (w1.heap.size) := rowG_only hS2 hO3 (by omega)); (rcases r3 : takR (bareZ T) [40] q1 m1 with ⟨c3, q3⟩ | ⟨x3, q3, m3⟩) <;> (rw [r3] at hR3; first | (unfold Flt at hR3; subst hR3) | (obtain ⟨hI3, z3, rfl, hV3⟩ := hR3; (unfold VU at hV3; subst hV3)))))
    | (go_at_call 140; ((with_reducible refine (hLx hI3).mono ?_); (rintro e w4 ⟨hO4, hR4⟩); (have hP4 : Only (fun j => j = rb) w w4 := hP3.trans hO4); (have hs4 := hO4.size); (have hZ4 : rowG #[.int .u8 0, .string ⟨#[]⟩, .string ⟨#[]⟩, .bool false, .bool false, .slice none 0 0, .slice none 0 0, .slice none 0 0, .slice none 0 0] w4 (w.heap.size) := rowG_only hZ3 hO4 (by omega)); (have hS4 : rowG #[.int .u8 11, .string ⟨#[]⟩, .string (str x1), .bool false, .bool false, .slice none 0 0, .slice none 0 0, .slice none 0 0, .slice none 0 0] w4 (w1.heap.size) := rowG_only hS3 hO4 (by omega)); (rcases r4 : lisR (bareZ T) (expR (bareZ T)) [59] q3 m3 with ⟨c4, q4⟩ | ⟨x4, q4, m4⟩) <;> (rw [r4] at hR4; first | (unfold Flt at hR4; subst hR4) | (obtain ⟨hI4, z4, rfl, hV4⟩ := hR4; (obtain ⟨mk4, cap4, rfl, hL4, hE4⟩ := hV4); (have fS5_4 := hS4.1 5 (by simp)); (have ffS_4 := hS4.2.1); (have flS_4 := hS4.2.2)))))
    | (go_at_call 141; ((with_reducible refine (hLn (h.newer hI4 (only_set (Only.refl _ _) _ _ _ (by omega)))).mono ?_); (rintro e w5 ⟨hO5, hR5⟩); (have hP5 : Only (fun j => j = rb) w w5 := (hP4.old (only_set (Only.refl _ _) _ _ _ (by omega)) (fun j hj => .inr hj)).trans hO5); (have hs5 := hO5.size); (simp only [World.size_setCell] at hs5); (have hZ5 : rowG #[.int .u8 0, .string ⟨#[]⟩, .string ⟨#[]⟩, .bool false, .bool false, .slice none 0 0, .slice none 0 0, .slice none 0 0, .slice none 0 0] w5 (w.heap.size) := rowG_only (rowG_other _ hZ4 (by omega)) hO5 (by omega)); (have hS5 : rowG #[.int .u8 11, .string ⟨#[]⟩, .string (str x1), .bool false, .bool false, .slice mk4 x4.length cap4, .slice none 0 0, .slice none 0 0, .slice none 0 0] w5 (w1.heap.size) := rowG_only (r9s5 (.slice mk4 x4.length cap4) hS4) hO5 (by omega)); (have hE4_5 := ((hE4.only (os1 (or1 (w1.heap.size) _) 5 (.slice mk4 x4.length cap4)) (fun b hb e => by have := hb.1; have := hb.2; simp at *; omega))).only hO5 (fun b hb e => by have := hb.1; have := hb.2; simp at *; omega)); (rcases r5 : lisR (bareZ T) (namR (bareZ T)) [41] q4 m4 with ⟨c5, q5⟩ | ⟨x5, q5, m5⟩) <;> (rw [r5] at hR5; first | (unfold Flt at hR5; subst hR5) | (obtain ⟨hI5, z5, rfl, hV5⟩ := hR5; (obtain ⟨mk5, cap5, rfl, hL5, hE5⟩ := hV5); (have fS6_5 := hS5.1 6 (by simp)); (have ffS_5 := hS5.2.1); (have flS_5 := hS5.2.2)))))
    | (go_at_call 136; ((with_reducible refine (hT2 (h.newer hI5 (only_set (Only.refl _ _) _ _ _ (by omega)))).mono ?_); (rintro e w6 ⟨hO6, hR6⟩); (have hP6 : Only (fun j => j = rb) w w6 := (hP5.old (only_set (Only.refl _ _) _ _ _ (by omega)) (fun j hj => .inr hj)).trans hO6); (have hs6 := hO6.size); (simp only [World.size_setCell] at hs6); (have hZ6 : rowG #[.int .u8 0, .string ⟨#[]⟩, .string ⟨#[]⟩, .bool false, .bool false, .slice none 0 0, .slice none 0 0, .slice none 0 0, .slice none 0 0] w6 (w.heap.size) := rowG_only (rowG_other _ hZ5 (by omega)) hO6 (by omega)); (have hS6 : rowG #[.int .u8 11, .string ⟨#[]⟩, .string (str x1), .bool false, .bool false, .slice mk4 x4.length cap4, .slice mk5 x5.length cap5, .slice none 0 0, .slice none 0 0] w6 (w1.heap.size) := rowG_only (r9s6 (.slice mk5 x5.length cap5) hS5) hO6 (by omega)); (have hE4_6 := ((hE4_5.only (os1 (or1 (w1.heap.size) _) 6 (.slice mk5 x5.length cap5)) (fun b hb e => by have := hb.1; have := hb.2; simp at *; omega))).only hO6 (fun b hb e => by have := hb.1; have := hb.2; simp at *; omega)); (have hE5_6 := ((hE5.only (os1 (or1 (w1.heap.size) _) 6 (.slice mk5 x5.length cap5)) (fun b hb e => by have := hb.1; have := hb.2; simp at *; omega))).only hO6 (fun b hb e => by have := hb.1; have := hb.2; simp at *; omega)); (rcases r6 : takR (bareZ T) [59] q5 m5 with ⟨c6, q6⟩ | ⟨x6, q6, m6⟩) <;> (rw [r6] at hR6; first | (unfold Flt at hR6; subst hR6) | (obtain ⟨hI6, z6, rfl, hV6⟩ := hR6; (unfold VU at hV6; subst hV6)))))
    | (with_reducible refine ld9 rfl _ rfl (w1.heap.size) rfl (show rowG #[.int .u8 11, .string ⟨#[]⟩, .string (str x1), .bool false, .bool false, .slice mk4 x4.length cap4, .slice mk5 x5.length cap5, .slice none 0 0, .slice none 0 0] _ _ from hS6) ?_)
    | (with_reducible refine st9 rfl _ _ rfl (w.heap.size) rfl rfl hZ6 ?_; intro wF hF hOF)
    )
  all_goals first
    | (refine ⟨rfl, ?_⟩; simp only [r3, Rz.next]; exact .er hP3)
    | (refine ⟨rfl, ?_⟩; simp only [r3, r4, Rz.next]; exact .er hP4)
    | (refine ⟨rfl, ?_⟩; simp only [r3, r4, r5, Rz.next]; exact .er hP5)
    | (refine ⟨rfl, ?_⟩; simp only [r3, r4, r5, r6, Rz.next]; exact .er hP6)
    | skip
  simp only [r3, r4, r5, r6, Rz.next]
  have hsF := hOF.size
  have hOn : Only (fun j => w.heap.size ≤ j) w6 wF := (Only.refl _ _).trans (hOF.mono (fun j e => by have e2 : j = w.heap.size := e; omega))
  refine bodyPost_ret (res_st rfl _ _ (w.heap.size) _ _ _ _ _ _ _ _ _ rfl hF) rfl ?_
  exact .ok (hP6.old hOn (fun j hj => .inr hj)) (h.newer hI6 hOn) (IsSt.mk (k := 11) (nm := []) (fr := x1) (ex := x4) (ar := x5) (bd := []) (el := []) (by omega) hL4 hL5 (by simp) (by simp) ((hE4_6.only hOF (fun b hb e => by have := hb.1; have := hb.2; simp at *; omega)).mono (fun b hb => ⟨by have := hb.1; have := hb.2; simp at *; omega, by have := hb.1; have := hb.2; simp at *; omega⟩)) ((hE5_6.only hOF (fun b hb e => by have := hb.1; have := hb.2; simp at *; omega)).mono (fun b hb => ⟨by have := hb.1; have := hb.2; simp at *; omega, by have := hb.1; have := hb.2; simp at *; omega⟩)) .nil .nil)

set_option maxRecDepth 100000 in
set_option maxHeartbeats 8000000 in
theorem call_t {w : World} {rb mb : Nat} {v : Value} {T : List (Tk × Int)} {p d n : Nat} (h : IsRs w rb mb v T p d n) (x1 : List UInt8) (q1 m1 : Nat) (r1 : namR (bareZ T) p n = .ok x1 q1 m1) (hc : txt (bareZ T) q1 = [61]) :
    Calls Tryz.prog 106 #[.pointer (some ⟨rb, 0, none⟩)] w (RP VS w rb mb v T d ((namR (bareZ T) (q1 + 1) m1).next fun y p n => argR (bareZ T) x1 y p n)) := by
  have hrl := h.rl
  have hHt : ∀ {W : World}, IsRs W rb mb v T q1 d m1 → Calls Tryz.prog 133 #[.pointer (some ⟨rb, 0, none⟩), .string ⟨#[61]⟩] W fun e w' => e = .returned (.bool true) ∧ Only (fun j => j = rb) W w' ∧ IsRs w' rb mb v T (q1 + 1) d m1 := fun h => by have := has_any h [61] (by decide); rw [isP_t hc, beP_t hc] at this; exact this
  have hT1 : ∀ {W : World} {p n : Nat}, IsRs W rb mb v T p d n → Calls Tryz.prog 136 #[.pointer (some ⟨rb, 0, none⟩), .string ⟨#[40]⟩] W (RP VU W rb mb v T d (takR (bareZ T) [40] p n)) := fun h => take_any h [40] (by decide)
  have hT2 : ∀ {W : World} {p n : Nat}, IsRs W rb mb v T p d n → Calls Tryz.prog 136 #[.pointer (some ⟨rb, 0, none⟩), .string ⟨#[59]⟩] W (RP VU W rb mb v T d (takR (bareZ T) [59] p n)) := fun h => take_any h [59] (by decide)
  have hLx : ∀ {W : World} {p n : Nat}, IsRs W rb mb v T p d n → Calls Tryz.prog 140 #[.pointer (some ⟨rb, 0, none⟩), .func (.func 137) #[] #[], .string ⟨#[59]⟩] W (RP VXs W rb mb v T d (lisR (bareZ T) (expR (bareZ T)) [59] p n)) := fun h => listXl_any h [59] (by decide)
  have hLn : ∀ {W : World} {p n : Nat}, IsRs W rb mb v T p d n → Calls Tryz.prog 141 #[.pointer (some ⟨rb, 0, none⟩), .func (.func 134) #[] #[], .string ⟨#[41]⟩] W (RP VA W rb mb v T d (lisR (bareZ T) (namR (bareZ T)) [41] p n)) := fun h => listSl_any h [41] (by decide)
  go_enter Tryz.func106, Tryz.ntmps106
  go_wp2_with (first
    | (go_at_call 134; ((with_reducible refine (nam_any (h.newer h (only_alloc (Only.refl _ _) _))).mono ?_); (rintro e w1 ⟨hO1, hR1⟩); (have hP1 : Only (fun j => j = rb) w w1 := ((Only.refl _ _).old (only_alloc (Only.refl _ _) _) (fun j hj => .inr hj)).trans hO1); (have hs1 := hO1.size); (simp only [World.size_alloc] at hs1); (have hZ1 : rowG #[.int .u8 0, .string ⟨#[]⟩, .string ⟨#[]⟩, .bool false, .bool false, .slice none 0 0, .slice none 0 0, .slice none 0 0, .slice none 0 0] w1 (w.heap.size) := rowG_only (rowG_at #[.int .u8 0, .string ⟨#[]⟩, .string ⟨#[]⟩, .bool false, .bool false, .slice none 0 0, .slice none 0 0, .slice none 0 0, .slice none 0 0] 44 w (w.heap.size) (by simp)) hO1 (by omega)); (rw [r1] at hR1); (obtain ⟨hI1, z1, rfl, hV1⟩ := hR1); (unfold VN at hV1; subst hV1)))
    | (go_at_call 133; ((with_reducible refine (hHt (h.newer hI1 (only_alloc (Only.refl _ _) _))).mono ?_); (rintro e w2 ⟨rfl, hO2, hI2⟩); (have hP2 : Only (fun j => j = rb) w w2 := (hP1.old (only_alloc (Only.refl _ _) _) (fun j hj => .inr hj)).trans hO2); (have hs2 := hO2.size); (simp only [World.size_alloc] at hs2); (have hZ2 : rowG #[.int .u8 0, .string ⟨#[]⟩, .string ⟨#[]⟩, .bool false, .bool false, .slice none 0 0, .slice none 0 0, .slice none 0 0, .slice none 0 0] w2 (w.heap.size) := rowG_only (rowG_alloc hZ1 _) hO2 (by omega)); (have hS2 : rowG #[.int .u8 11, .string ⟨#[]⟩, .string (str x1), .bool false, .bool false, .slice none 0 0, .slice none 0 0, .slice none 0 0, .slice none 0 0] w2 (w1.heap.size) := rowG_only (rowG_at #[.int .u8 11, .string ⟨#[]⟩, .string (str x1), .bool false, .bool false, .slice none 0 0, .slice none 0 0, .slice none 0 0, .slice none 0 0] 44 w1 (w1.heap.size) (by simp)) hO2 (by omega))))
    )
  have hF0 : Only (fun j => j = rb) w2 w2.drew := ob1 rb (bdd (Below.refl _ _))
  have hFi : ∀ w', Only (fun j => j = rb) w2 w' → w'.cell? ⟨w1.heap.size, 2, none⟩ = some (.string (str x1)) ∧ w1.heap.size < w'.heap.size := fun w' hO => ⟨(rowG_only hS2 hO (by omega)).1 2 (by simp), (rowG_only hS2 hO (by omega)).2.2⟩
  have hIc := hI2.of (bdd (Below.refl _ _))
  refine region_F (fun w' => Only (fun j => j = rb) w2 w') 5 (by kernel_rfl) ?_
  refine wpAnyF_free (i := 0) rfl (by kernel_rfl) (by kernel_rfl) (by kernel_rfl) (by decide) (fun _ _ _ _ h => h) (fun _ => hF0) (fun K hK => ?_)
  apply Exists.intro
  refine ⟨Or.inl ⟨by kernel_rfl, fun w' _ => ?_⟩, ?_⟩
  · go_simp
    try exact rfl
  go_simp
  refine hK _ ?_
  clear hK K
  refine wpAnyF_take (i := 1) rfl (by kernel_rfl) (by kernel_rfl) (by kernel_rfl) (by kernel_rfl) (by kernel_rfl) (fun _ _ _ _ h => h) hF0 (fun K hK => ?_)
  apply Exists.intro
  refine ⟨Or.inl ⟨by kernel_rfl, fun w' hf => ?_⟩, ?_⟩
  · obtain ⟨k2, kl⟩ := hFi _ hf
    go_simp
    try exact rfl
  go_simp
  refine hK _ ?_
  clear hK K
  refine wpAnyF_free (i := 2) rfl (by kernel_rfl) (by kernel_rfl) (by kernel_rfl) (by decide) (fun _ _ _ _ h => h) (fun _ => hF0) (fun K hK => ?_)
  apply Exists.intro
  refine ⟨Or.inl ⟨by kernel_rfl, fun w' _ => ?_⟩, ?_⟩
  · go_simp
    try exact rfl
  go_simp
  refine hK _ ?_
  clear hK K
  refine wpAnyF_free (i := 4) rfl (by kernel_rfl) (by kernel_rfl) (by kernel_rfl) (by decide) (fun _ _ _ _ h => h) (fun _ => hF0) (fun K hK => ?_)
  apply Exists.intro
  refine ⟨Or.inl ⟨by kernel_rfl, fun w' _ => ?_⟩, ?_⟩
  · go_simp
    try exact rfl
  go_simp
  refine hK _ ?_
  clear hK K
  refine wpAnyF_one (k := 3) (by kernel_rfl) ?_
  refine wpOp_step rfl (fun K hK => ?_)
  go_simp
  go_at_call 134
  with_reducible refine (nam_any hIc).mono ?_
  rintro e w3 ⟨hO3, hR3⟩
  have hF3 := hF0.trans hO3
  have hP3 := hP2.trans hF3
  rcases r3 : namR (bareZ T) (q1 + 1) m1 with ⟨c3, q3⟩ | ⟨x3, q3, m3⟩
  · rw [r3] at hR3; unfold Flt at hR3; subst hR3; exact ⟨rfl, by simp only [r3, Rz.next]; exact .er hP3⟩
  rw [r3] at hR3
  obtain ⟨hI3, z3, rfl, hV3⟩ := hR3
  unfold VN at hV3
  subst hV3
  have hs3 := hF3.size
  have hS3 := rowG_only hS2 hF3 (by omega)
  have hZ3 := rowG_only hZ2 hF3 (by omega)
  have f1 := hS3.1 1 (by simp)
  have f2 := hS3.1 2 (by simp)
  have ff := hS3.2.1
  have fl := hS3.2.2
  refine hK _ _ ⟨fun _ => hF3, ?_⟩
  clear hK K
  refine wpAnyF_one (k := 5) (by kernel_rfl) ?_
  refine wpOp_step rfl (fun K hK => ?_)
  go_simp
  refine hK _ _ ⟨fun h => (Bool.false_ne_true (h.symm.trans (by kernel_rfl))).elim, ?_⟩
  clear hK K
  refine wpAnyF_one (k := 6) (by kernel_rfl) ?_
  refine wpOp_step rfl (fun K hK => ?_)
  go_simp
  refine hK _ _ ⟨fun h => (Bool.false_ne_true (h.symm.trans (by kernel_rfl))).elim, ?_⟩
  clear hK K
  refine wpAnyF_one (k := 7) (by kernel_rfl) ?_
  refine wpOp_step rfl (fun K hK => ?_)
  go_simp
  refine hK _ _ ⟨fun h => (Bool.false_ne_true (h.symm.trans (by kernel_rfl))).elim, ?_⟩
  clear hK K
  refine wpAnyF_done (by kernel_rfl) ?_
  go_wp2_with (first
    | (go_at_call 136; ((with_reducible refine (hT1 (h.newer hI3 (only_set (only_set (Only.refl _ _) _ _ _ (by omega)) _ _ _ (by omega)))).mono ?_); (rintro e w4 ⟨hO4, hR4⟩); (have hP4 : Only (fun j => j = rb) w w4 := (hP3.old (only_set (only_set (Only.refl _ _) _ _ _ (by omega)) _ _ _ (by omega)) (fun j hj => .inr hj)).trans hO4); (have hs4 := hO4.size); (simp only [World.size_setCell] at hs4); (have hZ4 : rowG #[.int .u8 0, .string ⟨#[]⟩, .string ⟨#[]⟩, .bool false, .bool false, .slice none 0 0, .slice none 0 0, .slice none 0 0, .slice none 0 0] w4 (w.heap.size) := rowG_only (rowG_other _ (rowG_other _ hZ3 (by omega)) (by omega)) hO4 (by omega)); (have hS4 : rowG #[.int .u8 11, .string (str x1), .string (str x3), .bool false, .bool false, .slice none 0 0, .slice none 0 0, .slice none 0 0, .slice none 0 0] w4 (w1.heap.size) := rowG_only (r9s2 (.string (str x3)) (r9s1 (.string (str x1)) hS3)) hO4 (by omega)); (rcases r4 : takR (bareZ T) [40] q3 m3 with ⟨c4, q4⟩ | ⟨x4, q4, m4⟩) <;> (rw [r4] at hR4; first | (unfold Flt at hR4; subst hR4) | (obtain ⟨hI4, z4, rfl, hV4⟩ := hR4; (unfold VU at hV4; subst hV4)))))
    | (go_at_call 140; ((with_reducible refine (hLx hI4).mono ?_); (rintro e w5 ⟨hO5, hR5⟩); (have hP5 : Only (fun j => j = rb) w w5 := hP4.trans hO5); (have hs5 := hO5.size); (have hZ5 : rowG #[.int .u8 0, .string ⟨#[]⟩, .string ⟨#[]⟩, .bool false, .bool false, .slice none 0 0, .slice none 0 0, .slice none 0 0, .slice none 0 0] w5 (w.heap.size) := rowG_only hZ4 hO5 (by omega)); (have hS5 : rowG #[.int .u8 11, .string (str x1), .string (str x3), .bool false, .bool false, .slice none 0 0, .slice none 0 0, .slice none 0 0, .slice none 0 0] w5 (w1.heap.size) := rowG_only hS4 hO5 (by omega)); (rcases r5 : lisR (bareZ T) (expR (bareZ T)) [59] q4 m4 with ⟨c5, q5⟩ | ⟨x5, q5, m5⟩) <;> (rw [r5] at hR5; first | (unfold Flt at hR5; subst hR5) | (obtain ⟨hI5, z5, rfl, hV5⟩ := hR5; (obtain ⟨mk5, cap5, rfl, hL5, hE5⟩ := hV5); (have fS5_5 := hS5.1 5 (by simp)); (have ffS_5 := hS5.2.1); (have flS_5 := hS5.2.2)))))
    | (go_at_call 141; ((with_reducible refine (hLn (h.newer hI5 (only_set (Only.refl _ _) _ _ _ (by omega)))).mono ?_); (rintro e w6 ⟨hO6, hR6⟩); (have hP6 : Only (fun j => j = rb) w w6 := (hP5.old (only_set (Only.refl _ _) _ _ _ (by omega)) (fun j hj => .inr hj)).trans hO6); (have hs6 := hO6.size); (simp only [World.size_setCell] at hs6); (have hZ6 : rowG #[.int .u8 0, .string ⟨#[]⟩, .string ⟨#[]⟩, .bool false, .bool false, .slice none 0 0, .slice none 0 0, .slice none 0 0, .slice none 0 0] w6 (w.heap.size) := rowG_only (rowG_other _ hZ5 (by omega)) hO6 (by omega)); (have hS6 : rowG #[.int .u8 11, .string (str x1), .string (str x3), .bool false, .bool false, .slice mk5 x5.length cap5, .slice none 0 0, .slice none 0 0, .slice none 0 0] w6 (w1.heap.size) := rowG_only (r9s5 (.slice mk5 x5.length cap5) hS5) hO6 (by omega)); (have hE5_6 := ((hE5.only (os1 (or1 (w1.heap.size) _) 5 (.slice mk5 x5.length cap5)) (fun b hb e => by have := hb.1; have := hb.2; simp at *; omega))).only hO6 (fun b hb e => by have := hb.1; have := hb.2; simp at *; omega)); (rcases r6 : lisR (bareZ T) (namR (bareZ T)) [41] q5 m5 with ⟨c6, q6⟩ | ⟨x6, q6, m6⟩) <;> (rw [r6] at hR6; first | (unfold Flt at hR6; subst hR6) | (obtain ⟨hI6, z6, rfl, hV6⟩ := hR6; (obtain ⟨mk6, cap6, rfl, hL6, hE6⟩ := hV6); (have fS6_6 := hS6.1 6 (by simp)); (have ffS_6 := hS6.2.1); (have flS_6 := hS6.2.2)))))
    | (go_at_call 136; ((with_reducible refine (hT2 (h.newer hI6 (only_set (Only.refl _ _) _ _ _ (by omega)))).mono ?_); (rintro e w7 ⟨hO7, hR7⟩); (have hP7 : Only (fun j => j = rb) w w7 := (hP6.old (only_set (Only.refl _ _) _ _ _ (by omega)) (fun j hj => .inr hj)).trans hO7); (have hs7 := hO7.size); (simp only [World.size_setCell] at hs7); (have hZ7 : rowG #[.int .u8 0, .string ⟨#[]⟩, .string ⟨#[]⟩, .bool false, .bool false, .slice none 0 0, .slice none 0 0, .slice none 0 0, .slice none 0 0] w7 (w.heap.size) := rowG_only (rowG_other _ hZ6 (by omega)) hO7 (by omega)); (have hS7 : rowG #[.int .u8 11, .string (str x1), .string (str x3), .bool false, .bool false, .slice mk5 x5.length cap5, .slice mk6 x6.length cap6, .slice none 0 0, .slice none 0 0] w7 (w1.heap.size) := rowG_only (r9s6 (.slice mk6 x6.length cap6) hS6) hO7 (by omega)); (have hE5_7 := ((hE5_6.only (os1 (or1 (w1.heap.size) _) 6 (.slice mk6 x6.length cap6)) (fun b hb e => by have := hb.1; have := hb.2; simp at *; omega))).only hO7 (fun b hb e => by have := hb.1; have := hb.2; simp at *; omega)); (have hE6_7 := ((hE6.only (os1 (or1 (w1.heap.size) _) 6 (.slice mk6 x6.length cap6)) (fun b hb e => by have := hb.1; have := hb.2; simp at *; omega))).only hO7 (fun b hb e => by have := hb.1; have := hb.2; simp at *; omega)); (rcases r7 : takR (bareZ T) [59] q6 m6 with ⟨c7, q7⟩ | ⟨x7, q7, m7⟩) <;> (rw [r7] at hR7; first | (unfold Flt at hR7; subst hR7) | (obtain ⟨hI7, z7, rfl, hV7⟩ := hR7; (unfold VU at hV7; subst hV7)))))
    | (with_reducible refine ld9 rfl _ rfl (w1.heap.size) rfl (show rowG #[.int .u8 11, .string (str x1), .string (str x3), .bool false, .bool false, .slice mk5 x5.length cap5, .slice mk6 x6.length cap6, .slice none 0 0, .slice none 0 0] _ _ from hS7) ?_)
    | (with_reducible refine st9 rfl _ _ rfl (w.heap.size) rfl rfl hZ7 ?_; intro wF hF hOF)
    )
  all_goals first
    | (refine ⟨rfl, ?_⟩; simp only [r3, argR, r4, Rz.next]; exact .er hP4)
    | (refine ⟨rfl, ?_⟩; simp only [r3, argR, r4, r5, Rz.next]; exact .er hP5)
    | (refine ⟨rfl, ?_⟩; simp only [r3, argR, r4, r5, r6, Rz.next]; exact .er hP6)
    | (refine ⟨rfl, ?_⟩; simp only [r3, argR, r4, r5, r6, r7, Rz.next]; exact .er hP7)
    | skip
  simp only [r3, argR, r4, r5, r6, r7, Rz.next]
  have hsF := hOF.size
  have hOn : Only (fun j => w.heap.size ≤ j) w7 wF := (Only.refl _ _).trans (hOF.mono (fun j e => by have e2 : j = w.heap.size := e; omega))
  refine bodyPost_ret (res_st rfl _ _ (w.heap.size) _ _ _ _ _ _ _ _ _ rfl hF) rfl ?_
  exact .ok (hP7.old hOn (fun j hj => .inr hj)) (h.newer hI7 hOn) (IsSt.mk (k := 11) (nm := x1) (fr := x3) (ex := x5) (ar := x6) (bd := []) (el := []) (by omega) hL5 hL6 (by simp) (by simp) ((hE5_7.only hOF (fun b hb e => by have := hb.1; have := hb.2; simp at *; omega)).mono (fun b hb => ⟨by have := hb.1; have := hb.2; simp at *; omega, by have := hb.1; have := hb.2; simp at *; omega⟩)) ((hE6_7.only hOF (fun b hb e => by have := hb.1; have := hb.2; simp at *; omega)).mono (fun b hb => ⟨by have := hb.1; have := hb.2; simp at *; omega, by have := hb.1; have := hb.2; simp at *; omega⟩)) .nil .nil)

theorem call_any {w : World} {rb mb : Nat} {v : Value} {T : List (Tk × Int)} {p d n : Nat} (h : IsRs w rb mb v T p d n) :
    Calls Tryz.prog 106 #[.pointer (some ⟨rb, 0, none⟩)] w (RP VS w rb mb v T d (calR (bareZ T) p n)) := by
  unfold calR
  cases r1 : namR (bareZ T) p n with
  | er c q => exact call_er h c q r1
  | ok x q m =>
    simp only [Rz.next]
    by_cases hc : txt (bareZ T) q = [61]
    · rw [if_pos hc]; exact call_t h x q m r1 hc
    · rw [if_neg hc]; exact call_f h x q m r1 hc

end Go.Proofs.YtfpoflddnlbpjaaGreatDoor

/- Contracts of the reader of programs: a name's statement. -/
namespace Go.Proofs.YtfpoflddnlbpjaaGreatDoor
open Go.ChangeShapes Go.WideShapes Go.ChangeAt Go.RowKit
set_option linter.unusedVariables false

set_option maxRecDepth 100000 in
set_option maxHeartbeats 2000000 in
theorem put_er {w : World} {rb mb : Nat} {v : Value} {T : List (Tk × Int)} {p d n : Nat} (h : IsRs w rb mb v T p d n) (c q : Nat) (r1 : namR (bareZ T) p n = .er c q) :
    Calls Tryz.prog 179 #[.pointer (some ⟨rb, 0, none⟩)] w (RP VS w rb mb v T d (.er c q)) := by
  go_enter Tryz.func179, Tryz.ntmps179
  go_wp2_with (go_at_call 134; ((with_reducible refine (nam_any (h.newer h (only_alloc (Only.refl _ _) _))).mono ?_); (rintro e w1 ⟨hO1, hR1⟩); (rw [r1] at hR1); (unfold Flt at hR1); (subst hR1)))
  exact ⟨rfl, .er ((ob1 rb (aB (Below.refl _ _) _)).trans hO1)⟩

set_option maxRecDepth 100000 in
set_option maxHeartbeats 8000000 in
theorem put_f {w : World} {rb mb : Nat} {v : Value} {T : List (Tk × Int)} {p d n : Nat} (h : IsRs w rb mb v T p d n) (x1 : List UInt8) (q1 m1 : Nat) (r1 : namR (bareZ T) p n = .ok x1 q1 m1) (hc : ¬ txt (bareZ T) q1 = [91]) :
    Calls Tryz.prog 179 #[.pointer (some ⟨rb, 0, none⟩)] w (RP VS w rb mb v T d ((betR (bareZ T) [61] [59] q1 m1).next fun e p n => .ok (.mk 2 x1 [] false false [e] [] [] []) p n)) := by
  have hrl := h.rl
  obtain ⟨i0, hi, hz0, hz1, hz2⟩ := info_parts infoE
  have hNx : ∀ {W : World}, IsRs W rb mb v T q1 d m1 → Calls Tryz.prog 108 #[.pointer (some ⟨rb, 0, none⟩), .string ⟨#[91]⟩] W fun e w' => e = .returned (.bool false) ∧ Only (fun j => j = rb) W w' ∧ IsRs w' rb mb v T q1 d m1 := fun h => by have := nx_any h [91]; rw [isP_f hc] at this; exact this.mono fun e w' ⟨he, k, hw⟩ => ⟨he, by rw [hw]; exact only_drew (Only.refl _ _) k, by rw [hw]; exact h.drewN k⟩
  have hB : ∀ {W : World} {p n : Nat}, IsRs W rb mb v T p d n → Calls Tryz.prog 135 #[.pointer (some ⟨rb, 0, none⟩), .string ⟨#[61]⟩, .string ⟨#[59]⟩] W (RP VX W rb mb v T d (betR (bareZ T) [61] [59] p n)) := fun h => betw_any h [61] [59] (by decide) (by decide)
  go_enter Tryz.func179, Tryz.ntmps179
  go_wp2_with (first
    | (go_at_call 134; ((with_reducible refine (nam_any (h.newer h (only_alloc (Only.refl _ _) _))).mono ?_); (rintro e w1 ⟨hO1, hR1⟩); (have hP1 : Only (fun j => j = rb) w w1 := ((Only.refl _ _).old (only_alloc (Only.refl _ _) _) (fun j hj => .inr hj)).trans hO1); (have hs1 := hO1.size); (simp only [World.size_alloc] at hs1); (have hZ1 : rowG #[.int .u8 0, .string ⟨#[]⟩, .string ⟨#[]⟩, .bool false, .bool false, .slice none 0 0, .slice none 0 0, .slice none 0 0, .slice none 0 0] w1 (w.heap.size) := rowG_only (rowG_at #[.int .u8 0, .string ⟨#[]⟩, .string ⟨#[]⟩, .bool false, .bool false, .slice none 0 0, .slice none 0 0, .slice none 0 0, .slice none 0 0] 44 w (w.heap.size) (by simp)) hO1 (by omega)); (rw [r1] at hR1); (obtain ⟨hI1, z1, rfl, hV1⟩ := hR1); (unfold VN at hV1; subst hV1)))
    | (go_at_call 108; ((with_reducible refine (hNx (h.newer hI1 (only_alloc (Only.refl _ _) _))).mono ?_); (rintro e w2 ⟨rfl, hO2, hI2⟩); (have hP2 : Only (fun j => j = rb) w w2 := (hP1.old (only_alloc (Only.refl _ _) _) (fun j hj => .inr hj)).trans hO2); (have hs2 := hO2.size); (simp only [World.size_alloc] at hs2); (have hZ2 : rowG #[.int .u8 0, .string ⟨#[]⟩, .string ⟨#[]⟩, .bool false, .bool false, .slice none 0 0, .slice none 0 0, .slice none 0 0, .slice none 0 0] w2 (w.heap.size) := rowG_only (rowG_alloc hZ1 _) hO2 (by omega)); (have hS2 : rowG #[.int .u8 2, .string (str x1), .string ⟨#[]⟩, .bool false, .bool false, .slice none 0 0, .slice none 0 0, .slice none 0 0, .slice none 0 0] w2 (w1.heap.size) := rowG_only (rowG_at #[.int .u8 2, .string (str x1), .string ⟨#[]⟩, .bool false, .bool false, .slice none 0 0, .slice none 0 0, .slice none 0 0, .slice none 0 0] 44 w1 (w1.heap.size) (by simp)) hO2 (by omega))))
    )
  have ho0 : w2.ownsRow (w1.heap.size + 1) 52 5 (.slice none 0 0) 0 (kxs []) := World.ownsRow_nil _ _ _ _
  have hF0 : Only (fun j => j = rb) w2 w2.drew := ob1 rb (bdd (Below.refl _ _))
  have hFi : ∀ w', Only (fun j => j = rb) w2 w' → w'.cell? ⟨w1.heap.size, 5, none⟩ = some (.slice none 0 0) ∧ w1.heap.size < w'.heap.size := fun w' hO => ⟨(rowG_only hS2 hO (by omega)).1 5 (by simp), (rowG_only hS2 hO (by omega)).2.2⟩
  have hIc := hI2.of (bdd (Below.refl _ _))
  refine region_F (fun w' => Only (fun j => j = rb) w2 w') 5 (by kernel_rfl) ?_
  refine wpAnyF_free (i := 0) rfl (by kernel_rfl) (by kernel_rfl) (by kernel_rfl) (by decide) (fun _ _ _ _ h => h) (fun _ => hF0) (fun K hK => ?_)
  apply Exists.intro
  refine ⟨Or.inl ⟨by kernel_rfl, fun w' _ => ?_⟩, ?_⟩
  · go_simp
    try exact rfl
  go_simp
  refine hK _ ?_
  clear hK K
  refine wpAnyF_take (i := 1) rfl (by kernel_rfl) (by kernel_rfl) (by kernel_rfl) (by kernel_rfl) (by kernel_rfl) (fun _ _ _ _ h => h) hF0 (fun K hK => ?_)
  apply Exists.intro
  refine ⟨Or.inl ⟨by kernel_rfl, fun w' hf => ?_⟩, ?_⟩
  · obtain ⟨k5, kl⟩ := hFi _ hf
    go_simp
    try exact rfl
  go_simp
  refine hK _ ?_
  clear hK K
  refine wpAnyF_free (i := 2) rfl (by kernel_rfl) (by kernel_rfl) (by kernel_rfl) (by decide) (fun _ _ _ _ h => h) (fun _ => hF0) (fun K hK => ?_)
  apply Exists.intro
  refine ⟨Or.inl ⟨by kernel_rfl, fun w' _ => ?_⟩, ?_⟩
  · go_simp
    try exact rfl
  go_simp
  refine hK _ ?_
  clear hK K
  refine wpAnyF_one (k := 3) (by kernel_rfl) ?_
  refine wpOp_step rfl (fun K hK => ?_)
  go_simp
  go_at_call 135
  with_reducible refine (hB hIc).mono ?_
  rintro e w3 ⟨hO3, hR3⟩
  have hF3 := hF0.trans hO3
  have hP3 := hP2.trans hF3
  rcases r3 : betR (bareZ T) [61] [59] q1 m1 with ⟨c3, q3⟩ | ⟨x3, q3, m3⟩
  · rw [r3] at hR3; unfold Flt at hR3; subst hR3; exact ⟨rfl, by simp only [r3, Rz.next]; exact .er hP3⟩
  rw [r3] at hR3
  obtain ⟨hI3, z3, rfl, hV3⟩ := hR3
  obtain ⟨K3, rfl, e3, hK3⟩ := vx_kx hV3
  have hs3 := hF3.size
  have hS3 := rowG_only hS2 hF3 (by omega)
  have hZ3 := rowG_only hZ2 hF3 (by omega)
  have ho3 := own_only ho0 hF3 (fun j hj e => by have := own_lt ho0 hj; have e2 : j = rb := e; omega)
  refine hK _ _ ⟨fun _ => hF3, ?_⟩
  clear hK K
  refine wpAnyF_one (k := 4) (by kernel_rfl) ?_
  refine wpOp_step rfl (fun K hK => ?_)
  go_simp
  refine hK _ _ ⟨fun _ => (only_alloc hF3 _), ?_⟩
  clear hK K
  refine wpAnyF_one (k := 5) (by kernel_rfl) ?_
  refine wpOp_step rfl (fun K hK => ?_)
  refine step_append_lies _ rfl (.tmp 18) (.tmp 21) 40 rfl (w1.heap.size + 1) 52 i0 _ 5 64 Tryz.underlying40 hi hz0 hz1 hz2 rfl (by decide) (.slice none 0 0) 0 (kxs []) rfl (ho3.alloc _) ⟨w3.heap.size, 0, none⟩ 1 1 (kxs [K3]) rfl rfl (news_ok (kxs [K3]) 52 w3) (kxs_one _) (by decide) (by unfold maxLen; omega) (by omega) (by simp; omega) _ rfl ?_
  intro g3 cap3 w36 hown3 hgrow3 hat3 hlt3
  have hba : Below w3.heap.size w3 (w3.alloc (.cells #[.int .u8 (K3.k : Int), .int .u64 (K3.n : Int), .string (str K3.s), .int .u8 (K3.o : Int), .slice K3.ma K3.m K3.cap] 52)) := aB (Below.refl _ _) _
  have hog := only_grown hgrow3
  have hsz36 := hog.size
  simp only [World.size_alloc] at hsz36
  have hnew : ∀ j, some j = (.slice none 0 0 : Value).ownBlock → w1.heap.size + 1 ≤ j := fun j hj => (own_lt ho0 hj.symm).1
  have hnewl : ∀ j, some j = (.slice none 0 0 : Value).ownBlock → j < w2.heap.size := fun j hj => (own_lt ho0 hj.symm).2
  have hI36 : IsRs w36 rb mb v T q3 d m3 := h.newer (hI3.of hba) (hog.mono (fun j hj => by have := hnew j hj; omega))
  have hP36 : Only (fun j => j = rb) w w36 := (hP3.trans (ob1 rb hba)).old hog (fun j hj => .inr (by have := hnew j hj; omega))
  have hS36 := rowG_only (rowG_alloc hS3 _) hog (fun e => by have := hnew _ e; omega)
  have hZ36 := rowG_only (rowG_alloc hZ3 _) hog (fun e => by have := hnew _ e; omega)
  have f5_3 := hS36.1 5 (by simp)
  have ff_3 := hS36.2.1
  have fl_3 := hS36.2.2
  refine hK _ _ ⟨fun h => (Bool.false_ne_true (h.symm.trans (by kernel_rfl))).elim, ?_⟩
  clear hK K
  refine wpAnyF_one (k := 6) (by kernel_rfl) ?_
  refine wpOp_step rfl (fun K hK => ?_)
  go_simp
  refine hK _ _ ⟨fun h => (Bool.false_ne_true (h.symm.trans (by kernel_rfl))).elim, ?_⟩
  clear hK K
  refine wpAnyF_one (k := 7) (by kernel_rfl) ?_
  refine wpOp_step rfl (fun K hK => ?_)
  go_simp
  refine hK _ _ ⟨fun h => (Bool.false_ne_true (h.symm.trans (by kernel_rfl))).elim, ?_⟩
  clear hK K
  refine wpAnyF_done (by kernel_rfl) ?_
  go_wp2_with (first
    | (with_reducible refine ld9 rfl _ rfl (w1.heap.size) rfl (show rowG #[.int .u8 2, .string (str x1), .string ⟨#[]⟩, .bool false, .bool false, .slice (some ⟨g3, 0, none⟩) 1 cap3, .slice none 0 0, .slice none 0 0, .slice none 0 0] _ _ from r9s5 (.slice (some ⟨g3, 0, none⟩) 1 cap3) hS36) ?_)
    | (with_reducible refine st9 rfl _ _ rfl (w.heap.size) rfl rfl (rowG_other _ hZ36 (by omega)) ?_; intro wF hF hOF)
    )
  simp only [r3, Rz.next]
  have hsF := hOF.size
  simp only [World.size_setCell] at hsF
  have hOX : Only (fun j => w.heap.size ≤ j) w36 wF := (only_set (Only.refl _ _) _ _ _ (by omega)).trans (hOF.mono (fun j e => by have e2 : j = w.heap.size := e; omega))
  have hOY : Only (fun j => j = w1.heap.size ∨ j = w.heap.size) w36 wF := (only_set (Only.refl _ _) _ _ _ (.inl rfl)).trans (hOF.mono (fun j e => .inr e))
  have hownF := own_only hown3 hOY (fun j hj e => by have := own_lt hown3 hj; rcases e with e | e <;> omega)
  have hKF : K3.is (fun b => (w1.heap.size + 1) ≤ b ∧ b < wF.heap.size ∧ ¬ (Value.slice (some ⟨g3, 0, none⟩) 1 cap3).ownBlock = some b) wF := (IsE.only (kx_append hgrow3 hat3 (by simp) [K3] (fun K hK => by rw [List.mem_singleton] at hK; subst hK; exact (IsE.of hK3 (aB (Below.refl _ _) _)).mono (fun b hb => ⟨by have := hb.1; simp at this; omega, by have := hb.2; simp; omega, fun e => by simp [Value.ownBlock] at e⟩)) 1 cap3 K3 (by simp)) hOY (fun b hb e => by have := hb.1; rcases e with e | e <;> omega)).mono (fun b hb => ⟨hb.1, by have := hb.2.1; omega, hb.2.2⟩)
  obtain ⟨ma, ca, hm, hkk⟩ := row_kids (L := [K3]) hownF rfl (fun K hK => by rw [List.mem_singleton] at hK; subst hK; exact hKF)
  simp only [Value.slice.injEq, true_and] at hm
  obtain ⟨rfl, rfl⟩ := hm
  refine bodyPost_ret (res_st rfl _ _ (w.heap.size) _ _ _ _ _ _ _ _ _ rfl hF) rfl ?_
  exact .ok (hP36.old hOX (fun j hj => .inr hj)) (h.newer hI36 hOX) (IsSt.mk (k := 2) (nm := x1) (fr := []) (ex := [x3]) (ar := []) (bd := []) (el := []) (by omega) (by simp) (by simp) (by simp) (by simp) (by rw [← e3]; exact hkk.mono (fun b hb => ⟨by have := hb.1; omega, hb.2⟩)) .nil .nil .nil)

set_option maxRecDepth 100000 in
set_option maxHeartbeats 8000000 in
theorem put_t {w : World} {rb mb : Nat} {v : Value} {T : List (Tk × Int)} {p d n : Nat} (h : IsRs w rb mb v T p d n) (x1 : List UInt8) (q1 m1 : Nat) (r1 : namR (bareZ T) p n = .ok x1 q1 m1) (hc : txt (bareZ T) q1 = [91]) :
    Calls Tryz.prog 179 #[.pointer (some ⟨rb, 0, none⟩)] w (RP VS w rb mb v T d ((betR (bareZ T) [91] [93] q1 m1).next fun i p n => (betR (bareZ T) [61] [59] p n).next fun e p n => .ok (.mk 4 x1 [] false false [i, e] [] [] []) p n)) := by
  have hrl := h.rl
  obtain ⟨i0, hi, hz0, hz1, hz2⟩ := info_parts infoE
  have hNx : ∀ {W : World}, IsRs W rb mb v T q1 d m1 → Calls Tryz.prog 108 #[.pointer (some ⟨rb, 0, none⟩), .string ⟨#[91]⟩] W fun e w' => e = .returned (.bool true) ∧ Only (fun j => j = rb) W w' ∧ IsRs w' rb mb v T q1 d m1 := fun h => by have := nx_any h [91]; rw [isP_t hc] at this; exact this.mono fun e w' ⟨he, k, hw⟩ => ⟨he, by rw [hw]; exact only_drew (Only.refl _ _) k, by rw [hw]; exact h.drewN k⟩
  have hB1 : ∀ {W : World} {p n : Nat}, IsRs W rb mb v T p d n → Calls Tryz.prog 135 #[.pointer (some ⟨rb, 0, none⟩), .string ⟨#[91]⟩, .string ⟨#[93]⟩] W (RP VX W rb mb v T d (betR (bareZ T) [91] [93] p n)) := fun h => betw_any h [91] [93] (by decide) (by decide)
  have hB2 : ∀ {W : World} {p n : Nat}, IsRs W rb mb v T p d n → Calls Tryz.prog 135 #[.pointer (some ⟨rb, 0, none⟩), .string ⟨#[61]⟩, .string ⟨#[59]⟩] W (RP VX W rb mb v T d (betR (bareZ T) [61] [59] p n)) := fun h => betw_any h [61] [59] (by decide) (by decide)
  go_enter Tryz.func179, Tryz.ntmps179
  go_wp2_with (first
    | (go_at_call 134; ((with_reducible refine (nam_any (h.newer h (only_alloc (Only.refl _ _) _))).mono ?_); (rintro e w1 ⟨hO1, hR1⟩); (have hP1 : Only (fun j => j = rb) w w1 := ((Only.refl _ _).old (only_alloc (Only.refl _ _) _) (fun j hj => .inr hj)).trans hO1); (have hs1 := hO1.size); (simp only [World.size_alloc] at hs1); (have hZ1 : rowG #[.int .u8 0, .string ⟨#[]⟩, .string ⟨#[]⟩, .bool false, .bool false, .slice none 0 0, .slice none 0 0, .slice none 0 0, .slice none 0 0] w1 (w.heap.size) := rowG_only (rowG_at #[.int .u8 0, .string ⟨#[]⟩, .string ⟨#[]⟩, .bool false, .bool false, .slice none 0 0, .slice none 0 0, .slice none 0 0, .slice none 0 0] 44 w (w.heap.size) (by simp)) hO1 (by omega)); (rw [r1] at hR1); (obtain ⟨hI1, z1, rfl, hV1⟩ := hR1); (unfold VN at hV1; subst hV1)))
    | (go_at_call 108; ((with_reducible refine (hNx (h.newer hI1 (only_alloc (Only.refl _ _) _))).mono ?_); (rintro e w2 ⟨rfl, hO2, hI2⟩); (have hP2 : Only (fun j => j = rb) w w2 := (hP1.old (only_alloc (Only.refl _ _) _) (fun j hj => .inr hj)).trans hO2); (have hs2 := hO2.size); (simp only [World.size_alloc] at hs2); (have hZ2 : rowG #[.int .u8 0, .string ⟨#[]⟩, .string ⟨#[]⟩, .bool false, .bool false, .slice none 0 0, .slice none 0 0, .slice none 0 0, .slice none 0 0] w2 (w.heap.size) := rowG_only (rowG_alloc hZ1 _) hO2 (by omega)); (have hS2 : rowG #[.int .u8 2, .string (str x1), .string ⟨#[]⟩, .bool false, .bool false, .slice none 0 0, .slice none 0 0, .slice none 0 0, .slice none 0 0] w2 (w1.heap.size) := rowG_only (rowG_at #[.int .u8 2, .string (str x1), .string ⟨#[]⟩, .bool false, .bool false, .slice none 0 0, .slice none 0 0, .slice none 0 0, .slice none 0 0] 44 w1 (w1.heap.size) (by simp)) hO2 (by omega)); (have fS0_2 := hS2.1 0 (by simp)); (have ffS_2 := hS2.2.1); (have flS_2 := hS2.2.2)))
    )
  obtain ⟨wB, hwB⟩ : ∃ wB, w2.setCell ⟨w1.heap.size, 0, none⟩ (.int .u8 4) = wB := ⟨_, rfl⟩
  have hOB : Only (fun j => j = w1.heap.size) w2 wB := by rw [← hwB]; exact os1 (or1 _ _) _ _
  have hSB : rowG #[.int .u8 4, .string (str x1), .string ⟨#[]⟩, .bool false, .bool false, .slice none 0 0, .slice none 0 0, .slice none 0 0, .slice none 0 0] wB w1.heap.size := by rw [← hwB]; exact r9s0 (.int .u8 4) hS2
  have hZB := rowG_only hZ2 hOB (by omega)
  have hIB := h.newer hI2 (hOB.mono (fun j e => by have e2 : j = w1.heap.size := e; omega))
  have hPB := hP2.old hOB (fun j e => .inr (by have e2 : j = w1.heap.size := e; omega))
  have hsB := hOB.size
  rw [hwB]
  clear hwB
  have ho0 : wB.ownsRow (w1.heap.size + 1) 52 5 (.slice none 0 0) 0 (kxs []) := World.ownsRow_nil _ _ _ _
  have hF0 : Only (fun j => j = rb) wB wB.drew := ob1 rb (bdd (Below.refl _ _))
  have hFi : ∀ w', Only (fun j => j = rb) wB w' → w'.cell? ⟨w1.heap.size, 5, none⟩ = some (.slice none 0 0) ∧ w1.heap.size < w'.heap.size := fun w' hO => ⟨(rowG_only hSB hO (by omega)).1 5 (by simp), (rowG_only hSB hO (by omega)).2.2⟩
  have hIc := hIB.of (bdd (Below.refl _ _))
  refine region_F (fun w' => Only (fun j => j = rb) wB w') 5 (by kernel_rfl) ?_
  refine wpAnyF_free (i := 0) rfl (by kernel_rfl) (by kernel_rfl) (by kernel_rfl) (by decide) (fun _ _ _ _ h => h) (fun _ => hF0) (fun K hK => ?_)
  apply Exists.intro
  refine ⟨Or.inl ⟨by kernel_rfl, fun w' _ => ?_⟩, ?_⟩
  · go_simp
    try exact rfl
  go_simp
  refine hK _ ?_
  clear hK K
  refine wpAnyF_take (i := 1) rfl (by kernel_rfl) (by kernel_rfl) (by kernel_rfl) (by kernel_rfl) (by kernel_rfl) (fun _ _ _ _ h => h) hF0 (fun K hK => ?_)
  apply Exists.intro
  refine ⟨Or.inl ⟨by kernel_rfl, fun w' hf => ?_⟩, ?_⟩
  · obtain ⟨k5, kl⟩ := hFi _ hf
    go_simp
    try exact rfl
  go_simp
  refine hK _ ?_
  clear hK K
  refine wpAnyF_free (i := 2) rfl (by kernel_rfl) (by kernel_rfl) (by kernel_rfl) (by decide) (fun _ _ _ _ h => h) (fun _ => hF0) (fun K hK => ?_)
  apply Exists.intro
  refine ⟨Or.inl ⟨by kernel_rfl, fun w' _ => ?_⟩, ?_⟩
  · go_simp
    try exact rfl
  go_simp
  refine hK _ ?_
  clear hK K
  refine wpAnyF_one (k := 3) (by kernel_rfl) ?_
  refine wpOp_step rfl (fun K hK => ?_)
  go_simp
  go_at_call 135
  with_reducible refine (hB1 hIc).mono ?_
  rintro e w3 ⟨hO3, hR3⟩
  have hF3 := hF0.trans hO3
  have hP3 := hPB.trans hF3
  rcases r3 : betR (bareZ T) [91] [93] q1 m1 with ⟨c3, q3⟩ | ⟨x3, q3, m3⟩
  · rw [r3] at hR3; unfold Flt at hR3; subst hR3; exact ⟨rfl, by simp only [r3, Rz.next]; exact .er hP3⟩
  rw [r3] at hR3
  obtain ⟨hI3, z3, rfl, hV3⟩ := hR3
  obtain ⟨K3, rfl, e3, hK3⟩ := vx_kx hV3
  have hs3 := hF3.size
  have hS3 := rowG_only hSB hF3 (by omega)
  have hZ3 := rowG_only hZB hF3 (by omega)
  have ho3 := own_only ho0 hF3 (fun j hj e => by have := own_lt ho0 hj; have e2 : j = rb := e; omega)
  refine hK _ _ ⟨fun _ => hF3, ?_⟩
  clear hK K
  refine wpAnyF_one (k := 4) (by kernel_rfl) ?_
  refine wpOp_step rfl (fun K hK => ?_)
  go_simp
  refine hK _ _ ⟨fun _ => (only_alloc hF3 _), ?_⟩
  clear hK K
  refine wpAnyF_one (k := 5) (by kernel_rfl) ?_
  refine wpOp_step rfl (fun K hK => ?_)
  refine step_append_lies _ rfl (.tmp 11) (.tmp 14) 40 rfl (w1.heap.size + 1) 52 i0 _ 5 64 Tryz.underlying40 hi hz0 hz1 hz2 rfl (by decide) (.slice none 0 0) 0 (kxs []) rfl (ho3.alloc _) ⟨w3.heap.size, 0, none⟩ 1 1 (kxs [K3]) rfl rfl (news_ok (kxs [K3]) 52 w3) (kxs_one _) (by decide) (by unfold maxLen; omega) (by omega) (by simp; omega) _ rfl ?_
  intro g3 cap3 w36 hown3 hgrow3 hat3 hlt3
  have hba : Below w3.heap.size w3 (w3.alloc (.cells #[.int .u8 (K3.k : Int), .int .u64 (K3.n : Int), .string (str K3.s), .int .u8 (K3.o : Int), .slice K3.ma K3.m K3.cap] 52)) := aB (Below.refl _ _) _
  have hog := only_grown hgrow3
  have hsz36 := hog.size
  simp only [World.size_alloc] at hsz36
  have hnew : ∀ j, some j = (.slice none 0 0 : Value).ownBlock → w1.heap.size + 1 ≤ j := fun j hj => (own_lt ho0 hj.symm).1
  have hnewl : ∀ j, some j = (.slice none 0 0 : Value).ownBlock → j < wB.heap.size := fun j hj => (own_lt ho0 hj.symm).2
  have hI36 : IsRs w36 rb mb v T q3 d m3 := h.newer (hI3.of hba) (hog.mono (fun j hj => by have := hnew j hj; omega))
  have hP36 : Only (fun j => j = rb) w w36 := (hP3.trans (ob1 rb hba)).old hog (fun j hj => .inr (by have := hnew j hj; omega))
  have hS36 := rowG_only (rowG_alloc hS3 _) hog (fun e => by have := hnew _ e; omega)
  have hZ36 := rowG_only (rowG_alloc hZ3 _) hog (fun e => by have := hnew _ e; omega)
  have f5_3 := hS36.1 5 (by simp)
  have ff_3 := hS36.2.1
  have fl_3 := hS36.2.2
  refine hK _ _ ⟨fun h => (Bool.false_ne_true (h.symm.trans (by kernel_rfl))).elim, ?_⟩
  clear hK K
  refine wpAnyF_one (k := 6) (by kernel_rfl) ?_
  refine wpOp_step rfl (fun K hK => ?_)
  go_simp
  refine hK _ _ ⟨fun h => (Bool.false_ne_true (h.symm.trans (by kernel_rfl))).elim, ?_⟩
  clear hK K
  refine wpAnyF_one (k := 7) (by kernel_rfl) ?_
  refine wpOp_step rfl (fun K hK => ?_)
  go_simp
  refine hK _ _ ⟨fun h => (Bool.false_ne_true (h.symm.trans (by kernel_rfl))).elim, ?_⟩
  clear hK K
  refine wpAnyF_done (by kernel_rfl) ?_
  go_wp2
  obtain ⟨wC, hwC⟩ : ∃ wC, w36.setCell ⟨w1.heap.size, 5, none⟩ (.slice (some ⟨g3, 0, none⟩) 1 cap3) = wC := ⟨_, rfl⟩
  have hOC : Only (fun j => j = w1.heap.size) w36 wC := by rw [← hwC]; exact os1 (or1 _ _) _ _
  have hSC : rowG #[.int .u8 4, .string (str x1), .string ⟨#[]⟩, .bool false, .bool false, .slice (some ⟨g3, 0, none⟩) 1 cap3, .slice none 0 0, .slice none 0 0, .slice none 0 0] wC w1.heap.size := by rw [← hwC]; exact r9s5 (.slice (some ⟨g3, 0, none⟩) 1 cap3) hS36
  have hZC := rowG_only hZ36 hOC (by omega)
  have hIC := h.newer hI36 (hOC.mono (fun j e => by have e2 : j = w1.heap.size := e; omega))
  have hPC := hP36.old hOC (fun j e => .inr (by have e2 : j = w1.heap.size := e; omega))
  have hsC := hOC.size
  have hoC := own_only hown3 hOC (fun j hj e => by have := own_lt hown3 hj; have e2 : j = w1.heap.size := e; omega)
  have hKC : K3.is (fun b => (w1.heap.size + 1) ≤ b ∧ b < wC.heap.size ∧ ¬ (Value.slice (some ⟨g3, 0, none⟩) 1 cap3).ownBlock = some b) wC := (IsE.only (kx_append hgrow3 hat3 (by simp) [K3] (fun K hK => by rw [List.mem_singleton] at hK; subst hK; exact (IsE.of hK3 (aB (Below.refl _ _) _)).mono (fun b hb => ⟨by have := hb.1; simp at this; omega, by have := hb.2; simp; omega, fun e => by simp [Value.ownBlock] at e⟩)) 1 cap3 K3 (by simp)) hOC (fun b hb e => by have := hb.1; have e2 : b = w1.heap.size := e; omega)).mono (fun b hb => ⟨hb.1, by have := hb.2.1; omega, hb.2.2⟩)
  have hw1C : w1.heap.size + 1 ≤ wC.heap.size := by have := hSC.2.2; omega
  rw [hwC]
  clear hwC hF0 hFi hIc hba hog hnew hnewl f5_3 ff_3 fl_3
  have hF0 : Only (fun j => j = rb) wC wC.drew := ob1 rb (bdd (Below.refl _ _))
  have hFi : ∀ w', Only (fun j => j = rb) wC w' → w'.cell? ⟨w1.heap.size, 5, none⟩ = some (.slice (some ⟨g3, 0, none⟩) 1 cap3) ∧ w1.heap.size < w'.heap.size := fun w' hO => ⟨(rowG_only hSC hO (by omega)).1 5 (by simp), (rowG_only hSC hO (by omega)).2.2⟩
  have hIc := hIC.of (bdd (Below.refl _ _))
  refine region_F (fun w' => Only (fun j => j = rb) wC w') 5 (by kernel_rfl) ?_
  refine wpAnyF_free (i := 0) rfl (by kernel_rfl) (by kernel_rfl) (by kernel_rfl) (by decide) (fun _ _ _ _ h => h) (fun _ => hF0) (fun K hK => ?_)
  apply Exists.intro
  refine ⟨Or.inl ⟨by kernel_rfl, fun w' _ => ?_⟩, ?_⟩
  · go_simp
    try exact rfl
  go_simp
  refine hK _ ?_
  clear hK K
  refine wpAnyF_take (i := 1) rfl (by kernel_rfl) (by kernel_rfl) (by kernel_rfl) (by kernel_rfl) (by kernel_rfl) (fun _ _ _ _ h => h) hF0 (fun K hK => ?_)
  apply Exists.intro
  refine ⟨Or.inl ⟨by kernel_rfl, fun w' hf => ?_⟩, ?_⟩
  · obtain ⟨k5, kl⟩ := hFi _ hf
    go_simp
    try exact rfl
  go_simp
  refine hK _ ?_
  clear hK K
  refine wpAnyF_free (i := 2) rfl (by kernel_rfl) (by kernel_rfl) (by kernel_rfl) (by decide) (fun _ _ _ _ h => h) (fun _ => hF0) (fun K hK => ?_)
  apply Exists.intro
  refine ⟨Or.inl ⟨by kernel_rfl, fun w' _ => ?_⟩, ?_⟩
  · go_simp
    try exact rfl
  go_simp
  refine hK _ ?_
  clear hK K
  refine wpAnyF_one (k := 3) (by kernel_rfl) ?_
  refine wpOp_step rfl (fun K hK => ?_)
  go_simp
  go_at_call 135
  with_reducible refine (hB2 hIc).mono ?_
  rintro e w4 ⟨hO4, hR4⟩
  have hF4 := hF0.trans hO4
  have hP4 := hPC.trans hF4
  rcases r4 : betR (bareZ T) [61] [59] q3 m3 with ⟨c4, q4⟩ | ⟨x4, q4, m4⟩
  · rw [r4] at hR4; unfold Flt at hR4; subst hR4; exact ⟨rfl, by simp only [r3, r4, Rz.next]; exact .er hP4⟩
  rw [r4] at hR4
  obtain ⟨hI4, z4, rfl, hV4⟩ := hR4
  obtain ⟨K4, rfl, e4, hK4⟩ := vx_kx hV4
  have hs4 := hF4.size
  have hS4 := rowG_only hSC hF4 (by omega)
  have hZ4 := rowG_only hZC hF4 (by omega)
  have ho4 := own_only hoC hF4 (fun j hj e => by have := own_lt hoC hj; have e2 : j = rb := e; omega)
  have hK3a := IsE.only hKC hF4 (fun b hb e => by have := hb.1; have e2 : b = rb := e; omega)
  refine hK _ _ ⟨fun _ => hF4, ?_⟩
  clear hK K
  refine wpAnyF_one (k := 4) (by kernel_rfl) ?_
  refine wpOp_step rfl (fun K hK => ?_)
  go_simp
  refine hK _ _ ⟨fun _ => (only_alloc hF4 _), ?_⟩
  clear hK K
  refine wpAnyF_one (k := 5) (by kernel_rfl) ?_
  refine wpOp_step rfl (fun K hK => ?_)
  refine step_append_lies _ rfl (.tmp 18) (.tmp 21) 40 rfl (w1.heap.size + 1) 52 i0 _ 5 64 Tryz.underlying40 hi hz0 hz1 hz2 rfl (by decide) (.slice (some ⟨g3, 0, none⟩) 1 cap3) 1 (kxs [K3]) rfl (ho4.alloc _) ⟨w4.heap.size, 0, none⟩ 1 1 (kxs [K4]) rfl rfl (news_ok (kxs [K4]) 52 w4) (kxs_one _) (by decide) (by unfold maxLen; omega) (by omega) (by simp; omega) _ rfl ?_
  intro g4 cap4 w46 hown4 hgrow4 hat4 hlt4
  have hba : Below w4.heap.size w4 (w4.alloc (.cells #[.int .u8 (K4.k : Int), .int .u64 (K4.n : Int), .string (str K4.s), .int .u8 (K4.o : Int), .slice K4.ma K4.m K4.cap] 52)) := aB (Below.refl _ _) _
  have hog := only_grown hgrow4
  have hsz46 := hog.size
  simp only [World.size_alloc] at hsz46
  have hnew : ∀ j, some j = (.slice (some ⟨g3, 0, none⟩) 1 cap3 : Value).ownBlock → w1.heap.size + 1 ≤ j := fun j hj => (own_lt hoC hj.symm).1
  have hnewl : ∀ j, some j = (.slice (some ⟨g3, 0, none⟩) 1 cap3 : Value).ownBlock → j < wC.heap.size := fun j hj => (own_lt hoC hj.symm).2
  have hI46 : IsRs w46 rb mb v T q4 d m4 := h.newer (hI4.of hba) (hog.mono (fun j hj => by have := hnew j hj; omega))
  have hP46 : Only (fun j => j = rb) w w46 := (hP4.trans (ob1 rb hba)).old hog (fun j hj => .inr (by have := hnew j hj; omega))
  have hS46 := rowG_only (rowG_alloc hS4 _) hog (fun e => by have := hnew _ e; omega)
  have hZ46 := rowG_only (rowG_alloc hZ4 _) hog (fun e => by have := hnew _ e; omega)
  have f5_4 := hS46.1 5 (by simp)
  have ff_4 := hS46.2.1
  have fl_4 := hS46.2.2
  refine hK _ _ ⟨fun h => (Bool.false_ne_true (h.symm.trans (by kernel_rfl))).elim, ?_⟩
  clear hK K
  refine wpAnyF_one (k := 6) (by kernel_rfl) ?_
  refine wpOp_step rfl (fun K hK => ?_)
  go_simp
  refine hK _ _ ⟨fun h => (Bool.false_ne_true (h.symm.trans (by kernel_rfl))).elim, ?_⟩
  clear hK K
  refine wpAnyF_one (k := 7) (by kernel_rfl) ?_
  refine wpOp_step rfl (fun K hK => ?_)
  go_simp
  refine hK _ _ ⟨fun h => (Bool.false_ne_true (h.symm.trans (by kernel_rfl))).elim, ?_⟩
  clear hK K
  refine wpAnyF_done (by kernel_rfl) ?_
  go_wp2_with (first
    | (with_reducible refine ld9 rfl _ rfl (w1.heap.size) rfl (show rowG #[.int .u8 4, .string (str x1), .string ⟨#[]⟩, .bool false, .bool false, .slice (some ⟨g4, 0, none⟩) 2 cap4, .slice none 0 0, .slice none 0 0, .slice none 0 0] _ _ from r9s5 (.slice (some ⟨g4, 0, none⟩) 2 cap4) hS46) ?_)
    | (with_reducible refine st9 rfl _ _ rfl (w.heap.size) rfl rfl (rowG_other _ hZ46 (by omega)) ?_; intro wF hF hOF)
    )
  simp only [r3, r4, Rz.next]
  have hsF := hOF.size
  simp only [World.size_setCell] at hsF
  have hOX : Only (fun j => w.heap.size ≤ j) w46 wF := (only_set (Only.refl _ _) _ _ _ (by omega)).trans (hOF.mono (fun j e => by have e2 : j = w.heap.size := e; omega))
  have hOY : Only (fun j => j = w1.heap.size ∨ j = w.heap.size) w46 wF := (only_set (Only.refl _ _) _ _ _ (.inl rfl)).trans (hOF.mono (fun j e => .inr e))
  have hownF := own_only hown4 hOY (fun j hj e => by have := own_lt hown4 hj; rcases e with e | e <;> omega)
  have hall : ∀ K ∈ [K3] ++ [K4], K.is (fun b => (w1.heap.size + 1) ≤ b ∧ b < (w4.alloc (.cells #[.int .u8 (K4.k : Int), .int .u64 (K4.n : Int), .string (str K4.s), .int .u8 (K4.o : Int), .slice K4.ma K4.m K4.cap] 52)).heap.size ∧ ¬ (.slice (some ⟨g3, 0, none⟩) 1 cap3 : Value).ownBlock = some b) (w4.alloc (.cells #[.int .u8 (K4.k : Int), .int .u64 (K4.n : Int), .string (str K4.s), .int .u8 (K4.o : Int), .slice K4.ma K4.m K4.cap] 52)) := fun K hK => by
    rcases List.mem_append.1 hK with h1 | h1
    · rw [List.mem_singleton] at h1; subst h1
      exact (IsE.of hK3a (aB (Below.refl _ _) _)).mono (fun b hb => ⟨hb.1, by have := hb.2.1; simp; omega, hb.2.2⟩)
    · rw [List.mem_singleton] at h1; subst h1
      exact (IsE.of hK4 (aB (Below.refl _ _) _)).mono (fun b hb => ⟨by have := hb.1; simp at this; omega, by have := hb.2; simp; omega, fun e => by have := own_lt hoC e; have := hb.1; simp at *; omega⟩)
  have hKF : ∀ K ∈ [K3] ++ [K4], K.is (fun b => (w1.heap.size + 1) ≤ b ∧ b < wF.heap.size ∧ ¬ (Value.slice (some ⟨g4, 0, none⟩) 2 cap4).ownBlock = some b) wF := fun K hK => (IsE.only (kx_append hgrow4 hat4 (by simp) _ hall 2 cap4 K hK) hOY (fun b hb e => by have := hb.1; rcases e with e | e <;> omega)).mono (fun b hb => ⟨hb.1, by have := hb.2.1; omega, hb.2.2⟩)
  obtain ⟨ma, ca, hm, hkk⟩ := row_kids (L := [K3] ++ [K4]) (by rw [kxs_app]; exact hownF) rfl hKF
  simp only [Value.slice.injEq] at hm
  obtain ⟨rfl, _, rfl⟩ := hm
  refine bodyPost_ret (res_st rfl _ _ (w.heap.size) _ _ _ _ _ _ _ _ _ rfl hF) rfl ?_
  exact .ok (hP46.old hOX (fun j hj => .inr hj)) (h.newer hI46 hOX) (IsSt.mk (k := 4) (nm := x1) (fr := []) (ex := [x3, x4]) (ar := []) (bd := []) (el := []) (by omega) (by simp) (by simp) (by simp) (by simp) (by rw [← e3, ← e4]; exact hkk.mono (fun b hb => ⟨by have := hb.1; omega, hb.2⟩)) .nil .nil .nil)

theorem put_any {w : World} {rb mb : Nat} {v : Value} {T : List (Tk × Int)} {p d n : Nat} (h : IsRs w rb mb v T p d n) :
    Calls Tryz.prog 179 #[.pointer (some ⟨rb, 0, none⟩)] w (RP VS w rb mb v T d (setR (bareZ T) p n)) := by
  unfold setR
  cases r1 : namR (bareZ T) p n with
  | er c q => exact put_er h c q r1
  | ok x q m =>
    simp only [Rz.next]
    by_cases hc : txt (bareZ T) q = [91]
    · rw [if_pos hc]; exact put_t h x q m r1 hc
    · rw [if_neg hc]; exact put_f h x q m r1 hc

end Go.Proofs.YtfpoflddnlbpjaaGreatDoor
