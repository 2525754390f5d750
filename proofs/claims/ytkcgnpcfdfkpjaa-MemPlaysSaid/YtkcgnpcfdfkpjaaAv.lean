/- Contract of the law's alive: the chapter's examples. -/
import Derived.Test.YtkcgnpcfdfkpjaaNe
namespace Go.Proofs.Ytkcgnpcfdfkpjaa
open Go.ChangeShapes Go.WideShapes Go.ChangeAt Go.RowKit
set_option linter.unusedVariables false
def AL : List Rg := [⟨100, 16, 3⟩, ⟨200, 8, 1⟩]
def AB : Nat → Nat := upO (stO AL 100 2) (fun _ => 0) 2 (wb 4660)
def AT : Nat → Bool := upO (stO AL 100 2) (fun _ => false) 2 fun _ => true
theorem rg_AL (i : Nat) : rg AL i = ⟨100, 16, 3⟩ ∨ rg AL i = ⟨200, 8, 1⟩ ∨ rg AL i = ⟨0, 0, 0⟩ := by
  match i with
  | 0 => exact Or.inl rfl
  | 1 => exact Or.inr (Or.inl rfl)
  | n + 2 => exact Or.inr (Or.inr rfl)
theorem AL_wf : wfL AL := fun i => by
  rcases rg_AL i with h | h | h <;> rw [h] <;> (unfold Rg.wf; simp)
theorem AL_may : MayL AL := by
  refine ⟨fun i hi => ?_, by decide, by decide⟩
  have h : i = 0 ∨ i = 1 := by simp [AL] at hi; omega
  rcases h with rfl | rfl
  · exact ⟨⟨⟨by decide, by decide, by decide, by decide⟩, by decide⟩, fun k hk => by omega⟩
  · refine ⟨⟨⟨by decide, by decide, by decide, by decide⟩, by decide⟩, fun k hk => ?_⟩
    obtain rfl : k = 0 := by omega
    intro h
    exact absurd h.1 (by decide)
theorem alv_load {x : Mm} (hx : x.l = AL) (p : Nat) (n : Int) (hp : p < 18446744073709551616) {v : Nat} {t : Bool} {e0 : Int} (h : ldF AL AB AT p n = (v, t, e0)) (w : World) (hI : IsM w x AB AT) :
    Calls Try.prog 16 #[.pointer (some ⟨x.mb, 0, none⟩), .int .u64 p, .int .i64 n] w fun e w' => e = .returned (.tuple #[.int .u64 (v : Nat), .bool t, .int .i64 e0]) ∧ Below w.heap.size w w' := by
  have := load_any p n hp w hI
  rw [hx, h] at this
  exact this
theorem alv_fetch {x : Mm} (hx : x.l = AL) (p : Nat) (hp : p < 18446744073709551616) {v : Nat} {e0 : Int} (h : feF AL AB p = (v, e0)) (w : World) (hI : IsM w x AB AT) :
    Calls Try.prog 18 #[.pointer (some ⟨x.mb, 0, none⟩), .int .u64 p] w fun e w' => e = .returned (.tuple #[.int .u32 (v : Nat), .int .i64 e0]) ∧ Below w.heap.size w w' := by
  have := fetch_any p hp w hI
  rw [hx, h] at this
  exact this
theorem alv_st1 {x : Mm} (hx : x.l = AL) (w : World) (hI : IsM w x (fun _ => 0) (fun _ => false)) :
    Calls Try.prog 15 #[.pointer (some ⟨x.mb, 0, none⟩), .int .u64 100, .int .i64 2, .int .u64 4660, .bool true] w fun e w' => e = .returned (.int .i64 0) ∧ IsM w' x AB AT ∧ Only (fun j => j = x.vb ∨ j = x.tb) w w' := by
  have := store_any 100 2 4660 true (by omega) (by omega) w hI
  rw [hx, show stE AL 100 2 = 0 from by kernel_rfl] at this
  exact this
theorem alv_st2 {x : Mm} (hx : x.l = AL) (w : World) (hI : IsM w x AB AT) :
    Calls Try.prog 15 #[.pointer (some ⟨x.mb, 0, none⟩), .int .u64 200, .int .i64 1, .int .u64 1, .bool false] w fun e w' => e = .returned (.int .i64 40) ∧ Only (fun j => j = x.vb ∨ j = x.tb) w w' := by
  have := store_any 200 1 1 false (by omega) (by omega) w hI
  rw [hx, show stE AL 200 1 = 40 from by kernel_rfl] at this
  exact this.mono fun e w' ⟨h1, h2⟩ => ⟨h1, h2.2⟩
theorem alv_l1 : ldF AL AB AT 101 1 = (18, true, 0) := by kernel_rfl
theorem alv_l2 : ldF AL AB AT 102 1 = (0, false, 0) := by kernel_rfl
theorem alv_l3 : ldF AL AB AT 109 8 = (0, false, 40) := by kernel_rfl
theorem alv_l4 : ldF AL AB AT 108 8 = (0, false, 0) := by kernel_rfl
theorem alv_f1 : feF AL AB 200 = (0, 0) := by kernel_rfl
theorem alv_f2 : feF AL AB 202 = (0, 40) := by kernel_rfl
set_option maxRecDepth 100000 in
set_option maxHeartbeats 2000000 in
theorem alive_any (w : World) : Calls Try.prog 9 #[] w fun e w' => e = .returned (.bool true) ∧ Below w.heap.size w w' := by
  have hB0 : Below w.heap.size w (w.alloc (.cells #[.int .u64 100, .int .u64 16, .int .u8 3, .int .u64 200, .int .u64 8, .int .u8 1] 36)) := aBelow (Below.refl _ _) _
  have hN := new_yes AL AL_may AL_wf w.heap.size 0 2 (by decide) (w.alloc (.cells #[.int .u64 100, .int .u64 16, .int .u8 3, .int .u64 200, .int .u64 8, .int .u8 1] 36)) (fun i hi => by
    have h : i = 0 ∨ i = 1 := by simp [AL] at hi; omega
    rcases h with rfl | rfl
    · exact ⟨nwc _ _ _ 0, nwc _ _ _ 1, nwc _ _ _ 2⟩
    · exact ⟨nwc _ _ _ 3, nwc _ _ _ 4, nwc _ _ _ 5⟩) (by simp)
  rw [show AL.length = 2 from rfl, World.size_alloc] at hN
  have hNn : ∀ w, Calls Try.prog 10 #[.slice none 0 0] w fun e w' => e = .returned (.tuple #[.pointer none, .int .i64 2]) ∧ Below w.heap.size w w' := fun w => new_no (l := []) (Or.inl ⟨rfl, none, 0, rfl⟩) (fun i => by simp [rg, Rg.wf]) (by simp) (fun h => by have := h.2.1; simp at this)
  go_enter Try.func9, Try.ntmps9
  go_wp2_with (first
    | (go_at_call 10; (with_reducible refine hN.mono ?_); (rintro e w1 ⟨⟨x, rfl, hxl, hI, hm1, hm2, hm3, hm4⟩, hb1⟩); have hB := hB0.trans (hb1.mono (Nat.le_succ _)); have S1 := alv_st1 hxl _ hI)
    | (go_at_call 15; (with_reducible refine S1.mono ?_); (rintro e w2 ⟨rfl, hI, ho⟩); have hB := hB.trans (ho.below (B := w.heap.size) (fun j hj => (by rcases hj with rfl | rfl <;> omega)) hB.size); have L1 := alv_load hxl 101 1 (by omega) alv_l1; have L2 := alv_load hxl 102 1 (by omega) alv_l2; have L3 := alv_load hxl 109 8 (by omega) alv_l3; have L4 := alv_load hxl 108 8 (by omega) alv_l4; have F1 := alv_fetch hxl 200 (by omega) alv_f1; have F2 := alv_fetch hxl 202 (by omega) alv_f2; rw [show ((101 : Nat) : Int) = 101 from rfl, show ((18 : Nat) : Int) = 18 from rfl] at L1; rw [show ((102 : Nat) : Int) = 102 from rfl, show ((0 : Nat) : Int) = 0 from rfl] at L2; rw [show ((109 : Nat) : Int) = 109 from rfl, show ((0 : Nat) : Int) = 0 from rfl] at L3; rw [show ((108 : Nat) : Int) = 108 from rfl, show ((0 : Nat) : Int) = 0 from rfl] at L4; rw [show ((200 : Nat) : Int) = 200 from rfl, show ((0 : Nat) : Int) = 0 from rfl] at F1; rw [show ((202 : Nat) : Int) = 202 from rfl, show ((0 : Nat) : Int) = 0 from rfl] at F2)
    | (go_at_call 16; (first | with_reducible refine (L1 _ hI).mono ?_ | with_reducible refine (L2 _ hI).mono ?_ | with_reducible refine (L3 _ hI).mono ?_ | with_reducible refine (L4 _ hI).mono ?_); (rintro e w3 ⟨rfl, hb3⟩); have hI := hI.of hb3; have hB := below_trans' hB (Nat.le_refl _) hb3)
    | (go_at_call 18; (first | with_reducible refine (F1 _ hI).mono ?_ | with_reducible refine (F2 _ hI).mono ?_); (rintro e w3 ⟨rfl, hb3⟩); have hI := hI.of hb3; have hB := below_trans' hB (Nat.le_refl _) hb3)
    | (go_at_call 10; (with_reducible refine (hNn _).mono ?_); (rintro e w4 ⟨rfl, hb4⟩); have hI := hI.of hb4; have hB := below_trans' hB (Nat.le_refl _) hb4; have S2 := alv_st2 hxl _ hI)
    | (go_at_call 15; (with_reducible refine S2.mono ?_); (rintro e w5 ⟨rfl, ho⟩); have hB := hB.trans (ho.below (B := w.heap.size) (fun j hj => (by rcases hj with rfl | rfl <;> omega)) hB.size)))
  go_ret
  exact ⟨rfl, hB⟩
end Go.Proofs.Ytkcgnpcfdfkpjaa
