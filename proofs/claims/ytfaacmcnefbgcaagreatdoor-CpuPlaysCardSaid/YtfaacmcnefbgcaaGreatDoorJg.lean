/- Blocks laid in a region that draws its order, of whatever cells. -/
import Derived.Test.YtfaacmcnefbgcaaGreatDoorJf
import Derived.Test.YtfaacmcnefbgcaaGreatDoorJc
import Derived.RangeFuncNested
import Derived.RangeFuncBound
import Derived.RangeFuncCalls
import Derived.RangeFuncLeaves
import Derived.Shelf.Abstract
import Derived.Shelf.RegionOpen
import Derived.WalkKit
import Derived.OwnWalkIn
import Derived.TacticsInMore
import Derived.LoopNIn
import Derived.LoopIn
namespace Go.Proofs.YtfaacmcnefbgcaaGreatDoor
open Go.ChangeShapes Go.WideShapes Go.ChangeAt Go.RowKit
set_option linter.unusedVariables false
def blkG (C : Array Value) (t : TypeId) (w1 : World) (k : Nat) (w : World) : Prop := w1.heap.size ≤ k ∧ w.heap[k]? = some (.cells C t (0, 0))
theorem blkG_lt {C : Array Value} {t : TypeId} {w1 w : World} {k : Nat} (h : blkG C t w1 k w) : k < w.heap.size := (Array.getElem?_eq_some_iff.1 h.2).1
theorem blkG_alloc {C : Array Value} {t : TypeId} {w1 w : World} {k : Nat} (o : Obj) (h : blkG C t w1 k w) : blkG C t w1 k (w.alloc o) := ⟨h.1, by rw [Below.heap_alloc _ _ _ (blkG_lt h)]; exact h.2⟩
theorem blkG_of {C : Array Value} {t : TypeId} {w1 w w' : World} {k : Nat} (hb : Below w.heap.size w w') (h : blkG C t w1 k w) : blkG C t w1 k w' := ⟨h.1, (hb.block k (blkG_lt h)).trans h.2⟩
theorem blkG_new (C : Array Value) (t : TypeId) {w1 w : World} (h : w1.heap.size ≤ w.heap.size) : blkG C t w1 w.heap.size (w.alloc (.cells C t)) := ⟨h, by show (w.heap.push _)[w.heap.size]? = _; simp⟩
theorem blkG_c {C : Array Value} {t : TypeId} {w1 w : World} {k : Nat} (h : blkG C t w1 k w) (o : Nat) : w.cell? ⟨k, o, none⟩ = C[o]? := by
  unfold World.cell?
  simp only [h.2]
  rfl
theorem blkG_fr {C : Array Value} {t : TypeId} {w1 w : World} {k : Nat} (h : blkG C t w1 k w) (o : Nat) : w.frozen? ⟨k, o, none⟩ = false := by simp [World.frozen?, h.2]
end Go.Proofs.YtfaacmcnefbgcaaGreatDoor

/- Contract of disas.fields: what its region draws makes no difference. -/
namespace Go.Proofs.YtfaacmcnefbgcaaGreatDoor
open Go.ChangeShapes Go.WideShapes Go.ChangeAt Go.RowKit
set_option linter.unusedVariables false
theorem sBelow {B : Nat} {a b : World} {k o : Nat} {v : Value} (h : Below B a b) (hk : B ≤ k) : Below B a (b.setCell ⟨k, o, none⟩ v) := h.setCell hk v
def rowG (C : Array Value) (w : World) (k : Nat) : Prop := (∀ i, i < C.size → w.cell? ⟨k, i, none⟩ = C[i]?) ∧ (∀ i, w.frozen? ⟨k, i, none⟩ = false) ∧ k < w.heap.size
theorem res_in {fn : Func} {p : Tmp} (h : fn.results = #[.cell p 48]) (tmps : Array Value) (w : World) (g : Nat) (c0 c1 c2 c3 c4 : Value) (hp : tmps.getD p undef = .pointer (some ⟨g, 0, none⟩))
    (h0 : w.cell? ⟨g, 0, none⟩ = some c0) (h1 : w.cell? ⟨g, 1, none⟩ = some c1) (h2 : w.cell? ⟨g, 2, none⟩ = some c2) (h3 : w.cell? ⟨g, 3, none⟩ = some c3) (h4 : w.cell? ⟨g, 4, none⟩ = some c4) :
    (results fn tmps).run Tryz.prog w = .ok (.agg #[c0, c1, c2, c3, c4]) w := by
  have hp' : tmps[p]?.getD undef = .pointer (some ⟨g, 0, none⟩) := by simpa using hp
  simp [results, h, hp', go_sem, h0, h1, h2, h3, h4]
set_option maxRecDepth 100000 in
set_option maxHeartbeats 8000000 in
theorem fields_any (f v : Nat) (hf : f ≤ 8) (hv : v < 4294967296) (w0 : World) (hT : DshOk w0) :
    Calls Tryz.prog 115 #[.int .u8 f, .int .u32 v] w0 fun e w' => e = .returned (.agg #[.int .u8 0, .int .u8 (fldF f v 0).rd, .int .u8 (fldF f v 0).rs1, .int .u8 (fldF f v 0).rs2, .int .i64 (numW f v)]) ∧ Below w0.heap.size w0 w' := by
  obtain ⟨u0, u1, u2, u3⟩ := hT f (by omega)
  have hi0 : (0 : Int) ≤ (f : Int) := by omega
  have hi9 : (f : Int) < 9 := by omega
  have hgs : 1 < w0.heap.size := World.block_lt_of_cell? w0 _ u0
  have hd := dnum_any f v hf hv
  obtain ⟨r0, hr0⟩ : ∃ r, (fldF f v 0).rd = r := ⟨_, rfl⟩
  obtain ⟨r1, hr1⟩ : ∃ r, (fldF f v 0).rs1 = r := ⟨_, rfl⟩
  obtain ⟨r2, hr2⟩ : ∃ r, (fldF f v 0).rs2 = r := ⟨_, rfl⟩
  rw [hr0, hr1, hr2]
  have e0 : r0 = if rdT f then v / 128 % 32 else 0 := hr0.symm
  have e1 : r1 = if rs1T f then v / 32768 % 32 else 0 := hr1.symm
  have e2 : r2 = if rs2T f then v / 1048576 % 32 else 0 := hr2.symm
  clear hr0 hr1 hr2 hT
  generalize numW f v = nm at *
  generalize rdT f = t0 at *
  generalize rs1T f = t1 at *
  generalize rs2T f = t2 at *
  generalize immT f = t3 at *
  go_enter Tryz.func115, Tryz.ntmps115
  go_wp2
  obtain ⟨g, hg⟩ : ∃ g, w0.heap.size = g := ⟨_, rfl⟩
  obtain ⟨w1, hw1⟩ : ∃ w1, (w0.alloc (.cells #[.int .u8 0, .int .u8 0, .int .u8 0, .int .u8 0, .int .i64 0] 48)).drew = w1 := ⟨_, rfl⟩
  have hB : Below w0.heap.size w0 w1 := by rw [← hw1]; exact ((Below.refl _ _).alloc (Nat.le_refl _) _).drew
  have dg : blkG #[.int .u8 0, .int .u8 0, .int .u8 0, .int .u8 0, .int .i64 0] 48 w0 g w1 := by
    rw [← hw1, ← hg]; exact ⟨Nat.le_refl _, (blkG_new _ _ (Nat.le_refl _)).2⟩
  have q0 := stay hB u0; have q1 := stay hB u1; have q2 := stay hB u2; have q3 := stay hB u3
  have hgs1 : 1 < w1.heap.size := Nat.lt_of_lt_of_le hgs hB.size
  clear u0 u1 u2 u3
  refine wp_mono (Q := fun e a w => e = .normal ∧ ∃ k5 k6 : Nat, a = ⟨#[.int .u8 f, .int .u32 v, undef, undef, .pointer (some ⟨g, 0, none⟩), .pointer (some ⟨k5, 0, none⟩), .pointer (some ⟨k6, 0, none⟩), .int .u8 f, .pointer (some ⟨1, f * 4, none⟩), .agg #[.bool t0, .bool t1, .bool t2, .bool t3], .int .u8 f, .int .u32 v, .int .i64 nm, .agg #[.int .u8 0, .int .u8 0, .int .u8 0, .int .u8 0, .int .i64 nm], undef, undef, undef, undef, undef, undef, undef, undef, undef, undef, undef, undef, undef, undef, undef, undef, undef, undef, undef], []⟩ ∧ Below w1.heap.size w1 w ∧ w1.heap.size ≤ k5 ∧ w1.heap.size ≤ k6 ∧ k5 ≠ k6 ∧ rowG #[.bool t0, .bool t1, .bool t2, .bool t3] w k5 ∧ rowG #[.int .u8 0, .int .u8 0, .int .u8 0, .int .u8 0, .int .i64 nm] w k6) ?_ ?_
  rotate_left
  · rintro e a w ⟨rfl, k5, k6, rfl, hBe, s5, s6, ne, d5, d6⟩
    dsimp only
    have dgw := blkG_of hBe dg
    have hB2 : Below w0.heap.size w0 w := below_trans' hB (Nat.le_refl _) hBe
    have c5_0 : w.cell? ⟨k5, 0, none⟩ = some (.bool t0) := d5.1 0 (by simp)
    have c5_1 : w.cell? ⟨k5, 1, none⟩ = some (.bool t1) := d5.1 1 (by simp)
    have c5_2 : w.cell? ⟨k5, 2, none⟩ = some (.bool t2) := d5.1 2 (by simp)
    have c5_3 : w.cell? ⟨k5, 3, none⟩ = some (.bool t3) := d5.1 3 (by simp)
    have c6_0 : w.cell? ⟨k6, 0, none⟩ = some (.int .u8 0) := d6.1 0 (by simp); have z6_0 := d6.2.1 0; have cg_0 : w.cell? ⟨g, 0, none⟩ = some (.int .u8 0) := blkG_c dgw 0; have zg_0 := blkG_fr dgw 0
    have c6_1 : w.cell? ⟨k6, 1, none⟩ = some (.int .u8 0) := d6.1 1 (by simp); have z6_1 := d6.2.1 1; have cg_1 : w.cell? ⟨g, 1, none⟩ = some (.int .u8 0) := blkG_c dgw 1; have zg_1 := blkG_fr dgw 1
    have c6_2 : w.cell? ⟨k6, 2, none⟩ = some (.int .u8 0) := d6.1 2 (by simp); have z6_2 := d6.2.1 2; have cg_2 : w.cell? ⟨g, 2, none⟩ = some (.int .u8 0) := blkG_c dgw 2; have zg_2 := blkG_fr dgw 2
    have c6_3 : w.cell? ⟨k6, 3, none⟩ = some (.int .u8 0) := d6.1 3 (by simp); have z6_3 := d6.2.1 3; have cg_3 : w.cell? ⟨g, 3, none⟩ = some (.int .u8 0) := blkG_c dgw 3; have zg_3 := blkG_fr dgw 3
    have c6_4 : w.cell? ⟨k6, 4, none⟩ = some (.int .i64 nm) := d6.1 4 (by simp); have z6_4 := d6.2.1 4; have cg_4 : w.cell? ⟨g, 4, none⟩ = some (.int .i64 0) := blkG_c dgw 4; have zg_4 := blkG_fr dgw 4
    have l5 := d5.2.2; have l6 := d6.2.2; have lg := blkG_lt dgw
    have lg1 := blkG_lt dg
    have ne' := ne.symm; have g5 : g ≠ k5 := (by omega); have g6 : g ≠ k6 := (by omega); have g5' := g5.symm; have g6' := g6.symm
    clear d5 d6 dgw dg hw1 hBe q0 q1 q2 q3 hB
    skip
    have hb0 : ∀ w, Calls Tryz.prog 128 #[.int .u32 v, .int .i64 7, .int .i64 5] w fun e w' => e = .returned (.int .u32 (v / 128 % 32 : Nat)) ∧ ∃ k, w' = w.drewN k := fun w => by have h := dbits_any v 7 5 hv (by omega) (by omega) w; rw [show v / 2 ^ 7 % 2 ^ 5 = v / 128 % 32 by simp] at h; exact h
    have hb1 : ∀ w, Calls Tryz.prog 128 #[.int .u32 v, .int .i64 15, .int .i64 5] w fun e w' => e = .returned (.int .u32 (v / 32768 % 32 : Nat)) ∧ ∃ k, w' = w.drewN k := fun w => by have h := dbits_any v 15 5 hv (by omega) (by omega) w; rw [show v / 2 ^ 15 % 2 ^ 5 = v / 32768 % 32 by simp] at h; exact h
    have hb2 : ∀ w, Calls Tryz.prog 128 #[.int .u32 v, .int .i64 20, .int .i64 5] w fun e w' => e = .returned (.int .u32 (v / 1048576 % 32 : Nat)) ∧ ∃ k, w' = w.drewN k := fun w => by have h := dbits_any v 20 5 hv (by omega) (by omega) w; rw [show v / 2 ^ 20 % 2 ^ 5 = v / 1048576 % 32 by simp] at h; exact h
    have y0 : v / 128 % 32 < 32 := by omega
    have y1 : v / 32768 % 32 < 32 := by omega
    have y2 : v / 1048576 % 32 < 32 := by omega
    generalize v / 128 % 32 = x0 at *
    generalize v / 32768 % 32 = x1 at *
    generalize v / 1048576 % 32 = x2 at *
    cases t0 <;> cases t1 <;> cases t2
    · clear hd hi0 hi9 hgs hgs1
      obtain rfl : r0 = 0 := by simpa using e0
      obtain rfl : r1 = 0 := by simpa using e1
      obtain rfl : r2 = 0 := by simpa using e2
      clear e0 e1 e2
      go_wp2_with (go_at_call 128; first | ((with_reducible refine (hb0 _).mono ?_); rintro e w4 ⟨rfl, n4, rfl⟩) | ((with_reducible refine (hb1 _).mono ?_); rintro e w5 ⟨rfl, n5, rfl⟩) | ((with_reducible refine (hb2 _).mono ?_); rintro e w6 ⟨rfl, n6, rfl⟩))
      refine bodyPost_ret (res_in rfl _ _ g (.int .u8 0) (.int .u8 0) (.int .u8 0) (.int .u8 0) (.int .i64 nm) rfl ?_ ?_ ?_ ?_ ?_) rfl ⟨rfl, ?_⟩
      · go_simp
      · go_simp
      · go_simp
      · go_simp
      · go_simp
      · subst hg
        repeat (first | (with_reducible exact hB2) | (with_reducible refine sBelow ?_ (by first | exact Nat.le_refl _ | omega)) | (with_reducible refine bdN ?_ _))
    · clear hd hi0 hi9 hgs hgs1
      obtain rfl : r0 = 0 := by simpa using e0
      obtain rfl : r1 = 0 := by simpa using e1
      obtain rfl : r2 = x2 := by simpa using e2
      clear e0 e1 e2
      go_wp2_with (go_at_call 128; first | ((with_reducible refine (hb0 _).mono ?_); rintro e w4 ⟨rfl, n4, rfl⟩) | ((with_reducible refine (hb1 _).mono ?_); rintro e w5 ⟨rfl, n5, rfl⟩) | ((with_reducible refine (hb2 _).mono ?_); rintro e w6 ⟨rfl, n6, rfl⟩))
      refine bodyPost_ret (res_in rfl _ _ g (.int .u8 0) (.int .u8 0) (.int .u8 0) (.int .u8 r2) (.int .i64 nm) rfl ?_ ?_ ?_ ?_ ?_) rfl ⟨rfl, ?_⟩
      · go_simp
      · go_simp
      · go_simp
      · go_simp
      · go_simp
      · subst hg
        repeat (first | (with_reducible exact hB2) | (with_reducible refine sBelow ?_ (by first | exact Nat.le_refl _ | omega)) | (with_reducible refine bdN ?_ _))
    · clear hd hi0 hi9 hgs hgs1
      obtain rfl : r0 = 0 := by simpa using e0
      obtain rfl : r1 = x1 := by simpa using e1
      obtain rfl : r2 = 0 := by simpa using e2
      clear e0 e1 e2
      go_wp2_with (go_at_call 128; first | ((with_reducible refine (hb0 _).mono ?_); rintro e w4 ⟨rfl, n4, rfl⟩) | ((with_reducible refine (hb1 _).mono ?_); rintro e w5 ⟨rfl, n5, rfl⟩) | ((with_reducible refine (hb2 _).mono ?_); rintro e w6 ⟨rfl, n6, rfl⟩))
      refine bodyPost_ret (res_in rfl _ _ g (.int .u8 0) (.int .u8 0) (.int .u8 r1) (.int .u8 0) (.int .i64 nm) rfl ?_ ?_ ?_ ?_ ?_) rfl ⟨rfl, ?_⟩
      · go_simp
      · go_simp
      · go_simp
      · go_simp
      · go_simp
      · subst hg
        repeat (first | (with_reducible exact hB2) | (with_reducible refine sBelow ?_ (by first | exact Nat.le_refl _ | omega)) | (with_reducible refine bdN ?_ _))
    · clear hd hi0 hi9 hgs hgs1
      obtain rfl : r0 = 0 := by simpa using e0
      obtain rfl : r1 = x1 := by simpa using e1
      obtain rfl : r2 = x2 := by simpa using e2
      clear e0 e1 e2
      go_wp2_with (go_at_call 128; first | ((with_reducible refine (hb0 _).mono ?_); rintro e w4 ⟨rfl, n4, rfl⟩) | ((with_reducible refine (hb1 _).mono ?_); rintro e w5 ⟨rfl, n5, rfl⟩) | ((with_reducible refine (hb2 _).mono ?_); rintro e w6 ⟨rfl, n6, rfl⟩))
      refine bodyPost_ret (res_in rfl _ _ g (.int .u8 0) (.int .u8 0) (.int .u8 r1) (.int .u8 r2) (.int .i64 nm) rfl ?_ ?_ ?_ ?_ ?_) rfl ⟨rfl, ?_⟩
      · go_simp
      · go_simp
      · go_simp
      · go_simp
      · go_simp
      · subst hg
        repeat (first | (with_reducible exact hB2) | (with_reducible refine sBelow ?_ (by first | exact Nat.le_refl _ | omega)) | (with_reducible refine bdN ?_ _))
    · clear hd hi0 hi9 hgs hgs1
      obtain rfl : r0 = x0 := by simpa using e0
      obtain rfl : r1 = 0 := by simpa using e1
      obtain rfl : r2 = 0 := by simpa using e2
      clear e0 e1 e2
      go_wp2_with (go_at_call 128; first | ((with_reducible refine (hb0 _).mono ?_); rintro e w4 ⟨rfl, n4, rfl⟩) | ((with_reducible refine (hb1 _).mono ?_); rintro e w5 ⟨rfl, n5, rfl⟩) | ((with_reducible refine (hb2 _).mono ?_); rintro e w6 ⟨rfl, n6, rfl⟩))
      refine bodyPost_ret (res_in rfl _ _ g (.int .u8 0) (.int .u8 r0) (.int .u8 0) (.int .u8 0) (.int .i64 nm) rfl ?_ ?_ ?_ ?_ ?_) rfl ⟨rfl, ?_⟩
      · go_simp
      · go_simp
      · go_simp
      · go_simp
      · go_simp
      · subst hg
        repeat (first | (with_reducible exact hB2) | (with_reducible refine sBelow ?_ (by first | exact Nat.le_refl _ | omega)) | (with_reducible refine bdN ?_ _))
    · clear hd hi0 hi9 hgs hgs1
      obtain rfl : r0 = x0 := by simpa using e0
      obtain rfl : r1 = 0 := by simpa using e1
      obtain rfl : r2 = x2 := by simpa using e2
      clear e0 e1 e2
      go_wp2_with (go_at_call 128; first | ((with_reducible refine (hb0 _).mono ?_); rintro e w4 ⟨rfl, n4, rfl⟩) | ((with_reducible refine (hb1 _).mono ?_); rintro e w5 ⟨rfl, n5, rfl⟩) | ((with_reducible refine (hb2 _).mono ?_); rintro e w6 ⟨rfl, n6, rfl⟩))
      refine bodyPost_ret (res_in rfl _ _ g (.int .u8 0) (.int .u8 r0) (.int .u8 0) (.int .u8 r2) (.int .i64 nm) rfl ?_ ?_ ?_ ?_ ?_) rfl ⟨rfl, ?_⟩
      · go_simp
      · go_simp
      · go_simp
      · go_simp
      · go_simp
      · subst hg
        repeat (first | (with_reducible exact hB2) | (with_reducible refine sBelow ?_ (by first | exact Nat.le_refl _ | omega)) | (with_reducible refine bdN ?_ _))
    · clear hd hi0 hi9 hgs hgs1
      obtain rfl : r0 = x0 := by simpa using e0
      obtain rfl : r1 = x1 := by simpa using e1
      obtain rfl : r2 = 0 := by simpa using e2
      clear e0 e1 e2
      go_wp2_with (go_at_call 128; first | ((with_reducible refine (hb0 _).mono ?_); rintro e w4 ⟨rfl, n4, rfl⟩) | ((with_reducible refine (hb1 _).mono ?_); rintro e w5 ⟨rfl, n5, rfl⟩) | ((with_reducible refine (hb2 _).mono ?_); rintro e w6 ⟨rfl, n6, rfl⟩))
      refine bodyPost_ret (res_in rfl _ _ g (.int .u8 0) (.int .u8 r0) (.int .u8 r1) (.int .u8 0) (.int .i64 nm) rfl ?_ ?_ ?_ ?_ ?_) rfl ⟨rfl, ?_⟩
      · go_simp
      · go_simp
      · go_simp
      · go_simp
      · go_simp
      · subst hg
        repeat (first | (with_reducible exact hB2) | (with_reducible refine sBelow ?_ (by first | exact Nat.le_refl _ | omega)) | (with_reducible refine bdN ?_ _))
    · clear hd hi0 hi9 hgs hgs1
      obtain rfl : r0 = x0 := by simpa using e0
      obtain rfl : r1 = x1 := by simpa using e1
      obtain rfl : r2 = x2 := by simpa using e2
      clear e0 e1 e2
      go_wp2_with (go_at_call 128; first | ((with_reducible refine (hb0 _).mono ?_); rintro e w4 ⟨rfl, n4, rfl⟩) | ((with_reducible refine (hb1 _).mono ?_); rintro e w5 ⟨rfl, n5, rfl⟩) | ((with_reducible refine (hb2 _).mono ?_); rintro e w6 ⟨rfl, n6, rfl⟩))
      refine bodyPost_ret (res_in rfl _ _ g (.int .u8 0) (.int .u8 r0) (.int .u8 r1) (.int .u8 r2) (.int .i64 nm) rfl ?_ ?_ ?_ ?_ ?_) rfl ⟨rfl, ?_⟩
      · go_simp
      · go_simp
      · go_simp
      · go_simp
      · go_simp
      · subst hg
        repeat (first | (with_reducible exact hB2) | (with_reducible refine sBelow ?_ (by first | exact Nat.le_refl _ | omega)) | (with_reducible refine bdN ?_ _))
  refine wp_region_any (by kernel_rfl) ?_
  show wpAny _ _ _ _ _ _ _ (World.drew _)
  rw [hw1]
  try simp only [hg]
  clear hw1 e0 e1 e2
  refine wpAny_inv (fun fu L a w => ∃ (b0 b1 b2 b3 b4 b5 b6 b7 b8 : Bool) (k5 k6 : Nat), fu = 2 + (tg b0 + tg b1 + tg b2 + tg b3 + tg b4 + tg b5 + tg b6 + tg b7 + tg b8) ∧ L = #[b0, b1, b2, b3, b4, b5, b6, b7, b8, false, false] ∧ a = ⟨#[.int .u8 f, .int .u32 v, undef, undef, .pointer (some ⟨g, 0, none⟩), (bif b7 then .pointer (some ⟨k5, 0, none⟩) else undef), (bif b8 then .pointer (some ⟨k6, 0, none⟩) else undef), (bif b0 then .int .u8 f else undef), (bif b1 then .pointer (some ⟨1, f * 4, none⟩) else undef), (bif b2 then .agg #[.bool t0, .bool t1, .bool t2, .bool t3] else undef), (bif b3 then .int .u8 f else undef), (bif b4 then .int .u32 v else undef), (bif b5 then .int .i64 nm else undef), (bif b6 then .agg #[.int .u8 0, .int .u8 0, .int .u8 0, .int .u8 0, .int .i64 nm] else undef), undef, undef, undef, undef, undef, undef, undef, undef, undef, undef, undef, undef, undef, undef, undef, undef, undef, undef, undef], []⟩ ∧ ((b1 = true → b0 = true) ∧ (b2 = true → b1 = true) ∧ (b5 = true → b3 = true) ∧ (b5 = true → b4 = true) ∧ (b6 = true → b5 = true)) ∧ Below w1.heap.size w1 w ∧ ((b7 = true → blkG #[.bool false, .bool false, .bool false, .bool false] 183 w1 k5 w) ∧ (b8 = true → blkG #[.int .u8 0, .int .u8 0, .int .u8 0, .int .u8 0, .int .i64 0] 48 w1 k6 w)) ∧ ((b7 = true → b8 = true → k5 ≠ k6))) ?_ _ _ _ _ ⟨false, false, false, false, false, false, false, false, false, 0, 0, rfl, rfl, rfl, ⟨(by simp), (by simp), (by simp), (by simp), (by simp)⟩, Below.refl _ _, ⟨(by simp), (by simp)⟩, (by simp)⟩
  intro fu L a w hI
  obtain ⟨b0, b1, b2, b3, b4, b5, b6, b7, b8, k5, k6, rfl, rfl, rfl, ⟨e0, e1, e2, e3, e4⟩, hBe, ⟨a0, a1⟩, n0⟩ := hI
  by_cases hall : (b0 = true ∧ b1 = true ∧ b2 = true ∧ b3 = true ∧ b4 = true ∧ b5 = true ∧ b7 = true ∧ b8 = true)
  rotate_left
  · right
    refine ⟨1 + (tg b0 + tg b1 + tg b2 + tg b3 + tg b4 + tg b5 + tg b6 + tg b7 + tg b8), by omega, ?_, ?_⟩
    · intro hr
      have nin : ∀ j, j ∉ Region.ready _ _ _ := fun j hj => by rw [hr] at hj; cases hj
      have t0 : b0 = true := by
        cases b0 with
        | true => rfl
        | false => exact absurd (mem_ready.2 ⟨rfl, _, rfl, by intro e he hb; simp at he; (try (rcases he with rfl | rfl | rfl <;> first | rfl | (simp [Region.binds] at hb))); (try (rcases he with rfl | rfl <;> first | rfl | (simp [Region.binds] at hb))); (try (subst he; first | rfl | (simp [Region.binds] at hb)))⟩) (nin 0)
      subst t0
      have t1 : b1 = true := by
        cases b1 with
        | true => rfl
        | false => exact absurd (mem_ready.2 ⟨rfl, _, rfl, by intro e he hb; simp at he; (try (rcases he with rfl | rfl | rfl <;> first | rfl | (simp [Region.binds] at hb))); (try (rcases he with rfl | rfl <;> first | rfl | (simp [Region.binds] at hb))); (try (subst he; first | rfl | (simp [Region.binds] at hb)))⟩) (nin 1)
      subst t1
      have t2 : b2 = true := by
        cases b2 with
        | true => rfl
        | false => exact absurd (mem_ready.2 ⟨rfl, _, rfl, by intro e he hb; simp at he; (try (rcases he with rfl | rfl | rfl <;> first | rfl | (simp [Region.binds] at hb))); (try (rcases he with rfl | rfl <;> first | rfl | (simp [Region.binds] at hb))); (try (subst he; first | rfl | (simp [Region.binds] at hb)))⟩) (nin 2)
      subst t2
      have t3 : b3 = true := by
        cases b3 with
        | true => rfl
        | false => exact absurd (mem_ready.2 ⟨rfl, _, rfl, by intro e he hb; simp at he; (try (rcases he with rfl | rfl | rfl <;> first | rfl | (simp [Region.binds] at hb))); (try (rcases he with rfl | rfl <;> first | rfl | (simp [Region.binds] at hb))); (try (subst he; first | rfl | (simp [Region.binds] at hb)))⟩) (nin 3)
      subst t3
      have t4 : b4 = true := by
        cases b4 with
        | true => rfl
        | false => exact absurd (mem_ready.2 ⟨rfl, _, rfl, by intro e he hb; simp at he; (try (rcases he with rfl | rfl | rfl <;> first | rfl | (simp [Region.binds] at hb))); (try (rcases he with rfl | rfl <;> first | rfl | (simp [Region.binds] at hb))); (try (subst he; first | rfl | (simp [Region.binds] at hb)))⟩) (nin 4)
      subst t4
      have t5 : b5 = true := by
        cases b5 with
        | true => rfl
        | false => exact absurd (mem_ready.2 ⟨rfl, _, rfl, by intro e he hb; simp at he; (try (rcases he with rfl | rfl | rfl <;> first | rfl | (simp [Region.binds] at hb))); (try (rcases he with rfl | rfl <;> first | rfl | (simp [Region.binds] at hb))); (try (subst he; first | rfl | (simp [Region.binds] at hb)))⟩) (nin 5)
      subst t5
      have t6 : b6 = true := by
        cases b6 with
        | true => rfl
        | false => exact absurd (mem_ready.2 ⟨rfl, _, rfl, by intro e he hb; simp at he; (try (rcases he with rfl | rfl | rfl <;> first | rfl | (simp [Region.binds] at hb))); (try (rcases he with rfl | rfl <;> first | rfl | (simp [Region.binds] at hb))); (try (subst he; first | rfl | (simp [Region.binds] at hb)))⟩) (nin 6)
      subst t6
      have t7 : b7 = true := by
        cases b7 with
        | true => rfl
        | false => exact absurd (mem_ready.2 ⟨rfl, _, rfl, by intro e he hb; simp at he; (try (rcases he with rfl | rfl | rfl <;> first | rfl | (simp [Region.binds] at hb))); (try (rcases he with rfl | rfl <;> first | rfl | (simp [Region.binds] at hb))); (try (subst he; first | rfl | (simp [Region.binds] at hb)))⟩) (nin 7)
      subst t7
      have t8 : b8 = true := by
        cases b8 with
        | true => rfl
        | false => exact absurd (mem_ready.2 ⟨rfl, _, rfl, by intro e he hb; simp at he; (try (rcases he with rfl | rfl | rfl <;> first | rfl | (simp [Region.binds] at hb))); (try (rcases he with rfl | rfl <;> first | rfl | (simp [Region.binds] at hb))); (try (subst he; first | rfl | (simp [Region.binds] at hb)))⟩) (nin 8)
      subst t8
      exact hall ⟨rfl, rfl, rfl, rfl, rfl, rfl, rfl, rfl⟩
    · intro i hi
      obtain ⟨h0, o, ho, hd⟩ := mem_ready.1 hi
      have hiN : i < 11 := by simpa using (Array.getElem?_eq_some_iff.1 ho).1
      have hcN : i = 0 ∨ i = 1 ∨ i = 2 ∨ i = 3 ∨ i = 4 ∨ i = 5 ∨ i = 6 ∨ i = 7 ∨ i = 8 ∨ i = 9 ∨ i = 10 := by omega
      clear hi hiN
      rcases hcN with rfl | rfl | rfl | rfl | rfl | rfl | rfl | rfl | rfl | rfl | rfl
      · simp at ho h0
        subst ho
        simp [Region.binds] at hd
        subst h0
        refine wpOp_step rfl (fun K' hK => ?_)
        go_simp
        exact hK _ _ ⟨true, b1, b2, b3, b4, b5, b6, b7, b8, k5, k6, by simp only [tg_t, tg_f]; omega, rfl, rfl, ⟨(by intro h; first | exact e0 h | rfl), (by intro h; first | exact e1 h | rfl), (by intro h; first | exact e2 h | rfl), (by intro h; first | exact e3 h | rfl), (by intro h; first | exact e4 h | rfl)⟩, hBe, ⟨a0, a1⟩, n0⟩
      · simp at ho h0
        subst ho
        simp [Region.binds] at hd
        subst h0
        refine wpOp_step rfl (fun K' hK => ?_)
        subst hd
        go_simp
        exact hK _ _ ⟨true, true, b2, b3, b4, b5, b6, b7, b8, k5, k6, by simp only [tg_t, tg_f]; omega, rfl, rfl, ⟨(by intro h; first | exact e0 h | rfl), (by intro h; first | exact e1 h | rfl), (by intro h; first | exact e2 h | rfl), (by intro h; first | exact e3 h | rfl), (by intro h; first | exact e4 h | rfl)⟩, hBe, ⟨a0, a1⟩, n0⟩
      · simp at ho h0
        subst ho
        simp [Region.binds] at hd
        subst h0
        refine wpOp_step rfl (fun K' hK => ?_)
        subst hd
        obtain rfl := e0 rfl
        have c0 := stay hBe q0; have c1 := stay hBe q1; have c2 := stay hBe q2; have c3 := stay hBe q3
        go_simp
        exact hK _ _ ⟨true, true, true, b3, b4, b5, b6, b7, b8, k5, k6, by simp only [tg_t, tg_f]; omega, rfl, rfl, ⟨(by intro h; first | exact e0 h | rfl), (by intro h; first | exact e1 h | rfl), (by intro h; first | exact e2 h | rfl), (by intro h; first | exact e3 h | rfl), (by intro h; first | exact e4 h | rfl)⟩, hBe, ⟨a0, a1⟩, n0⟩
      · simp at ho h0
        subst ho
        simp [Region.binds] at hd
        subst h0
        refine wpOp_step rfl (fun K' hK => ?_)
        go_simp
        exact hK _ _ ⟨b0, b1, b2, true, b4, b5, b6, b7, b8, k5, k6, by simp only [tg_t, tg_f]; omega, rfl, rfl, ⟨(by intro h; first | exact e0 h | rfl), (by intro h; first | exact e1 h | rfl), (by intro h; first | exact e2 h | rfl), (by intro h; first | exact e3 h | rfl), (by intro h; first | exact e4 h | rfl)⟩, hBe, ⟨a0, a1⟩, n0⟩
      · simp at ho h0
        subst ho
        simp [Region.binds] at hd
        subst h0
        refine wpOp_step rfl (fun K' hK => ?_)
        go_simp
        exact hK _ _ ⟨b0, b1, b2, b3, true, b5, b6, b7, b8, k5, k6, by simp only [tg_t, tg_f]; omega, rfl, rfl, ⟨(by intro h; first | exact e0 h | rfl), (by intro h; first | exact e1 h | rfl), (by intro h; first | exact e2 h | rfl), (by intro h; first | exact e3 h | rfl), (by intro h; first | exact e4 h | rfl)⟩, hBe, ⟨a0, a1⟩, n0⟩
      · simp at ho h0
        subst ho
        simp [Region.binds] at hd
        subst h0
        refine wpOp_step rfl (fun K' hK => ?_)
        obtain ⟨rfl, rfl⟩ := hd
        go_simp
        go_at_call 127; (with_reducible refine (hd _).mono ?_); rintro e w3 ⟨rfl, hbc⟩
        exact hK _ _ ⟨b0, b1, b2, true, true, true, b6, b7, b8, k5, k6, by simp only [tg_t, tg_f]; omega, rfl, rfl, ⟨(by intro h; first | exact e0 h | rfl), (by intro h; first | exact e1 h | rfl), (by intro h; first | exact e2 h | rfl), (by intro h; first | exact e3 h | rfl), (by intro h; first | exact e4 h | rfl)⟩, (below_trans' hBe (Nat.le_refl _) hbc), ⟨(fun h => blkG_of hbc (a0 h)), (fun h => blkG_of hbc (a1 h))⟩, n0⟩
      · simp at ho h0
        subst ho
        simp [Region.binds] at hd
        subst h0
        refine wpOp_step rfl (fun K' hK => ?_)
        subst hd
        obtain rfl := e2 rfl
        obtain rfl := e3 rfl
        go_simp
        exact hK _ _ ⟨b0, b1, b2, true, true, true, true, b7, b8, k5, k6, by simp only [tg_t, tg_f]; omega, rfl, rfl, ⟨(by intro h; first | exact e0 h | rfl), (by intro h; first | exact e1 h | rfl), (by intro h; first | exact e2 h | rfl), (by intro h; first | exact e3 h | rfl), (by intro h; first | exact e4 h | rfl)⟩, hBe, ⟨a0, a1⟩, n0⟩
      · simp at ho h0
        subst ho
        simp [Region.binds] at hd
        subst h0
        refine wpOp_step rfl (fun K' hK => ?_)
        go_simp
        exact hK _ _ ⟨b0, b1, b2, b3, b4, b5, b6, true, b8, w.heap.size, k6, by simp only [tg_t, tg_f]; omega, rfl, rfl, ⟨(by intro h; first | exact e0 h | rfl), (by intro h; first | exact e1 h | rfl), (by intro h; first | exact e2 h | rfl), (by intro h; first | exact e3 h | rfl), (by intro h; first | exact e4 h | rfl)⟩, (hBe.alloc hBe.size _), ⟨(fun _ => blkG_new _ _ hBe.size), (fun h => blkG_alloc _ (a1 h))⟩, (fun _ h => Nat.ne_of_gt (blkG_lt (a1 h)))⟩
      · simp at ho h0
        subst ho
        simp [Region.binds] at hd
        subst h0
        refine wpOp_step rfl (fun K' hK => ?_)
        go_simp
        exact hK _ _ ⟨b0, b1, b2, b3, b4, b5, b6, b7, true, k5, w.heap.size, by simp only [tg_t, tg_f]; omega, rfl, rfl, ⟨(by intro h; first | exact e0 h | rfl), (by intro h; first | exact e1 h | rfl), (by intro h; first | exact e2 h | rfl), (by intro h; first | exact e3 h | rfl), (by intro h; first | exact e4 h | rfl)⟩, (hBe.alloc hBe.size _), ⟨(fun h => blkG_alloc _ (a0 h)), (fun _ => blkG_new _ _ hBe.size)⟩, (fun h _ => Nat.ne_of_lt (blkG_lt (a0 h)))⟩
      · exact (hall (by simp at ho; subst ho; simp [Region.binds] at hd <;> simp_all)).elim
      · exact (hall (by simp at ho; subst ho; simp [Region.binds] at hd <;> simp_all)).elim
  obtain ⟨rfl, rfl, rfl, rfl, rfl, rfl, rfl, rfl⟩ := hall
  left
  have d0 := a0 rfl
  have d1 := a1 rfl
  have m0 := n0 rfl rfl; have m0s := m0.symm
  clear a0 a1 n0 e0 e1 e2 e3 e4
  have s5 := d0.1; have s6 := d1.1
  have c5_0 : w.cell? ⟨k5, 0, none⟩ = some (.bool false) := blkG_c d0 0; have z5_0 := blkG_fr d0 0
  have c5_1 : w.cell? ⟨k5, 1, none⟩ = some (.bool false) := blkG_c d0 1; have z5_1 := blkG_fr d0 1
  have c5_2 : w.cell? ⟨k5, 2, none⟩ = some (.bool false) := blkG_c d0 2; have z5_2 := blkG_fr d0 2
  have c5_3 : w.cell? ⟨k5, 3, none⟩ = some (.bool false) := blkG_c d0 3; have z5_3 := blkG_fr d0 3
  have c6_0 : w.cell? ⟨k6, 0, none⟩ = some (.int .u8 0) := blkG_c d1 0; have z6_0 := blkG_fr d1 0
  have c6_1 : w.cell? ⟨k6, 1, none⟩ = some (.int .u8 0) := blkG_c d1 1; have z6_1 := blkG_fr d1 1
  have c6_2 : w.cell? ⟨k6, 2, none⟩ = some (.int .u8 0) := blkG_c d1 2; have z6_2 := blkG_fr d1 2
  have c6_3 : w.cell? ⟨k6, 3, none⟩ = some (.int .u8 0) := blkG_c d1 3; have z6_3 := blkG_fr d1 3
  have c6_4 : w.cell? ⟨k6, 4, none⟩ = some (.int .i64 0) := blkG_c d1 4; have z6_4 := blkG_fr d1 4
  cases b6
  · simp only [tg_t, tg_f, Nat.add_zero]
    refine wpAny_ready (rs := [6, 9]) (by kernel_rfl) (by simp) (AllReady.cons rfl (fun K hK => ?_) (AllReady.cons rfl (fun K hK => ?_) AllReady.nil))
    · go_simp
      refine hK _ _ ?_
      clear hK K
      refine wpAny_ready (rs := [9]) (by kernel_rfl) (by simp) (AllReady.cons rfl (fun K hK => ?_) AllReady.nil)
      go_simp
      refine hK _ _ ?_
      clear hK K
      refine wpAny_ready (rs := [10]) (by kernel_rfl) (by simp) (AllReady.cons rfl (fun K hK => ?_) AllReady.nil)
      go_simp
      refine hK _ _ ?_
      clear hK K
      refine wpAny_done (by kernel_rfl) ?_ _
      refine ⟨rfl, k5, k6, rfl, ?_, s5, s6, m0, ⟨?_, ?_, ?_⟩, ⟨?_, ?_, ?_⟩⟩
      · repeat (first | (with_reducible exact hBe) | (with_reducible refine sBelow ?_ (by first | exact s5 | exact s6)))
      · intro i hi
        have hi' : i < 4 := hi
        have hc : i = 0 ∨ i = 1 ∨ i = 2 ∨ i = 3 := by omega
        clear hi hi'
        rcases hc with rfl | rfl | rfl | rfl <;> go_simp
      · intro i; simp only [World.frozen?_setCell]; first | exact blkG_fr d0 i
      · simp only [World.size_setCell]; exact blkG_lt d0
      · intro i hi
        have hi' : i < 5 := hi
        have hc : i = 0 ∨ i = 1 ∨ i = 2 ∨ i = 3 ∨ i = 4 := by omega
        clear hi hi'
        rcases hc with rfl | rfl | rfl | rfl | rfl <;> go_simp
      · intro i; simp only [World.frozen?_setCell]; first | exact blkG_fr d1 i
      · simp only [World.size_setCell]; exact blkG_lt d1
    · go_simp
      refine hK _ _ ?_
      clear hK K
      refine wpAny_ready (rs := [6]) (by kernel_rfl) (by simp) (AllReady.cons rfl (fun K hK => ?_) AllReady.nil)
      go_simp
      refine hK _ _ ?_
      clear hK K
      refine wpAny_ready (rs := [10]) (by kernel_rfl) (by simp) (AllReady.cons rfl (fun K hK => ?_) AllReady.nil)
      go_simp
      refine hK _ _ ?_
      clear hK K
      refine wpAny_done (by kernel_rfl) ?_ _
      refine ⟨rfl, k5, k6, rfl, ?_, s5, s6, m0, ⟨?_, ?_, ?_⟩, ⟨?_, ?_, ?_⟩⟩
      · repeat (first | (with_reducible exact hBe) | (with_reducible refine sBelow ?_ (by first | exact s5 | exact s6)))
      · intro i hi
        have hi' : i < 4 := hi
        have hc : i = 0 ∨ i = 1 ∨ i = 2 ∨ i = 3 := by omega
        clear hi hi'
        rcases hc with rfl | rfl | rfl | rfl <;> go_simp
      · intro i; simp only [World.frozen?_setCell]; first | exact blkG_fr d0 i
      · simp only [World.size_setCell]; exact blkG_lt d0
      · intro i hi
        have hi' : i < 5 := hi
        have hc : i = 0 ∨ i = 1 ∨ i = 2 ∨ i = 3 ∨ i = 4 := by omega
        clear hi hi'
        rcases hc with rfl | rfl | rfl | rfl | rfl <;> go_simp
      · intro i; simp only [World.frozen?_setCell]; first | exact blkG_fr d1 i
      · simp only [World.size_setCell]; exact blkG_lt d1
  · simp only [tg_t, Nat.add_zero]
    refine wpAny_ready (rs := [9]) (by kernel_rfl) (by simp) (AllReady.cons rfl (fun K hK => ?_) AllReady.nil)
    go_simp
    refine hK _ _ ?_
    clear hK K
    refine wpAny_ready (rs := [10]) (by kernel_rfl) (by simp) (AllReady.cons rfl (fun K hK => ?_) AllReady.nil)
    go_simp
    refine hK _ _ ?_
    clear hK K
    refine wpAny_done (by kernel_rfl) ?_ _
    refine ⟨rfl, k5, k6, rfl, ?_, s5, s6, m0, ⟨?_, ?_, ?_⟩, ⟨?_, ?_, ?_⟩⟩
    · repeat (first | (with_reducible exact hBe) | (with_reducible refine sBelow ?_ (by first | exact s5 | exact s6)))
    · intro i hi
      have hi' : i < 4 := hi
      have hc : i = 0 ∨ i = 1 ∨ i = 2 ∨ i = 3 := by omega
      clear hi hi'
      rcases hc with rfl | rfl | rfl | rfl <;> go_simp
    · intro i; simp only [World.frozen?_setCell]; first | exact blkG_fr d0 i
    · simp only [World.size_setCell]; exact blkG_lt d0
    · intro i hi
      have hi' : i < 5 := hi
      have hc : i = 0 ∨ i = 1 ∨ i = 2 ∨ i = 3 ∨ i = 4 := by omega
      clear hi hi'
      rcases hc with rfl | rfl | rfl | rfl | rfl <;> go_simp
    · intro i; simp only [World.frozen?_setCell]; first | exact blkG_fr d1 i
    · simp only [World.size_setCell]; exact blkG_lt d1
end Go.Proofs.YtfaacmcnefbgcaaGreatDoor

/- A range over a function whose iterator keeps its own state in cells: the law for the caller, the contract of the iterator; for whatever program. -/
namespace Go.Proofs.YtfaacmcnefbgcaaGreatDoor
open Go Go.RowKit
set_option linter.unusedVariables false
/-- From block B on, what lay before lies as it lay. -/
def Stay (B : Nat) (W W' : World) : Prop := W.heap.size ≤ W'.heap.size ∧ ∀ j, B ≤ j → j < W.heap.size → W'.heap[j]? = W.heap[j]?
theorem Stay.refl (B : Nat) (W : World) : Stay B W W := ⟨Nat.le_refl _, fun _ _ _ => rfl⟩
theorem Stay.trans {B : Nat} {X Y Z : World} (h : Stay B X Y) (k : Stay B Y Z) : Stay B X Z := ⟨Nat.le_trans h.1 k.1, fun j hj hl => (k.2 j hj (Nat.lt_of_lt_of_le hl h.1)).trans (h.2 j hj hl)⟩
theorem Stay.up {B C : Nat} {X Y : World} (h : Stay B X Y) (hc : B ≤ C) : Stay C X Y := ⟨h.1, fun j hj hl => h.2 j (Nat.le_trans hc hj) hl⟩
theorem stay_of_below {B : Nat} {X Y : World} (h : Below X.heap.size X Y) : Stay B X Y := ⟨h.size, fun j _ hl => h.block j hl⟩
theorem stay_put {B : Nat} {X : World} {l : Nat} (o : Obj) (hl : l < B) : Stay B X (X.putObj l o) := ⟨by simp, fun j hj _ => World.putObj_heap_other (by omega)⟩
theorem below_put {B : Nat} {X : World} {l : Nat} (o : Obj) (hl : B ≤ l) : Below B X (X.putObj l o) := ⟨rfl, rfl, rfl, by simp, fun j hj => World.putObj_heap_other (by omega)⟩
/-- An iterator that hands over 'encs 0' to 'encs (N - 1)', in order, as long as it is told to go on. -/
def SeqN (n : Nat) (P : Program) (g : Nat) (lb : Array Value) (encs : Nat → Array Value) (N : Nat) (Pre : World → Prop) : Prop :=
  ∀ (l : Nat) (J : Nat → World → Prop) (Jx : World → Prop) (W : World), Pre W →
    (∀ k A A', J k A → Below W.heap.size A A' → J k A') → (∀ A A', Jx A → Below W.heap.size A A' → Jx A') →
    (∀ k W1, J k W1 → k < N → W.heap.size ≤ W1.heap.size → YieldAt Fence.wide (n - 1) P l (encs k) W1 fun e W' =>
      (e = .returned (.bool true) ∧ J (k + 1) W' ∧ Stay W.heap.size W1 W') ∨ (e = .returned (.bool false) ∧ Jx W')) →
    J 0 W →
    CallsIn Fence.wide n P g (#[.func (.yield l) #[] #[]] ++ lb) W fun e W' => (∃ v, e = .returned v) ∧ (J N W' ∨ Jx W')
/-- How a round may be left: off its end, or by a return. -/
def rPost (B : Nat) (I : Nat → World → Prop) (Ix : World → Prop) (k : Nat) (W : World) : Exit → Act → World → Prop
  | .normal, _, W' => Stay B W W' ∧ I (k + 1) W'
  | .ret, _, W' => Stay B W W' ∧ Ix W'
  | _, _, _ => False
theorem range_n {n : Nat} {P : Program} {g : Operand} {ps : Array Tmp} {assign body : Code} {Q : Exit → Act → World → Prop} {a : Act} {w : World}
    (h1 : 1 ≤ n) {gf : Nat} {lb : Array Value} (hg : a.eval g = .func (.func gf) #[] lb) (eg : ∀ args w, (callFunc gf args).run P w = .ok (.enter gf args) w)
    {encs : Nat → Array Value} {N : Nat} {Pre : World → Prop} (hseq : SeqN (n - 1) P gf lb encs N Pre) (hPre : ∀ W, Below w.heap.size w W → Pre W) (hps : ∀ k, (encs k).size = ps.size)
    (I : Nat → World → Prop) (Ix : World → Prop) (hI : ∀ k A A', I k A → Below w.heap.size A A' → I k A') (hIx : ∀ A A', Ix A → Below w.heap.size A A' → Ix A') (h0 : I 0 w)
    (Ax : Nat → Act → World → Prop) (hAx : ∀ k a' A A', Ax k a' A → (∀ j, w.heap.size + 2 ≤ j → A'.heap[j]? = A.heap[j]?) → Ax k a' A')
    (hassign : ∀ (l k : Nat) (W : World) (K : Act → World → Prop), w.heap.size + 2 ≤ W.heap.size → (∀ a' W', Below W.heap.size W W' → Ax k a' W' → K a' W') →
      assign.wpIn (Fence.wide.inRound l) (n - 1 - 1) P (Exit.then K (fun _ _ _ => False)) { tmps := (ps.zip (encs k)).foldl (fun t (p, v) => t.setIfInBounds p v) a.tmps, defers := [] } W)
    (hbody : ∀ (l k : Nat) (a' : Act) (W : World), w.heap.size + 2 ≤ W.heap.size → I k W → Ax k a' W → k < N → body.wpIn (Fence.wide.inRound l) (n - 1 - 1) P (rPost w.heap.size I Ix k W) a' W)
    (hdone : ∀ (D : Nat) (W : World), w.heap.size ≤ D → I N W → W.heap[D]? = some (.deferred (some [])) → Q .normal { a with defers := { target := .collected D, args := #[] } :: a.defers } W)
    (hstop : ∀ (D : Nat) (W : World), w.heap.size ≤ D → Ix W → W.heap[D]? = some (.deferred (some [])) → Code.ret.wpIn Fence.wide n P Q { a with defers := { target := .collected D, args := #[] } :: a.defers } W) :
    (Code.rangeFunc g ps assign body).wpIn Fence.wide n P Q a w := by
  refine wpIn_rangeFunc ?_
  intro fn hfn
  obtain ⟨rc, hrc⟩ : ∃ rc : LoopState → Option Code → Loop, rc = fun st pe => { state := st, pending := pe, fn, tmps := a.tmps, params := ps, assign, body, defers := w.heap.size } := ⟨_, rfl⟩
  obtain ⟨V, hV⟩ : ∃ V, (w.alloc (.deferred (some []))).alloc (.loop (rc .ready none)) = V := ⟨_, rfl⟩
  have hVs : V.heap.size = w.heap.size + 2 := by rw [← hV]; simp
  have hVb : Below w.heap.size w V := by rw [← hV]; exact ((Below.refl _ w).alloc (Nat.le_refl _) _).alloc (by simp) _
  have hL : V.heap[w.heap.size + 1]? = some (.loop (rc .ready none)) := by
    have := World.alloc_heap_new (w.alloc (.deferred (some []))) (.loop (rc .ready none))
    rw [World.size_alloc] at this
    rw [← hV]; exact this
  have hD : V.heap[w.heap.size]? = some (.deferred (some [])) := by
    rw [← hV]; exact (Below.heap_alloc _ _ _ (by simp)).trans (World.alloc_heap_new w _)
  refine ⟨w.heap.size + 1, [{ target := .collected w.heap.size, args := #[] }], V, { target := .fn (.func gf) lb, args := #[.func (.yield (w.heap.size + 1)) #[] #[]] }, V, gf,
    #[.func (.yield (w.heap.size + 1)) #[] #[]] ++ lb, V, ?_, ?_, fun _ _ => trivial, ?_, fun _ => h1, ?_⟩
  · rw [← hV, hrc]; exact run_enterLoop_outer _ _ _ _ _
  · simp only [resolve, hg]; simp [go_sem]
  · simp [invoke, go_sem, eg]
  have up : ∀ {A B : World}, Below V.heap.size A B → Below w.heap.size A B := fun h => h.mono (by omega)
  refine (hseq (w.heap.size + 1)
    (fun k A => I k A ∧ A.heap[w.heap.size + 1]? = some (.loop (rc .ready none)) ∧ A.heap[w.heap.size]? = some (.deferred (some [])))
    (fun A => Ix A ∧ A.heap[w.heap.size + 1]? = some (.loop (rc .done (some .ret))) ∧ A.heap[w.heap.size]? = some (.deferred (some [])))
    V (hPre V hVb)
    (fun k A B ⟨x, y, z⟩ hb => ⟨hI k A B x (up hb), (hb.block _ (by omega)).trans y, (hb.block _ (by omega)).trans z⟩)
    (fun A B ⟨x, y, z⟩ hb => ⟨hIx A B x (up hb), (hb.block _ (by omega)).trans y, (hb.block _ (by omega)).trans z⟩)
    ?_ ⟨hI 0 w V h0 hVb, hL, hD⟩).mono ?_
  · rintro k W ⟨hi, hl, hd⟩ hlt hBW
    have hsz : w.heap.size + 2 ≤ W.heap.size := by omega
    have hy := run_yield (P := P) (args := encs k) hl (by rw [hrc]; exact hps k)
    rw [hrc] at hy
    refine ⟨fn, _, assign, body, hy, roundIn_of_wpIn hfn (hassign _ k W _ hsz fun a' W' hbW hax => ?_)⟩
    have hl' : W'.heap[w.heap.size + 1]? = some (.loop (rc .ready none)) := (hbW.block _ (by omega)).trans hl
    have hd' : W'.heap[w.heap.size]? = some (.deferred (some [])) := (hbW.block _ (by omega)).trans hd
    have hsz' : w.heap.size + 2 ≤ W'.heap.size := Nat.le_trans hsz hbW.size
    refine ⟨_, run_beginRound hl' (by rw [hrc]), ?_⟩
    obtain ⟨X, hX⟩ : ∃ X, W'.putObj (w.heap.size + 1) (.loop { rc .ready none with state := .busy }) = X := ⟨_, rfl⟩
    rw [hX]
    have hXl : X.heap[w.heap.size + 1]? = some (.loop { rc .ready none with state := .busy }) := by rw [← hX]; exact World.putObj_heap_same (by omega)
    have hXd : X.heap[w.heap.size]? = some (.deferred (some [])) := by rw [← hX]; exact (World.putObj_heap_other (by omega)).trans hd'
    have hXs : X.heap.size = W'.heap.size := by rw [← hX]; simp
    have hXi : I k X := hI k W X hi ((hbW.mono (by omega)).trans (by rw [← hX]; exact below_put _ (by omega)))
    have hXa : Ax k a' X := hAx k a' W' X hax (fun j hj => by rw [← hX]; exact World.putObj_heap_other (by omega))
    have hWX : Stay V.heap.size W X := (stay_of_below hbW).trans (by rw [← hX]; exact stay_put _ (by omega))
    refine wpIn_mono (hbody _ k a' X (by omega) hXi hXa hlt) ?_
    have fin : ∀ (jump : Option Code) (Y : World), Stay w.heap.size X Y →
        (Instr.endRound (w.heap.size + 1) jump).run P Y = .ok (.bool jump.isNone) (Y.putObj (w.heap.size + 1) (.loop (rc (if jump.isNone then .ready else .done) jump))) ∧
        (Y.putObj (w.heap.size + 1) (.loop (rc (if jump.isNone then .ready else .done) jump))).heap[w.heap.size + 1]? = some (.loop (rc (if jump.isNone then .ready else .done) jump)) ∧
        (Y.putObj (w.heap.size + 1) (.loop (rc (if jump.isNone then .ready else .done) jump))).heap[w.heap.size]? = some (.deferred (some [])) := fun jump Y hs => by
      have hYl := (hs.2 (w.heap.size + 1) (by omega) (by omega)).trans hXl
      have hYd := (hs.2 w.heap.size (by omega) (by omega)).trans hXd
      have := run_endRound (P := P) jump hYl
      rw [hrc] at this ⊢
      exact ⟨this, World.putObj_heap_same (Array.getElem?_eq_some_iff.1 hYl).1, (World.putObj_heap_other (by omega)).trans hYd⟩
    rintro e a3 Y hp
    cases e with
    | normal =>
      obtain ⟨hs, hi'⟩ := hp
      obtain ⟨r1, r2, r3⟩ := fin none Y hs
      exact ⟨_, _, r1, .inl ⟨rfl, ⟨hI _ _ _ hi' (below_put _ (by omega)), r2, r3⟩, (hWX.trans (hs.up (by omega))).trans (stay_put _ (by omega))⟩⟩
    | ret =>
      obtain ⟨hs, hi'⟩ := hp
      obtain ⟨r1, r2, r3⟩ := fin (some .ret) Y hs
      exact ⟨_, _, r1, .inr ⟨rfl, hIx _ _ hi' (below_put _ (by omega)), r2, r3⟩⟩
    | exit id => exact hp.elim
    | goto t => exact hp.elim
    | panic ch => exact hp.elim
    | outgrown => exact hp.elim
  · rintro e Y ⟨⟨v, rfl⟩, ⟨hi, hl, hd⟩ | ⟨hi, hl, hd⟩⟩
    · exact ⟨none, _, by have := run_endLoop (P := P) hl (by rw [hrc]; simp); rw [hrc] at this; exact this, hdone _ _ (Nat.le_refl _) (hI _ _ _ hi (below_put _ (by omega))) ((World.putObj_heap_other (by omega)).trans hd)⟩
    · exact ⟨some .ret, _, by have := run_endLoop (P := P) hl (by rw [hrc]; simp); rw [hrc] at this; exact this, hstop _ _ (Nat.le_refl _) (hIx _ _ hi (below_put _ (by omega))) ((World.putObj_heap_other (by omega)).trans hd)⟩
end Go.Proofs.YtfaacmcnefbgcaaGreatDoor

/- The iterator of disas.readings hands over what a word would be, Op by Op. -/
namespace Go.Proofs.YtfaacmcnefbgcaaGreatDoor
open Go.ChangeShapes Go.WideShapes Go.ChangeAt Go.RowKit
set_option linter.unusedVariables false
attribute [local go_sem] Oper.semAt_some
/-- What the word would be, as an instruction of Op k + 1. -/
def rdE (v : Nat) (k : Nat) : Array Value := #[.agg #[.int .u8 ((k : Int) + 1), .int .u8 (fldW v 0).rd, .int .u8 (fldW v 0).rs1, .int .u8 (fldW v 0).rs2, .int .i64 (numW (formW v) v)]]
def cellN (w : World) (k : Nat) : Nat := match w.cell? ⟨k, 0, none⟩ with | some (.int _ n) => n.toNat | _ => 0
theorem rowG_stay {B : Nat} {C : Array Value} {X Y : World} {k : Nat} (h : rowG C X k) (hs : Stay B X Y) (hB : B ≤ k) : rowG C Y k := by
  obtain ⟨h1, h2, h3⟩ := h
  have e := hs.2 k hB h3
  refine ⟨fun i hi => ?_, fun i => ?_, Nat.lt_of_lt_of_le h3 hs.1⟩
  · rw [← h1 i hi]; unfold World.cell?; simp only [e]
  · rw [← h2 i]; unfold World.frozen?; simp only [e]
theorem row_set0 {c0 c1 c2 c3 c4 : Value} (v : Value) {w : World} {k : Nat} (h : rowG #[c0, c1, c2, c3, c4] w k) : rowG #[v, c1, c2, c3, c4] (w.setCell ⟨k, 0, none⟩ v) k := by
  have a0 : w.cell? ⟨k, 0, none⟩ = some c0 := h.1 0 (by simp)
  have a1 : w.cell? ⟨k, 1, none⟩ = some c1 := h.1 1 (by simp)
  have a2 : w.cell? ⟨k, 2, none⟩ = some c2 := h.1 2 (by simp)
  have a3 : w.cell? ⟨k, 3, none⟩ = some c3 := h.1 3 (by simp)
  have a4 : w.cell? ⟨k, 4, none⟩ = some c4 := h.1 4 (by simp)
  refine ⟨?_, ?_, ?_⟩
  · intro i hi
    have hi' : i < 5 := hi
    have hc : i = 0 ∨ i = 1 ∨ i = 2 ∨ i = 3 ∨ i = 4 := by omega
    clear hi hi'
    rcases hc with rfl | rfl | rfl | rfl | rfl <;> go_simp
  · intro i; simp only [World.frozen?_setCell]; exact h.2.1 i
  · simp only [World.size_setCell]; exact h.2.2
theorem cellN_row {n : Int} {c1 c2 c3 c4 : Value} {w : World} {k : Nat} (h : rowG #[.int .u8 n, c1, c2, c3, c4] w k) : cellN w k = n.toNat := by
  have a0 : w.cell? ⟨k, 0, none⟩ = some (.int .u8 n) := h.1 0 (by simp)
  unfold cellN; rw [a0]
set_option maxRecDepth 100000 in
set_option maxHeartbeats 8000000 in
theorem rdg_seq (v q : Nat) (hv : v < 4294967296) (n : Nat) (hn : 1 ≤ n) :
    SeqN n Tryz.prog 114 #[.pointer (some ⟨q, 0, none⟩)] (rdE v) 34 (fun W => W.cell? ⟨q, 0, none⟩ = some (.int .u32 v) ∧ DshOk W) := by
  intro l J Jx W ⟨hq, hT⟩ hJ hJx hY h0
  have hqs : q < W.heap.size := World.block_lt_of_cell? W _ hq
  refine callsIn_of_wp Tryz.func114 rfl trivial ?_
  simp only [Tryz.ntmps114, List.size_toArray, List.length_cons, List.length_nil, Nat.reduceAdd, Nat.reduceSub, Array.replicate_succ, Array.replicate_zero, List.push_toArray, List.append_toArray, List.nil_append, List.cons_append]
  gi_wp2
  obtain ⟨w1, hw1⟩ : ∃ w1, W.drew = w1 := ⟨_, rfl⟩
  have hB : Below W.heap.size W w1 := by rw [← hw1]; exact (Below.refl _ _).drew
  have hq1 := stay hB hq
  have hT1 := hT.of hB
  have hFm := formOf_any v hv
  have hFl := fields_any (formW v) v (formW_le v) hv
  have hE : ∀ k, rdE v k = #[.agg #[.int .u8 ((k : Int) + 1), .int .u8 (fldF (formW v) v 0).rd, .int .u8 (fldF (formW v) v 0).rs1, .int .u8 (fldF (formW v) v 0).rs2, .int .i64 (numW (formW v) v)]] := fun _ => rfl
  generalize (fldF (formW v) v 0).rd = r0 at *
  generalize (fldF (formW v) v 0).rs1 = r1 at *
  generalize (fldF (formW v) v 0).rs2 = r2 at *
  generalize numW (formW v) v = nm at *
  refine wpIn_mono (Q := fun e a w => e = .normal ∧ ∃ kx : Nat, a = ⟨#[.func (.yield l) #[] #[], .pointer (some ⟨q, 0, none⟩), undef, .pointer (some ⟨kx, 0, none⟩), .int .u32 v, .int .u8 (formW v : Nat), .int .u32 v, .agg #[.int .u8 0, .int .u8 r0, .int .u8 r1, .int .u8 r2, .int .i64 nm], undef, undef, undef, undef, undef, undef, undef, undef, undef, undef, undef, undef], []⟩ ∧ Below w1.heap.size w1 w ∧ w1.heap.size ≤ kx ∧ rowG #[.int .u8 0, .int .u8 r0, .int .u8 r1, .int .u8 r2, .int .i64 nm] w kx) (wpIn_wide.2 ?_) ?_
  rotate_left
  · rintro e a w ⟨rfl, kx, rfl, hBe, sx, dx⟩
    try dsimp only
    have hx1 : w1.heap.size = W.heap.size := by rw [← hw1]; rfl
    have hB2 : Below W.heap.size W w := below_trans' hB (Nat.le_refl _) hBe
    have c_0 : w.cell? ⟨kx, 0, none⟩ = some (.int .u8 0) := dx.1 0 (by simp); have z_0 := dx.2.1 0
    have c_1 : w.cell? ⟨kx, 1, none⟩ = some (.int .u8 r0) := dx.1 1 (by simp); have z_1 := dx.2.1 1
    have c_2 : w.cell? ⟨kx, 2, none⟩ = some (.int .u8 r1) := dx.1 2 (by simp); have z_2 := dx.2.1 2
    have c_3 : w.cell? ⟨kx, 3, none⟩ = some (.int .u8 r2) := dx.1 3 (by simp); have z_3 := dx.2.1 3
    have c_4 : w.cell? ⟨kx, 4, none⟩ = some (.int .i64 nm) := dx.1 4 (by simp); have z_4 := dx.2.1 4
    have lx := dx.2.2
    have hJ0 := hJ 0 W w h0 hB2
    clear hFm hFl hq hT hq1 hT1 hB hw1
    gi_wp2
    gi_loopw [] (fun wr => ∃ i : Nat, i ≤ 34 ∧ rowG #[.int .u8 ((i : Int) + 1), .int .u8 r0, .int .u8 r1, .int .u8 r2, .int .i64 nm] wr kx ∧ J i wr ∧ W.heap.size ≤ wr.heap.size) (fun wr => 36 - cellN wr kx)
    case atStart => exact ⟨0, by omega, row_set0 _ dx, hJ 0 w _ hJ0 (sBelow (Below.refl _ _) (by omega)), by simp only [World.size_setCell]; exact hB2.size⟩
    case round =>
      obtain ⟨i, hi, hr, hj, hb⟩ := hrel
      clear c_0 z_0 c_1 z_1 c_2 z_2 c_3 z_3 c_4 z_4 dx lx hJ0 hB2 hBe h0
      have c_0 : wr.cell? ⟨kx, 0, none⟩ = some (.int .u8 ((i : Int) + 1)) := hr.1 0 (by simp); have z_0 := hr.2.1 0
      have c_1 : wr.cell? ⟨kx, 1, none⟩ = some (.int .u8 r0) := hr.1 1 (by simp); have z_1 := hr.2.1 1
      have c_2 : wr.cell? ⟨kx, 2, none⟩ = some (.int .u8 r1) := hr.1 2 (by simp); have z_2 := hr.2.1 2
      have c_3 : wr.cell? ⟨kx, 3, none⟩ = some (.int .u8 r2) := hr.1 3 (by simp); have z_3 := hr.2.1 3
      have c_4 : wr.cell? ⟨kx, 4, none⟩ = some (.int .i64 nm) := hr.1 4 (by simp); have z_4 := hr.2.1 4
      by_cases hlt : i < 34
      · obtain ⟨fn, tmps, assign, body, hy, hR⟩ := hY i wr hj hlt hb
        rw [hE] at hy
        have h34 : (i : Int) + 1 ≤ 34 := by omega
        clear hY
        gi_wp2
        refine hR.mono ?_
        rintro e W3 (⟨rfl, hj3, hs3⟩ | ⟨rfl, hx3⟩)
        · have hr3 := rowG_stay hr hs3 (by omega)
          have hb3 : W.heap.size ≤ W3.heap.size := Nat.le_trans hb hs3.1
          have l3 := hr3.2.2
          have hr4 := row_set0 (.int .u8 ((i : Int) + 1 + 1)) hr3
          have d_0 : W3.cell? ⟨kx, 0, none⟩ = some (.int .u8 ((i : Int) + 1)) := hr3.1 0 (by simp); have y_0 := hr3.2.1 0
          gi_wp2
          go_roundw
          have e4 : (((i + 1 : Nat) : Int) + 1) = (i : Int) + 1 + 1 := by omega
          case rel => exact ⟨i + 1, by omega, by rw [e4]; exact hr4, hJ _ _ _ hj3 (sBelow (Below.refl _ _) (by omega)), by simp only [World.size_setCell]; exact hb3⟩
          case measure => rw [cellN_row hr4, cellN_row hr]; omega
        · gi_wp2
          refine bodyPost_ret (results_none rfl _ _ _) rfl ?_
          exact ⟨⟨_, rfl⟩, .inr hx3⟩
      · obtain rfl : i = 34 := by omega
        gi_wp2
        go_end0
        exact ⟨⟨_, rfl⟩, .inl hj⟩
  refine wp_region_any (by kernel_rfl) ?_
  show wpAny _ _ _ _ _ _ _ (World.drew _)
  rw [hw1]
  clear hw1 hJ hJx hY h0
  refine wpAny_inv (fun fu L a w => ∃ (b0 b1 b2 b3 b4 : Bool) (kx : Nat), fu = 1 + (tg b0 + tg b1 + tg b2 + tg b3 + tg b4) ∧ L = #[b0, b1, b2, b3, b4, false] ∧ a = ⟨#[.func (.yield l) #[] #[], .pointer (some ⟨q, 0, none⟩), undef, (bif b4 then .pointer (some ⟨kx, 0, none⟩) else undef), (bif b0 then .int .u32 v else undef), (bif b1 then .int .u8 (formW v : Nat) else undef), (bif b2 then .int .u32 v else undef), (bif b3 then .agg #[.int .u8 0, .int .u8 r0, .int .u8 r1, .int .u8 r2, .int .i64 nm] else undef), undef, undef, undef, undef, undef, undef, undef, undef, undef, undef, undef, undef], []⟩ ∧ ((b1 = true → b0 = true) ∧ (b3 = true → b1 = true) ∧ (b3 = true → b2 = true)) ∧ Below w1.heap.size w1 w ∧ ((b4 = true → blkG #[.int .u8 0, .int .u8 0, .int .u8 0, .int .u8 0, .int .i64 0] 48 w1 kx w)) ∧ (True)) ?_ _ _ _ _ ⟨false, false, false, false, false, 0, rfl, rfl, rfl, ⟨(by simp), (by simp), (by simp)⟩, Below.refl _ _, (by simp), trivial⟩
  intro fu L a w hI
  obtain ⟨b0, b1, b2, b3, b4, kx, rfl, rfl, rfl, ⟨e0, e1, e2⟩, hBe, a0, _⟩ := hI
  by_cases hall : (b0 = true ∧ b1 = true ∧ b2 = true ∧ b3 = true ∧ b4 = true)
  rotate_left
  · right
    refine ⟨0 + (tg b0 + tg b1 + tg b2 + tg b3 + tg b4), by omega, ?_, ?_⟩
    · intro hr
      have nin : ∀ j, j ∉ Region.ready _ _ _ := fun j hj => by rw [hr] at hj; cases hj
      have t0 : b0 = true := by
        cases b0 with
        | true => rfl
        | false => exact absurd (mem_ready.2 ⟨rfl, _, rfl, by intro e he hb; simp at he; (try (rcases he with rfl | rfl | rfl <;> first | rfl | (simp [Region.binds] at hb))); (try (rcases he with rfl | rfl <;> first | rfl | (simp [Region.binds] at hb))); (try (subst he; first | rfl | (simp [Region.binds] at hb)))⟩) (nin 0)
      subst t0
      have t1 : b1 = true := by
        cases b1 with
        | true => rfl
        | false => exact absurd (mem_ready.2 ⟨rfl, _, rfl, by intro e he hb; simp at he; (try (rcases he with rfl | rfl | rfl <;> first | rfl | (simp [Region.binds] at hb))); (try (rcases he with rfl | rfl <;> first | rfl | (simp [Region.binds] at hb))); (try (subst he; first | rfl | (simp [Region.binds] at hb)))⟩) (nin 1)
      subst t1
      have t2 : b2 = true := by
        cases b2 with
        | true => rfl
        | false => exact absurd (mem_ready.2 ⟨rfl, _, rfl, by intro e he hb; simp at he; (try (rcases he with rfl | rfl | rfl <;> first | rfl | (simp [Region.binds] at hb))); (try (rcases he with rfl | rfl <;> first | rfl | (simp [Region.binds] at hb))); (try (subst he; first | rfl | (simp [Region.binds] at hb)))⟩) (nin 2)
      subst t2
      have t3 : b3 = true := by
        cases b3 with
        | true => rfl
        | false => exact absurd (mem_ready.2 ⟨rfl, _, rfl, by intro e he hb; simp at he; (try (rcases he with rfl | rfl | rfl <;> first | rfl | (simp [Region.binds] at hb))); (try (rcases he with rfl | rfl <;> first | rfl | (simp [Region.binds] at hb))); (try (subst he; first | rfl | (simp [Region.binds] at hb)))⟩) (nin 3)
      subst t3
      have t4 : b4 = true := by
        cases b4 with
        | true => rfl
        | false => exact absurd (mem_ready.2 ⟨rfl, _, rfl, by intro e he hb; simp at he; (try (rcases he with rfl | rfl | rfl <;> first | rfl | (simp [Region.binds] at hb))); (try (rcases he with rfl | rfl <;> first | rfl | (simp [Region.binds] at hb))); (try (subst he; first | rfl | (simp [Region.binds] at hb)))⟩) (nin 4)
      subst t4
      exact hall ⟨rfl, rfl, rfl, rfl, rfl⟩
    · intro i hi
      obtain ⟨h0, o, ho, hd⟩ := mem_ready.1 hi
      have hiN : i < 6 := by simpa using (Array.getElem?_eq_some_iff.1 ho).1
      have hcN : i = 0 ∨ i = 1 ∨ i = 2 ∨ i = 3 ∨ i = 4 ∨ i = 5 := by omega
      clear hi hiN
      rcases hcN with rfl | rfl | rfl | rfl | rfl | rfl
      · simp at ho h0
        subst ho
        simp [Region.binds] at hd
        subst h0
        refine wpOp_step rfl (fun K' hK => ?_)
        have c0 := stay hBe hq1
        go_simp
        exact hK _ _ ⟨true, b1, b2, b3, b4, kx, by simp only [tg_t, tg_f]; omega, rfl, rfl, ⟨(by intro h; first | exact e0 h | rfl), (by intro h; first | exact e1 h | rfl), (by intro h; first | exact e2 h | rfl)⟩, hBe, a0, trivial⟩
      · simp at ho h0
        subst ho
        simp [Region.binds] at hd
        subst h0
        refine wpOp_step rfl (fun K' hK => ?_)
        have g0 : b0 = true := by first | exact hd | exact hd.1 | exact hd.2 | exact hd.2.1 | exact hd.2.2 | exact hd.2.2.1 | exact hd.2.2.2
        clear hd
        subst g0
        go_simp
        go_at_call 116; (with_reducible refine (hFm _).mono ?_); rintro e w3 ⟨rfl, hbc⟩
        exact hK _ _ ⟨true, true, b2, b3, b4, kx, by simp only [tg_t, tg_f]; omega, rfl, rfl, ⟨(by intro h; first | exact e0 h | rfl), (by intro h; first | exact e1 h | rfl), (by intro h; first | exact e2 h | rfl)⟩, (below_trans' hBe (Nat.le_refl _) hbc), (fun h => blkG_of hbc (a0 h)), trivial⟩
      · simp at ho h0
        subst ho
        simp [Region.binds] at hd
        subst h0
        refine wpOp_step rfl (fun K' hK => ?_)
        have c0 := stay hBe hq1
        go_simp
        exact hK _ _ ⟨b0, b1, true, b3, b4, kx, by simp only [tg_t, tg_f]; omega, rfl, rfl, ⟨(by intro h; first | exact e0 h | rfl), (by intro h; first | exact e1 h | rfl), (by intro h; first | exact e2 h | rfl)⟩, hBe, a0, trivial⟩
      · simp at ho h0
        subst ho
        simp [Region.binds] at hd
        subst h0
        refine wpOp_step rfl (fun K' hK => ?_)
        have g1 : b1 = true := by first | exact hd | exact hd.1 | exact hd.2 | exact hd.2.1 | exact hd.2.2 | exact hd.2.2.1 | exact hd.2.2.2
        have g2 : b2 = true := by first | exact hd | exact hd.1 | exact hd.2 | exact hd.2.1 | exact hd.2.2 | exact hd.2.2.1 | exact hd.2.2.2
        clear hd
        subst g1 g2
        obtain rfl := e0 rfl
        go_simp
        go_at_call 115; (with_reducible refine (hFl _ (hT1.of hBe)).mono ?_); rintro e w3 ⟨rfl, hbc⟩
        exact hK _ _ ⟨true, true, true, true, b4, kx, by simp only [tg_t, tg_f]; omega, rfl, rfl, ⟨(by intro h; first | exact e0 h | rfl), (by intro h; first | exact e1 h | rfl), (by intro h; first | exact e2 h | rfl)⟩, (below_trans' hBe (Nat.le_refl _) hbc), (fun h => blkG_of hbc (a0 h)), trivial⟩
      · simp at ho h0
        subst ho
        simp [Region.binds] at hd
        subst h0
        refine wpOp_step rfl (fun K' hK => ?_)
        go_simp
        exact hK _ _ ⟨b0, b1, b2, b3, true, w.heap.size, by simp only [tg_t, tg_f]; omega, rfl, rfl, ⟨(by intro h; first | exact e0 h | rfl), (by intro h; first | exact e1 h | rfl), (by intro h; first | exact e2 h | rfl)⟩, (hBe.alloc hBe.size _), (fun _ => blkG_new _ _ hBe.size), trivial⟩
      · exact (hall (by simp at ho; subst ho; simp [Region.binds] at hd <;> simp_all)).elim
  obtain ⟨rfl, rfl, rfl, rfl, rfl⟩ := hall
  left
  have d0 := a0 rfl
  clear a0 e0 e1 e2
  have c_0 : w.cell? ⟨kx, 0, none⟩ = some (.int .u8 0) := blkG_c d0 0; have z_0 := blkG_fr d0 0
  have c_1 : w.cell? ⟨kx, 1, none⟩ = some (.int .u8 0) := blkG_c d0 1; have z_1 := blkG_fr d0 1
  have c_2 : w.cell? ⟨kx, 2, none⟩ = some (.int .u8 0) := blkG_c d0 2; have z_2 := blkG_fr d0 2
  have c_3 : w.cell? ⟨kx, 3, none⟩ = some (.int .u8 0) := blkG_c d0 3; have z_3 := blkG_fr d0 3
  have c_4 : w.cell? ⟨kx, 4, none⟩ = some (.int .i64 0) := blkG_c d0 4; have z_4 := blkG_fr d0 4
  simp only [tg_t, Nat.add_zero]
  have sx := d0.1
  refine wpAny_ready (rs := [5]) (by kernel_rfl) (by simp) (AllReady.cons rfl (fun K hK => ?_) AllReady.nil)
  go_simp
  refine hK _ _ ?_
  clear hK K
  refine wpAny_done (by kernel_rfl) ?_ _
  refine ⟨rfl, kx, rfl, ?_, sx, ⟨?_, ?_, ?_⟩⟩
  · repeat (first | (with_reducible exact hBe) | (with_reducible refine sBelow ?_ sx))
  · intro i hi
    have hi' : i < 5 := hi
    have hc : i = 0 ∨ i = 1 ∨ i = 2 ∨ i = 3 ∨ i = 4 := by omega
    clear hi hi'
    rcases hc with rfl | rfl | rfl | rfl | rfl <;> go_simp
  · intro i; simp only [World.frozen?_setCell]; exact blkG_fr d0 i
  · simp only [World.size_setCell]; exact blkG_lt d0
end Go.Proofs.YtfaacmcnefbgcaaGreatDoor
