/- Blocks laid in a region that draws its order, of whatever cells. -/
import Derived.Test.YtcckgfablfgknaaGreatDoorQq
import Derived.Test.YtcckgfablfgknaaGreatDoorQs
namespace Go.Proofs.YtcckgfablfgknaaGreatDoor
open Go.ChangeShapes Go.WideShapes Go.ChangeAt Go.RowKit
set_option linter.unusedVariables false
def blkG (C : Array Value) (t : TypeId) (w1 : World) (k : Nat) (w : World) : Prop := w1.heap.size ≤ k ∧ w.heap[k]? = some (.cells C t (0, 0))
theorem blkG_lt {C : Array Value} {t : TypeId} {w1 w : World} {k : Nat} (h : blkG C t w1 k w) : k < w.heap.size := (Array.getElem?_eq_some_iff.1 h.2).1
theorem blkG_alloc {C : Array Value} {t : TypeId} {w1 w : World} {k : Nat} (o : Obj) (h : blkG C t w1 k w) : blkG C t w1 k (w.alloc o) := ⟨h.1, by rw [Below.heap_alloc _ _ _ (blkG_lt h)]; exact h.2⟩
theorem blkG_of {C : Array Value} {t : TypeId} {w1 w w' : World} {k : Nat} (hb : Below w.heap.size w w') (h : blkG C t w1 k w) : blkG C t w1 k w' := ⟨h.1, (hb.block k (blkG_lt h)).trans h.2⟩
theorem blkG_new (C : Array Value) (t : TypeId) {w1 w : World} (h : w1.heap.size ≤ w.heap.size) : blkG C t w1 w.heap.size (w.alloc (.cells C t)) := ⟨h, by show (w.heap.push _)[w.heap.size]? = _; simp⟩
theorem blkG_c {C : Array Value} {t : TypeId} {w1 w : World} {k : Nat} (h : blkG C t w1 k w) (o : Nat) : w.cell? ⟨k, o, none⟩ = C[o]? := by
  unfold World.cell?
  simp only [h.2]
  rfl
theorem blkG_fr {C : Array Value} {t : TypeId} {w1 w : World} {k : Nat} (h : blkG C t w1 k w) (o : Nat) : w.frozen? ⟨k, o, none⟩ = false := by simp [World.frozen?, h.2]
end Go.Proofs.YtcckgfablfgknaaGreatDoor

/- Contract of disas.fields: what its region draws makes no difference. -/
namespace Go.Proofs.YtcckgfablfgknaaGreatDoor
open Go.ChangeShapes Go.WideShapes Go.ChangeAt Go.RowKit
set_option linter.unusedVariables false
theorem sBelow {B : Nat} {a b : World} {k o : Nat} {v : Value} (h : Below B a b) (hk : B ≤ k) : Below B a (b.setCell ⟨k, o, none⟩ v) := h.setCell hk v
def rowG (C : Array Value) (w : World) (k : Nat) : Prop := (∀ i, i < C.size → w.cell? ⟨k, i, none⟩ = C[i]?) ∧ (∀ i, w.frozen? ⟨k, i, none⟩ = false) ∧ k < w.heap.size
theorem res_in {fn : Func} {p : Tmp} (h : fn.results = #[.cell p 68]) (tmps : Array Value) (w : World) (g : Nat) (c0 c1 c2 c3 c4 : Value) (hp : tmps.getD p undef = .pointer (some ⟨g, 0, none⟩))
    (h0 : w.cell? ⟨g, 0, none⟩ = some c0) (h1 : w.cell? ⟨g, 1, none⟩ = some c1) (h2 : w.cell? ⟨g, 2, none⟩ = some c2) (h3 : w.cell? ⟨g, 3, none⟩ = some c3) (h4 : w.cell? ⟨g, 4, none⟩ = some c4) :
    (results fn tmps).run Tryz.prog w = .ok (.agg #[c0, c1, c2, c3, c4]) w := by
  have hp' : tmps[p]?.getD undef = .pointer (some ⟨g, 0, none⟩) := by simpa using hp
  simp [results, h, hp', go_sem, h0, h1, h2, h3, h4]
set_option maxRecDepth 100000 in
set_option maxHeartbeats 8000000 in
theorem fields_any (f v : Nat) (hf : f ≤ 8) (hv : v < 4294967296) (w0 : World) (hT : DshOk w0) :
    Calls Tryz.prog 149 #[.int .u8 f, .int .u32 v] w0 fun e w' => e = .returned (.agg #[.int .u8 0, .int .u8 (fldF f v 0).rd, .int .u8 (fldF f v 0).rs1, .int .u8 (fldF f v 0).rs2, .int .i64 (numW f v)]) ∧ Below w0.heap.size w0 w' := by
  obtain ⟨u0, u1, u2, u3⟩ := hT f (by omega)
  have hi0 : (0 : Int) ≤ (f : Int) := by omega
  have hi9 : (f : Int) < 9 := by omega
  have hgs : 2 < w0.heap.size := World.block_lt_of_cell? w0 _ u0
  have hd := dnum_any f v hf hv
  obtain ⟨r0, hr0⟩ : ∃ r, (fldF f v 0).rd = r := ⟨_, rfl⟩
  obtain ⟨r1, hr1⟩ : ∃ r, (fldF f v 0).rs1 = r := ⟨_, rfl⟩
  obtain ⟨r2, hr2⟩ : ∃ r, (fldF f v 0).rs2 = r := ⟨_, rfl⟩
  rw [hr0, hr1, hr2]
  have e0 : r0 = if rdT f then v / 128 % 32 else 0 := hr0.symm
  have e1 : r1 = if rs1T f then v / 32768 % 32 else 0 := hr1.symm
  have e2 : r2 = if rs2T f then v / 1048576 % 32 else 0 := hr2.symm
  clear hr0 hr1 hr2 hT
  generalize numW f v = nm at *
  generalize rdT f = t0 at *
  generalize rs1T f = t1 at *
  generalize rs2T f = t2 at *
  generalize immT f = t3 at *
  go_enter Tryz.func149, Tryz.ntmps149
  go_wp2
  obtain ⟨g, hg⟩ : ∃ g, w0.heap.size = g := ⟨_, rfl⟩
  obtain ⟨w1, hw1⟩ : ∃ w1, (w0.alloc (.cells #[.int .u8 0, .int .u8 0, .int .u8 0, .int .u8 0, .int .i64 0] 68)).drew = w1 := ⟨_, rfl⟩
  have hB : Below w0.heap.size w0 w1 := by rw [← hw1]; exact ((Below.refl _ _).alloc (Nat.le_refl _) _).drew
  have dg : blkG #[.int .u8 0, .int .u8 0, .int .u8 0, .int .u8 0, .int .i64 0] 68 w0 g w1 := by
    rw [← hw1, ← hg]; exact ⟨Nat.le_refl _, (blkG_new _ _ (Nat.le_refl _)).2⟩
  have q0 := stay hB u0; have q1 := stay hB u1; have q2 := stay hB u2; have q3 := stay hB u3
  have hgs1 : 2 < w1.heap.size := Nat.lt_of_lt_of_le hgs hB.size
  clear u0 u1 u2 u3
  refine wp_mono (Q := fun e a w => e = .normal ∧ ∃ k5 k6 : Nat, a = ⟨#[.int .u8 f, .int .u32 v, undef, undef, .pointer (some ⟨g, 0, none⟩), .pointer (some ⟨k5, 0, none⟩), .pointer (some ⟨k6, 0, none⟩), .int .u8 f, .pointer (some ⟨2, f * 4, none⟩), .agg #[.bool t0, .bool t1, .bool t2, .bool t3], .int .u8 f, .int .u32 v, .int .i64 nm, .agg #[.int .u8 0, .int .u8 0, .int .u8 0, .int .u8 0, .int .i64 nm], undef, undef, undef, undef, undef, undef, undef, undef, undef, undef, undef, undef, undef, undef, undef, undef, undef, undef, undef], []⟩ ∧ Below w1.heap.size w1 w ∧ w1.heap.size ≤ k5 ∧ w1.heap.size ≤ k6 ∧ k5 ≠ k6 ∧ rowG #[.bool t0, .bool t1, .bool t2, .bool t3] w k5 ∧ rowG #[.int .u8 0, .int .u8 0, .int .u8 0, .int .u8 0, .int .i64 nm] w k6) ?_ ?_
  rotate_left
  · rintro e a w ⟨rfl, k5, k6, rfl, hBe, s5, s6, ne, d5, d6⟩
    dsimp only
    have dgw := blkG_of hBe dg
    have hB2 : Below w0.heap.size w0 w := below_trans' hB (Nat.le_refl _) hBe
    have c5_0 : w.cell? ⟨k5, 0, none⟩ = some (.bool t0) := d5.1 0 (by simp)
    have c5_1 : w.cell? ⟨k5, 1, none⟩ = some (.bool t1) := d5.1 1 (by simp)
    have c5_2 : w.cell? ⟨k5, 2, none⟩ = some (.bool t2) := d5.1 2 (by simp)
    have c5_3 : w.cell? ⟨k5, 3, none⟩ = some (.bool t3) := d5.1 3 (by simp)
    have c6_0 : w.cell? ⟨k6, 0, none⟩ = some (.int .u8 0) := d6.1 0 (by simp); have z6_0 := d6.2.1 0; have cg_0 : w.cell? ⟨g, 0, none⟩ = some (.int .u8 0) := blkG_c dgw 0; have zg_0 := blkG_fr dgw 0
    have c6_1 : w.cell? ⟨k6, 1, none⟩ = some (.int .u8 0) := d6.1 1 (by simp); have z6_1 := d6.2.1 1; have cg_1 : w.cell? ⟨g, 1, none⟩ = some (.int .u8 0) := blkG_c dgw 1; have zg_1 := blkG_fr dgw 1
    have c6_2 : w.cell? ⟨k6, 2, none⟩ = some (.int .u8 0) := d6.1 2 (by simp); have z6_2 := d6.2.1 2; have cg_2 : w.cell? ⟨g, 2, none⟩ = some (.int .u8 0) := blkG_c dgw 2; have zg_2 := blkG_fr dgw 2
    have c6_3 : w.cell? ⟨k6, 3, none⟩ = some (.int .u8 0) := d6.1 3 (by simp); have z6_3 := d6.2.1 3; have cg_3 : w.cell? ⟨g, 3, none⟩ = some (.int .u8 0) := blkG_c dgw 3; have zg_3 := blkG_fr dgw 3
    have c6_4 : w.cell? ⟨k6, 4, none⟩ = some (.int .i64 nm) := d6.1 4 (by simp); have z6_4 := d6.2.1 4; have cg_4 : w.cell? ⟨g, 4, none⟩ = some (.int .i64 0) := blkG_c dgw 4; have zg_4 := blkG_fr dgw 4
    have l5 := d5.2.2; have l6 := d6.2.2; have lg := blkG_lt dgw
    have lg1 := blkG_lt dg
    have ne' := ne.symm; have g5 : g ≠ k5 := (by omega); have g6 : g ≠ k6 := (by omega); have g5' := g5.symm; have g6' := g6.symm
    clear d5 d6 dgw dg hw1 hBe q0 q1 q2 q3 hB
    skip
    have hb0 : ∀ w, Calls Tryz.prog 160 #[.int .u32 v, .int .i64 7, .int .i64 5] w fun e w' => e = .returned (.int .u32 (v / 128 % 32 : Nat)) ∧ ∃ k, w' = w.drewN k := fun w => by have h := dbits_any v 7 5 hv (by omega) (by omega) w; rw [show v / 2 ^ 7 % 2 ^ 5 = v / 128 % 32 by simp] at h; exact h
    have hb1 : ∀ w, Calls Tryz.prog 160 #[.int .u32 v, .int .i64 15, .int .i64 5] w fun e w' => e = .returned (.int .u32 (v / 32768 % 32 : Nat)) ∧ ∃ k, w' = w.drewN k := fun w => by have h := dbits_any v 15 5 hv (by omega) (by omega) w; rw [show v / 2 ^ 15 % 2 ^ 5 = v / 32768 % 32 by simp] at h; exact h
    have hb2 : ∀ w, Calls Tryz.prog 160 #[.int .u32 v, .int .i64 20, .int .i64 5] w fun e w' => e = .returned (.int .u32 (v / 1048576 % 32 : Nat)) ∧ ∃ k, w' = w.drewN k := fun w => by have h := dbits_any v 20 5 hv (by omega) (by omega) w; rw [show v / 2 ^ 20 % 2 ^ 5 = v / 1048576 % 32 by simp] at h; exact h
    have y0 : v / 128 % 32 < 32 := by omega
    have y1 : v / 32768 % 32 < 32 := by omega
    have y2 : v / 1048576 % 32 < 32 := by omega
    generalize v / 128 % 32 = x0 at *
    generalize v / 32768 % 32 = x1 at *
    generalize v / 1048576 % 32 = x2 at *
    cases t0 <;> cases t1 <;> cases t2
    · clear hd hi0 hi9 hgs hgs1
      obtain rfl : r0 = 0 := by simpa using e0
      obtain rfl : r1 = 0 := by simpa using e1
      obtain rfl : r2 = 0 := by simpa using e2
      clear e0 e1 e2
      go_wp2_with (go_at_call 160; first | ((with_reducible refine (hb0 _).mono ?_); rintro e w4 ⟨rfl, n4, rfl⟩) | ((with_reducible refine (hb1 _).mono ?_); rintro e w5 ⟨rfl, n5, rfl⟩) | ((with_reducible refine (hb2 _).mono ?_); rintro e w6 ⟨rfl, n6, rfl⟩))
      refine bodyPost_ret (res_in rfl _ _ g (.int .u8 0) (.int .u8 0) (.int .u8 0) (.int .u8 0) (.int .i64 nm) rfl ?_ ?_ ?_ ?_ ?_) rfl ⟨rfl, ?_⟩
      · go_simp
      · go_simp
      · go_simp
      · go_simp
      · go_simp
      · subst hg
        repeat (first | (with_reducible exact hB2) | (with_reducible refine sBelow ?_ (by first | exact Nat.le_refl _ | omega)) | (with_reducible refine bdN ?_ _))
    · clear hd hi0 hi9 hgs hgs1
      obtain rfl : r0 = 0 := by simpa using e0
      obtain rfl : r1 = 0 := by simpa using e1
      obtain rfl : r2 = x2 := by simpa using e2
      clear e0 e1 e2
      go_wp2_with (go_at_call 160; first | ((with_reducible refine (hb0 _).mono ?_); rintro e w4 ⟨rfl, n4, rfl⟩) | ((with_reducible refine (hb1 _).mono ?_); rintro e w5 ⟨rfl, n5, rfl⟩) | ((with_reducible refine (hb2 _).mono ?_); rintro e w6 ⟨rfl, n6, rfl⟩))
      refine bodyPost_ret (res_in rfl _ _ g (.int .u8 0) (.int .u8 0) (.int .u8 0) (.int .u8 r2) (.int .i64 nm) rfl ?_ ?_ ?_ ?_ ?_) rfl ⟨rfl, ?_⟩
      · go_simp
      · go_simp
      · go_simp
      · go_simp
      · go_simp
      · subst hg
        repeat (first | (with_reducible exact hB2) | (with_reducible refine sBelow ?_ (by first | exact Nat.le_refl _ | omega)) | (with_reducible refine bdN ?_ _))
    · clear hd hi0 hi9 hgs hgs1
      obtain rfl : r0 = 0 := by simpa using e0
      obtain rfl : r1 = x1 := by simpa using e1
      obtain rfl : r2 = 0 := by simpa using e2
      clear e0 e1 e2
      go_wp2_with (go_at_call 160; first | ((with_reducible refine (hb0 _).mono ?_); rintro e w4 ⟨rfl, n4, rfl⟩) | ((with_reducible refine (hb1 _).mono ?_); rintro e w5 ⟨rfl, n5, rfl⟩) | ((with_reducible refine (hb2 _).mono ?_); rintro e w6 ⟨rfl, n6, rfl⟩))
      refine bodyPost_ret (res_in rfl _ _ g (.int .u8 0) (.int .u8 0) (.int .u8 r1) (.int .u8 0) (.int .i64 nm) rfl ?_ ?_ ?_ ?_ ?_) rfl ⟨rfl, ?_⟩
      · go_simp
      · go_simp
      · go_simp
      · go_simp
      · go_simp
      · subst hg
        repeat (first | (with_reducible exact hB2) | (with_reducible refine sBelow ?_ (by first | exact Nat.le_refl _ | omega)) | (with_reducible refine bdN ?_ _))
    · clear hd hi0 hi9 hgs hgs1
      obtain rfl : r0 = 0 := by simpa using e0
      obtain rfl : r1 = x1 := by simpa using e1
      obtain rfl : r2 = x2 := by simpa using e2
      clear e0 e1 e2
      go_wp2_with (go_at_call 160; first | ((with_reducible refine (hb0 _).mono ?_); rintro e w4 ⟨rfl, n4, rfl⟩) | ((with_reducible refine (hb1 _).mono ?_); rintro e w5 ⟨rfl, n5, rfl⟩) | ((with_reducible refine (hb2 _).mono ?_); rintro e w6 ⟨rfl, n6, rfl⟩))
      refine bodyPost_ret (res_in rfl _ _ g (.int .u8 0) (.int .u8 0) (.int .u8 r1) (.int .u8 r2) (.int .i64 nm) rfl ?_ ?_ ?_ ?_ ?_) rfl ⟨rfl, ?_⟩
      · go_simp
      · go_simp
      · go_simp
      · go_simp
      · go_simp
      · subst hg
        repeat (first | (with_reducible exact hB2) | (with_reducible refine sBelow ?_ (by first | exact Nat.le_refl _ | omega)) | (with_reducible refine bdN ?_ _))
    · clear hd hi0 hi9 hgs hgs1
      obtain rfl : r0 = x0 := by simpa using e0
      obtain rfl : r1 = 0 := by simpa using e1
      obtain rfl : r2 = 0 := by simpa using e2
      clear e0 e1 e2
      go_wp2_with (go_at_call 160; first | ((with_reducible refine (hb0 _).mono ?_); rintro e w4 ⟨rfl, n4, rfl⟩) | ((with_reducible refine (hb1 _).mono ?_); rintro e w5 ⟨rfl, n5, rfl⟩) | ((with_reducible refine (hb2 _).mono ?_); rintro e w6 ⟨rfl, n6, rfl⟩))
      refine bodyPost_ret (res_in rfl _ _ g (.int .u8 0) (.int .u8 r0) (.int .u8 0) (.int .u8 0) (.int .i64 nm) rfl ?_ ?_ ?_ ?_ ?_) rfl ⟨rfl, ?_⟩
      · go_simp
      · go_simp
      · go_simp
      · go_simp
      · go_simp
      · subst hg
        repeat (first | (with_reducible exact hB2) | (with_reducible refine sBelow ?_ (by first | exact Nat.le_refl _ | omega)) | (with_reducible refine bdN ?_ _))
    · clear hd hi0 hi9 hgs hgs1
      obtain rfl : r0 = x0 := by simpa using e0
      obtain rfl : r1 = 0 := by simpa using e1
      obtain rfl : r2 = x2 := by simpa using e2
      clear e0 e1 e2
      go_wp2_with (go_at_call 160; first | ((with_reducible refine (hb0 _).mono ?_); rintro e w4 ⟨rfl, n4, rfl⟩) | ((with_reducible refine (hb1 _).mono ?_); rintro e w5 ⟨rfl, n5, rfl⟩) | ((with_reducible refine (hb2 _).mono ?_); rintro e w6 ⟨rfl, n6, rfl⟩))
      refine bodyPost_ret (res_in rfl _ _ g (.int .u8 0) (.int .u8 r0) (.int .u8 0) (.int .u8 r2) (.int .i64 nm) rfl ?_ ?_ ?_ ?_ ?_) rfl ⟨rfl, ?_⟩
      · go_simp
      · go_simp
      · go_simp
      · go_simp
      · go_simp
      · subst hg
        repeat (first | (with_reducible exact hB2) | (with_reducible refine sBelow ?_ (by first | exact Nat.le_refl _ | omega)) | (with_reducible refine bdN ?_ _))
    · clear hd hi0 hi9 hgs hgs1
      obtain rfl : r0 = x0 := by simpa using e0
      obtain rfl : r1 = x1 := by simpa using e1
      obtain rfl : r2 = 0 := by simpa using e2
      clear e0 e1 e2
      go_wp2_with (go_at_call 160; first | ((with_reducible refine (hb0 _).mono ?_); rintro e w4 ⟨rfl, n4, rfl⟩) | ((with_reducible refine (hb1 _).mono ?_); rintro e w5 ⟨rfl, n5, rfl⟩) | ((with_reducible refine (hb2 _).mono ?_); rintro e w6 ⟨rfl, n6, rfl⟩))
      refine bodyPost_ret (res_in rfl _ _ g (.int .u8 0) (.int .u8 r0) (.int .u8 r1) (.int .u8 0) (.int .i64 nm) rfl ?_ ?_ ?_ ?_ ?_) rfl ⟨rfl, ?_⟩
      · go_simp
      · go_simp
      · go_simp
      · go_simp
      · go_simp
      · subst hg
        repeat (first | (with_reducible exact hB2) | (with_reducible refine sBelow ?_ (by first | exact Nat.le_refl _ | omega)) | (with_reducible refine bdN ?_ _))
    · clear hd hi0 hi9 hgs hgs1
      obtain rfl : r0 = x0 := by simpa using e0
      obtain rfl : r1 = x1 := by simpa using e1
      obtain rfl : r2 = x2 := by simpa using e2
      clear e0 e1 e2
      go_wp2_with (go_at_call 160; first | ((with_reducible refine (hb0 _).mono ?_); rintro e w4 ⟨rfl, n4, rfl⟩) | ((with_reducible refine (hb1 _).mono ?_); rintro e w5 ⟨rfl, n5, rfl⟩) | ((with_reducible refine (hb2 _).mono ?_); rintro e w6 ⟨rfl, n6, rfl⟩))
      refine bodyPost_ret (res_in rfl _ _ g (.int .u8 0) (.int .u8 r0) (.int .u8 r1) (.int .u8 r2) (.int .i64 nm) rfl ?_ ?_ ?_ ?_ ?_) rfl ⟨rfl, ?_⟩
      · go_simp
      · go_simp
      · go_simp
      · go_simp
      · go_simp
      · subst hg
        repeat (first | (with_reducible exact hB2) | (with_reducible refine sBelow ?_ (by first | exact Nat.le_refl _ | omega)) | (with_reducible refine bdN ?_ _))
  refine wp_region_any (by kernel_rfl) ?_
  show wpAny _ _ _ _ _ _ _ (World.drew _)
  rw [hw1]
  try simp only [hg]
  clear hw1 e0 e1 e2
  refine wpAny_inv (fun fu L a w => ∃ (b0 b1 b2 b3 b4 b5 b6 b7 b8 : Bool) (k5 k6 : Nat), fu = 2 + (tg b0 + tg b1 + tg b2 + tg b3 + tg b4 + tg b5 + tg b6 + tg b7 + tg b8) ∧ L = #[b0, b1, b2, b3, b4, b5, b6, b7, b8, false, false] ∧ a = ⟨#[.int .u8 f, .int .u32 v, undef, undef, .pointer (some ⟨g, 0, none⟩), (bif b7 then .pointer (some ⟨k5, 0, none⟩) else undef), (bif b8 then .pointer (some ⟨k6, 0, none⟩) else undef), (bif b0 then .int .u8 f else undef), (bif b1 then .pointer (some ⟨2, f * 4, none⟩) else undef), (bif b2 then .agg #[.bool t0, .bool t1, .bool t2, .bool t3] else undef), (bif b3 then .int .u8 f else undef), (bif b4 then .int .u32 v else undef), (bif b5 then .int .i64 nm else undef), (bif b6 then .agg #[.int .u8 0, .int .u8 0, .int .u8 0, .int .u8 0, .int .i64 nm] else undef), undef, undef, undef, undef, undef, undef, undef, undef, undef, undef, undef, undef, undef, undef, undef, undef, undef, undef, undef], []⟩ ∧ ((b1 = true → b0 = true) ∧ (b2 = true → b1 = true) ∧ (b5 = true → b3 = true) ∧ (b5 = true → b4 = true) ∧ (b6 = true → b5 = true)) ∧ Below w1.heap.size w1 w ∧ ((b7 = true → blkG #[.bool false, .bool false, .bool false, .bool false] 208 w1 k5 w) ∧ (b8 = true → blkG #[.int .u8 0, .int .u8 0, .int .u8 0, .int .u8 0, .int .i64 0] 68 w1 k6 w)) ∧ ((b7 = true → b8 = true → k5 ≠ k6))) ?_ _ _ _ _ ⟨false, false, false, false, false, false, false, false, false, 0, 0, rfl, rfl, rfl, ⟨(by simp), (by simp), (by simp), (by simp), (by simp)⟩, Below.refl _ _, ⟨(by simp), (by simp)⟩, (by simp)⟩
  intro fu L a w hI
  obtain ⟨b0, b1, b2, b3, b4, b5, b6, b7, b8, k5, k6, rfl, rfl, rfl, ⟨e0, e1, e2, e3, e4⟩, hBe, ⟨a0, a1⟩, n0⟩ := hI
  by_cases hall : (b0 = true ∧ b1 = true ∧ b2 = true ∧ b3 = true ∧ b4 = true ∧ b5 = true ∧ b7 = true ∧ b8 = true)
  rotate_left
  · right
    refine ⟨1 + (tg b0 + tg b1 + tg b2 + tg b3 + tg b4 + tg b5 + tg b6 + tg b7 + tg b8), by omega, ?_, ?_⟩
    · intro hr
      have nin : ∀ j, j ∉ Region.ready _ _ _ := fun j hj => by rw [hr] at hj; cases hj
      have t0 : b0 = true := by
        cases b0 with
        | true => rfl
        | false => exact absurd (mem_ready.2 ⟨rfl, _, rfl, by intro e he hb; simp at he; (try (rcases he with rfl | rfl | rfl <;> first | rfl | (simp [Region.binds] at hb))); (try (rcases he with rfl | rfl <;> first | rfl | (simp [Region.binds] at hb))); (try (subst he; first | rfl | (simp [Region.binds] at hb)))⟩) (nin 0)
      subst t0
      have t1 : b1 = true := by
        cases b1 with
        | true => rfl
        | false => exact absurd (mem_ready.2 ⟨rfl, _, rfl, by intro e he hb; simp at he; (try (rcases he with rfl | rfl | rfl <;> first | rfl | (simp [Region.binds] at hb))); (try (rcases he with rfl | rfl <;> first | rfl | (simp [Region.binds] at hb))); (try (subst he; first | rfl | (simp [Region.binds] at hb)))⟩) (nin 1)
      subst t1
      have t2 : b2 = true := by
        cases b2 with
        | true => rfl
        | false => exact absurd (mem_ready.2 ⟨rfl, _, rfl, by intro e he hb; simp at he; (try (rcases he with rfl | rfl | rfl <;> first | rfl | (simp [Region.binds] at hb))); (try (rcases he with rfl | rfl <;> first | rfl | (simp [Region.binds] at hb))); (try (subst he; first | rfl | (simp [Region.binds] at hb)))⟩) (nin 2)
      subst t2
      have t3 : b3 = true := by
        cases b3 with
        | true => rfl
        | false => exact absurd (mem_ready.2 ⟨rfl, _, rfl, by intro e he hb; simp at he; (try (rcases he with rfl | rfl | rfl <;> first | rfl | (simp [Region.binds] at hb))); (try (rcases he with rfl | rfl <;> first | rfl | (simp [Region.binds] at hb))); (try (subst he; first | rfl | (simp [Region.binds] at hb)))⟩) (nin 3)
      subst t3
      have t4 : b4 = true := by
        cases b4 with
        | true => rfl
        | false => exact absurd (mem_ready.2 ⟨rfl, _, rfl, by intro e he hb; simp at he; (try (rcases he with rfl | rfl | rfl <;> first | rfl | (simp [Region.binds] at hb))); (try (rcases he with rfl | rfl <;> first | rfl | (simp [Region.binds] at hb))); (try (subst he; first | rfl | (simp [Region.binds] at hb)))⟩) (nin 4)
      subst t4
      have t5 : b5 = true := by
        cases b5 with
        | true => rfl
        | false => exact absurd (mem_ready.2 ⟨rfl, _, rfl, by intro e he hb; simp at he; (try (rcases he with rfl | rfl | rfl <;> first | rfl | (simp [Region.binds] at hb))); (try (rcases he with rfl | rfl <;> first | rfl | (simp [Region.binds] at hb))); (try (subst he; first | rfl | (simp [Region.binds] at hb)))⟩) (nin 5)
      subst t5
      have t6 : b6 = true := by
        cases b6 with
        | true => rfl
        | false => exact absurd (mem_ready.2 ⟨rfl, _, rfl, by intro e he hb; simp at he; (try (rcases he with rfl | rfl | rfl <;> first | rfl | (simp [Region.binds] at hb))); (try (rcases he with rfl | rfl <;> first | rfl | (simp [Region.binds] at hb))); (try (subst he; first | rfl | (simp [Region.binds] at hb)))⟩) (nin 6)
      subst t6
      have t7 : b7 = true := by
        cases b7 with
        | true => rfl
        | false => exact absurd (mem_ready.2 ⟨rfl, _, rfl, by intro e he hb; simp at he; (try (rcases he with rfl | rfl | rfl <;> first | rfl | (simp [Region.binds] at hb))); (try (rcases he with rfl | rfl <;> first | rfl | (simp [Region.binds] at hb))); (try (subst he; first | rfl | (simp [Region.binds] at hb)))⟩) (nin 7)
      subst t7
      have t8 : b8 = true := by
        cases b8 with
        | true => rfl
        | false => exact absurd (mem_ready.2 ⟨rfl, _, rfl, by intro e he hb; simp at he; (try (rcases he with rfl | rfl | rfl <;> first | rfl | (simp [Region.binds] at hb))); (try (rcases he with rfl | rfl <;> first | rfl | (simp [Region.binds] at hb))); (try (subst he; first | rfl | (simp [Region.binds] at hb)))⟩) (nin 8)
      subst t8
      exact hall ⟨rfl, rfl, rfl, rfl, rfl, rfl, rfl, rfl⟩
    · intro i hi
      obtain ⟨h0, o, ho, hd⟩ := mem_ready.1 hi
      have hiN : i < 11 := by simpa using (Array.getElem?_eq_some_iff.1 ho).1
      have hcN : i = 0 ∨ i = 1 ∨ i = 2 ∨ i = 3 ∨ i = 4 ∨ i = 5 ∨ i = 6 ∨ i = 7 ∨ i = 8 ∨ i = 9 ∨ i = 10 := by omega
      clear hi hiN
      rcases hcN with rfl | rfl | rfl | rfl | rfl | rfl | rfl | rfl | rfl | rfl | rfl
      · simp at ho h0
        subst ho
        simp [Region.binds] at hd
        subst h0
        refine wpOp_step rfl (fun K' hK => ?_)
        go_simp
        exact hK _ _ ⟨true, b1, b2, b3, b4, b5, b6, b7, b8, k5, k6, by simp only [tg_t, tg_f]; omega, rfl, rfl, ⟨(by intro h; first | exact e0 h | rfl), (by intro h; first | exact e1 h | rfl), (by intro h; first | exact e2 h | rfl), (by intro h; first | exact e3 h | rfl), (by intro h; first | exact e4 h | rfl)⟩, hBe, ⟨a0, a1⟩, n0⟩
      · simp at ho h0
        subst ho
        simp [Region.binds] at hd
        subst h0
        refine wpOp_step rfl (fun K' hK => ?_)
        subst hd
        go_simp
        exact hK _ _ ⟨true, true, b2, b3, b4, b5, b6, b7, b8, k5, k6, by simp only [tg_t, tg_f]; omega, rfl, rfl, ⟨(by intro h; first | exact e0 h | rfl), (by intro h; first | exact e1 h | rfl), (by intro h; first | exact e2 h | rfl), (by intro h; first | exact e3 h | rfl), (by intro h; first | exact e4 h | rfl)⟩, hBe, ⟨a0, a1⟩, n0⟩
      · simp at ho h0
        subst ho
        simp [Region.binds] at hd
        subst h0
        refine wpOp_step rfl (fun K' hK => ?_)
        subst hd
        obtain rfl := e0 rfl
        have c0 := stay hBe q0; have c1 := stay hBe q1; have c2 := stay hBe q2; have c3 := stay hBe q3
        go_simp
        exact hK _ _ ⟨true, true, true, b3, b4, b5, b6, b7, b8, k5, k6, by simp only [tg_t, tg_f]; omega, rfl, rfl, ⟨(by intro h; first | exact e0 h | rfl), (by intro h; first | exact e1 h | rfl), (by intro h; first | exact e2 h | rfl), (by intro h; first | exact e3 h | rfl), (by intro h; first | exact e4 h | rfl)⟩, hBe, ⟨a0, a1⟩, n0⟩
      · simp at ho h0
        subst ho
        simp [Region.binds] at hd
        subst h0
        refine wpOp_step rfl (fun K' hK => ?_)
        go_simp
        exact hK _ _ ⟨b0, b1, b2, true, b4, b5, b6, b7, b8, k5, k6, by simp only [tg_t, tg_f]; omega, rfl, rfl, ⟨(by intro h; first | exact e0 h | rfl), (by intro h; first | exact e1 h | rfl), (by intro h; first | exact e2 h | rfl), (by intro h; first | exact e3 h | rfl), (by intro h; first | exact e4 h | rfl)⟩, hBe, ⟨a0, a1⟩, n0⟩
      · simp at ho h0
        subst ho
        simp [Region.binds] at hd
        subst h0
        refine wpOp_step rfl (fun K' hK => ?_)
        go_simp
        exact hK _ _ ⟨b0, b1, b2, b3, true, b5, b6, b7, b8, k5, k6, by simp only [tg_t, tg_f]; omega, rfl, rfl, ⟨(by intro h; first | exact e0 h | rfl), (by intro h; first | exact e1 h | rfl), (by intro h; first | exact e2 h | rfl), (by intro h; first | exact e3 h | rfl), (by intro h; first | exact e4 h | rfl)⟩, hBe, ⟨a0, a1⟩, n0⟩
      · simp at ho h0
        subst ho
        simp [Region.binds] at hd
        subst h0
        refine wpOp_step rfl (fun K' hK => ?_)
        obtain ⟨rfl, rfl⟩ := hd
        go_simp
        go_at_call 159; (with_reducible refine (hd _).mono ?_); rintro e w3 ⟨rfl, hbc⟩
        exact hK _ _ ⟨b0, b1, b2, true, true, true, b6, b7, b8, k5, k6, by simp only [tg_t, tg_f]; omega, rfl, rfl, ⟨(by intro h; first | exact e0 h | rfl), (by intro h; first | exact e1 h | rfl), (by intro h; first | exact e2 h | rfl), (by intro h; first | exact e3 h | rfl), (by intro h; first | exact e4 h | rfl)⟩, (below_trans' hBe (Nat.le_refl _) hbc), ⟨(fun h => blkG_of hbc (a0 h)), (fun h => blkG_of hbc (a1 h))⟩, n0⟩
      · simp at ho h0
        subst ho
        simp [Region.binds] at hd
        subst h0
        refine wpOp_step rfl (fun K' hK => ?_)
        subst hd
        obtain rfl := e2 rfl
        obtain rfl := e3 rfl
        go_simp
        exact hK _ _ ⟨b0, b1, b2, true, true, true, true, b7, b8, k5, k6, by simp only [tg_t, tg_f]; omega, rfl, rfl, ⟨(by intro h; first | exact e0 h | rfl), (by intro h; first | exact e1 h | rfl), (by intro h; first | exact e2 h | rfl), (by intro h; first | exact e3 h | rfl), (by intro h; first | exact e4 h | rfl)⟩, hBe, ⟨a0, a1⟩, n0⟩
      · simp at ho h0
        subst ho
        simp [Region.binds] at hd
        subst h0
        refine wpOp_step rfl (fun K' hK => ?_)
        go_simp
        exact hK _ _ ⟨b0, b1, b2, b3, b4, b5, b6, true, b8, w.heap.size, k6, by simp only [tg_t, tg_f]; omega, rfl, rfl, ⟨(by intro h; first | exact e0 h | rfl), (by intro h; first | exact e1 h | rfl), (by intro h; first | exact e2 h | rfl), (by intro h; first | exact e3 h | rfl), (by intro h; first | exact e4 h | rfl)⟩, (hBe.alloc hBe.size _), ⟨(fun _ => blkG_new _ _ hBe.size), (fun h => blkG_alloc _ (a1 h))⟩, (fun _ h => Nat.ne_of_gt (blkG_lt (a1 h)))⟩
      · simp at ho h0
        subst ho
        simp [Region.binds] at hd
        subst h0
        refine wpOp_step rfl (fun K' hK => ?_)
        go_simp
        exact hK _ _ ⟨b0, b1, b2, b3, b4, b5, b6, b7, true, k5, w.heap.size, by simp only [tg_t, tg_f]; omega, rfl, rfl, ⟨(by intro h; first | exact e0 h | rfl), (by intro h; first | exact e1 h | rfl), (by intro h; first | exact e2 h | rfl), (by intro h; first | exact e3 h | rfl), (by intro h; first | exact e4 h | rfl)⟩, (hBe.alloc hBe.size _), ⟨(fun h => blkG_alloc _ (a0 h)), (fun _ => blkG_new _ _ hBe.size)⟩, (fun h _ => Nat.ne_of_lt (blkG_lt (a0 h)))⟩
      · exact (hall (by simp at ho; subst ho; simp [Region.binds] at hd <;> simp_all)).elim
      · exact (hall (by simp at ho; subst ho; simp [Region.binds] at hd <;> simp_all)).elim
  obtain ⟨rfl, rfl, rfl, rfl, rfl, rfl, rfl, rfl⟩ := hall
  left
  have d0 := a0 rfl
  have d1 := a1 rfl
  have m0 := n0 rfl rfl; have m0s := m0.symm
  clear a0 a1 n0 e0 e1 e2 e3 e4
  have s5 := d0.1; have s6 := d1.1
  have c5_0 : w.cell? ⟨k5, 0, none⟩ = some (.bool false) := blkG_c d0 0; have z5_0 := blkG_fr d0 0
  have c5_1 : w.cell? ⟨k5, 1, none⟩ = some (.bool false) := blkG_c d0 1; have z5_1 := blkG_fr d0 1
  have c5_2 : w.cell? ⟨k5, 2, none⟩ = some (.bool false) := blkG_c d0 2; have z5_2 := blkG_fr d0 2
  have c5_3 : w.cell? ⟨k5, 3, none⟩ = some (.bool false) := blkG_c d0 3; have z5_3 := blkG_fr d0 3
  have c6_0 : w.cell? ⟨k6, 0, none⟩ = some (.int .u8 0) := blkG_c d1 0; have z6_0 := blkG_fr d1 0
  have c6_1 : w.cell? ⟨k6, 1, none⟩ = some (.int .u8 0) := blkG_c d1 1; have z6_1 := blkG_fr d1 1
  have c6_2 : w.cell? ⟨k6, 2, none⟩ = some (.int .u8 0) := blkG_c d1 2; have z6_2 := blkG_fr d1 2
  have c6_3 : w.cell? ⟨k6, 3, none⟩ = some (.int .u8 0) := blkG_c d1 3; have z6_3 := blkG_fr d1 3
  have c6_4 : w.cell? ⟨k6, 4, none⟩ = some (.int .i64 0) := blkG_c d1 4; have z6_4 := blkG_fr d1 4
  cases b6
  · simp only [tg_t, tg_f, Nat.add_zero]
    refine wpAny_ready (rs := [6, 9]) (by kernel_rfl) (by simp) (AllReady.cons rfl (fun K hK => ?_) (AllReady.cons rfl (fun K hK => ?_) AllReady.nil))
    · go_simp
      refine hK _ _ ?_
      clear hK K
      refine wpAny_ready (rs := [9]) (by kernel_rfl) (by simp) (AllReady.cons rfl (fun K hK => ?_) AllReady.nil)
      go_simp
      refine hK _ _ ?_
      clear hK K
      refine wpAny_ready (rs := [10]) (by kernel_rfl) (by simp) (AllReady.cons rfl (fun K hK => ?_) AllReady.nil)
      go_simp
      refine hK _ _ ?_
      clear hK K
      refine wpAny_done (by kernel_rfl) ?_ _
      refine ⟨rfl, k5, k6, rfl, ?_, s5, s6, m0, ⟨?_, ?_, ?_⟩, ⟨?_, ?_, ?_⟩⟩
      · repeat (first | (with_reducible exact hBe) | (with_reducible refine sBelow ?_ (by first | exact s5 | exact s6)))
      · intro i hi
        have hi' : i < 4 := hi
        have hc : i = 0 ∨ i = 1 ∨ i = 2 ∨ i = 3 := by omega
        clear hi hi'
        rcases hc with rfl | rfl | rfl | rfl <;> go_simp
      · intro i; simp only [World.frozen?_setCell]; first | exact blkG_fr d0 i
      · simp only [World.size_setCell]; exact blkG_lt d0
      · intro i hi
        have hi' : i < 5 := hi
        have hc : i = 0 ∨ i = 1 ∨ i = 2 ∨ i = 3 ∨ i = 4 := by omega
        clear hi hi'
        rcases hc with rfl | rfl | rfl | rfl | rfl <;> go_simp
      · intro i; simp only [World.frozen?_setCell]; first | exact blkG_fr d1 i
      · simp only [World.size_setCell]; exact blkG_lt d1
    · go_simp
      refine hK _ _ ?_
      clear hK K
      refine wpAny_ready (rs := [6]) (by kernel_rfl) (by simp) (AllReady.cons rfl (fun K hK => ?_) AllReady.nil)
      go_simp
      refine hK _ _ ?_
      clear hK K
      refine wpAny_ready (rs := [10]) (by kernel_rfl) (by simp) (AllReady.cons rfl (fun K hK => ?_) AllReady.nil)
      go_simp
      refine hK _ _ ?_
      clear hK K
      refine wpAny_done (by kernel_rfl) ?_ _
      refine ⟨rfl, k5, k6, rfl, ?_, s5, s6, m0, ⟨?_, ?_, ?_⟩, ⟨?_, ?_, ?_⟩⟩
      · repeat (first | (with_reducible exact hBe) | (with_reducible refine sBelow ?_ (by first | exact s5 | exact s6)))
      · intro i hi
        have hi' : i < 4 := hi
        have hc : i = 0 ∨ i = 1 ∨ i = 2 ∨ i = 3 := by omega
        clear hi hi'
        rcases hc with rfl | rfl | rfl | rfl <;> go_simp
      · intro i; simp only [World.frozen?_setCell]; first | exact blkG_fr d0 i
      · simp only [World.size_setCell]; exact blkG_lt d0
      · intro i hi
        have hi' : i < 5 := hi
        have hc : i = 0 ∨ i = 1 ∨ i = 2 ∨ i = 3 ∨ i = 4 := by omega
        clear hi hi'
        rcases hc with rfl | rfl | rfl | rfl | rfl <;> go_simp
      · intro i; simp only [World.frozen?_setCell]; first | exact blkG_fr d1 i
      · simp only [World.size_setCell]; exact blkG_lt d1
  · simp only [tg_t, Nat.add_zero]
    refine wpAny_ready (rs := [9]) (by kernel_rfl) (by simp) (AllReady.cons rfl (fun K hK => ?_) AllReady.nil)
    go_simp
    refine hK _ _ ?_
    clear hK K
    refine wpAny_ready (rs := [10]) (by kernel_rfl) (by simp) (AllReady.cons rfl (fun K hK => ?_) AllReady.nil)
    go_simp
    refine hK _ _ ?_
    clear hK K
    refine wpAny_done (by kernel_rfl) ?_ _
    refine ⟨rfl, k5, k6, rfl, ?_, s5, s6, m0, ⟨?_, ?_, ?_⟩, ⟨?_, ?_, ?_⟩⟩
    · repeat (first | (with_reducible exact hBe) | (with_reducible refine sBelow ?_ (by first | exact s5 | exact s6)))
    · intro i hi
      have hi' : i < 4 := hi
      have hc : i = 0 ∨ i = 1 ∨ i = 2 ∨ i = 3 := by omega
      clear hi hi'
      rcases hc with rfl | rfl | rfl | rfl <;> go_simp
    · intro i; simp only [World.frozen?_setCell]; first | exact blkG_fr d0 i
    · simp only [World.size_setCell]; exact blkG_lt d0
    · intro i hi
      have hi' : i < 5 := hi
      have hc : i = 0 ∨ i = 1 ∨ i = 2 ∨ i = 3 ∨ i = 4 := by omega
      clear hi hi'
      rcases hc with rfl | rfl | rfl | rfl | rfl <;> go_simp
    · intro i; simp only [World.frozen?_setCell]; first | exact blkG_fr d1 i
    · simp only [World.size_setCell]; exact blkG_lt d1
end Go.Proofs.YtcckgfablfgknaaGreatDoor
