/- What is proved: MemKinds returns true for any regions, whichever and any place, and leaves them as they were. Conditions: none beyond the row's own. -/
import Derived.Test.YtkcgnpcfdfkpjaaAv
import Derived.Test.YtkcgnpcfdfkpjaaBs
import Derived.Test.YtkcgnpcfdfkpjaaHv
import Derived.Laws.BitsAllLaws
namespace Go.Proofs.Ytkcgnpcfdfkpjaa.memKinds
open Go.ChangeShapes Go.WideShapes Go.ChangeAt Go.RowKit
set_option linter.unusedVariables false
theorem hit_one {l : List Rg} (hl : MayL l) {i p n : Nat} (hi : i < l.length) (h : (rg l i).has p n) : hitI l p n = some i := by
  cases hh : hitI l p n with
  | none => exact absurd h (hit_none hh i hi)
  | some j =>
    obtain ⟨h1, h2⟩ := hit_some hh
    rw [has_one hl h1 hi h2 h]
set_option maxRecDepth 100000 in
theorem walk_big (v : Value) (l : List Rg) (n a : Nat) (hf : wfL l) (hn : l.length ≤ 9223372036854775807) (w : World) (hv : SlOf w v l) (hbig : LgP l) :
    Calls Try.prog 5 #[v, .int .u8 n, .int .u32 a] w fun e w' => e = .returned (.bool true) ∧ Below w.heap.size w w' := by
  have hL := (large_sl hv hf hn).mono (R' := fun e w' => e = .returned (.bool true) ∧ Below w.heap.size w w') fun e w' ⟨⟨r, he, hr⟩, hb⟩ => ⟨by rw [he, hr.2 hbig], hb⟩
  clear hbig
  go_enter Try.func5, Try.ntmps5
  go_wp2_with (first | (go_at_call 7; (with_reducible refine hL.mono ?_); (rintro e w1 ⟨rfl, hb1⟩)) | (go_at_call 9; (with_reducible refine (alive_any _).mono ?_); (rintro e w2 ⟨rfl, hb2⟩)))
  go_ret
  exact ⟨rfl, below_trans' hb1 (Nat.le_refl _) hb2⟩
theorem len40 {l : List Rg} (h : ¬ LgP l) : l.length ≤ 140737488355328 := by have : ¬ 40 < l.length := fun hh => h (Or.inr hh); omega
set_option maxRecDepth 100000 in
theorem walk_no (v : Value) (l : List Rg) (n a : Nat) (hf : wfL l) (hn : l.length ≤ 9223372036854775807) (w : World) (hv : SlOf w v l) (hbig : ¬ LgP l) (hm : ¬ MayL l) :
    Calls Try.prog 5 #[v, .int .u8 n, .int .u32 a] w fun e w' => e = .returned (.bool true) ∧ Below w.heap.size w w' := by
  have hL := (large_sl hv hf hn).mono (R' := fun e w' => e = .returned (.bool false) ∧ Below w.heap.size w w') fun e w' ⟨⟨r, he, hr⟩, hb⟩ => ⟨by rw [he, Bool.eq_false_iff.2 (fun h => hbig (hr.1 h))], hb⟩
  have hN : ∀ w1, Below w.heap.size w w1 → Calls Try.prog 10 #[v] w1 fun e w' => e = .returned (.tuple #[.pointer none, .int .i64 2]) ∧ Below w1.heap.size w1 w' := fun w1 hb => new_no (hv.of hb) hf (len40 hbig) hm
  clear hbig hm
  go_enter Try.func5, Try.ntmps5
  go_wp2_with (first | (go_at_call 7; (with_reducible refine hL.mono ?_); (rintro e w1 ⟨rfl, hb1⟩)) | (go_at_call 10; (with_reducible refine (hN _ hb1).mono ?_); (rintro e w2 ⟨rfl, hb2⟩)) | (go_at_call 9; (with_reducible refine (alive_any _).mono ?_); (rintro e w3 ⟨rfl, hb3⟩)))
  go_ret
  exact ⟨rfl, below_trans' (below_trans' hb1 (Nat.le_refl _) hb2) (Nat.le_refl _) hb3⟩
/-- A place of a region, and the multiple of 4 at or ahead of it. -/
structure Pl (l : List Rg) (i p : Nat) : Prop where
  hi : i < l.length
  hp : (rg l i).has p 1
theorem ld_kind {l : List Rg} (hl : MayL l) {i p : Nat} (h : Pl l i p) (bv : Nat → Nat) (tv : Nat → Bool) : ((ldF l bv tv p 1).2.2 == 0) = !(((rg l i).k : Int) == 1) := by
  have hh := hit_one hl h.hi h.hp
  unfold ldF
  rw [if_neg (by omega), show (1 : Int).toNat = 1 from rfl, hh]
  simp only
  by_cases hk : (rg l i).k = 1
  · rw [if_pos hk, hk]; rfl
  · rw [if_neg hk]; simp; omega
theorem st_kind {l : List Rg} (hl : MayL l) {i p : Nat} (h : Pl l i p) : (stE l p 1 == 0) = (((rg l i).k : Int) == 3 || ((rg l i).k : Int) == 4) := by
  have hh := hit_one hl h.hi h.hp
  have ho : stO l p 1 = if (rg l i).k = 3 ∨ (rg l i).k = 4 then some (pos l i p 1) else none := by
    unfold stO
    rw [if_neg (by omega), show (1 : Int).toNat = 1 from rfl, hh]
  unfold stE
  rw [if_neg (by omega), ho]
  by_cases hk : (rg l i).k = 3 ∨ (rg l i).k = 4
  · rw [if_pos hk]; rcases hk with hk | hk <;> rw [hk] <;> rfl
  · rw [if_neg hk]; simp; omega
theorem se_kind {l : List Rg} (hl : MayL l) {i p : Nat} (h : Pl l i p) : seO l p 1 = some (beg l i + (p - (rg l i).f)) := by
  have hh := hit_one hl h.hi h.hp
  unfold seO
  rw [hh]; rfl
theorem fe_kind {l : List Rg} (hl : MayL l) {i q : Nat} (hi : i < l.length) (hq : (rg l i).has q 4) (h4 : q % 4 = 0) (bv : Nat → Nat) : ((feF l bv q).2 == 0) = (((rg l i).k : Int) == 1) := by
  have hh := hit_one hl hi hq
  unfold feF
  rw [if_neg (by omega), hh]
  simp only
  by_cases hk : (rg l i).k = 1
  · rw [if_pos hk, hk]; rfl
  · rw [if_neg hk]; simp; omega
theorem and_four (a : Nat) (ha : a < 18446744073709551616) : a &&& 18446744073709551612 = a - a % 4 := by
  have e1 : 18446744073709551612 = (2 ^ 62 - 1) <<< 2 := rfl
  have e2 : a - a % 4 = (a >>> 2) <<< 2 := by rw [Nat.shiftLeft_eq, Nat.shiftRight_eq_div_pow]; omega
  rw [e2]
  apply Nat.eq_of_testBit_eq
  intro i
  rw [Nat.testBit_and, e1, Nat.testBit_shiftLeft, Nat.testBit_shiftLeft, Nat.testBit_shiftRight, Nat.testBit_two_pow_sub_one]
  by_cases h : 2 ≤ i
  · rw [decide_eq_true (show i ≥ 2 from h), show 2 + (i - 2) = i by omega]
    by_cases h2 : i < 64
    · rw [decide_eq_true (show i - 2 < 62 by omega)]; simp
    · have : a.testBit i = false := Nat.testBit_lt_two_pow (Nat.lt_of_lt_of_le ha (Nat.pow_le_pow_right (n := 2) (by omega) (show 64 ≤ i by omega)))
      rw [this]; simp
  · rw [decide_eq_false (show ¬ i ≥ 2 from h)]; simp
theorem andn3 (p : Nat) (hp : p < 18446744073709551616) : bits .andNot .u64 (p : Int) 3 = ((p - p % 4 : Nat) : Int) := by
  have := u64_andNot_nat p 3 hp (by omega)
  rw [show ((3 : Nat) : Int) = 3 from rfl] at this
  rw [this, and_four p hp]
def strA : ByteArray := { data := #[97] }
theorem k_load {l : List Rg} (hl : MayL l) {i p : Nat} (hpl : Pl l i p) (hp : p < 18446744073709551616) {xm : Mm} (hxl : xm.l = l) {bv : Nat → Nat} {tv : Nat → Bool} {w : World} (hI : IsM w xm bv tv) :
    Calls Try.prog 16 #[.pointer (some ⟨xm.mb, 0, none⟩), .int .u64 p, .int .i64 1] w fun e w' => (∃ (v : Nat) (t : Bool) (e0 : Int), e = .returned (.tuple #[.int .u64 v, .bool t, .int .i64 e0]) ∧ (e0 == 0) = !(((rg l i).k : Int) == 1)) ∧ Below w.heap.size w w' := by
  have h := load_any p 1 hp w hI
  rw [hxl] at h
  exact h.mono fun e w' ⟨h1, h2⟩ => ⟨⟨_, _, _, h1, ld_kind hl hpl bv tv⟩, h2⟩
theorem k_store {l : List Rg} (hl : MayL l) {i p : Nat} (hpl : Pl l i p) (hp : p < 18446744073709551616) {xm : Mm} (hxl : xm.l = l) {bv : Nat → Nat} {tv : Nat → Bool} {w : World} (hI : IsM w xm bv tv) :
    Calls Try.prog 15 #[.pointer (some ⟨xm.mb, 0, none⟩), .int .u64 p, .int .i64 1, .int .u64 7, .bool true] w fun e w' => (∃ e0 : Int, e = .returned (.int .i64 e0) ∧ (e0 == 0) = (((rg l i).k : Int) == 3 || ((rg l i).k : Int) == 4)) ∧ (∃ bv1 tv1, IsM w' xm bv1 tv1) ∧ Only (fun j => j = xm.vb ∨ j = xm.tb) w w' := by
  have h := store_any p 1 7 true hp (by omega) w hI
  rw [hxl] at h
  exact h.mono fun e w' ⟨h1, h2, h3⟩ => ⟨⟨_, h1, st_kind hl hpl⟩, ⟨_, _, h2⟩, h3⟩
theorem k_set {l : List Rg} (hl : MayL l) {i p : Nat} (hpl : Pl l i p) (hp : p < 18446744073709551616) {xm : Mm} (hxl : xm.l = l) {bv : Nat → Nat} {tv : Nat → Bool} {w : World} (hI : IsM w xm bv tv) :
    Calls Try.prog 14 #[.pointer (some ⟨xm.mb, 0, none⟩), .int .u64 p, .string { data := #[97] }, .bool true] w fun e w' => e = .returned (.int .i64 0) ∧ (∃ bv1 tv1, IsM w' xm bv1 tv1 ∧ bv1 (beg l i + (p - (rg l i).f)) = 97 ∧ tv1 (beg l i + (p - (rg l i).f)) = true) ∧ Only (fun j => j = xm.vb ∨ j = xm.tb) w w' := by
  have h := set_any p { data := #[97] } (by decide) true hp w hI
  rw [hxl, show ({ data := #[97] } : ByteArray).size = 1 from rfl] at h
  unfold seE at h
  rw [se_kind hl hpl] at h
  refine h.mono fun e w' ⟨h1, h2, h3⟩ => ⟨h1, ⟨_, _, h2, ?_, ?_⟩, h3⟩
  · show upd _ _ _ _ _ = _
    unfold upd
    rw [if_pos (by omega), Nat.sub_self]; rfl
  · simp only [upO, upd]
    rw [if_pos (by omega)]
theorem k_bytes {l : List Rg} (hl : MayL l) {i p : Nat} (hpl : Pl l i p) (hp : p < 18446744073709551616) {xm : Mm} (hxl : xm.l = l) {bv : Nat → Nat} {tv : Nat → Bool} {w : World} (hI : IsM w xm bv tv) (hb : bv (beg l i + (p - (rg l i).f)) = 97) (ht : tv (beg l i + (p - (rg l i).f)) = true) :
    Calls Try.prog 17 #[.pointer (some ⟨xm.mb, 0, none⟩), .int .u64 p, .int .i64 1] w fun e w' => (∃ g cap, e = .returned (.tuple #[.string { data := #[97] }, .slice (some ⟨g, 0, none⟩) 1 cap, .int .i64 0]) ∧ w'.cell? ⟨g, 0, none⟩ = some (.bool true)) ∧ Below w.heap.size w w' := by
  have h := bytes_m p 1 hp w hI
  rw [hxl] at h
  have e1 : byO l p 1 = some (beg l i + (p - (rg l i).f)) := by unfold byO; rw [if_neg (by omega), show (1 : Int).toNat = 1 from rfl, se_kind hl hpl]
  have e2 : byE l p 1 = 0 := by unfold byE; rw [if_neg (by omega), e1]; rfl
  unfold byS byT at h
  rw [e1, e2] at h
  simp only [show (1 : Int).toNat = 1 from rfl] at h
  rw [show tl tv (beg l i + (p - (rg l i).f)) 1 = [.bool true] by simp [tl, List.range_succ, ht], show strOfNums (numsAt bv (beg l i + (p - (rg l i).f)) 1) = { data := #[97] } by simp [strOfNums, numsAt, List.range_succ, hb]] at h
  refine h.mono fun e w' ⟨⟨v, h1, h2⟩, h3⟩ => ?_
  obtain ⟨g, cap, rfl, hg, hgl⟩ := h2.form (by simp)
  exact ⟨⟨g, cap, h1, h2.cellAt 0 (by simp)⟩, h3⟩
theorem k_fetch {l : List Rg} (hl : MayL l) {i q : Nat} (hil : i < l.length) (hp : q < 18446744073709551616) (h4 : q % 4 = 0) {xm : Mm} (hxl : xm.l = l) {bv : Nat → Nat} {tv : Nat → Bool} {w : World} (hI : IsM w xm bv tv) :
    Calls Try.prog 18 #[.pointer (some ⟨xm.mb, 0, none⟩), .int .u64 q] w fun e w' => (∃ (v : Nat) (e0 : Int), e = .returned (.tuple #[.int .u32 v, .int .i64 e0]) ∧ ((rg l i).has q 4 → (e0 == 0) = (((rg l i).k : Int) == 1))) ∧ Below w.heap.size w w' := by
  have h := fetch_any q hp w hI
  rw [hxl] at h
  exact h.mono fun e w' ⟨h1, h2⟩ => ⟨⟨_, _, h1, fun hh => fe_kind hl hil hh h4 bv⟩, h2⟩
set_option maxRecDepth 100000 in
set_option maxHeartbeats 4000000 in
theorem walk_yes (l : List Rg) (n a : Nat) (hn2 : n < 256) (ha : a < 4294967296) (hf : wfL l) (hl : MayL l) (hbig : ¬ LgP l) (w : World) (b o c : Nat) (hr : rowAt w b o l) (hb : b < w.heap.size) (hc : l.length ≤ c) :
    Calls Try.prog 5 #[.slice (some ⟨b, o, none⟩) l.length c, .int .u8 n, .int .u32 a] w fun e w' => e = .returned (.bool true) ∧ Below w.heap.size w w' := by
  have hl1 := hl.2.1
  have hl16 := hl.2.2
  have hL := (large_any l hf b o c (by omega) w hr hb).mono (R' := fun e w' => e = .returned (.bool false) ∧ Below w.heap.size w w') fun e w' ⟨⟨r, he, hr⟩, hb⟩ => ⟨by rw [he, Bool.eq_false_iff.2 (fun h => hbig (hr.1 h))], hb⟩
  have hN : ∀ w1, Below w.heap.size w w1 → Calls Try.prog 10 #[.slice (some ⟨b, o, none⟩) l.length c] w1 fun e w' => (∃ x : Mm, e = .returned (.tuple #[.pointer (some ⟨x.mb, 0, none⟩), .int .i64 0]) ∧ x.l = l ∧ IsM w' x (fun _ => 0) (fun _ => false) ∧ w1.heap.size ≤ x.mb ∧ w1.heap.size ≤ x.ab ∧ w1.heap.size ≤ x.vb ∧ w1.heap.size ≤ x.tb) ∧ Below w1.heap.size w1 w' := fun w1 hb1 => new_yes l hl hf b o c hc w1 (hr.of hb1) (Nat.lt_of_lt_of_le hb hb1.size)
  obtain ⟨i, hi⟩ : ∃ i, n % l.length = i := ⟨_, rfl⟩
  have hil : i < l.length := by rw [← hi]; exact Nat.mod_lt _ (by omega)
  have hrem : (n : Int).tmod (l.length : Int) = (i : Int) := by rw [Int.tmod_eq_emod_of_nonneg (Int.natCast_nonneg _), ← hi]; rfl
  have i0 : (0 : Int) ≤ (i : Int) := by omega
  have i1 : (i : Int) < (l.length : Int) := by omega
  obtain ⟨c0, c1, c2⟩ := hr i hil
  obtain ⟨⟨⟨k1, k2, k3, k4⟩, k5⟩, _⟩ := hl.1 i hil
  obtain ⟨x, hx⟩ : ∃ x, rg l i = x := ⟨_, rfl⟩
  have hkx : (rg l i).k = x.k := by rw [hx]
  rw [hx] at c0 c1 c2 k1 k2 k3 k4 k5
  obtain ⟨r, hrr⟩ : ∃ r, a % x.s = r := ⟨_, rfl⟩
  have hrs : r < x.s := by rw [← hrr]; exact Nat.mod_lt _ (by omega)
  have hrem2 : (a : Int).tmod (x.s : Int) = (r : Int) := by rw [Int.tmod_eq_emod_of_nonneg (Int.natCast_nonneg _), ← hrr]; rfl
  have hrem3 : (a : Int) % (x.s : Int) = (r : Int) := by rw [← hrr]; rfl
  have hs0 : ((x.s : Int) == 0) = false := by simp only [beq_eq_false_iff_ne]; omega
  have hpl : Pl l i (x.f + r) := ⟨hil, by rw [hx]; exact ⟨by omega, by omega, by omega⟩⟩
  clear hbig
  go_enter Try.func5, Try.ntmps5
  go_wp2_with (first
    | (go_at_call 7; (with_reducible refine hL.mono ?_); (rintro e w1 ⟨rfl, hb1⟩); have hN1 := hN _ hb1)
    | (go_at_call 10; (with_reducible refine hN1.mono ?_); (rintro e w2 ⟨⟨xm, rfl, hxl, hI, hm1, hm2, hm3, hm4⟩, hb2⟩); have hB := below_trans' hb1 (Nat.le_refl _) hb2; have c0 := stay hB c0; have c1 := stay hB c1; have c2 := stay hB c2; have hbs := Nat.lt_of_lt_of_le hb hB.size; have hvl := hI.lv; have htl := hI.lt))
  obtain ⟨p, hp⟩ : ∃ p, x.f + r = p := ⟨_, rfl⟩
  have hpc : (x.f : Int) + (r : Int) = (p : Int) := by omega
  have hp64 : p < 18446744073709551616 := by omega
  rw [hp] at hpl
  have hW0 := aBelow (Below.refl _ w2) (.cells #[.int .u64 x.f, .int .u64 x.s, .int .u8 x.k] 36)
  have r0 := nwc w2 #[.int .u64 x.f, .int .u64 x.s, .int .u8 x.k] 36 0
  have r1 := nwc w2 #[.int .u64 x.f, .int .u64 x.s, .int .u8 x.k] 36 1
  have r2 := nwc w2 #[.int .u64 x.f, .int .u64 x.s, .int .u8 x.k] 36 2
  simp only [List.getElem?_toArray, List.getElem?_cons_zero, List.getElem?_cons_succ] at r0 r1 r2
  generalize (w2.alloc (.cells #[.int .u64 x.f, .int .u64 x.s, .int .u8 x.k] 36)) = W at *
  go_quiet (fail)
  have hbn := bdN (Below.refl W.heap.size W) nq
  have r0 := stay hbn r0
  have r1 := stay hbn r1
  have r2 := stay hbn r2
  have hI := (hI.of hW0).of hbn
  have hB := (below_trans' hB (Nat.le_refl _) hW0).trans (hbn.mono (by have := hB.size; have := hW0.size; omega))
  generalize W.drewN nq = W1 at *
  obtain ⟨q, hq⟩ : ∃ q, p - p % 4 = q := ⟨_, rfl⟩
  have hand := andn3 p hp64
  rw [hq] at hand
  have hq4 : q % 4 = 0 := by omega
  have hq64 : q < 18446744073709551616 := by omega
  have hLd := k_load hl hpl hp64 hxl hI
  rw [hkx] at hLd
  have hwm := hb1.size
  have hwn := hb2.size
  have ea := add64 x.f x.s (by omega)
  have es : IntKind.u64.wrap ((x.f : Int) + (x.s : Int) - (q : Int)) = (x.f : Int) + (x.s : Int) - (q : Int) := by rw [IntKind.wrap_u64]; omega
  by_cases hf1 : x.f ≤ q
  · by_cases hf2 : q + 4 ≤ x.f + x.s
    · have hhas : x.has q 4 := ⟨hf1, by omega, by omega⟩
      have j1 : (x.f : Int) ≤ (q : Int) := by omega
      have j2 : (4 : Int) ≤ (x.f : Int) + (x.s : Int) - (q : Int) := by omega
      go_wp2_with (first
        | (go_at_call 16; (with_reducible refine hLd.mono ?_); (rintro e w3 ⟨⟨v3, t3, e3, rfl, he3⟩, hb3⟩); have hI := hI.of hb3; have hB := below_trans' hB (Nat.le_refl _) hb3; have r0 := stay hb3 r0; have r1 := stay hb3 r1; have r2 := stay hb3 r2; have hSt := k_store hl hpl hp64 hxl hI; rw [hkx] at hSt)
        | (go_at_call 15; (with_reducible refine hSt.mono ?_); (rintro e w4 ⟨⟨e4, rfl, he4⟩, ⟨bv4, tv4, hI⟩, ho4⟩); have hB := hB.trans (ho4.below (B := w.heap.size) (fun j hj => (by rcases hj with rfl | rfl <;> omega)) hB.size); have r0 := ho4.cell (by simp only; omega) r0; have r1 := ho4.cell (by simp only; omega) r1; have r2 := ho4.cell (by simp only; omega) r2; have hSe := k_set hl hpl hp64 hxl hI)
        | (go_at_call 14; (with_reducible refine hSe.mono ?_); (rintro e w5 ⟨rfl, ⟨bv5, tv5, hI, hv5, ht5⟩, ho5⟩); have hB := hB.trans (ho5.below (B := w.heap.size) (fun j hj => (by rcases hj with rfl | rfl <;> omega)) hB.size); have r0 := ho5.cell (by simp only; omega) r0; have r1 := ho5.cell (by simp only; omega) r1; have r2 := ho5.cell (by simp only; omega) r2; have hBy := k_bytes hl hpl hp64 hxl hI hv5 ht5)
        | (go_at_call 17; (with_reducible refine hBy.mono ?_); (rintro e w6 ⟨⟨g6, cap6, rfl, ht6⟩, hb6⟩); have hI := hI.of hb6; have hB := below_trans' hB (Nat.le_refl _) hb6; have r0 := stay hb6 r0; have r1 := stay hb6 r1; have r2 := stay hb6 r2; have hFe := k_fetch hl hil hq64 hq4 hxl hI; rw [hkx, hx] at hFe)
        | (go_at_call 18; (with_reducible refine hFe.mono ?_); (rintro e w7 ⟨⟨v7, e7, rfl, he7⟩, hb7⟩); have he7 := he7 hhas; have hB := below_trans' hB (Nat.le_refl _) hb7; have r0 := stay hb7 r0; have r1 := stay hb7 r1; have r2 := stay hb7 r2; have ht6 := stay hb7 ht6)
        | (go_at_call 9; (with_reducible refine (alive_any _).mono ?_); (rintro e w8 ⟨rfl, hb8⟩); have hB := below_trans' hB (Nat.le_refl _) hb8))
      all_goals go_ret
      all_goals exact ⟨rfl, hB⟩
    · have j1 : (x.f : Int) ≤ (q : Int) := by omega
      have j2 : ¬ (4 : Int) ≤ (x.f : Int) + (x.s : Int) - (q : Int) := by omega
      go_wp2_with (first
        | (go_at_call 16; (with_reducible refine hLd.mono ?_); (rintro e w3 ⟨⟨v3, t3, e3, rfl, he3⟩, hb3⟩); have hI := hI.of hb3; have hB := below_trans' hB (Nat.le_refl _) hb3; have r0 := stay hb3 r0; have r1 := stay hb3 r1; have r2 := stay hb3 r2; have hSt := k_store hl hpl hp64 hxl hI; rw [hkx] at hSt)
        | (go_at_call 15; (with_reducible refine hSt.mono ?_); (rintro e w4 ⟨⟨e4, rfl, he4⟩, ⟨bv4, tv4, hI⟩, ho4⟩); have hB := hB.trans (ho4.below (B := w.heap.size) (fun j hj => (by rcases hj with rfl | rfl <;> omega)) hB.size); have r0 := ho4.cell (by simp only; omega) r0; have r1 := ho4.cell (by simp only; omega) r1; have r2 := ho4.cell (by simp only; omega) r2; have hSe := k_set hl hpl hp64 hxl hI)
        | (go_at_call 14; (with_reducible refine hSe.mono ?_); (rintro e w5 ⟨rfl, ⟨bv5, tv5, hI, hv5, ht5⟩, ho5⟩); have hB := hB.trans (ho5.below (B := w.heap.size) (fun j hj => (by rcases hj with rfl | rfl <;> omega)) hB.size); have r0 := ho5.cell (by simp only; omega) r0; have r1 := ho5.cell (by simp only; omega) r1; have r2 := ho5.cell (by simp only; omega) r2; have hBy := k_bytes hl hpl hp64 hxl hI hv5 ht5)
        | (go_at_call 17; (with_reducible refine hBy.mono ?_); (rintro e w6 ⟨⟨g6, cap6, rfl, ht6⟩, hb6⟩); have hI := hI.of hb6; have hB := below_trans' hB (Nat.le_refl _) hb6; have r0 := stay hb6 r0; have r1 := stay hb6 r1; have r2 := stay hb6 r2; have hFe := k_fetch hl hil hq64 hq4 hxl hI; rw [hkx, hx] at hFe)
        | (go_at_call 18; (with_reducible refine hFe.mono ?_); (rintro e w7 ⟨⟨v7, e7, rfl, he7⟩, hb7⟩); have hB := below_trans' hB (Nat.le_refl _) hb7; have r0 := stay hb7 r0; have r1 := stay hb7 r1; have r2 := stay hb7 r2; have ht6 := stay hb7 ht6)
        | (go_at_call 9; (with_reducible refine (alive_any _).mono ?_); (rintro e w8 ⟨rfl, hb8⟩); have hB := below_trans' hB (Nat.le_refl _) hb8))
      all_goals go_ret
      all_goals exact ⟨rfl, hB⟩
  · have j1 : ¬ (x.f : Int) ≤ (q : Int) := by omega
    go_wp2_with (first
      | (go_at_call 16; (with_reducible refine hLd.mono ?_); (rintro e w3 ⟨⟨v3, t3, e3, rfl, he3⟩, hb3⟩); have hI := hI.of hb3; have hB := below_trans' hB (Nat.le_refl _) hb3; have r0 := stay hb3 r0; have r1 := stay hb3 r1; have r2 := stay hb3 r2; have hSt := k_store hl hpl hp64 hxl hI; rw [hkx] at hSt)
      | (go_at_call 15; (with_reducible refine hSt.mono ?_); (rintro e w4 ⟨⟨e4, rfl, he4⟩, ⟨bv4, tv4, hI⟩, ho4⟩); have hB := hB.trans (ho4.below (B := w.heap.size) (fun j hj => (by rcases hj with rfl | rfl <;> omega)) hB.size); have r0 := ho4.cell (by simp only; omega) r0; have r1 := ho4.cell (by simp only; omega) r1; have r2 := ho4.cell (by simp only; omega) r2; have hSe := k_set hl hpl hp64 hxl hI)
      | (go_at_call 14; (with_reducible refine hSe.mono ?_); (rintro e w5 ⟨rfl, ⟨bv5, tv5, hI, hv5, ht5⟩, ho5⟩); have hB := hB.trans (ho5.below (B := w.heap.size) (fun j hj => (by rcases hj with rfl | rfl <;> omega)) hB.size); have r0 := ho5.cell (by simp only; omega) r0; have r1 := ho5.cell (by simp only; omega) r1; have r2 := ho5.cell (by simp only; omega) r2; have hBy := k_bytes hl hpl hp64 hxl hI hv5 ht5)
      | (go_at_call 17; (with_reducible refine hBy.mono ?_); (rintro e w6 ⟨⟨g6, cap6, rfl, ht6⟩, hb6⟩); have hI := hI.of hb6; have hB := below_trans' hB (Nat.le_refl _) hb6; have r0 := stay hb6 r0; have r1 := stay hb6 r1; have r2 := stay hb6 r2; have hFe := k_fetch hl hil hq64 hq4 hxl hI; rw [hkx, hx] at hFe)
      | (go_at_call 18; (with_reducible refine hFe.mono ?_); (rintro e w7 ⟨⟨v7, e7, rfl, he7⟩, hb7⟩); have hB := below_trans' hB (Nat.le_refl _) hb7; have r0 := stay hb7 r0; have r1 := stay hb7 r1; have r2 := stay hb7 r2; have ht6 := stay hb7 ht6)
      | (go_at_call 9; (with_reducible refine (alive_any _).mono ?_); (rintro e w8 ⟨rfl, hb8⟩); have hB := below_trans' hB (Nat.le_refl _) hb8))
    all_goals go_ret
    all_goals exact ⟨rfl, hB⟩
theorem own : ownKnob Try.prog.godebug = none := by kernel_rfl
set_option maxRecDepth 100000 in
theorem lifted (os : Os) (started : os.Started) (H : Type) (enc : TypeId × Value → H) :
    ReturnsInHanded {} Try.checked os 5 .any (Rows.memKindsSpec.pre6 enc Try.prog Try.f5 Rows.memKindsRow.domain false) (Rows.memKindsSpec.post enc Try.prog Try.f5 false true false false) := by
  refine returnsInHanded_of_change (C := Try.checked) own started (by kernel_rfl) Try.func5
    (ChangeSpec.witness6 (enc := enc) (C := Try.checked) false ⟨#[], #[.slice none 0 0, .int .u8 0, .int .u32 0], []⟩ 8 (by kernel_rfl) (by kernel_rfl) (by kernel_rfl) (by kernel_rfl)) ?_
  intro W base args ds gs before hval0 hW hcnd _
  have hval : ∀ (j : Nat) t v, Try.f5.params[j]? = some t → args[j]? = some v → Value.okWide Try.prog W .any base t v := hval0
  have hW' := hW
  obtain ⟨p, q, hA0, hV, rfl, hfz, hnd⟩ := hW
  have hA : DataW.TrodAll enc Try.prog W 0 (fun _ => true) true Try.f5.params.toList args.toList ds p := hA0
  rw [Try.params5] at hA hval
  obtain ⟨v0, vs0, d0, ds0, p0, q0, hargs, rfl, rfl, h0, r0⟩ := trodAll_cons hA
  obtain ⟨v1, vs1, d1, ds1, p1, q1, rfl, rfl, rfl, h1, r1⟩ := trodAll_cons r0
  obtain ⟨v2, vs2, d2, ds2, p2, q2, rfl, rfl, rfl, h2, r2⟩ := trodAll_cons r1
  obtain ⟨rfl, rfl, rfl⟩ := trodAll_nil r2
  obtain rfl : args = #[v0, v1, v2] := by cases args; simp_all
  obtain ⟨rfl, rfl⟩ := trodVars_none hV
  obtain ⟨a0, len, cap, rfl⟩ := okWide_slice Try.underlying22 (hval 0 22 v0 rfl rfl)
  obtain ⟨m1, rfl, rfl, rfl, y1⟩ := open_int Try.underlying5 (hval 1 5 v1 rfl rfl) h1
  obtain ⟨m2, rfl, rfl, rfl, y2⟩ := open_int Try.underlying48 (hval 2 48 v2 rfl rfl) h2
  have h0k := h0
  obtain ⟨fuel, hf⟩ := h0
  clear hA0 hval0
  simp only [List.append_nil] at hW'
  have hlt : ∀ x ∈ p0, x.block < W.heap.size := fun x hx => by simpa using hW'.lt x hx
  have b1 := bounds_u8 y1
  have b2 := bounds_u32 y2
  obtain ⟨n, rfl⟩ := Int.eq_ofNat_of_zero_le b1.1
  obtain ⟨a, rfl⟩ := Int.eq_ofNat_of_zero_le b2.1
  obtain ⟨l, hl, hwf, hsl, hlen⟩ := open_regs hf
  have fin : ∀ e W', (e = Ending.returned (.bool true) ∧ Below W.heap.size W W') → ∃ v, e = Ending.returned v ∧ Rows.memKindsSpec.post enc Try.checked.prog Try.f5 false true false false W #[.slice a0 len cap, .int .u8 n, .int .u32 a] v W' := by
    intro e W' ⟨he, hg⟩
    subst he
    have hk := trodAll_cons_mk (Below.trod laidOut (by kernel_rfl) (of_decide_eq_true (by kernel_rfl)) h0k hg hlt) (trodAll_cons_mk (shut_int Try.underlying5 y1) (trodAll_cons_mk (shut_int Try.underlying48 y2) trodAll_mk0))
    simp only [List.append_nil] at hk
    exact ⟨_, rfl, _, _, _, [], p0, [], hW', trodAll_mk1 (shut_bool Try.underlying4 _), hk, rfl, hg.frame _, fun h => by cases h⟩
  by_cases hbig : LgP l
  · exact (walk_big _ l n a hwf (by omega) W hsl hbig).mono fin
  by_cases hm : MayL l
  · rcases hsl with ⟨rfl, _⟩ | ⟨b, o, c, hv, hr, hb, hc⟩
    · have := hm.2.1; simp at this
    · rw [hv]
      rw [hv] at fin
      exact (walk_yes l n a (by omega) (by omega) hwf hm hbig W b o c hr hb hc).mono fin
  · exact (walk_no _ l n a hwf (by omega) W hsl hbig hm).mono fin
theorem over : Rows.memKindsRow.holds Try.pinned (OpenSpec.ofChange Rows.memKindsSpec) :=
  OpenClaim.holds_of_wide 5 Try.f5 rfl rfl rfl rfl rfl rfl rfl ⟨rfl, rfl, rfl, rfl, rfl⟩ rfl rfl rfl rfl rfl (by kernel_rfl) Try.func5 (by kernel_rfl)
    (of_decide_eq_true (by kernel_rfl)) (by unfold Func.isWrapper; first | (rw [if_pos (by decide +kernel)]; kernel_rfl) | (rw [if_neg (by decide +kernel)]; exact ⟨rfl, rfl⟩))
    (fun os started H enc _ => lifted os started H enc)
/-- The statement. -/
theorem proved : Rows.MemKindsSaid :=
  over
end Go.Proofs.Ytkcgnpcfdfkpjaa.memKinds
