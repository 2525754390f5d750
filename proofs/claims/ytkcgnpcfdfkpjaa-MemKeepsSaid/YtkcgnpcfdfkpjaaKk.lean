/- What is proved: MemKeeps returns true for any regions, any script, any place, count, number, taint and other place, and leaves them as they were. Conditions: none beyond the row's own. -/
import Derived.Test.YtkcgnpcfdfkpjaaAv
import Derived.Test.YtkcgnpcfdfkpjaaHv
import Derived.Test.YtkcgnpcfdfkpjaaKp
import Derived.Test.YtkcgnpcfdfkpjaaIz
import Derived.Deep.RegionHeld3
import Derived.SizedLaws
namespace Go.Proofs.Ytkcgnpcfdfkpjaa.memKeeps
open Go.ChangeShapes Go.WideShapes Go.ChangeAt Go.RowKit
set_option linter.unusedVariables false
theorem len40 {l : List Rg} (h : ¬ LgP l) : l.length ≤ 140737488355328 := by have : ¬ 40 < l.length := fun hh => h (Or.inr hh); omega
set_option maxRecDepth 100000 in
set_option maxHeartbeats 2000000 in
theorem walk_big (v0 v1 : Value) (l : List Rg) (s : List St) (p z v : Nat) (n : Int) (t : Bool) (hf : wfL l) (hn : l.length ≤ 9223372036854775807) (hs : ∀ i, (sg s i).wf) (hz : ∀ i < s.length, (sg s i).s.size ≤ 140737488355328) (hsn : s.length ≤ 9223372036854775807) (w : World) (hv0 : SlOf w v0 l) (hv1 : StOf w v1 s) (hbig : LgP l ∨ HvP s) :
    Calls Try.prog 4 #[v0, v1, .int .u64 p, .int .i64 n, .int .u64 v, .bool t, .int .u64 z] w fun e w' => e = .returned (.bool true) ∧ Below w.heap.size w w' := by
  by_cases h1 : LgP l
  · have hL := (large_sl hv0 hf hn).mono (R' := fun e w' => e = .returned (.bool true) ∧ Below w.heap.size w w') fun e w' ⟨⟨r, he, hr⟩, hb⟩ => ⟨by rw [he, hr.2 h1], hb⟩
    clear hbig
    go_enter Try.func4, Try.ntmps4
    go_wp2_with (first | (go_at_call 7; (with_reducible refine hL.mono ?_); (rintro e w1 ⟨rfl, hb1⟩)) | (go_at_call 9; (with_reducible refine (alive_any _).mono ?_); (rintro e w2 ⟨rfl, hb2⟩)))
    go_ret
    exact ⟨rfl, below_trans' hb1 (Nat.le_refl _) hb2⟩
  · have h2 : HvP s := by rcases hbig with h | h; exact absurd h h1; exact h
    have hL := (large_sl hv0 hf hn).mono (R' := fun e w' => e = .returned (.bool false) ∧ Below w.heap.size w w') fun e w' ⟨⟨r, he, hr⟩, hb⟩ => ⟨by rw [he, Bool.eq_false_iff.2 (fun h => h1 (hr.1 h))], hb⟩
    have hH : ∀ w1, Below w.heap.size w w1 → Calls Try.prog 8 #[v1] w1 fun e w' => e = .returned (.bool true) ∧ Below w1.heap.size w1 w' := fun w1 hb1 => (heavy_sl (hv1.of hb1) hs hz hsn).mono fun e w' ⟨⟨r, he, hr⟩, hb⟩ => ⟨by rw [he, hr.2 h2], hb⟩
    clear hbig h1 h2
    go_enter Try.func4, Try.ntmps4
    go_wp2_with (first | (go_at_call 7; (with_reducible refine hL.mono ?_); (rintro e w1 ⟨rfl, hb1⟩); have hH1 := hH _ hb1) | (go_at_call 8; (with_reducible refine hH1.mono ?_); (rintro e w2 ⟨rfl, hb2⟩)) | (go_at_call 9; (with_reducible refine (alive_any _).mono ?_); (rintro e w3 ⟨rfl, hb3⟩)))
    go_ret
    exact ⟨rfl, below_trans' (below_trans' hb1 (Nat.le_refl _) hb2) (Nat.le_refl _) hb3⟩
set_option maxRecDepth 100000 in
set_option maxHeartbeats 2000000 in
theorem walk_no (v0 v1 : Value) (l : List Rg) (s : List St) (p z v : Nat) (n : Int) (t : Bool) (hf : wfL l) (hn : l.length ≤ 9223372036854775807) (hs : ∀ i, (sg s i).wf) (hz : ∀ i < s.length, (sg s i).s.size ≤ 140737488355328) (hsn : s.length ≤ 9223372036854775807) (w : World) (hv0 : SlOf w v0 l) (hv1 : StOf w v1 s) (h1 : ¬ LgP l) (h2 : ¬ HvP s) (hm : ¬ MayL l) :
    Calls Try.prog 4 #[v0, v1, .int .u64 p, .int .i64 n, .int .u64 v, .bool t, .int .u64 z] w fun e w' => e = .returned (.bool true) ∧ Below w.heap.size w w' := by
  have hL := (large_sl hv0 hf hn).mono (R' := fun e w' => e = .returned (.bool false) ∧ Below w.heap.size w w') fun e w' ⟨⟨r, he, hr⟩, hb⟩ => ⟨by rw [he, Bool.eq_false_iff.2 (fun h => h1 (hr.1 h))], hb⟩
  have hH : ∀ w1, Below w.heap.size w w1 → Calls Try.prog 8 #[v1] w1 fun e w' => e = .returned (.bool false) ∧ Below w1.heap.size w1 w' := fun w1 hb1 => (heavy_sl (hv1.of hb1) hs hz hsn).mono fun e w' ⟨⟨r, he, hr⟩, hb⟩ => ⟨by rw [he, Bool.eq_false_iff.2 (fun h => h2 (hr.1 h))], hb⟩
  have hN : ∀ w1, Below w.heap.size w w1 → Calls Try.prog 10 #[v0] w1 fun e w' => e = .returned (.tuple #[.pointer none, .int .i64 2]) ∧ Below w1.heap.size w1 w' := fun w1 hb => new_no (hv0.of hb) hf (len40 h1) hm
  clear h1 h2 hm
  go_enter Try.func4, Try.ntmps4
  go_wp2_with (first | (go_at_call 7; (with_reducible refine hL.mono ?_); (rintro e w1 ⟨rfl, hb1⟩); have hH1 := hH _ hb1) | (go_at_call 8; (with_reducible refine hH1.mono ?_); (rintro e w2 ⟨rfl, hb2⟩); have hB := below_trans' hb1 (Nat.le_refl _) hb2; have hN1 := hN _ hB) | (go_at_call 10; (with_reducible refine hN1.mono ?_); (rintro e w3 ⟨rfl, hb3⟩); have hB := below_trans' hB (Nat.le_refl _) hb3) | (go_at_call 9; (with_reducible refine (alive_any _).mono ?_); (rintro e w4 ⟨rfl, hb4⟩); have hB := below_trans' hB (Nat.le_refl _) hb4))
  go_ret
  exact ⟨rfl, hB⟩
/-- The slice of steps, written out. -/
def StV (w : World) (s : List St) (a : Option Addr) (c : Nat) : Prop := ∀ i < s.length, ∃ b o, a = some ⟨b, o, none⟩ ∧ stAt w b (o + i * 6) (sg s i) ∧ b < w.heap.size
theorem k_load {l : List Rg} {x : Mm} (hxl : x.l = l) {bv : Nat → Nat} {tv : Nat → Bool} {p : Nat} {n : Int} (hp : p < 18446744073709551616) {a : Nat} {b : Bool} {e0 : Int} (h : ldF l bv tv p n = (a, b, e0)) (w : World) (hI : IsM w x bv tv) :
    Calls Try.prog 16 #[.pointer (some ⟨x.mb, 0, none⟩), .int .u64 p, .int .i64 n] w fun e w' => e = .returned (.tuple #[.int .u64 a, .bool b, .int .i64 e0]) ∧ Below w.heap.size w w' := by
  have := load_any p n hp w hI
  rw [hxl, h] at this
  exact this
theorem k_store {l : List Rg} {x : Mm} (hxl : x.l = l) {bv : Nat → Nat} {tv : Nat → Bool} {p v : Nat} {n : Int} {t : Bool} (hp : p < 18446744073709551616) (hv : v < 18446744073709551616) {o : Option Nat} {e0 : Int} (ho : stO l p n = o) (he : stE l p n = e0) (w : World) (hI : IsM w x bv tv) :
    Calls Try.prog 15 #[.pointer (some ⟨x.mb, 0, none⟩), .int .u64 p, .int .i64 n, .int .u64 v, .bool t] w fun e w' => e = .returned (.int .i64 e0) ∧ IsM w' x (upO o bv n.toNat (wb v)) (upO o tv n.toNat fun _ => t) ∧ Only (fun j => j = x.vb ∨ j = x.tb) w w' := by
  have := store_any p n v t hp hv w hI
  rw [hxl, ho, he] at this
  exact this
theorem wb_int (v d : Nat) : ((v : Int) / 2 ^ (8 * d)).tmod 256 = ((wb v d : Nat) : Int) := by
  have e : ((2 : Int) ^ (8 * d)) = ((256 ^ d : Nat) : Int) := by rw [← pow8, Int.natCast_pow]; rfl
  rw [e, Int.tmod_eq_emod_of_nonneg (Int.ediv_nonneg (Int.natCast_nonneg _) (Int.natCast_nonneg _))]
  rfl
theorem pow_wrap (m : Nat) (h : m < 8) : IntKind.u64.wrap ((2 : Int) ^ (8 * m)) = ((256 ^ m : Nat) : Int) := by
  have e : ((2 : Int) ^ (8 * m)) = ((256 ^ m : Nat) : Int) := by rw [← pow8, Int.natCast_pow]; rfl
  have hle : 256 ^ m ≤ 256 ^ 7 := Nat.pow_le_pow_right (by omega) (by omega)
  rw [e, IntKind.wrap_u64]
  have h7 : 256 ^ 7 = 72057594037927936 := rfl
  rw [h7] at hle
  generalize 256 ^ m = M at *
  omega
set_option maxRecDepth 100000 in
set_option maxHeartbeats 8000000 in
theorem walk_yes (l : List Rg) (s : List St) (p z v : Nat) (n : Int) (t : Bool) (hp : p < 18446744073709551616) (hz64 : z < 18446744073709551616) (hv : v < 18446744073709551616) (hnn : -9223372036854775808 ≤ n ∧ n < 9223372036854775808) (hf : wfL l) (hs : ∀ i, (sg s i).wf) (hz : ∀ i < s.length, (sg s i).s.size ≤ 140737488355328) (hsn : s.length ≤ 9223372036854775807) (w : World) (b o c : Nat) (hr : rowAt w b o l) (hb : b < w.heap.size) (hc : l.length ≤ c) (a1 : Option Addr) (c1 : Nat) (hv1 : StOf w (.slice a1 s.length c1) s) (hv1' : ∀ i < s.length, ∃ b o, a1 = some ⟨b, o, none⟩ ∧ stAt w b (o + i * 6) (sg s i) ∧ b < w.heap.size) (h1 : ¬ LgP l) (h2 : ¬ HvP s) (hm : MayL l) :
    Calls Try.prog 4 #[.slice (some ⟨b, o, none⟩) l.length c, .slice a1 s.length c1, .int .u64 p, .int .i64 n, .int .u64 v, .bool t, .int .u64 z] w fun e w' => e = .returned (.bool true) ∧ Below w.heap.size w w' := by
  have hlt := light_of h2
  have hL := (large_any l hf b o c (by have := len40 h1; omega) w hr hb).mono (R' := fun e w' => e = .returned (.bool false) ∧ Below w.heap.size w w') fun e w' ⟨⟨r, he, hr⟩, hb⟩ => ⟨by rw [he, Bool.eq_false_iff.2 (fun h => h1 (hr.1 h))], hb⟩
  have hH : ∀ w1, Below w.heap.size w w1 → Calls Try.prog 8 #[.slice a1 s.length c1] w1 fun e w' => e = .returned (.bool false) ∧ Below w1.heap.size w1 w' := fun w1 hb1 => (heavy_sl (hv1.of hb1) hs hz hsn).mono fun e w' ⟨⟨r, he, hr⟩, hb⟩ => ⟨by rw [he, Bool.eq_false_iff.2 (fun h => h2 (hr.1 h))], hb⟩
  have hN : ∀ w1, Below w.heap.size w w1 → Calls Try.prog 10 #[.slice (some ⟨b, o, none⟩) l.length c] w1 fun e w' => (∃ x : Mm, e = .returned (.tuple #[.pointer (some ⟨x.mb, 0, none⟩), .int .i64 0]) ∧ x.l = l ∧ IsM w' x (fun _ => 0) (fun _ => false) ∧ w1.heap.size ≤ x.mb ∧ w1.heap.size ≤ x.ab ∧ w1.heap.size ≤ x.vb ∧ w1.heap.size ≤ x.tb) ∧ Below w1.heap.size w1 w' := fun w1 hb1 => new_yes l hm hf b o c hc w1 (hr.of hb1) (Nat.lt_of_lt_of_le hb hb1.size)
  clear h1 h2
  go_enter Try.func4, Try.ntmps4
  go_wp2_with (first | (go_at_call 7; (with_reducible refine hL.mono ?_); (rintro e w1 ⟨rfl, hb1⟩); have hH1 := hH _ hb1) | (go_at_call 8; (with_reducible refine hH1.mono ?_); (rintro e w2 ⟨rfl, hb2⟩); have hB := below_trans' hb1 (Nat.le_refl _) hb2; have hN1 := hN _ hB) | (go_at_call 10; (with_reducible refine hN1.mono ?_); (rintro e w3 ⟨⟨x, rfl, hxl, hI, hm1, hm2, hm3, hm4⟩, hb3⟩); have hB3 := below_trans' hB (Nat.le_refl _) hb3))
  have hws := hB.size
  go_loopw [17] (fun i wr => ∃ (k : Nat) (bv : Nat → Nat) (tv : Nat → Bool), i = .int .i64 k ∧ k ≤ s.length ∧ IsM wr x bv tv ∧ Below w.heap.size w wr) (fun i _ => s.length - (intOf i).toNat)
  case atStart => exact ⟨0, _, _, rfl, Nat.zero_le _, hI, hB3⟩
  case round =>
    clear hI hB3 hb3 hb2 hb1 hB hN1 hH1 hH hN hL
    obtain ⟨k, bv, tv, rfl, hk, hI, hB⟩ := hrel
    by_cases hlt2 : k < s.length
    · obtain ⟨b2, o2, rfl, ⟨d0, d1, d2, d3, d4, d5⟩, hb2⟩ := hv1' k hlt2
      have hlight := hlt.2 k hlt2
      obtain ⟨u0, u1, u2, u3, u4⟩ := hs k
      obtain ⟨y, hy⟩ : ∃ y, sg s k = y := ⟨_, rfl⟩
      rw [hy] at d0 d1 d2 d3 d4 d5 u0 u1 u2 u3 u4 hlight
      have d0 := stay hB d0
      have d1 := stay hB d1
      have d2 := stay hB d2
      have d3 := stay hB d3
      have d4 := stay hB d4
      have d5 := stay hB d5
      have hbs : b2 < wr.heap.size := Nat.lt_of_lt_of_le hb2 hB.size
      have i0 : (0 : Int) ≤ (k : Int) := by omega
      have i1 : (k : Int) < (s.length : Int) := by omega
      have hvl := hI.lv
      have htl := hI.lt
      have nxt : ∀ w', Only (fun j => j = x.vb ∨ j = x.tb) wr w' → Below w.heap.size w w' := fun w' ho => hB.trans (ho.below (B := w.heap.size) (fun j hj => by rcases hj with rfl | rfl <;> omega) hB.size)
      by_cases hd3 : y.d = 3
      · rw [hd3] at d0
        have hSet := set_any y.a y.s (by omega) y.t u1 wr.drew (hI.of (bd1 (Below.refl _ _)))
        go_wp2
        go_region_held3 (fun w' => w'.cell? ⟨b2, o2 + k * 6 + 1, none⟩ = some (.int .u64 y.a) ∧ w'.cell? ⟨b2, o2 + k * 6 + 4, none⟩ = some (.string y.s) ∧ w'.cell? ⟨b2, o2 + k * 6 + 5, none⟩ = some (.bool y.t)) (first | exact ⟨d1, d4, d5⟩ | exact ⟨f1, f4, f5⟩) (first | (go_at_call 14; (refine hSet.mono ?_); (rintro e w5 ⟨rfl, hI5, ho5⟩); have f1 := ho5.cell (by simp only; omega) d1; have f4 := ho5.cell (by simp only; omega) d4; have f5 := ho5.cell (by simp only; omega) d5))
        have hB5 := nxt w5 ((only_below (S := fun j => j = x.vb ∨ j = x.tb) (bd1 (Below.refl wr.heap.size wr))).trans ho5)
        go_wp2
        go_roundw
        case rel => exact ⟨k + 1, _, _, by go_num, by omega, hI5, hB5⟩
        case measure => first | (simp [intOf]; done) | (simp [intOf]; omega)
      · have hSt := store_any y.a y.n y.v y.t u1 u3 wr.drew (hI.of (bd1 (Below.refl _ _)))
        go_wp2
        go_region_held3 (fun w' => w'.cell? ⟨b2, o2 + k * 6 + 1, none⟩ = some (.int .u64 y.a) ∧ w'.cell? ⟨b2, o2 + k * 6 + 2, none⟩ = some (.int .i64 y.n) ∧ w'.cell? ⟨b2, o2 + k * 6 + 3, none⟩ = some (.int .u64 y.v) ∧ w'.cell? ⟨b2, o2 + k * 6 + 5, none⟩ = some (.bool y.t)) (first | exact ⟨d1, d2, d3, d5⟩ | exact ⟨f1, f2, f3, f5⟩) (first | (go_at_call 15; (refine hSt.mono ?_); (rintro e w5 ⟨rfl, hI5, ho5⟩); have f1 := ho5.cell (by simp only; omega) d1; have f2 := ho5.cell (by simp only; omega) d2; have f3 := ho5.cell (by simp only; omega) d3; have f5 := ho5.cell (by simp only; omega) d5))
        have hB5 := nxt w5 ((only_below (S := fun j => j = x.vb ∨ j = x.tb) (bd1 (Below.refl wr.heap.size wr))).trans ho5)
        go_wp2
        go_roundw
        case rel => exact ⟨k + 1, _, _, by go_num, by omega, hI5, hB5⟩
        case measure => first | (simp [intOf]; done) | (simp [intOf]; omega)
    · obtain rfl : k = s.length := by omega
      clear hv1' hv1 hr hz hs hlt hlt2
      obtain ⟨⟨a0, b0, e0⟩, h0⟩ : ∃ r, ldF l bv tv z 1 = r := ⟨_, rfl⟩
      have L0 := k_load hxl hz64 h0
      rcases st_err (l := l) (p := p) (n := n) with ⟨ho, hg⟩ | ⟨q, ho, he⟩
      · have L1 := L0
        have L2 := L0
        rcases hg with ⟨he, hn⟩ | ⟨he, hn⟩
        · by_cases hn1 : n < 1
          · clear hn
            go_wp2_with (first
              | (go_at_call 16; (first | with_reducible refine (L1 _ hI1).mono ?_ | with_reducible refine (L2 _ hI1).mono ?_); (rintro e w6 ⟨rfl, hb6⟩); have hI1 := hI1.of hb6; have hB := below_trans' hB (Nat.le_refl _) hb6)
              | (go_at_call 16; (with_reducible refine (L0 _ hI).mono ?_); (rintro e w4 ⟨rfl, hb4⟩); have hI := hI.of hb4; have hB := below_trans' hB (Nat.le_refl _) hb4; have hSt := k_store (t := t) hxl hp hv ho he _ hI)
              | (go_at_call 15; (with_reducible refine hSt.mono ?_); (rintro e w5 ⟨rfl, hI1, ho5⟩); have hI1 : IsM w5 x bv tv := hI1; have hB := hB.trans (ho5.below (B := w.heap.size) (fun j hj => (by rcases hj with rfl | rfl <;> omega)) hB.size))
              | (go_at_call 9; (with_reducible refine (alive_any _).mono ?_); (rintro e w8 ⟨rfl, hb8⟩); have hB := below_trans' hB (Nat.le_refl _) hb8))
            go_ret
            exact ⟨rfl, hB⟩
          · have hn8 : 8 < n := by omega
            clear hn
            go_wp2_with (first
              | (go_at_call 16; (first | with_reducible refine (L1 _ hI1).mono ?_ | with_reducible refine (L2 _ hI1).mono ?_); (rintro e w6 ⟨rfl, hb6⟩); have hI1 := hI1.of hb6; have hB := below_trans' hB (Nat.le_refl _) hb6)
              | (go_at_call 16; (with_reducible refine (L0 _ hI).mono ?_); (rintro e w4 ⟨rfl, hb4⟩); have hI := hI.of hb4; have hB := below_trans' hB (Nat.le_refl _) hb4; have hSt := k_store (t := t) hxl hp hv ho he _ hI)
              | (go_at_call 15; (with_reducible refine hSt.mono ?_); (rintro e w5 ⟨rfl, hI1, ho5⟩); have hI1 : IsM w5 x bv tv := hI1; have hB := hB.trans (ho5.below (B := w.heap.size) (fun j hj => (by rcases hj with rfl | rfl <;> omega)) hB.size))
              | (go_at_call 9; (with_reducible refine (alive_any _).mono ?_); (rintro e w8 ⟨rfl, hb8⟩); have hB := below_trans' hB (Nat.le_refl _) hb8))
            go_ret
            exact ⟨rfl, hB⟩
        · clear hn
          go_wp2_with (first
            | (go_at_call 16; (first | with_reducible refine (L1 _ hI1).mono ?_ | with_reducible refine (L2 _ hI1).mono ?_); (rintro e w6 ⟨rfl, hb6⟩); have hI1 := hI1.of hb6; have hB := below_trans' hB (Nat.le_refl _) hb6)
            | (go_at_call 16; (with_reducible refine (L0 _ hI).mono ?_); (rintro e w4 ⟨rfl, hb4⟩); have hI := hI.of hb4; have hB := below_trans' hB (Nat.le_refl _) hb4; have hSt := k_store (t := t) hxl hp hv ho he _ hI)
            | (go_at_call 15; (with_reducible refine hSt.mono ?_); (rintro e w5 ⟨rfl, hI1, ho5⟩); have hI1 : IsM w5 x bv tv := hI1; have hB := hB.trans (ho5.below (B := w.heap.size) (fun j hj => (by rcases hj with rfl | rfl <;> omega)) hB.size))
            | (go_at_call 9; (with_reducible refine (alive_any _).mono ?_); (rintro e w8 ⟨rfl, hb8⟩); have hB := below_trans' hB (Nat.le_refl _) hb8))
          go_ret
          exact ⟨rfl, hB⟩
      · obtain ⟨m, rfl, m1, m8, _⟩ := st_some ho
        have hkeep := keep_all hm (v := v) bv tv t ho
        have hmm : (m = 8 ∧ v % 256 ^ m = v) ∨ m < 8 := by
          by_cases h : m = 8
          · left; subst h; exact ⟨rfl, Nat.mod_eq_of_lt hv⟩
          · right; omega
        by_cases hin : p ≤ z ∧ z - p < m
        · obtain ⟨d, hzd⟩ : ∃ d, z = p + d := ⟨z - p, by omega⟩
          have hzi : (z : Int) - (p : Int) = (d : Int) := by omega
          have j0 : (p : Int) ≤ (z : Int) := by omega
          have j1 : (d : Int) < (m : Int) := by omega
          have es : IntKind.u64.wrap ((z : Int) - (p : Int)) = (d : Int) := by rw [IntKind.wrap_u64]; omega
          have hd : d < m := by omega
          have hwb := wb_int v d
          have h1 := keep_in hm (v := v) bv tv t ho hd
          rw [← hzd] at h1
          have L1 := k_load hxl hz64 h1
          have he0 : e0 = 0 := by
            have := ldF_err l bv (upd bv q m (wb v)) tv (upd tv q m fun _ => t) z 1
            rw [h0, h1] at this; exact this
          subst he0
          clear hzd hin h1
          rcases hmm with ⟨hm8, hvm⟩ | hlt8
          · have i8 : ¬ (m : Int) < 8 := by omega
            clear hm8
            have L2 := k_load hxl hp hkeep
            rw [hvm] at L2
            go_wp2_with (first
              | (go_at_call 16; (first | with_reducible refine (L1 _ hI1).mono ?_ | with_reducible refine (L2 _ hI1).mono ?_); (rintro e w6 ⟨rfl, hb6⟩); have hI1 := hI1.of hb6; have hB := below_trans' hB (Nat.le_refl _) hb6)
              | (go_at_call 16; (with_reducible refine (L0 _ hI).mono ?_); (rintro e w4 ⟨rfl, hb4⟩); have hI := hI.of hb4; have hB := below_trans' hB (Nat.le_refl _) hb4; have hSt := k_store (t := t) hxl hp hv ho he _ hI)
              | (go_at_call 15; (with_reducible refine hSt.mono ?_); (rintro e w5 ⟨rfl, hI1, ho5⟩); have hI1 : IsM w5 x (upd bv q m (wb v)) (upd tv q m fun _ => t) := hI1; have hB := hB.trans (ho5.below (B := w.heap.size) (fun j hj => (by rcases hj with rfl | rfl <;> omega)) hB.size))
              | (go_at_call 9; (with_reducible refine (alive_any _).mono ?_); (rintro e w8 ⟨rfl, hb8⟩); have hB := below_trans' hB (Nat.le_refl _) hb8))
            all_goals go_ret
            all_goals exact ⟨rfl, hB⟩
          · have i9 : ¬ (8 : Int) < (m : Int) := by omega
            obtain ⟨M, hM⟩ : ∃ M : Nat, 256 ^ m = M := ⟨_, rfl⟩
            have hpw := pow_wrap m hlt8
            have hM0 : 0 < M := by rw [← hM]; exact Nat.pow_pos (by omega)
            have hMn : ((M : Int) == 0) = false := by simp only [beq_eq_false_iff_ne]; omega
            have hMi : ¬ (M : Int) = 0 := by omega
            have hMj : (0 : Int) < (M : Int) := by omega
            have i8 : (m : Int) < 8 := by omega
            have L2 := k_load hxl hp hkeep
            rw [hM] at L2 hpw
            go_wp2_with (first
              | (go_at_call 16; (first | with_reducible refine (L1 _ hI1).mono ?_ | with_reducible refine (L2 _ hI1).mono ?_); (rintro e w6 ⟨rfl, hb6⟩); have hI1 := hI1.of hb6; have hB := below_trans' hB (Nat.le_refl _) hb6)
              | (go_at_call 16; (with_reducible refine (L0 _ hI).mono ?_); (rintro e w4 ⟨rfl, hb4⟩); have hI := hI.of hb4; have hB := below_trans' hB (Nat.le_refl _) hb4; have hSt := k_store (t := t) hxl hp hv ho he _ hI)
              | (go_at_call 15; (with_reducible refine hSt.mono ?_); (rintro e w5 ⟨rfl, hI1, ho5⟩); have hI1 : IsM w5 x (upd bv q m (wb v)) (upd tv q m fun _ => t) := hI1; have hB := hB.trans (ho5.below (B := w.heap.size) (fun j hj => (by rcases hj with rfl | rfl <;> omega)) hB.size))
              | (go_at_call 9; (with_reducible refine (alive_any _).mono ?_); (rintro e w8 ⟨rfl, hb8⟩); have hB := below_trans' hB (Nat.le_refl _) hb8))
            all_goals go_ret
            all_goals exact ⟨rfl, hB⟩
        · have hout : z < p ∨ p + m ≤ z := by omega
          have h1 := (keep_out hm (v := v) bv tv t ho hout).trans h0
          have L1 := k_load hxl hz64 h1
          clear h1
          by_cases hzp : p ≤ z
          · obtain ⟨d, hzd⟩ : ∃ d, z = p + d := ⟨z - p, by omega⟩
            have hzi : (z : Int) - (p : Int) = (d : Int) := by omega
            have j0 : (p : Int) ≤ (z : Int) := by omega
            have j1 : ¬ (d : Int) < (m : Int) := by omega
            have es : IntKind.u64.wrap ((z : Int) - (p : Int)) = (d : Int) := by rw [IntKind.wrap_u64]; omega
            clear hzd hin hout
            rcases hmm with ⟨hm8, hvm⟩ | hlt8
            · have i8 : ¬ (m : Int) < 8 := by omega
              clear hm8
              have L2 := k_load hxl hp hkeep
              rw [hvm] at L2
              go_wp2_with (first
                | (go_at_call 16; (first | with_reducible refine (L1 _ hI1).mono ?_ | with_reducible refine (L2 _ hI1).mono ?_); (rintro e w6 ⟨rfl, hb6⟩); have hI1 := hI1.of hb6; have hB := below_trans' hB (Nat.le_refl _) hb6)
                | (go_at_call 16; (with_reducible refine (L0 _ hI).mono ?_); (rintro e w4 ⟨rfl, hb4⟩); have hI := hI.of hb4; have hB := below_trans' hB (Nat.le_refl _) hb4; have hSt := k_store (t := t) hxl hp hv ho he _ hI)
                | (go_at_call 15; (with_reducible refine hSt.mono ?_); (rintro e w5 ⟨rfl, hI1, ho5⟩); have hI1 : IsM w5 x (upd bv q m (wb v)) (upd tv q m fun _ => t) := hI1; have hB := hB.trans (ho5.below (B := w.heap.size) (fun j hj => (by rcases hj with rfl | rfl <;> omega)) hB.size))
                | (go_at_call 9; (with_reducible refine (alive_any _).mono ?_); (rintro e w8 ⟨rfl, hb8⟩); have hB := below_trans' hB (Nat.le_refl _) hb8))
              all_goals go_ret
              all_goals exact ⟨rfl, hB⟩
            · have i9 : ¬ (8 : Int) < (m : Int) := by omega
              obtain ⟨M, hM⟩ : ∃ M : Nat, 256 ^ m = M := ⟨_, rfl⟩
              have hpw := pow_wrap m hlt8
              have hM0 : 0 < M := by rw [← hM]; exact Nat.pow_pos (by omega)
              have hMn : ((M : Int) == 0) = false := by simp only [beq_eq_false_iff_ne]; omega
              have hMi : ¬ (M : Int) = 0 := by omega
              have hMj : (0 : Int) < (M : Int) := by omega
              have i8 : (m : Int) < 8 := by omega
              have L2 := k_load hxl hp hkeep
              rw [hM] at L2 hpw
              go_wp2_with (first
                | (go_at_call 16; (first | with_reducible refine (L1 _ hI1).mono ?_ | with_reducible refine (L2 _ hI1).mono ?_); (rintro e w6 ⟨rfl, hb6⟩); have hI1 := hI1.of hb6; have hB := below_trans' hB (Nat.le_refl _) hb6)
                | (go_at_call 16; (with_reducible refine (L0 _ hI).mono ?_); (rintro e w4 ⟨rfl, hb4⟩); have hI := hI.of hb4; have hB := below_trans' hB (Nat.le_refl _) hb4; have hSt := k_store (t := t) hxl hp hv ho he _ hI)
                | (go_at_call 15; (with_reducible refine hSt.mono ?_); (rintro e w5 ⟨rfl, hI1, ho5⟩); have hI1 : IsM w5 x (upd bv q m (wb v)) (upd tv q m fun _ => t) := hI1; have hB := hB.trans (ho5.below (B := w.heap.size) (fun j hj => (by rcases hj with rfl | rfl <;> omega)) hB.size))
                | (go_at_call 9; (with_reducible refine (alive_any _).mono ?_); (rintro e w8 ⟨rfl, hb8⟩); have hB := below_trans' hB (Nat.le_refl _) hb8))
              all_goals go_ret
              all_goals exact ⟨rfl, hB⟩
          · have j0 : ¬ (p : Int) ≤ (z : Int) := by omega
            clear hin hout
            rcases hmm with ⟨hm8, hvm⟩ | hlt8
            · have i8 : ¬ (m : Int) < 8 := by omega
              clear hm8
              have L2 := k_load hxl hp hkeep
              rw [hvm] at L2
              go_wp2_with (first
                | (go_at_call 16; (first | with_reducible refine (L1 _ hI1).mono ?_ | with_reducible refine (L2 _ hI1).mono ?_); (rintro e w6 ⟨rfl, hb6⟩); have hI1 := hI1.of hb6; have hB := below_trans' hB (Nat.le_refl _) hb6)
                | (go_at_call 16; (with_reducible refine (L0 _ hI).mono ?_); (rintro e w4 ⟨rfl, hb4⟩); have hI := hI.of hb4; have hB := below_trans' hB (Nat.le_refl _) hb4; have hSt := k_store (t := t) hxl hp hv ho he _ hI)
                | (go_at_call 15; (with_reducible refine hSt.mono ?_); (rintro e w5 ⟨rfl, hI1, ho5⟩); have hI1 : IsM w5 x (upd bv q m (wb v)) (upd tv q m fun _ => t) := hI1; have hB := hB.trans (ho5.below (B := w.heap.size) (fun j hj => (by rcases hj with rfl | rfl <;> omega)) hB.size))
                | (go_at_call 9; (with_reducible refine (alive_any _).mono ?_); (rintro e w8 ⟨rfl, hb8⟩); have hB := below_trans' hB (Nat.le_refl _) hb8))
              all_goals go_ret
              all_goals exact ⟨rfl, hB⟩
            · have i9 : ¬ (8 : Int) < (m : Int) := by omega
              obtain ⟨M, hM⟩ : ∃ M : Nat, 256 ^ m = M := ⟨_, rfl⟩
              have hpw := pow_wrap m hlt8
              have hM0 : 0 < M := by rw [← hM]; exact Nat.pow_pos (by omega)
              have hMn : ((M : Int) == 0) = false := by simp only [beq_eq_false_iff_ne]; omega
              have hMi : ¬ (M : Int) = 0 := by omega
              have hMj : (0 : Int) < (M : Int) := by omega
              have i8 : (m : Int) < 8 := by omega
              have L2 := k_load hxl hp hkeep
              rw [hM] at L2 hpw
              go_wp2_with (first
                | (go_at_call 16; (first | with_reducible refine (L1 _ hI1).mono ?_ | with_reducible refine (L2 _ hI1).mono ?_); (rintro e w6 ⟨rfl, hb6⟩); have hI1 := hI1.of hb6; have hB := below_trans' hB (Nat.le_refl _) hb6)
                | (go_at_call 16; (with_reducible refine (L0 _ hI).mono ?_); (rintro e w4 ⟨rfl, hb4⟩); have hI := hI.of hb4; have hB := below_trans' hB (Nat.le_refl _) hb4; have hSt := k_store (t := t) hxl hp hv ho he _ hI)
                | (go_at_call 15; (with_reducible refine hSt.mono ?_); (rintro e w5 ⟨rfl, hI1, ho5⟩); have hI1 : IsM w5 x (upd bv q m (wb v)) (upd tv q m fun _ => t) := hI1; have hB := hB.trans (ho5.below (B := w.heap.size) (fun j hj => (by rcases hj with rfl | rfl <;> omega)) hB.size))
                | (go_at_call 9; (with_reducible refine (alive_any _).mono ?_); (rintro e w8 ⟨rfl, hb8⟩); have hB := below_trans' hB (Nat.le_refl _) hb8))
              all_goals go_ret
              all_goals exact ⟨rfl, hB⟩
theorem own : ownKnob Try.prog.godebug = none := by kernel_rfl
set_option maxRecDepth 100000 in
set_option maxHeartbeats 1000000 in
theorem lifted (os : Os) (started : os.Started) (H : Type) (enc : TypeId × Value → H) :
    ReturnsInHanded {} Try.checked os 4 .any (Rows.memKeepsSpec.pre6 enc Try.prog Try.f4 Rows.memKeepsRow.domain false) (Rows.memKeepsSpec.post enc Try.prog Try.f4 false true false false) := by
  refine returnsInHanded_of_change_sized (C := Try.checked) own started (by kernel_rfl) Try.func4
    (ChangeSpec.witness6 (enc := enc) (C := Try.checked) false ⟨#[], #[.slice none 0 0, .slice none 0 0, .int .u64 0, .int .i64 0, .int .u64 0, .bool false, .int .u64 0], []⟩ 8 (by kernel_rfl) (by kernel_rfl) (by kernel_rfl) (by kernel_rfl)) ?_
  intro W base args ds gs before hval0 hW hcnd hsz _
  have hval : ∀ (j : Nat) t v, Try.f4.params[j]? = some t → args[j]? = some v → Value.okWide Try.prog W .any base t v := hval0
  have hW' := hW
  obtain ⟨p, q, hA0, hV, rfl, hfz, hnd⟩ := hW
  have hA : DataW.TrodAll enc Try.prog W 0 (fun _ => true) true Try.f4.params.toList args.toList ds p := hA0
  have hsz' : (DataW.weightsEach Try.prog (Try.f4.params.toList ++ Rows.memKeepsSpec.plain.varTypes Try.prog) (ds ++ gs)).all (· ≤ reachBytes) = true := hsz
  rw [Try.params4] at hA hval hsz'
  obtain ⟨v0, vs0, d0, ds0, p0, q0, hargs, rfl, rfl, h0, r0⟩ := trodAll_cons hA
  obtain ⟨v1, vs1, d1, ds1, p1, q1, rfl, rfl, rfl, h1, r1⟩ := trodAll_cons r0
  obtain ⟨v2, vs2, d2, ds2, p2, q2, rfl, rfl, rfl, h2, r2⟩ := trodAll_cons r1
  obtain ⟨v3, vs3, d3, ds3, p3, q3, rfl, rfl, rfl, h3, r3⟩ := trodAll_cons r2
  obtain ⟨v4, vs4, d4, ds4, p4, q4, rfl, rfl, rfl, h4, r4⟩ := trodAll_cons r3
  obtain ⟨v5, vs5, d5, ds5, p5, q5, rfl, rfl, rfl, h5, r5⟩ := trodAll_cons r4
  obtain ⟨v6, vs6, d6, ds6, p6, q6, rfl, rfl, rfl, h6, r6⟩ := trodAll_cons r5
  obtain ⟨rfl, rfl, rfl⟩ := trodAll_nil r6
  obtain rfl : args = #[v0, v1, v2, v3, v4, v5, v6] := by cases args; simp_all
  obtain ⟨rfl, rfl⟩ := trodVars_none hV
  obtain ⟨a0, len0, cap0, rfl⟩ := okWide_slice Try.underlying22 (hval 0 22 v0 rfl rfl)
  obtain ⟨a1, len1, cap1, rfl⟩ := okWide_slice Try.underlying23 (hval 1 23 v1 rfl rfl)
  obtain ⟨m2, rfl, rfl, rfl, y2⟩ := open_int Try.underlying34 (hval 2 34 v2 rfl rfl) h2
  obtain ⟨m3, rfl, rfl, rfl, y3⟩ := open_int Try.underlying3 (hval 3 3 v3 rfl rfl) h3
  obtain ⟨m4, rfl, rfl, rfl, y4⟩ := open_int Try.underlying34 (hval 4 34 v4 rfl rfl) h4
  obtain ⟨t5, rfl, rfl, rfl⟩ := open_bool Try.underlying4 (hval 5 4 v5 rfl rfl) h5
  obtain ⟨m6, rfl, rfl, rfl, y6⟩ := open_int Try.underlying34 (hval 6 34 v6 rfl rfl) h6
  have h0k := h0
  have h1k := h1
  obtain ⟨fuel0, hf0⟩ := h0
  obtain ⟨fuel1, hf1⟩ := h1
  clear hA0 hval0
  simp only [List.append_nil] at hW'
  have hlt : ∀ x ∈ p0 ++ p1, x.block < W.heap.size := fun x hx => by simpa using hW'.lt x hx
  have hlt0 : ∀ x ∈ p0, x.block < W.heap.size := fun x hx => hlt x (List.mem_append_left _ hx)
  have hlt1 : ∀ x ∈ p1, x.block < W.heap.size := fun x hx => hlt x (List.mem_append_right _ hx)
  have b2 := bounds_u64 y2
  have b4 := bounds_u64 y4
  have b6 := bounds_u64 y6
  have b3 := bounds_i64 y3
  obtain ⟨p, rfl⟩ := Int.eq_ofNat_of_zero_le b2.1
  obtain ⟨v, rfl⟩ := Int.eq_ofNat_of_zero_le b4.1
  obtain ⟨z, rfl⟩ := Int.eq_ofNat_of_zero_le b6.1
  obtain ⟨l, hl, hwf, hsl, hlen⟩ := open_regs hf0
  obtain ⟨s, hs, hswf, hst, hslen, hwt⟩ := open_sts2 hf1
  have hz : ∀ i < s.length, (sg s i).s.size ≤ 140737488355328 := fun i hi => by
    have hm := hwt i hi
    have hm' : (sg s i).s.size ∈ DataW.weightsEach Try.prog ([22, 23, 34, 3, 34, 4, 34] ++ Rows.memKeepsSpec.plain.varTypes Try.prog) ([d0, d1, .lit (.int .u64 p), .lit (.int .i64 m3), .lit (.int .u64 v), .lit (.bool t5), .lit (.int .u64 z)] ++ []) := by
      simp only [List.cons_append, DataW.weightsEach]
      exact List.mem_append_right _ (List.mem_append_left _ hm)
    have := List.all_eq_true.1 hsz' _ hm'
    have h2 : reachBytes ≤ 140737488355328 := by decide
    exact Nat.le_trans (of_decide_eq_true this) h2
  have fin : ∀ e W', (e = Ending.returned (.bool true) ∧ Below W.heap.size W W') → ∃ v', e = Ending.returned v' ∧ Rows.memKeepsSpec.post enc Try.checked.prog Try.f4 false true false false W #[.slice a0 len0 cap0, .slice a1 len1 cap1, .int .u64 p, .int .i64 m3, .int .u64 v, .bool t5, .int .u64 z] v' W' := by
    intro e W' ⟨he, hg⟩
    subst he
    have hk := trodAll_cons_mk (Below.trod laidOut (by kernel_rfl) (of_decide_eq_true (by kernel_rfl)) h0k hg hlt0) (trodAll_cons_mk (Below.trod laidOut (by kernel_rfl) (of_decide_eq_true (by kernel_rfl)) h1k hg hlt1) (trodAll_cons_mk (shut_int Try.underlying34 y2) (trodAll_cons_mk (shut_int Try.underlying3 y3) (trodAll_cons_mk (shut_int Try.underlying34 y4) (trodAll_cons_mk (shut_bool Try.underlying4 t5) (trodAll_cons_mk (shut_int Try.underlying34 y6) trodAll_mk0))))))
    simp only [List.append_nil] at hk
    exact ⟨_, rfl, _, _, _, [], p0 ++ p1, [], hW', trodAll_mk1 (shut_bool Try.underlying4 _), hk, rfl, hg.frame _, fun h => by cases h⟩
  have hln : l.length ≤ 9223372036854775807 := by omega
  have hsn : s.length ≤ 9223372036854775807 := by omega
  by_cases hbig : LgP l ∨ HvP s
  · exact (walk_big _ _ l s p z v m3 t5 hwf hln hswf hz hsn W hsl hst hbig).mono fin
  have g1 : ¬ LgP l := fun h => hbig (Or.inl h)
  have g2 : ¬ HvP s := fun h => hbig (Or.inr h)
  by_cases hm : MayL l
  · rcases hsl with ⟨rfl, _⟩ | ⟨b, o, c, hv, hr, hb, hc⟩
    · have := hm.2.1; simp at this
    · rw [hv]
      rw [hv] at fin
      subst hs
      have hv1' : ∀ i < s.length, ∃ b o, a1 = some ⟨b, o, none⟩ ∧ stAt W b (o + i * 6) (sg s i) ∧ b < W.heap.size := fun i hi => by
        rcases hst with ⟨rfl, _⟩ | ⟨b', o', c', hv', hr', hb', hc'⟩
        · simp at hi
        · simp only [Value.slice.injEq] at hv'
          exact ⟨b', o', hv'.1, hr' i hi, hb'⟩
      exact (walk_yes l s p z v m3 t5 (by omega) (by omega) (by omega) (by omega) hwf hswf hz hsn W b o c hr hb hc a1 cap1 hst hv1' g1 g2 hm).mono fin
  · exact (walk_no _ _ l s p z v m3 t5 hwf hln hswf hz hsn W hsl hst g1 g2 hm).mono fin
theorem over : Rows.memKeepsRow.holds Try.pinned (OpenSpec.ofChange Rows.memKeepsSpec) :=
  OpenClaim.holds_of_wide 4 Try.f4 rfl rfl rfl rfl rfl rfl rfl ⟨rfl, rfl, rfl, rfl, rfl⟩ rfl rfl rfl rfl rfl (by kernel_rfl) Try.func4 (by kernel_rfl)
    (of_decide_eq_true (by kernel_rfl)) (by unfold Func.isWrapper; first | (rw [if_pos (by decide +kernel)]; kernel_rfl) | (rw [if_neg (by decide +kernel)]; exact ⟨rfl, rfl⟩))
    (fun os started H enc _ => lifted os started H enc)
/-- The statement. -/
theorem proved : Rows.MemKeepsSaid :=
  over
end Go.Proofs.Ytkcgnpcfdfkpjaa.memKeeps
