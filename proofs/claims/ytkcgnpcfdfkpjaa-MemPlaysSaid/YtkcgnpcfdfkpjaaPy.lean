/- What is proved: MemPlays returns true for any regions and any script, and leaves them as they were. Conditions: none beyond the row's own. -/
import Derived.Test.YtkcgnpcfdfkpjaaAv
import Derived.Test.YtkcgnpcfdfkpjaaHv
import Derived.Test.YtkcgnpcfdfkpjaaIz
import Derived.Test.YtkcgnpcfdfkpjaaDb
import Derived.Test.YtkcgnpcfdfkpjaaDo
import Derived.Test.YtkcgnpcfdfkpjaaAa
import Derived.Deep.RegionHeld3
import Derived.SizedLaws
namespace Go.Proofs.Ytkcgnpcfdfkpjaa.memPlays
open Go.ChangeShapes Go.WideShapes Go.ChangeAt Go.RowKit
set_option linter.unusedVariables false
theorem len40 {l : List Rg} (h : ¬ LgP l) : l.length ≤ 140737488355328 := by have : ¬ 40 < l.length := fun hh => h (Or.inr hh); omega
set_option maxRecDepth 100000 in
set_option maxHeartbeats 2000000 in
theorem walk_big (v0 v1 : Value) (l : List Rg) (s : List St) (hf : wfL l) (hn : l.length ≤ 9223372036854775807) (hs : ∀ i, (sg s i).wf) (hz : ∀ i < s.length, (sg s i).s.size ≤ 140737488355328) (hsn : s.length ≤ 9223372036854775807) (w : World) (hv0 : SlOf w v0 l) (hv1 : StOf w v1 s) (hbig : LgP l ∨ HvP s) :
    Calls Try.prog 3 #[v0, v1] w fun e w' => e = .returned (.bool true) ∧ Below w.heap.size w w' := by
  by_cases h1 : LgP l
  · have hL := (large_sl hv0 hf hn).mono (R' := fun e w' => e = .returned (.bool true) ∧ Below w.heap.size w w') fun e w' ⟨⟨r, he, hr⟩, hb⟩ => ⟨by rw [he, hr.2 h1], hb⟩
    clear hbig
    go_enter Try.func3, Try.ntmps3
    go_wp2_with (first | (go_at_call 7; (with_reducible refine hL.mono ?_); (rintro e w1 ⟨rfl, hb1⟩)) | (go_at_call 9; (with_reducible refine (alive_any _).mono ?_); (rintro e w2 ⟨rfl, hb2⟩)))
    go_ret
    exact ⟨rfl, below_trans' hb1 (Nat.le_refl _) hb2⟩
  · have h2 : HvP s := by rcases hbig with h | h; exact absurd h h1; exact h
    have hL := (large_sl hv0 hf hn).mono (R' := fun e w' => e = .returned (.bool false) ∧ Below w.heap.size w w') fun e w' ⟨⟨r, he, hr⟩, hb⟩ => ⟨by rw [he, Bool.eq_false_iff.2 (fun h => h1 (hr.1 h))], hb⟩
    have hH : ∀ w1, Below w.heap.size w w1 → Calls Try.prog 8 #[v1] w1 fun e w' => e = .returned (.bool true) ∧ Below w1.heap.size w1 w' := fun w1 hb1 => (heavy_sl (hv1.of hb1) hs hz hsn).mono fun e w' ⟨⟨r, he, hr⟩, hb⟩ => ⟨by rw [he, hr.2 h2], hb⟩
    clear hbig h1 h2
    go_enter Try.func3, Try.ntmps3
    go_wp2_with (first | (go_at_call 7; (with_reducible refine hL.mono ?_); (rintro e w1 ⟨rfl, hb1⟩); have hH1 := hH _ hb1) | (go_at_call 8; (with_reducible refine hH1.mono ?_); (rintro e w2 ⟨rfl, hb2⟩)) | (go_at_call 9; (with_reducible refine (alive_any _).mono ?_); (rintro e w3 ⟨rfl, hb3⟩)))
    go_ret
    exact ⟨rfl, below_trans' (below_trans' hb1 (Nat.le_refl _) hb2) (Nat.le_refl _) hb3⟩
/-- A row of its own, of these regions. -/
theorem own_row {w : World} {base : Nat} {v : Value} {l : List Rg} (h : w.ownsRow base 36 3 v l.length (rgsL l l.length)) (hl : 0 < l.length) : ∃ g c, v = .slice (some ⟨g, 0, none⟩) l.length c ∧ rowAt w g 0 l ∧ base ≤ g ∧ g < w.heap.size ∧ (∀ j, w.frozen? ⟨g, j, none⟩ = false) ∧ l.length ≤ c := by
  rcases h.2 with ⟨hv, hx⟩ | ⟨g, cap, cur, hv, hgb, hh, hr⟩
  · omega
  · subst hv
    refine ⟨g, cap, rfl, fun i hi => ?_, hgb, (Array.getElem?_eq_some_iff.1 hh).1, fun j => made_frozen hh j, by first | omega | exact hr.1 | (have := hr.1; omega)⟩
    have key : ∀ j < 3, ∀ u, (rgL l i)[j]? = some u → w.cell? ⟨g, i * 3 + j, none⟩ = some u := fun j hj u hu => by
      have := h.cells (g := g) rfl (i * 3 + j) u (by rw [rgsL_at l _ i j hi hj]; exact hu)
      rw [addp, Nat.zero_add] at this; exact this
    unfold regAt
    rw [Nat.zero_add]
    exact ⟨key 0 (by omega) _ rfl, key 1 (by omega) _ rfl, key 2 (by omega) _ rfl⟩
theorem does_any {x : Mm} {y : Mr} {B : Nat} {bv : Nat → Nat} {tv : Nat → Bool} (s : St) (hs : s.wf) (hz : s.s.size ≤ 140737488355328) (w : World) (h : Two w x y B bv tv) :
    Calls Try.prog 12 #[.pointer (some ⟨x.mb, 0, none⟩), .pointer (some ⟨y.rb, 0, none⟩), .agg #[.int .i64 s.d, .int .u64 s.a, .int .i64 s.n, .int .u64 s.v, .string s.s, .bool s.t]] w (DoP x y B w) := by
  by_cases h1 : s.d = 0 ∨ s.d = 2
  · exact does_read s hs h1 w h
  · by_cases h2 : s.d = 1 ∨ s.d = 3
    · exact does_write s hs hz h2 w h
    · exact (does_bytes s hs ⟨h1, h2⟩ w h).mono fun e w' ⟨he, hb⟩ => ⟨bv, tv, he, h.of hb, hb.mono h.v4⟩
theorem Two.start {l : List Rg} {x : Mm} {y : Mr} {w w4 w5 : World} (hI : IsM w4 x (fun _ => 0) (fun _ => false)) (hxl : x.l = l) (hR : IsR w5 y (fun _ => 0) (fun _ => false)) (hyl : y.l = l) (hb : Below w4.heap.size w4 w5) (p1 : w4.heap.size ≤ y.rb) (p2 : w4.heap.size ≤ y.lb) (p3 : w4.heap.size ≤ y.bb) (p4 : w4.heap.size ≤ y.ub) (p5 : ∀ j, y.bl j → w4.heap.size ≤ j) (q1 : w.heap.size ≤ x.vb) (q2 : w.heap.size ≤ x.tb) (hB : w.heap.size ≤ w4.heap.size) : Two w5 x y w.heap.size (fun _ => 0) (fun _ => false) := by
  have m1 : x.mb < w4.heap.size := World.block_lt_of_cell? w4 _ hI.ar.1
  have m2 : x.ab < w4.heap.size := World.block_lt_of_cell? w4 _ (hI.ar.2 0 (by have := hI.may.2.1; omega)).1.1
  have m3 := hI.lv
  have m4 := hI.lt
  have n : ∀ j, j < w4.heap.size → ¬ y.bl j := fun j hj h => by have := p5 j h; omega
  exact ⟨hI.of hb, hR, by rw [hyl, hxl], q1, q2, fun j hj => Nat.le_trans hB (p5 j hj), Nat.le_trans hB hb.size, ⟨n _ m1, n _ m2, n _ m3, n _ m4⟩, ⟨⟨by omega, by omega⟩, ⟨by omega, by omega⟩, ⟨by omega, by omega⟩, ⟨by omega, by omega⟩⟩⟩
theorem Two.put {w : World} {x : Mm} {y : Mr} {B g o : Nat} {bv : Nat → Nat} {tv : Nat → Bool} {v : Value} (h : Two w x y B bv tv) (hx : g < x.mb ∧ g < x.ab ∧ g < x.vb ∧ g < x.tb) (hy : g < y.rb ∧ g < y.lb ∧ g < y.bb ∧ g < y.ub) (hz : ∀ j, y.bl j → g < j) : Two (w.setCell ⟨g, o, none⟩ v) x y B bv tv := by
  have O := only_one w g o v
  exact { h with m := h.m.only O (by omega) (by omega) (by omega) (by omega), r := h.r.only O (by omega) (by omega) (by omega) (by omega) (fun j hj e => by have := hz j hj; omega), v4 := by rw [World.size_setCell]; exact h.v4 }
set_option maxRecDepth 100000 in
set_option maxHeartbeats 8000000 in
theorem walk_yes (l : List Rg) (s : List St) (hf : wfL l) (hs : ∀ i, (sg s i).wf) (hz : ∀ i < s.length, (sg s i).s.size ≤ 140737488355328) (hsn : s.length ≤ 9223372036854775807) (w : World) (b o c : Nat) (hr : rowAt w b o l) (hb : b < w.heap.size) (hc : l.length ≤ c) (a1 : Option Addr) (c1 : Nat) (hv1 : StOf w (.slice a1 s.length c1) s) (hv1' : ∀ i < s.length, ∃ b o, a1 = some ⟨b, o, none⟩ ∧ stAt w b (o + i * 6) (sg s i) ∧ b < w.heap.size) (h1 : ¬ LgP l) (h2 : ¬ HvP s) (hm : MayL l) :
    Calls Try.prog 3 #[.slice (some ⟨b, o, none⟩) l.length c, .slice a1 s.length c1] w fun e w' => e = .returned (.bool true) ∧ Below w.heap.size w w' := by
  have hl16 := hm.2.2
  have hl1 := hm.2.1
  have hL := (large_any l hf b o c (by have := len40 h1; omega) w hr hb).mono (R' := fun e w' => e = .returned (.bool false) ∧ Below w.heap.size w w') fun e w' ⟨⟨r, he, hr⟩, hb⟩ => ⟨by rw [he, Bool.eq_false_iff.2 (fun h => h1 (hr.1 h))], hb⟩
  have hH : ∀ w1, Below w.heap.size w w1 → Calls Try.prog 8 #[.slice a1 s.length c1] w1 fun e w' => e = .returned (.bool false) ∧ Below w1.heap.size w1 w' := fun w1 hb1 => (heavy_sl (hv1.of hb1) hs hz hsn).mono fun e w' ⟨⟨r, he, hr⟩, hb⟩ => ⟨by rw [he, Bool.eq_false_iff.2 (fun h => h2 (hr.1 h))], hb⟩
  obtain ⟨iR, hiR, zR0, zR1, zR2⟩ := info_parts infoR
  clear h1 h2
  go_enter Try.func3, Try.ntmps3
  go_wp2_with (first | (go_at_call 7; (with_reducible refine hL.mono ?_); (rintro e w1 ⟨rfl, hb1⟩); have hH1 := hH _ hb1) | (go_at_call 8; (with_reducible refine hH1.mono ?_); (rintro e w2 ⟨rfl, hb2⟩); have hB := below_trans' hb1 (Nat.le_refl _) hb2) | (at_builtin; refine wpList_append_own _ rfl _ _ 22 rfl w2.heap.size 36 iR (.agg #[.int .u64 0, .int .u64 0, .int .u8 0]) 3 24 Try.underlying22 hiR zR0 zR1 zR2 rfl (by decide) (.slice none 0 0) 0 [] rfl (World.ownsRow_nil _ _ _ _) ⟨b, o, none⟩ l.length c (rgsL l l.length) rfl (by rw [rgsL_length]) ?qc1 (rgsL_one _ _) (by unfold maxLen; omega) (by omega) (Nat.le_refl _) ?_))
  case qc1 => exact rgsL_cells (hr.of hB)
  intro vO w3 hown hgr hnil
  have hown : w3.ownsRow w2.heap.size 36 3 vO l.length (rgsL l l.length) := by simpa using hown
  obtain ⟨gO, cO, rfl, hrO, hgO, hgO2, hfO, hcO⟩ := own_row hown hl1
  have hB3 : Below w.heap.size w w3 := hB.grown hgr hB.size (fun k hk => by simp [Value.ownBlock] at hk)
  have hws := hB.size
  clear hown hgr hnil
  have hN1 := new_yes l hm hf gO 0 cO hcO w3 hrO hgO2
  have hN2 : ∀ w4, Below w.heap.size w w4 → Calls Try.prog 11 #[.slice (some ⟨b, o, none⟩) l.length c] w4 (RnP l w4) := fun w4 hb4 => rnew_yes l hm hf b o c w4 (hr.of hb4) (Nat.lt_of_lt_of_le hb hb4.size)
  go_wp2_with (first
    | (go_at_call 10; (with_reducible refine hN1.mono ?_); (rintro e w4 ⟨⟨x, rfl, hxl, hI, hx1, hx2, hx3, hx4⟩, hb4⟩); have hB4 := below_trans' hB3 (Nat.le_refl _) hb4; have hN2 := hN2 _ hB4)
    | (go_at_call 11; (with_reducible refine hN2.mono ?_); (rintro e w5 ⟨⟨y, rfl, hyl, hR, hy1, hy2, hy3, hy4, hy5⟩, hb5⟩); have hB5 := below_trans' hB4 (Nat.le_refl _) hb5))
  have hT := Two.start (w := w) hI hxl hR hyl hb5 hy1 hy2 hy3 hy4 hy5 (by omega) (by omega) hB4.size
  have h34 := hb4.size
  have gx : gO < x.mb ∧ gO < x.ab ∧ gO < x.vb ∧ gO < x.tb := ⟨by omega, by omega, by omega, by omega⟩
  have gy : gO < y.rb ∧ gO < y.lb ∧ gO < y.bb ∧ gO < y.ub := ⟨by omega, by omega, by omega, by omega⟩
  have gz : ∀ j, y.bl j → gO < j := fun j hj => by have := hy5 j hj; omega
  have hb35 := below_trans' hb4 (Nat.le_refl _) hb5
  have hrO5 := hrO.of hb35
  have hfO5 : ∀ j, w5.frozen? ⟨gO, j, none⟩ = false := fun j => ((only_below (S := fun _ => False) hb35).frozen (by exact hgO2) (fun h => h)).trans (hfO j)
  have hgO5 : gO < w5.heap.size := Nat.lt_of_lt_of_le hgO2 hb35.size
  clear hL hH hH1 hN1 hN2 hrO hfO hb1 hb2 hI hR hb35 hb5 hb4 hB4 hB3 hB
  go_loopw [10] (fun i wr => ∃ k : Nat, i = .int .i64 k ∧ k ≤ l.length ∧ Below w.heap.size w wr ∧ Two wr x y w.heap.size (fun _ => 0) (fun _ => false) ∧ (∀ i, k ≤ i → i < l.length → regAt wr gO (i * 3) (rg l i)) ∧ (∀ j, wr.frozen? ⟨gO, j, none⟩ = false) ∧ gO < wr.heap.size) (fun i _ => l.length - (intOf i).toNat)
  case atStart => exact ⟨0, rfl, Nat.zero_le _, hB5, hT, fun i _ hi => by have := hrO5 i hi; rw [Nat.zero_add] at this; exact this, hfO5, hgO5⟩
  case round =>
    clear hB5 hT hrO5 hfO5 hgO5
    obtain ⟨k, rfl, hk, hB, hT, hro, hfo, hgo⟩ := hrel
    by_cases hlt : k < l.length
    · obtain ⟨c0, c1, c2⟩ := hro k (Nat.le_refl _) hlt
      obtain ⟨r0, r1, r2⟩ := hr k hlt
      have r0 := stay hB r0
      have r1 := stay hB r1
      have r2 := stay hB r2
      have hbs : b < wr.heap.size := Nat.lt_of_lt_of_le hb hB.size
      have f1 := hfo (k * 3 + 1)
      obtain ⟨⟨⟨g1, g2, g3, g4⟩, g5⟩, _⟩ := hm.1 k hlt
      have i0 : (0 : Int) ≤ (k : Int) := by omega
      have i1 : (k : Int) < (l.length : Int) := by omega
      have hadd := add64 (rg l k).s 1 (by omega)
      have hnx : ∀ (W : World) v, Below wr.heap.size wr W → (∀ p, W.cell? p = wr.cell? p) → Below w.heap.size w (W.setCell ⟨gO, k * 3 + 1, none⟩ v) ∧ Two (W.setCell ⟨gO, k * 3 + 1, none⟩ v) x y w.heap.size (fun _ => 0) (fun _ => false) ∧ (∀ i, k + 1 ≤ i → i < l.length → regAt (W.setCell ⟨gO, k * 3 + 1, none⟩ v) gO (i * 3) (rg l i)) ∧ (∀ j, (W.setCell ⟨gO, k * 3 + 1, none⟩ v).frozen? ⟨gO, j, none⟩ = false) ∧ gO < (W.setCell ⟨gO, k * 3 + 1, none⟩ v).heap.size := fun W v hW hce => by
        refine ⟨(below_trans' hB (Nat.le_refl _) hW).setCell (by simp only; omega) v, Two.put (hT.of hW) gx gy gz, fun i hi hil => ?_, fun j => ?_, by rw [World.size_setCell]; exact Nat.lt_of_lt_of_le hgo hW.size⟩
        · obtain ⟨q0, q1, q2⟩ := hro i (by omega) hil
          unfold regAt
          have cs := fun j => cell_set (w := W) (o := k * 3 + 1) v ((hce ⟨gO, k * 3 + 1, none⟩).trans c1) j
          exact ⟨by rw [cs, if_neg (by omega), hce]; exact q0, by rw [cs, if_neg (by omega), hce]; exact q1, by rw [cs, if_neg (by omega), hce]; exact q2⟩
        · rw [World.frozen?_setCell]
          exact ((only_below (S := fun _ => False) hW).frozen (by exact hgo) (fun h => h)).trans (hfo j)
      go_wp2
      go_quiet (fail)
      have hnx := hnx (wr.drewN nq) (.int .u64 ((rg l k).s + 1 : Nat)) (bdN (Below.refl _ _) _) (fun _ => rfl)
      go_wp2
      go_roundw
      case rel => exact ⟨k + 1, by go_num, by omega, hnx⟩
      case measure => first | (simp [intOf]; done) | (simp [intOf]; omega)
    · obtain rfl : k = l.length := by omega
      clear hro hfo
      go_wp2
      go_loopw [11] (fun i wr => ∃ (k : Nat) (bv : Nat → Nat) (tv : Nat → Bool), i = .int .i64 k ∧ k ≤ s.length ∧ Two wr x y w.heap.size bv tv ∧ Below w.heap.size w wr) (fun i _ => s.length - (intOf i).toNat)
      case atStart => exact ⟨0, _, _, rfl, Nat.zero_le _, hT, hB⟩
      case round =>
        clear hT hB
        obtain ⟨k, bv, tv, rfl, hk, hT, hB⟩ := hrel
        by_cases hlt2 : k < s.length
        · obtain ⟨b2, o2, rfl, ⟨d0, d1, d2, d3, d4, d5⟩, hb2⟩ := hv1' k hlt2
          have hD := does_any (sg s k) (hs k) (hz k hlt2) wr hT
          have d0 := stay hB d0
          have d1 := stay hB d1
          have d2 := stay hB d2
          have d3 := stay hB d3
          have d4 := stay hB d4
          have d5 := stay hB d5
          have hbs : b2 < wr.heap.size := Nat.lt_of_lt_of_le hb2 hB.size
          have i0 : (0 : Int) ≤ (k : Int) := by omega
          have i1 : (k : Int) < (s.length : Int) := by omega
          go_wp2_with (go_at_call 12; (with_reducible refine hD.mono ?_); (rintro e w6 ⟨bu, tu, rfl, hT6, hb6⟩); have hB6 := hB.trans hb6)
          go_roundw
          case rel => exact ⟨k + 1, _, _, by go_num, by omega, hT6, hB6⟩
          case measure => first | (simp [intOf]; done) | (simp [intOf]; omega)
        · obtain rfl : k = s.length := by omega
          have hA := all_any wr hT
          go_wp2_with (first
            | (go_at_call 13; (with_reducible refine hA.mono ?_); (rintro e w7 ⟨rfl, hb7⟩); have hB := below_trans' hB (Nat.le_refl _) hb7)
            | (go_at_call 9; (with_reducible refine (alive_any _).mono ?_); (rintro e w8 ⟨rfl, hb8⟩); have hB := below_trans' hB (Nat.le_refl _) hb8))
          go_ret
          exact ⟨rfl, hB⟩
theorem own_any {w : World} {base : Nat} {v : Value} {l : List Rg} (h : w.ownsRow base 36 3 v l.length (rgsL l l.length)) : SlOf w v l := by
  by_cases hl : 0 < l.length
  · obtain ⟨g, c, rfl, hr, _, hg, _, hc⟩ := own_row h hl
    exact .inr ⟨g, 0, c, rfl, hr, hg, hc⟩
  · obtain rfl : l = [] := List.eq_nil_of_length_eq_zero (by omega)
    left
    rcases h.2 with ⟨hv, hx⟩ | ⟨g, cap, cur, hv, _⟩
    · exact ⟨rfl, none, 0, by first | exact hv | exact hx⟩
    · exact ⟨rfl, _, cap, hv⟩
set_option maxRecDepth 100000 in
set_option maxHeartbeats 2000000 in
theorem walk_no1 (v1 : Value) (l : List Rg) (s : List St) (hf : wfL l) (hn : l.length ≤ 9223372036854775807) (hs : ∀ i, (sg s i).wf) (hz : ∀ i < s.length, (sg s i).s.size ≤ 140737488355328) (hsn : s.length ≤ 9223372036854775807) (w : World) (ad : Addr) (n c : Nat) (hln : l.length = n) (hv0 : SlOf w (.slice (some ad) n c) l) (hcl : ∀ j u, (rgsL l l.length)[j]? = some u → w.cell? (ad.add j) = some u) (hv1 : StOf w v1 s) (h1 : ¬ LgP l) (h2 : ¬ HvP s) (hm : ¬ MayL l) :
    Calls Try.prog 3 #[.slice (some ad) n c, v1] w fun e w' => e = .returned (.bool true) ∧ Below w.heap.size w w' := by
  have h40 : l.length ≤ 40 := by have : ¬ 40 < l.length := fun hh => h1 (Or.inr hh); omega
  have hL := (large_sl hv0 hf hn).mono (R' := fun e w' => e = .returned (.bool false) ∧ Below w.heap.size w w') fun e w' ⟨⟨r, he, hr⟩, hb⟩ => ⟨by rw [he, Bool.eq_false_iff.2 (fun h => h1 (hr.1 h))], hb⟩
  have hH : ∀ w1, Below w.heap.size w w1 → Calls Try.prog 8 #[v1] w1 fun e w' => e = .returned (.bool false) ∧ Below w1.heap.size w1 w' := fun w1 hb1 => (heavy_sl (hv1.of hb1) hs hz hsn).mono fun e w' ⟨⟨r, he, hr⟩, hb⟩ => ⟨by rw [he, Bool.eq_false_iff.2 (fun h => h2 (hr.1 h))], hb⟩
  obtain ⟨iR, hiR, zR0, zR1, zR2⟩ := info_parts infoR
  have hN2 : ∀ w4, Below w.heap.size w w4 → Calls Try.prog 11 #[.slice (some ad) n c] w4 fun e w' => e = .returned (.tuple #[.pointer none, .int .i64 2]) ∧ Below w4.heap.size w4 w' := fun w4 hb4 => rnew_no (hv0.of hb4) hf hn hm
  have hN1 : ∀ w4 v, SlOf w4 v l → Calls Try.prog 10 #[v] w4 fun e w' => e = .returned (.tuple #[.pointer none, .int .i64 2]) ∧ Below w4.heap.size w4 w' := fun w4 v hv => new_no hv hf (by omega) hm
  clear h1 h2 hm
  go_enter Try.func3, Try.ntmps3
  go_wp2_with (first | (go_at_call 7; (with_reducible refine hL.mono ?_); (rintro e w1 ⟨rfl, hb1⟩); have hH1 := hH _ hb1) | (go_at_call 8; (with_reducible refine hH1.mono ?_); (rintro e w2 ⟨rfl, hb2⟩); have hB := below_trans' hb1 (Nat.le_refl _) hb2) | (at_builtin; refine wpList_append_own _ rfl _ _ 22 rfl w2.heap.size 36 iR (.agg #[.int .u64 0, .int .u64 0, .int .u8 0]) 3 24 Try.underlying22 hiR zR0 zR1 zR2 rfl (by decide) (.slice none 0 0) 0 [] rfl (World.ownsRow_nil _ _ _ _) ad n c (rgsL l l.length) rfl (by rw [rgsL_length, hln]) ?qc1 (rgsL_one _ _) (by unfold maxLen; omega) (by omega) (Nat.le_refl _) ?_))
  case qc1 => exact fun j u hu => stay hB (hcl j u hu)
  intro vO w3 hown hgr hnil
  have hown : w3.ownsRow w2.heap.size 36 3 vO l.length (rgsL l l.length) := by rw [hln]; simpa using hown
  have hN1 := hN1 _ _ (own_any hown)
  have hB3 : Below w.heap.size w w3 := hB.grown hgr hB.size (fun k hk => by simp [Value.ownBlock] at hk)
  clear hown hgr hnil
  go_wp2_with (first
    | (go_at_call 10; (with_reducible refine hN1.mono ?_); (rintro e w4 ⟨rfl, hb4⟩); have hB4 := below_trans' hB3 (Nat.le_refl _) hb4; have hN2 := hN2 _ hB4)
    | (go_at_call 11; (with_reducible refine hN2.mono ?_); (rintro e w5 ⟨rfl, hb5⟩); have hB5 := below_trans' hB4 (Nat.le_refl _) hb5)
    | (go_at_call 9; (with_reducible refine (alive_any _).mono ?_); (rintro e w8 ⟨rfl, hb8⟩); have hB5 := below_trans' hB5 (Nat.le_refl _) hb8))
  go_ret
  exact ⟨rfl, hB5⟩
set_option maxRecDepth 100000 in
set_option maxHeartbeats 2000000 in
theorem walk_no0 (v1 : Value) (s : List St) (hs : ∀ i, (sg s i).wf) (hz : ∀ i < s.length, (sg s i).s.size ≤ 140737488355328) (hsn : s.length ≤ 9223372036854775807) (w : World) (c : Nat) (hv1 : StOf w v1 s) (h2 : ¬ HvP s) :
    Calls Try.prog 3 #[.slice none 0 c, v1] w fun e w' => e = .returned (.bool true) ∧ Below w.heap.size w w' := by
  have hm : ¬ MayL [] := fun h => by have := h.2.1; simp at this
  have hf : wfL [] := fun i => by simp [rg, Rg.wf]
  have h1 : ¬ LgP [] := fun h => by rcases h with h | h; exact hm h.1; simp at h
  have hv0 : SlOf w (.slice none 0 c) [] := .inl ⟨rfl, none, c, rfl⟩
  have hL := (large_sl hv0 hf (by simp)).mono (R' := fun e w' => e = .returned (.bool false) ∧ Below w.heap.size w w') fun e w' ⟨⟨r, he, hr⟩, hb⟩ => ⟨by rw [he, Bool.eq_false_iff.2 (fun h => h1 (hr.1 h))], hb⟩
  have hH : ∀ w1, Below w.heap.size w w1 → Calls Try.prog 8 #[v1] w1 fun e w' => e = .returned (.bool false) ∧ Below w1.heap.size w1 w' := fun w1 hb1 => (heavy_sl (hv1.of hb1) hs hz hsn).mono fun e w' ⟨⟨r, he, hr⟩, hb⟩ => ⟨by rw [he, Bool.eq_false_iff.2 (fun h => h2 (hr.1 h))], hb⟩
  have hN2 : ∀ w4, Below w.heap.size w w4 → Calls Try.prog 11 #[.slice none 0 c] w4 fun e w' => e = .returned (.tuple #[.pointer none, .int .i64 2]) ∧ Below w4.heap.size w4 w' := fun w4 hb4 => rnew_no (hv0.of hb4) hf (by simp) hm
  have hN1 : ∀ w4, Calls Try.prog 10 #[.slice none 0 0] w4 fun e w' => e = .returned (.tuple #[.pointer none, .int .i64 2]) ∧ Below w4.heap.size w4 w' := fun w4 => new_no (.inl ⟨rfl, none, 0, rfl⟩) hf (by simp) hm
  clear h1 h2 hm
  go_enter Try.func3, Try.ntmps3
  go_wp2_with (first
    | (go_at_call 7; (with_reducible refine hL.mono ?_); (rintro e w1 ⟨rfl, hb1⟩); have hH1 := hH _ hb1)
    | (go_at_call 8; (with_reducible refine hH1.mono ?_); (rintro e w2 ⟨rfl, hb2⟩); have hB := below_trans' hb1 (Nat.le_refl _) hb2)
    | (go_at_call 10; (with_reducible refine (hN1 _).mono ?_); (rintro e w4 ⟨rfl, hb4⟩); have hB4 := below_trans' hB (Nat.le_refl _) hb4; have hN2 := hN2 _ hB4)
    | (go_at_call 11; (with_reducible refine hN2.mono ?_); (rintro e w5 ⟨rfl, hb5⟩); have hB5 := below_trans' hB4 (Nat.le_refl _) hb5)
    | (go_at_call 9; (with_reducible refine (alive_any _).mono ?_); (rintro e w8 ⟨rfl, hb8⟩); have hB5 := below_trans' hB5 (Nat.le_refl _) hb8))
  go_ret
  exact ⟨rfl, hB5⟩
theorem own : ownKnob Try.prog.godebug = none := by kernel_rfl
set_option maxRecDepth 100000 in
set_option maxHeartbeats 1000000 in
theorem lifted (os : Os) (started : os.Started) (H : Type) (enc : TypeId × Value → H) :
    ReturnsInHanded {} Try.checked os 3 .any (Rows.memPlaysSpec.pre6 enc Try.prog Try.f3 Rows.memPlaysRow.domain false) (Rows.memPlaysSpec.post enc Try.prog Try.f3 false true false false) := by
  refine returnsInHanded_of_change_sized (C := Try.checked) own started (by kernel_rfl) Try.func3
    (ChangeSpec.witness6 (enc := enc) (C := Try.checked) false ⟨#[], #[.slice none 0 0, .slice none 0 0], []⟩ 8 (by kernel_rfl) (by kernel_rfl) (by kernel_rfl) (by kernel_rfl)) ?_
  intro W base args ds gs before hval0 hW hcnd hsz _
  have hval : ∀ (j : Nat) t v, Try.f3.params[j]? = some t → args[j]? = some v → Value.okWide Try.prog W .any base t v := hval0
  have hW' := hW
  obtain ⟨p, q, hA0, hV, rfl, hfz, hnd⟩ := hW
  have hA : DataW.TrodAll enc Try.prog W 0 (fun _ => true) true Try.f3.params.toList args.toList ds p := hA0
  have hsz' : (DataW.weightsEach Try.prog (Try.f3.params.toList ++ Rows.memPlaysSpec.plain.varTypes Try.prog) (ds ++ gs)).all (· ≤ reachBytes) = true := hsz
  rw [Try.params3] at hA hval hsz'
  obtain ⟨v0, vs0, d0, ds0, p0, q0, hargs, rfl, rfl, h0, r0⟩ := trodAll_cons hA
  obtain ⟨v1, vs1, d1, ds1, p1, q1, rfl, rfl, rfl, h1, r1⟩ := trodAll_cons r0
  obtain ⟨rfl, rfl, rfl⟩ := trodAll_nil r1
  obtain rfl : args = #[v0, v1] := by cases args; simp_all
  obtain ⟨rfl, rfl⟩ := trodVars_none hV
  obtain ⟨a0, len0, cap0, rfl⟩ := okWide_slice Try.underlying22 (hval 0 22 v0 rfl rfl)
  obtain ⟨a1, len1, cap1, rfl⟩ := okWide_slice Try.underlying23 (hval 1 23 v1 rfl rfl)
  have h0k := h0
  have h1k := h1
  obtain ⟨fuel0, hf0⟩ := h0
  obtain ⟨fuel1, hf1⟩ := h1
  clear hA0 hval0
  simp only [List.append_nil] at hW'
  have hlt : ∀ x ∈ p0 ++ p1, x.block < W.heap.size := fun x hx => by simpa using hW'.lt x hx
  have hlt0 : ∀ x ∈ p0, x.block < W.heap.size := fun x hx => hlt x (List.mem_append_left _ hx)
  have hlt1 : ∀ x ∈ p1, x.block < W.heap.size := fun x hx => hlt x (List.mem_append_right _ hx)
  obtain ⟨l, hl, hwf, hsl, hlen⟩ := open_regs hf0
  obtain ⟨s, hs, hswf, hst, hslen, hwt⟩ := open_sts2 hf1
  have hz : ∀ i < s.length, (sg s i).s.size ≤ 140737488355328 := fun i hi => by
    have hm := hwt i hi
    have hm' : (sg s i).s.size ∈ DataW.weightsEach Try.prog ([22, 23] ++ Rows.memPlaysSpec.plain.varTypes Try.prog) ([d0, d1] ++ []) := by
      simp only [List.cons_append, DataW.weightsEach]
      exact List.mem_append_right _ (List.mem_append_left _ hm)
    have := List.all_eq_true.1 hsz' _ hm'
    have h2 : reachBytes ≤ 140737488355328 := by decide
    exact Nat.le_trans (of_decide_eq_true this) h2
  have fin : ∀ e W', (e = Ending.returned (.bool true) ∧ Below W.heap.size W W') → ∃ v', e = Ending.returned v' ∧ Rows.memPlaysSpec.post enc Try.checked.prog Try.f3 false true false false W #[.slice a0 len0 cap0, .slice a1 len1 cap1] v' W' := by
    intro e W' ⟨he, hg⟩
    subst he
    have hk := trodAll_cons_mk (Below.trod laidOut (by kernel_rfl) (of_decide_eq_true (by kernel_rfl)) h0k hg hlt0) (trodAll_cons_mk (Below.trod laidOut (by kernel_rfl) (of_decide_eq_true (by kernel_rfl)) h1k hg hlt1) trodAll_mk0)
    simp only [List.append_nil] at hk
    exact ⟨_, rfl, _, _, _, [], p0 ++ p1, [], hW', trodAll_mk1 (shut_bool Try.underlying4 _), hk, rfl, hg.frame _, fun h => by cases h⟩
  have hln : l.length ≤ 9223372036854775807 := by omega
  have hsn : s.length ≤ 9223372036854775807 := by omega
  by_cases hbig : LgP l ∨ HvP s
  · exact (walk_big _ _ l s hwf hln hswf hz hsn W hsl hst hbig).mono fin
  have g1 : ¬ LgP l := fun h => hbig (Or.inl h)
  have g2 : ¬ HvP s := fun h => hbig (Or.inr h)
  by_cases hm : MayL l
  · rcases hsl with ⟨rfl, _⟩ | ⟨b, o, c, hv, hr, hb, hc⟩
    · have := hm.2.1; simp at this
    · rw [hv]
      rw [hv] at fin
      subst hs
      have hv1' : ∀ i < s.length, ∃ b o, a1 = some ⟨b, o, none⟩ ∧ stAt W b (o + i * 6) (sg s i) ∧ b < W.heap.size := fun i hi => by
        rcases hst with ⟨rfl, _⟩ | ⟨b', o', c', hv', hr', hb', hc'⟩
        · simp at hi
        · simp only [Value.slice.injEq] at hv'
          exact ⟨b', o', hv'.1, hr' i hi, hb'⟩
      exact (walk_yes l s hwf hswf hz hsn W b o c hr hb hc a1 cap1 hst hv1' g1 g2 hm).mono fin
  · rcases hsl with ⟨rfl, a, c, hv⟩ | ⟨b, o, c, hv, hr, hb, hc⟩
    · rw [hv] at fin ⊢
      cases a with
      | none => exact (walk_no0 _ s hswf hz hsn W c hst g2).mono fin
      | some ad => exact (walk_no1 _ [] s hwf hln hswf hz hsn W ad 0 c rfl (.inl ⟨rfl, _, c, rfl⟩) (fun j u hu => by simp [rgsL] at hu) hst g1 g2 hm).mono fin
    · rw [hv] at fin ⊢
      exact (walk_no1 _ l s hwf hln hswf hz hsn W ⟨b, o, none⟩ l.length c rfl (.inr ⟨b, o, c, rfl, hr, hb, hc⟩) (rgsL_cells hr) hst g1 g2 hm).mono fin
theorem over : Rows.memPlaysRow.holds Try.pinned (OpenSpec.ofChange Rows.memPlaysSpec) :=
  OpenClaim.holds_of_wide 3 Try.f3 rfl rfl rfl rfl rfl rfl rfl ⟨rfl, rfl, rfl, rfl, rfl⟩ rfl rfl rfl rfl rfl (by kernel_rfl) Try.func3 (by kernel_rfl)
    (of_decide_eq_true (by kernel_rfl)) (by unfold Func.isWrapper; first | (rw [if_pos (by decide +kernel)]; kernel_rfl) | (rw [if_neg (by decide +kernel)]; exact ⟨rfl, rfl⟩))
    (fun os started H enc _ => lifted os started H enc)
/-- The statement. -/
theorem proved : Rows.MemPlaysSaid :=
  over
end Go.Proofs.Ytkcgnpcfdfkpjaa.memPlays
