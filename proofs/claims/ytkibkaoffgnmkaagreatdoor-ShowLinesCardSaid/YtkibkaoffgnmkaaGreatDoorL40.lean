/- The method statement of taker. -/
import Derived.Test.YtkibkaoffgnmkaaGreatDoorL39
namespace Go.Proofs.YtkibkaoffgnmkaaGreatDoor
set_option linter.unusedVariables false
set_option linter.unusedSimpArgs false
set_option maxRecDepth 100000
set_option maxHeartbeats 200000000
open Go Go.ChangeShapes Go.WideShapes Go.ChangeAt Go.RowKit m9
attribute [local go_sem] Oper.semAt_some
theorem sx_below {w0 A : World} {K : Sx} (h : K.is (fun b => b < w0.heap.size) w0) (hb : Below w0.heap.size w0 A) : K.is (fun b => b < A.heap.size) A := by
 unfold Sx.is at h ⊢
 exact h.mv (fun b hb' => Nat.lt_of_lt_of_le hb' hb.size) (fun b o v hg hc => (hb.cell (p := ⟨b, o, none⟩) hg).trans hc)
theorem nineq {c0 c1 c2 c3 c4 c5 c6 c7 c8 : Value} {w : World} {g : Nat} (h : rowG #[c0, c1, c2, c3, c4, c5, c6, c7, c8] w g) : w.cell? ⟨g, 0, none⟩ = some c0 ∧ w.cell? ⟨g, 1, none⟩ = some c1 ∧ w.cell? ⟨g, 2, none⟩ = some c2 ∧ w.cell? ⟨g, 3, none⟩ = some c3 ∧ w.cell? ⟨g, 4, none⟩ = some c4 ∧ w.cell? ⟨g, 5, none⟩ = some c5 ∧ w.cell? ⟨g, 6, none⟩ = some c6 ∧ w.cell? ⟨g, 7, none⟩ = some c7 ∧ w.cell? ⟨g, 8, none⟩ = some c8 :=
 ⟨h.1 0 (by simp), h.1 1 (by simp), h.1 2 (by simp), h.1 3 (by simp), h.1 4 (by simp), h.1 5 (by simp), h.1 6 (by simp), h.1 7 (by simp), h.1 8 (by simp)⟩
theorem elL_le (dp : Nat) (el : List St) : (stsL (dp + 1) el).length ≤ (elL dp el).length := by
 unfold elL
 cases el with
 | nil => simp [stsL]
 | cons a r => rw [if_neg (by simp), List.length_cons]; omega
theorem stmt_in {l : Nat} {LL : List (Nat × List Tk)} {w0 W : World} {J : Nat → World → Prop} (hK : Tak l LL w0 W J) {m : Nat} (ih : TkB l LL w0 W J m) (n : Nat) (K : Sx) (dp k : Nat) (A : World)
  (hKi : K.is (fun b => b < w0.heap.size) w0) (hlen : (stL dp K.x).length ≤ m + 1) (hf : K.x.fa) (hd : K.x.nd) (hL : LnAt LL k (stL dp K.x)) (hJ : J k A) (hA : W.heap.size ≤ A.heap.size) (hdp : dp + (m + 1) ≤ 1000000) :
  CallsIn Fence.wide n Tryz.prog 120 #[.func (.yield l) #[] #[], .agg K.cells.toArray, .int .i64 (dp : Int)] A fun r A' => r = .returned (.bool true) ∧ J (k + (stL dp K.x).length) A' ∧ Kp 5 W.heap.size A A' := by
 have hdd : ∀ k : Nat, (Fence.wide.depth.isSome = true → 1 ≤ k) := room_none
 have hcast : ((dp + 1 : Nat) : Int) = (dp : Int) + 1 := by omega
 obtain ⟨hx, h256, hnx, hna, hnb, hnl, hxl, hal, hbl, hll, hX, hAr, hB, hLs⟩ := sx_all hKi
 have hx' := hx
 rw [hx, St.fa] at hf
 rw [hx, St.nd] at hd
 obtain ⟨hft, hfb, hfl⟩ := hf
 obtain ⟨hdx, hdb, hdl⟩ := hd
 have hlines : stL dp K.x = (dp, stH K.k K.nm K.fr K.sec K.mu K.x.ex K.x.ar) :: (if 5 ≤ K.k ∧ K.k ≤ 8 then stsL (dp + 1) K.x.bd ++ (elL dp K.x.el ++ [(dp, [sg [125]])]) else []) := by
  conv => lhs; rw [hx, stL]
  rfl
 rw [hlines] at hL hlen ⊢
 obtain ⟨hL0, hL1⟩ := hL.cons
 -- the boxed statement
 have hPA := hK.pre k A hJ
 obtain ⟨A1, hA1⟩ : ∃ A1, A.alloc (.cells K.cells.toArray 52) = A1 := ⟨_, rfl⟩
 have hB1 : Below A.heap.size A A1 := by rw [← hA1]; exact aB (Below.refl _ _) _
 have hS1 : HasS K.cells.toArray 52 A.heap.size A1 := by rw [← hA1]; exact HasS.new _ _ _
 have hr1 : rowG K.cells.toArray A1 A.heap.size := by rw [← hA1]; exact rowG_at _ _ _ _ rfl
 have hP1 : Below w0.heap.size w0 A1 := hPA.trans (hB1.mono hPA.size)
 have hfi := first_any K A1 (hK.tb.of hP1) (hK.sw.of hP1) (sx_below hKi hP1) (by rw [hx]; exact hft) hdx
 have hl1 := hr1.2.2
 have hdx' := hdx
 clear hdx hft hX hAr hx hlines hP1 hPA hdx'
 obtain ⟨kk, nm, fr, sec, mu, mx, nx, cx, ma, na, ca, mb, nb, cb, ml, nl, cl, x⟩ := K
 simp only [Sx.cells] at *
 generalize x.ex = ex at *
 generalize x.ar = ar at *
 generalize hbd : x.bd = bd at *
 generalize hel : x.el = el at *
 clear hKi hx'
 obtain ⟨ki, hki⟩ : ∃ ki : Int, ki = (kk : Int) := ⟨_, rfl⟩
 rw [← hki] at hA1 hS1 hr1 hfi ⊢
 have hrow : ∀ X, HasS #[.int .u8 ki, .string (str nm), .string (str fr), .bool sec, .bool mu, .slice mx nx cx, .slice ma na ca, .slice mb nb cb, .slice ml nl cl] 52 A.heap.size X → X.cell? ⟨A.heap.size, 0, none⟩ = some (.int .u8 ki) ∧ X.cell? ⟨A.heap.size, 7, none⟩ = some (.slice mb nb cb) ∧ X.cell? ⟨A.heap.size, 8, none⟩ = some (.slice ml nl cl) ∧ A.heap.size < X.heap.size := fun X h => ⟨h.cell 0, h.cell 7, h.cell 8, h.lt⟩
 obtain ⟨t0, t1, t2, t3, t4, t5, t6, t7, t8⟩ := nineq hr1
 by_cases hc : 5 ≤ kk ∧ kk ≤ 8
 ·rw [if_pos hc] at hL1 hlen ⊢
  obtain ⟨hLb, hL2⟩ := hL1.app
  obtain ⟨hLe, hL3⟩ := hL2.app
  obtain ⟨hLz, -⟩ := hL3.cons
  simp only [List.length_cons, List.length_append, List.length_nil] at hlen
  have hel1 := elL_le dp el
  have hnb' : bd.length = nb := hnb.symm
  have hnl' : el.length = nl := hnl.symm
  have hkk : ki = 5 ∨ ki = 6 ∨ ki = 7 ∨ ki = 8 := by omega
  have hce : [] ++ zs ([[125]].map sg) = zs [sg [125]] := by simp [zs]
  clear hc hL1 hL2 hL3 hL h256 hnb hnl hna hnx
  have hbk := fun A3 (h1 : J (k + 1) A3) (h2 : W.heap.size ≤ A3.heap.size) => ih (n - 1) bd mb nb cb (dp + 1) (k + 1) A3 hnb' (by omega) hfb hdb hB hbl hLb h1 h2 (by omega)
  have hot := fun A4 (h1 : J (k + 1 + (stsL (dp + 1) bd).length) A4) (h2 : W.heap.size ≤ A4.heap.size) => other_in hK ih (n - 1) el ml nl cl dp (k + 1 + (stsL (dp + 1) bd).length) A4 hnl' (by omega) hfl hdl hLs hll hLe h1 h2 (by omega)
  simp only [hcast] at hbk
  rcases hkk with rfl | rfl | rfl | rfl
  all_goals
   clear hki
   refine callsIn_of_wp Tryz.func120 rfl trivial ?_
   simp only [Tryz.ntmps120, List.size_toArray, List.length_cons, List.length_nil, Nat.reduceAdd, Nat.reduceSub, Array.replicate_succ, Array.replicate_zero, List.push_toArray, List.append_toArray, List.nil_append, List.cons_append]
   gi_wp2_with (first | (refine ⟨trivial, hdd _, ?_⟩; gi_at_call 148; (with_reducible refine (callsIn_wide.2 hfi).mono ?_); clear hfi t0 t1 t2 t3 t4 t5 t6 t7 t8; rintro e A2 ⟨⟨l2, rfl, ho2⟩, hB2⟩; have hB02 := hB1.trans (hB2.mono hB1.size); have hO2 := own_base (Nat.zero_le _) ho2; (obtain ⟨fn, tmps, assign, body, hy, hR⟩ := hK.y (n - 1) k dp _ l2 A2 (hK.to hJ hB02) hL0 hO2 (Nat.le_trans hA hB02.size)); have hS2 := hS1.below hB2) | (refine ⟨hdd _, ?_⟩; refine (round_any hR).mono ?_; clear hR hy; rintro e A3 ⟨rfl, hJ3, hK3⟩; have hA3 := Nat.le_trans (Nat.le_trans hA hB02.size) hK3.size; have hS3 := hS2.kp hK3 hA (by decide); (obtain ⟨c0, c7, -, cl3⟩ := hrow A3 hS3); have hb3 := hbk A3 hJ3 hA3; clear hbk) | (refine ⟨trivial, hdd _, ?_⟩; gi_at_call 66; (with_reducible refine hb3.mono ?_); clear hb3; rintro e A4 ⟨rfl, hJ4, hK4⟩; have hA4 := Nat.le_trans hA3 hK4.size; have hS4 := hS3.kp hK4 hA (by decide); clear c0 c7; (obtain ⟨-, -, c8, cl4⟩ := hrow A4 hS4); have ho4 := hot A4 hJ4 hA4; clear hot) | (refine ⟨trivial, hdd _, ?_⟩; gi_at_call 149; (with_reducible refine ho4.mono ?_); clear ho4; rintro e A5 ⟨rfl, hJ5, hK5⟩; have hA5 := Nat.le_trans hA4 hK5.size; have hob := own_built A5 A5.heap.size (Nat.le_refl _); have hs1 := rsign_any [[125]] (A5.heap.size + 1) 1 A5.heap.size (.slice (some ⟨A5.heap.size, 0, none⟩) 0 0) [] ((A5.alloc (.cells #[] 95)).alloc (.cells #[.string { data := #[125] }] 9)) rfl (hasS_strs (ss := [[125]]) (by have := HasS.new (strC [[125]]).toArray 9 (A5.alloc (.cells #[] 95)); rw [World.size_alloc] at this; exact this)) (by simp) (fun e => by simp [Value.ownBlock] at e) (hob.alloc _) (by simp; omega) (by simp); have hB6 : Below A5.heap.size A5 ((A5.alloc (.cells #[] 95)).alloc (.cells #[.string { data := #[125] }] 9)) := aB (aB (Below.refl _ _) _) _; clear hob c8) | (refine ⟨trivial, hdd _, ?_⟩; gi_at_call 117; (with_reducible refine (callsIn_wide.2 hs1).mono ?_); clear hs1; rintro e A7 ⟨l7, rfl, hT7⟩; have hB7 : Below A5.heap.size A5 A7 := hB6.trans (hT7.only.below (B := A5.heap.size) (fun j hj => by cases hj; exact Nat.le_refl _) hB6.size); have hO7 := own_base (Nat.zero_le _) hT7.own; (rw [hce] at hO7); (obtain ⟨fn2, tmps2, assign2, body2, hy2, hR2⟩ := hK.y (n - 1) _ dp _ l7 A7 (hK.to hJ5 hB7) hLz hO7 (Nat.le_trans hA5 hB7.size))) | (refine ⟨hdd _, ?_⟩; refine (round_any hR2).mono ?_; clear hR2 hy2; rintro e A8 ⟨rfl, hJ8, hK8⟩))
   go_ret
   refine ⟨rfl, ?_, (kp_below hB02).trans (hK3.trans (hK4.trans (hK5.trans ((kp_below hB7).trans hK8))))⟩
   have he : k + 1 + (stsL (dp + 1) bd).length + (elL dp el).length + 1 = k + ((stsL (dp + 1) bd).length + ((elL dp el).length + 1) + 1) := by omega
   rw [he] at hJ8
   first | exact hJ8 | simpa using hJ8
 ·rw [if_neg hc] at hL1 hlen ⊢
  have n5 : ¬ (ki = 5) := by omega
  have n6 : ¬ (ki = 6) := by omega
  have n7 : ¬ (ki = 7) := by omega
  have n8 : ¬ (ki = 8) := by omega
  clear hc hnb hnl hna hnx hki
  refine callsIn_of_wp Tryz.func120 rfl trivial ?_
  simp only [Tryz.ntmps120, List.size_toArray, List.length_cons, List.length_nil, Nat.reduceAdd, Nat.reduceSub, Array.replicate_succ, Array.replicate_zero, List.push_toArray, List.append_toArray, List.nil_append, List.cons_append]
  gi_wp2_with (first | (refine ⟨trivial, hdd _, ?_⟩; gi_at_call 148; (with_reducible refine (callsIn_wide.2 hfi).mono ?_); clear hfi t0 t1 t2 t3 t4 t5 t6 t7 t8; rintro e A2 ⟨⟨l2, rfl, ho2⟩, hB2⟩; have hB02 := hB1.trans (hB2.mono hB1.size); have hO2 := own_base (Nat.zero_le _) ho2; (obtain ⟨fn, tmps, assign, body, hy, hR⟩ := hK.y (n - 1) k dp _ l2 A2 (hK.to hJ hB02) hL0 hO2 (Nat.le_trans hA hB02.size)); have hS2 := hS1.below hB2) | (refine ⟨hdd _, ?_⟩; refine (round_any hR).mono ?_; clear hR hy; rintro e A3 ⟨rfl, hJ3, hK3⟩; have hS3 := hS2.kp hK3 hA (by decide); (obtain ⟨c0, -, -, cl3⟩ := hrow A3 hS3)))
  go_ret
  exact ⟨rfl, by simpa using hJ3, (kp_below hB02).trans hK3⟩
end Go.Proofs.YtkibkaoffgnmkaaGreatDoor
