/- The document's Show: the line with which a statement begins; statements. -/
import Derived.Test.YtfbjljcmmbdhkaaGreatDoorT44
import Derived.Test.YtfbjljcmmbdhkaaGreatDoorT39
import Derived.Test.YtfbjljcmmbdhkaaGreatDoorT33
import Derived.Test.YtfbjljcmmbdhkaaGreatDoorT15
namespace Go.Proofs.YtfbjljcmmbdhkaaGreatDoor
set_option linter.unusedVariables false
set_option linter.unusedSimpArgs false
set_option maxRecDepth 100000
set_option maxHeartbeats 200000000
open Go.ChangeShapes Go.WideShapes Go.ChangeAt Go.RowKit
theorem jn_len {r : List Tk} (h : Toks r) : (Jn (pcs r)).length ≤ 21 * r.length + 1 := by
 have h1 := joinT_len h
 unfold joinT at h1
 rw [join_Jn, List.length_drop] at h1
 omega
theorem rxP_of {w0 : World} {x : Xp} (hm : mayB 40 x = true) (hn : x.nodes ≤ 9000) (hb : x.nb) {v : Value} (hE : IsB w0 v x) : RxP w0 x v := fun w hB => by
 have h1 := xp_len hm hn
 have h2 := jn_len (toks_ex hm hb)
 exact rext_any x v w hm (hE.of hB) (by omega) hb (by omega) (by omega)
theorem hdp_eq {w0 : World} {L L' : List (List UInt8)} {r : Ending} {w' : World} (h : HdP w0 L r w') (e : L = L') : HdP w0 L' r w' := e ▸ h
theorem sxb {w0 A : World} {K : Sx} (h : K.is (fun b => b < w0.heap.size) w0) (hb : Below w0.heap.size w0 A) : K.is (fun b => b < A.heap.size) A := by
 unfold Sx.is at h ⊢
 exact h.mv (fun b hb' => Nat.lt_of_lt_of_le hb' hb.size) (fun b o v hg hc => (hb.cell (p := ⟨b, o, none⟩) hg).trans hc)
theorem hdR_len {k : Nat} {nm fr : List UInt8} {sec mu : Bool} {ex : List Xp} {ar : List (List UInt8)} (h1 : ex.length ≤ 8) (h2 : ar.length ≤ 8) : (hdR k nm fr sec mu ex ar).length ≤ 100 := by
 have h3 := comR_len (ex.map exR)
 have h4 := comR_len ar
 have h5 := secR_len sec
 rw [List.length_map] at h3
 simp only [hdR]
 by_cases c1 : k = 1
 ·rw [if_pos c1]; first | (simp only [List.length_cons, List.length_nil, List.length_append]; omega) | simp
 rw [if_neg c1]
 by_cases c2 : k = 2
 ·rw [if_pos c2]; first | (simp only [List.length_cons, List.length_nil, List.length_append]; omega) | simp
 rw [if_neg c2]
 by_cases c3 : k = 3
 ·rw [if_pos c3]; first | (simp only [List.length_cons, List.length_nil, List.length_append]; omega) | simp
 rw [if_neg c3]
 by_cases c4 : k = 4
 ·rw [if_pos c4]; first | (simp only [List.length_cons, List.length_nil, List.length_append]; omega) | simp
 rw [if_neg c4]
 by_cases c5 : k = 5
 ·rw [if_pos c5]; first | (simp only [List.length_cons, List.length_nil, List.length_append]; omega) | simp
 rw [if_neg c5]
 by_cases c6 : k = 6
 ·rw [if_pos c6]; first | (simp only [List.length_cons, List.length_nil, List.length_append]; omega) | simp
 rw [if_neg c6]
 by_cases c7 : k = 7
 ·rw [if_pos c7]; first | (simp only [List.length_cons, List.length_nil, List.length_append]; omega) | simp
 rw [if_neg c7]
 by_cases c8 : k = 8
 ·rw [if_pos c8]; first | (simp only [List.length_cons, List.length_nil, List.length_append]; omega) | simp
 rw [if_neg c8]
 by_cases c9 : k = 9
 ·rw [if_pos c9]; first | (simp only [List.length_cons, List.length_nil, List.length_append]; omega) | simp
 rw [if_neg c9]
 by_cases c10 : k = 10
 ·rw [if_pos c10]; first | (simp only [List.length_cons, List.length_nil, List.length_append]; omega) | simp
 rw [if_neg c10]
 by_cases c11 : k = 11
 ·rw [if_pos c11]
  by_cases cn : nm = []
  ·rw [if_pos cn]; first | (simp only [List.length_cons, List.length_nil, List.length_append]; omega) | simp
  ·rw [if_neg cn]; first | (simp only [List.length_cons, List.length_nil, List.length_append]; omega) | simp
 rw [if_neg c11]
 first | (simp only [List.length_cons, List.length_nil, List.length_append]; omega) | simp
theorem hdp_pre {w0 W : World} {L : List (List UInt8)} {r : Ending} {w' : World} (hB : Below w0.heap.size w0 W) (h : HdP W L r w') : HdP w0 L r w' := by
 obtain ⟨⟨m1, c1, e, hs⟩, hb⟩ := h
 exact ⟨⟨m1, c1, e, hs.mv (fun b h => ⟨Nat.le_trans hB.size h.1, h.2⟩) (fun b o v _ h => h)⟩, tr hB hb⟩
theorem rhd_11 (nm fr : List UInt8) (sec mu : Bool) (ex : List Xp) (ar : List (List UInt8)) (mx ma mb ml : Option Addr) (nx cx na ca nb cb nl cl : Nat) (w0 : World)
 (hX : KidsAt (fun b => b < w0.heap.size) w0 ex mx) (hR : ∀ w, Below w0.heap.size w0 w → ∀ x ∈ ex, ∀ v, IsB w v x → RxP w x v) (hA : StrsAt (fun b => b < w0.heap.size) w0 ar ma) (hnx : ex.length = nx) (hna : ar.length = na) (hx8 : nx ≤ 8) (ha8 : na ≤ 8) :
 Calls Tryz.prog 52 #[.agg #[.int .u8 11, .string (str nm), .string (str fr), .bool sec, .bool mu, .slice mx nx cx, .slice ma na ca, .slice mb nb cb, .slice ml nl cl]] w0 (HdP w0 ([wCall] ++ (if nm = [] then [] else [nm, [61]]) ++ [fr, [40]] ++ comR (ex.map exR) ++ [[59]] ++ comR ar ++ [[41], [59]])) := by
 obtain ⟨W, hWe⟩ : ∃ W, w0.alloc (.cells #[.int .u8 11, .string (str nm), .string (str fr), .bool sec, .bool mu, .slice mx nx cx, .slice ma na ca, .slice mb nb cb, .slice ml nl cl] 52) = W := ⟨_, rfl⟩
 have hBw : Below w0.heap.size w0 W := by rw [← hWe]; exact aB (Below.refl _ _) _
 have hrW : rowG #[.int .u8 11, .string (str nm), .string (str fr), .bool sec, .bool mu, .slice mx nx cx, .slice ma na ca, .slice mb nb cb, .slice ml nl cl] W w0.heap.size := by rw [← hWe]; exact rowG_at _ _ _ _ rfl
 have t0 : W.cell? ⟨w0.heap.size, 0, none⟩ = some (.int .u8 11) := hrW.1 0 (by simp)
 have hlv := hrW.2.2
 have hcl := rcalled_any nm fr sec mu ex ar mx ma mb ml nx cx na ca nb cb nl cl W (hX.mv (fun b hb => Nat.lt_of_lt_of_le hb hBw.size) (fun b o v _ hc => stay hBw hc)) (hR W hBw) (hA.mv (fun b hb => Nat.lt_of_lt_of_le hb hBw.size) (fun b o v _ hc => stay hBw hc)) hnx hna hx8 ha8
 obtain ⟨L, hL⟩ : ∃ L, L = [wCall] ++ (if nm = [] then [] else [nm, [61]]) ++ [fr, [40]] ++ comR (ex.map exR) ++ [[59]] ++ comR ar ++ [[41], [59]] := ⟨_, rfl⟩
 rw [← hL] at hcl ⊢
 clear hL hX hR hA
 go_enter Tryz.func52, Tryz.ntmps52
 go_wp2_with (first | (with_reducible refine ld9 rfl _ rfl _ rfl hrW ?_) | (go_at_call 81; ((with_reducible refine hcl.mono ?_); (rintro r v1 ⟨⟨m1, c1, rfl, hs1⟩, hb1⟩))))
 go_ret
 exact hdp_pre hBw ⟨⟨m1, c1, rfl, hs1⟩, hb1⟩
theorem rhead_any (K : Sx) (w0 : World) (hK : K.is (fun b => b < w0.heap.size) w0) (hf : fitsB K.x = true) (hnd : ∀ x ∈ K.x.ex, x.nodes ≤ 9000) (hnb : nbL K.x.ex) :
 Calls Tryz.prog 52 #[.agg K.cells.toArray] w0 (HdP w0 (hdR K.k K.nm K.fr K.sec K.mu K.x.ex K.x.ar)) ∧ (hdR K.k K.nm K.fr K.sec K.mu K.x.ex K.x.ar).length ≤ 100 := by
 obtain ⟨hx, h256, hnx, hna, hnb', hnl, hxl, hal, hbl, hll, hX, hA, hB, hL⟩ := sx_all hK
 rw [hx] at hf
 obtain ⟨k, nm, fr, sec, mu, mx, nx, cx, ma, na, ca, mb, nb, cb, ml, nl, cl, x⟩ := K
 simp only at *
 obtain ⟨⟨hk0, hk⟩, hM, har, hex⟩ := fits_parts hf
 obtain ⟨ex, hex'⟩ : ∃ ex, ex = x.ex := ⟨_, rfl⟩
 obtain ⟨ar, har'⟩ : ∃ ar, ar = x.ar := ⟨_, rfl⟩
 rw [← hex'] at hnx hX hM hnd hnb hex ⊢
 rw [← har'] at hna hA hM har ⊢
 rw [← hnx, ← hna] at hM
 have hR : ∀ x ∈ ex, ∀ v, IsB w0 v x → RxP w0 x v := fun x hx v hE => rxP_of (hex x hx) (hnd x hx) (nbL_iff.1 hnb x hx) hE
 have hR11 : ∀ w, Below w0.heap.size w0 w → ∀ x ∈ ex, ∀ v, IsB w v x → RxP w x v := fun w _ x hx v hE => rxP_of (hex x hx) (hnd x hx) (nbL_iff.1 hnb x hx) hE
 rw [hnx] at hxl
 rw [hna] at hal
 have hlen : ex.length ≤ 8 → ar.length ≤ 8 → (hdR k nm fr sec mu ex ar).length ≤ 100 := fun h1 h2 => hdR_len h1 h2
 clear hx hf hK hex' har' hnd hnb hex
 have hkk : k = 1 ∨ k = 2 ∨ k = 3 ∨ k = 4 ∨ k = 5 ∨ k = 6 ∨ k = 7 ∨ k = 8 ∨ k = 9 ∨ k = 10 ∨ k = 11 ∨ k = 12 := by omega
 rcases hkk with rfl | rfl | rfl | rfl | rfl | rfl | rfl | rfl | rfl | rfl | rfl | rfl
 ·obtain ⟨h1, h2, h3, h4, h5, h6, h7, h8, h9⟩ := met_parts (show metB (2, 0, true, false, 1, 1, 0, false, false) nm fr sec mu _ _ _ _ = true from hM)
  refine ⟨?_, hlen (by omega) (by omega)⟩
  obtain ⟨a, rfl⟩ := one_of (ex := ex) (by omega) (by omega)
  obtain ⟨b, off, rfl⟩ := kids_some hX (by simp)
  obtain ⟨m0, c0, k0⟩ := kidIn hX 0 (by simp)
  simp only [Nat.zero_mul, Nat.add_zero, List.getElem_cons_zero] at k0
  simp only [List.length_cons, List.length_nil] at hnx
  subst hnx
  exact (rhd_1 nm fr sec mu ma mb ml cx na ca nb cb nl cl w0 b off a m0 c0 k0 (hR a (by simp) _ k0.is)).mono fun r w' h => hdp_eq h (by simp [hdR])
 ·obtain ⟨h1, h2, h3, h4, h5, h6, h7, h8, h9⟩ := met_parts (show metB (2, 0, false, false, 1, 1, 0, false, false) nm fr sec mu _ _ _ _ = true from hM)
  refine ⟨?_, hlen (by omega) (by omega)⟩
  obtain ⟨a, rfl⟩ := one_of (ex := ex) (by omega) (by omega)
  obtain ⟨b, off, rfl⟩ := kids_some hX (by simp)
  obtain ⟨m0, c0, k0⟩ := kidIn hX 0 (by simp)
  simp only [Nat.zero_mul, Nat.add_zero, List.getElem_cons_zero] at k0
  simp only [List.length_cons, List.length_nil] at hnx
  subst hnx
  exact (rhd_2 nm fr sec mu ma mb ml cx na ca nb cb nl cl w0 b off a m0 c0 k0 (hR a (by simp) _ k0.is)).mono fun r w' h => hdp_eq h (by simp [hdR])
 ·obtain ⟨h1, h2, h3, h4, h5, h6, h7, h8, h9⟩ := met_parts (show metB (2, 0, true, false, 1, 1, 0, false, false) nm fr sec mu _ _ _ _ = true from hM)
  refine ⟨?_, hlen (by omega) (by omega)⟩
  obtain ⟨a, rfl⟩ := one_of (ex := ex) (by omega) (by omega)
  obtain ⟨b, off, rfl⟩ := kids_some hX (by simp)
  obtain ⟨m0, c0, k0⟩ := kidIn hX 0 (by simp)
  simp only [Nat.zero_mul, Nat.add_zero, List.getElem_cons_zero] at k0
  simp only [List.length_cons, List.length_nil] at hnx
  subst hnx
  exact (rhd_3 nm fr sec mu ma mb ml cx na ca nb cb nl cl w0 b off a m0 c0 k0 (hR a (by simp) _ k0.is)).mono fun r w' h => hdp_eq h (by simp [hdR])
 ·obtain ⟨h1, h2, h3, h4, h5, h6, h7, h8, h9⟩ := met_parts (show metB (2, 0, false, false, 2, 2, 0, false, false) nm fr sec mu _ _ _ _ = true from hM)
  refine ⟨?_, hlen (by omega) (by omega)⟩
  obtain ⟨a, c, rfl⟩ := two_of (ex := ex) (by omega) (by omega)
  obtain ⟨b, off, rfl⟩ := kids_some hX (by simp)
  obtain ⟨m0, c0, k0⟩ := kidIn hX 0 (by simp)
  obtain ⟨m1, c1, k1⟩ := kidIn hX 1 (by simp)
  simp only [Nat.zero_mul, Nat.add_zero, Nat.one_mul, List.getElem_cons_zero, List.getElem_cons_succ] at k0 k1
  simp only [List.length_cons, List.length_nil] at hnx
  subst hnx
  exact (rhd_4 nm fr sec mu ma mb ml cx na ca nb cb nl cl w0 b off a m0 c0 k0 (hR a (by simp) _ k0.is) c m1 c1 k1 (hR c (by simp) _ k1.is)).mono fun r w' h => hdp_eq h (by simp [hdR])
 ·obtain ⟨h1, h2, h3, h4, h5, h6, h7, h8, h9⟩ := met_parts (show metB (0, 0, false, false, 1, 1, 0, true, true) nm fr sec mu _ _ _ _ = true from hM)
  refine ⟨?_, hlen (by omega) (by omega)⟩
  obtain ⟨a, rfl⟩ := one_of (ex := ex) (by omega) (by omega)
  obtain ⟨b, off, rfl⟩ := kids_some hX (by simp)
  obtain ⟨m0, c0, k0⟩ := kidIn hX 0 (by simp)
  simp only [Nat.zero_mul, Nat.add_zero, List.getElem_cons_zero] at k0
  simp only [List.length_cons, List.length_nil] at hnx
  subst hnx
  exact (rhd_5 nm fr sec mu ma mb ml cx na ca nb cb nl cl w0 b off a m0 c0 k0 (hR a (by simp) _ k0.is)).mono fun r w' h => hdp_eq h (by simp [hdR])
 ·obtain ⟨h1, h2, h3, h4, h5, h6, h7, h8, h9⟩ := met_parts (show metB (0, 0, false, false, 1, 1, 0, true, false) nm fr sec mu _ _ _ _ = true from hM)
  refine ⟨?_, hlen (by omega) (by omega)⟩
  obtain ⟨a, rfl⟩ := one_of (ex := ex) (by omega) (by omega)
  obtain ⟨b, off, rfl⟩ := kids_some hX (by simp)
  obtain ⟨m0, c0, k0⟩ := kidIn hX 0 (by simp)
  simp only [Nat.zero_mul, Nat.add_zero, List.getElem_cons_zero] at k0
  simp only [List.length_cons, List.length_nil] at hnx
  subst hnx
  exact (rhd_6 nm fr sec mu ma mb ml cx na ca nb cb nl cl w0 b off a m0 c0 k0 (hR a (by simp) _ k0.is)).mono fun r w' h => hdp_eq h (by simp [hdR])
 ·obtain ⟨h1, h2, h3, h4, h5, h6, h7, h8, h9⟩ := met_parts (show metB (2, 0, false, false, 1, 1, 0, true, false) nm fr sec mu _ _ _ _ = true from hM)
  refine ⟨?_, hlen (by omega) (by omega)⟩
  obtain ⟨a, rfl⟩ := one_of (ex := ex) (by omega) (by omega)
  obtain ⟨b, off, rfl⟩ := kids_some hX (by simp)
  obtain ⟨m0, c0, k0⟩ := kidIn hX 0 (by simp)
  simp only [Nat.zero_mul, Nat.add_zero, List.getElem_cons_zero] at k0
  simp only [List.length_cons, List.length_nil] at hnx
  subst hnx
  exact (rhd_7 nm fr sec mu ma mb ml cx na ca nb cb nl cl w0 b off a m0 c0 k0 (hR a (by simp) _ k0.is)).mono fun r w' h => hdp_eq h (by simp [hdR])
 ·obtain ⟨h1, h2, h3, h4, h5, h6, h7, h8, h9⟩ := met_parts (show metB (2, 2, false, true, 2, 2, 0, true, false) nm fr sec mu _ _ _ _ = true from hM)
  refine ⟨?_, hlen (by omega) (by omega)⟩
  obtain ⟨a, c, rfl⟩ := two_of (ex := ex) (by omega) (by omega)
  obtain ⟨b, off, rfl⟩ := kids_some hX (by simp)
  obtain ⟨m0, c0, k0⟩ := kidIn hX 0 (by simp)
  obtain ⟨m1, c1, k1⟩ := kidIn hX 1 (by simp)
  simp only [Nat.zero_mul, Nat.add_zero, Nat.one_mul, List.getElem_cons_zero, List.getElem_cons_succ] at k0 k1
  simp only [List.length_cons, List.length_nil] at hnx
  subst hnx
  exact (rhd_8 nm fr sec mu ma mb ml cx na ca nb cb nl cl w0 b off a m0 c0 k0 (hR a (by simp) _ k0.is) c m1 c1 k1 (hR c (by simp) _ k1.is)).mono fun r w' h => hdp_eq h (by simp [hdR])
 ·obtain ⟨h1, h2, h3, h4, h5, h6, h7, h8, h9⟩ := met_parts (show metB (2, 2, false, false, 0, 0, 0, false, false) nm fr sec mu _ _ _ _ = true from hM)
  refine ⟨?_, hlen (by omega) (by omega)⟩
  obtain rfl : ex = [] := List.length_eq_zero_iff.1 (by omega)
  simp only [List.length_nil] at hnx
  subst hnx
  exact (rhd_9 nm fr sec mu ma mb ml cx na ca nb cb nl cl w0 mx).mono fun r w' h => hdp_eq h (by simp [hdR])
 ·obtain ⟨h1, h2, h3, h4, h5, h6, h7, h8, h9⟩ := met_parts (show metB (2, 0, false, false, 1, 1, 0, false, false) nm fr sec mu _ _ _ _ = true from hM)
  refine ⟨?_, hlen (by omega) (by omega)⟩
  obtain ⟨a, rfl⟩ := one_of (ex := ex) (by omega) (by omega)
  obtain ⟨b, off, rfl⟩ := kids_some hX (by simp)
  obtain ⟨m0, c0, k0⟩ := kidIn hX 0 (by simp)
  simp only [Nat.zero_mul, Nat.add_zero, List.getElem_cons_zero] at k0
  simp only [List.length_cons, List.length_nil] at hnx
  subst hnx
  exact (rhd_10 nm fr sec mu ma mb ml cx na ca nb cb nl cl w0 b off a m0 c0 k0 (hR a (by simp) _ k0.is)).mono fun r w' h => hdp_eq h (by simp [hdR])
 ·obtain ⟨h1, h2, h3, h4, h5, h6, h7, h8, h9⟩ := met_parts (show metB (1, 2, false, false, 0, 8, 8, false, false) nm fr sec mu _ _ _ _ = true from hM)
  refine ⟨?_, hlen (by omega) (by omega)⟩
  exact (rhd_11 nm fr sec mu ex ar mx ma mb ml nx cx na ca nb cb nl cl w0 hX hR11 hA hnx.symm hna.symm (by omega) (by omega)).mono fun r w' h => hdp_eq h (by simp [hdR])
 ·obtain ⟨h1, h2, h3, h4, h5, h6, h7, h8, h9⟩ := met_parts (show metB (0, 0, false, false, 0, 0, 0, false, false) nm fr sec mu _ _ _ _ = true from hM)
  refine ⟨?_, hlen (by omega) (by omega)⟩
  obtain rfl : ex = [] := List.length_eq_zero_iff.1 (by omega)
  simp only [List.length_nil] at hnx
  subst hnx
  exact (rhd_12 nm fr sec mu ma mb ml cx na ca nb cb nl cl w0 mx).mono fun r w' h => hdp_eq h (by simp [hdR])
theorem rblocks_any (k : Nat) (b : Bool) (hb : b = decide (5 ≤ k ∧ k ≤ 8)) (w : World) : Calls Tryz.prog 53 #[.int .u8 (k : Int)] w fun r w' => r = .returned (.bool b) ∧ Below w.heap.size w w' := by
 obtain ⟨ki, hki⟩ : ∃ ki : Int, (k : Int) = ki := ⟨_, rfl⟩
 rw [hki]
 by_cases hc : 5 ≤ k ∧ k ≤ 8
 ·obtain rfl : b = true := by rw [hb]; simpa using hc
  have hkk : ki = 5 ∨ ki = 6 ∨ ki = 7 ∨ ki = 8 := by omega
  clear hb hki hc
  rcases hkk with rfl | rfl | rfl | rfl
  all_goals
   go_enter Tryz.func53, Tryz.ntmps53
   have hun : undef = Value.tuple #[] := rfl
   go_wp2
   go_ret
   exact ⟨rfl, Below.refl _ _⟩
 ·obtain rfl : b = false := by rw [hb]; simpa using hc
  have n5 : (ki == 5) = false := by rw [beq_eq_false_iff_ne]; omega
  have n6 : (ki == 6) = false := by rw [beq_eq_false_iff_ne]; omega
  have n7 : (ki == 7) = false := by rw [beq_eq_false_iff_ne]; omega
  have n8 : (ki == 8) = false := by rw [beq_eq_false_iff_ne]; omega
  clear hb hki hc
  go_enter Tryz.func53, Tryz.ntmps53
  have hun : undef = Value.tuple #[] := rfl
  go_wp2
  go_ret
  exact ⟨rfl, Below.refl _ _⟩
theorem jn_le_rln (d : Nat) (l : List (List UInt8)) : (Jn l).length ≤ (rlnT d l).length := by
 unfold rlnT
 rw [join_Jn]
 simp only [List.length_append, List.length_replicate, List.length_drop, List.length_cons, List.length_nil]
 omega
theorem rssT_app (d : Nat) (a b : List St) : rssT d (a ++ b) = rssT d a ++ rssT d b := by
 induction a with
 | nil => rfl
 | cons x a ih => rw [List.cons_append, rssT, rssT, ih, List.append_assoc]
theorem rssT_take (d : Nat) (l : List St) (j : Nat) (h : j < l.length) : rssT d (l.take (j + 1)) = rssT d (l.take j) ++ rsT d l[j] := by
 rw [List.take_succ_eq_append_getElem h, rssT_app, rssT, rssT, List.append_nil]
theorem rssT_split (d : Nat) (l : List St) (j : Nat) (h : j < l.length) : (rssT d (l.take j)).length + (rsT d l[j]).length ≤ (rssT d l).length := by
 have h1 := rssT_take d l j h
 have h2 : rssT d l = rssT d (l.take (j + 1)) ++ rssT d (l.drop (j + 1)) := by rw [← rssT_app, List.take_append_drop]
 rw [h2, h1, List.length_append, List.length_append]
 omega
theorem stsL_mem {d : Nat} {l : List St} {j : Nat} (h : j < l.length) : (stL d l[j]).length ≤ (stsL d l).length := by
 induction l generalizing j with
 | nil => simp at h
 | cons x l ih =>
  rw [stsL, List.length_append]
  cases j with
  | zero => simp
  | succ j => have := ih (j := j) (by simpa using h); simp only [List.getElem_cons_succ]; omega
def SmP (w0 : World) (pb : Nat) (m : Nat) : Prop :=
 ∀ (ls : List St) (ma : Option Addr) (nl cap dp : Nat) (S : List UInt8) (w : World), ls.length = nl → (stsL dp ls).length ≤ m → faS ls → ndS ls → nbS ls → StsAt (fun b => b < w0.heap.size) w0 ls ma → nl ≤ 140737488355328 → Below w0.heap.size w0 w → rowG #[.string (str S)] w pb → dp + m ≤ 1000000 → S.length + (rssT dp ls).length ≤ 50000000000 →
  Calls Tryz.prog 31 #[.pointer (some ⟨pb, 0, none⟩), .slice ma nl cap, .int .i64 (dp : Int)] w fun r w' => r = .returned (.tuple #[]) ∧ rowG #[.string (str (S ++ rssT dp ls))] w' pb ∧ Only (fun j => j = pb) w w'
theorem strs_pen {w w' : World} {L : List (List UInt8)} {ma : Option Addr} {pb : Nat} (h : StrsAt (fun b => w.heap.size ≤ b ∧ b < w'.heap.size) w' L ma) (hp : pb < w.heap.size) : StrsAt (fun b => b < w'.heap.size ∧ b ≠ pb) w' L ma :=
 h.mv (fun b h => ⟨h.2, by omega⟩) (fun b o v _ h => h)
theorem smp_step (w0 : World) (pb : Nat) (hpb : w0.heap.size ≤ pb) (m : Nat) (ih : ∀ m', m = m' + 1 → SmP w0 pb m') : SmP w0 pb m := by
 intro ls ma nl cap dp S w hn hlen hfa hnd hnb hS hnl hB hr hdp hbd
 have HN := Lib.hid hn
 have HS := Lib.hid hS
 have HF := Lib.hid (faS_iff.1 hfa)
 have HD := Lib.hid (ndS_iff.1 hnd)
 have HNB := Lib.hid (nbS_iff.1 hnb)
 have HL := Lib.hid hlen
 have HI := Lib.hid ih
 have HDP := Lib.hid hdp
 have HBD := Lib.hid hbd
 have hpw := hr.2.2
 clear hn hS hfa hnd hnb hlen ih hdp hbd
 go_enter Tryz.func31, Tryz.ntmps31
 go_wp2
 go_loopw [6] (fun iv wr => ∃ (j : Nat) (X : List UInt8), j ≤ nl ∧ iv = .int .i64 (j : Int) ∧ rowG #[.string (str X)] wr pb ∧ Only (fun j => j = pb) w wr ∧ Hid (X = S ++ rssT dp (ls.take j))) (fun iv _ => nl - (intOf iv).toNat)
 case atStart => exact ⟨0, S, Nat.zero_le _, rfl, hr, Only.refl _ _, Lib.hid (by simp [rssT])⟩
 case round =>
  obtain ⟨j, X, hj, rfl, hrr, hO, HX⟩ := hrel
  by_cases hlt : j < nl
  ·have hlt' : j < ls.length := by rw [HN.out]; exact hlt
   have hBr : Below w0.heap.size w0 wr := hB.trans (hO.below (fun j hj => hj ▸ hpb) hB.size)
   obtain ⟨b, o, K, hma, hbG, hKx, hKi, hmk, hnb', hnl', hBd, hEl, hbl, hll, hcells⟩ := sts_at ls ma HS.out j hlt'
   subst hma
   have hrg := sx_range (K := K) (b := b) (o := o + j * 9) (w := wr) (fun r u hu => (hBr.cell (p := ⟨b, o + j * 9 + r, none⟩) hbG).trans (hcells r u hu))
   have hbw : b < wr.heap.size := Nat.lt_of_lt_of_le hbG hBr.size
   have hfx := HF.out _ (List.getElem_mem hlt')
   have hdx := HD.out _ (List.getElem_mem hlt')
   have hnx := HNB.out _ (List.getElem_mem hlt')
   have htk := rssT_take dp ls j hlt'
   have hsp := rssT_split dp ls j hlt'
   have hsl := stsL_mem (d := dp) hlt'
   rw [← hKx] at hmk hnb' hnl' hBd hEl hbl hll hfx hdx hnx htk hsp hsl
   clear hKx
   rw [hmk, St.fa] at hfx
   rw [hmk, St.nd] at hdx
   rw [hmk, St.nb] at hnx
   obtain ⟨hf1, hf2, hf3⟩ := hfx
   obtain ⟨hd1, hd2, hd3⟩ := hdx
   obtain ⟨hn1, hn2, hn3⟩ := hnx
   have hff : fitsB K.x = true := by rw [hmk]; exact hf1
   obtain ⟨hhd, hhl⟩ := rhead_any K wr (sxb hKi hBr) hff hd1 hn1
   have hrs : rsT dp K.x = rlnT dp (hdR K.k K.nm K.fr K.sec K.mu K.x.ex K.x.ar) ++ (if 5 ≤ K.k ∧ K.k ≤ 8 then rssT (dp + 1) K.x.bd ++ ((if K.x.el.isEmpty = true then [] else rlnT dp [[125], wElse, [123]] ++ rssT (dp + 1) K.x.el) ++ rlnT dp [[125]]) else []) := by
    conv => lhs; rw [hmk, rsT]
   have hls : stL dp K.x = (dp, stH K.k K.nm K.fr K.sec K.mu K.x.ex K.x.ar) :: (if 5 ≤ K.k ∧ K.k ≤ 8 then stsL (dp + 1) K.x.bd ++ ((if K.x.el.isEmpty = true then [] else (dp, [sg [125], wdT wElse, sg [123]]) :: stsL (dp + 1) K.x.el) ++ [(dp, [sg [125]])]) else []) := by
    conv => lhs; rw [hmk, stL]
   rw [hrs] at htk hsp
   rw [hls] at hsl
   have hXl : X.length + (rsT dp K.x).length ≤ 50000000000 := by
    have h1 := HBD.out
    rw [HX.out, List.length_append, hrs]
    omega
   rw [hrs] at hXl
   have HTK := Lib.hid htk
   have HB9 := Lib.hid hnb'
   have HL9 := Lib.hid hnl'
   clear hnb' hnl' htk hsp hrs hls hmk hff hf1 hd1 hn1 hcells hKi
   obtain ⟨K0, K1, K2, K3, K4, K5, K6, K7, K8, K9, K10, K11, K12, K13, K14, K15, K16, x⟩ := K
   simp only [Sx.cells] at *
   obtain ⟨HR, hHR⟩ : ∃ HR, HR = hdR K0 K1 K2 K3 K4 x.ex x.ar := ⟨_, rfl⟩
   rw [← hHR] at hhd hhl HTK hXl
   generalize x.bd = bd at *
   generalize x.el = el at *
   clear hHR
   have hpr := hrr.2.2
   have hjl := jn_le_rln dp HR
   rw [List.length_append] at hXl
   have hbp : ¬ b = pb := by omega
   have hc0 := hrg 0 _ rfl
   have hc7 := hrg 7 _ rfl
   have hc8 := hrg 8 _ rfl
   have hcast : ((dp + 1 : Nat) : Int) = (dp : Int) + 1 := by omega
   have hcl : ∀ w2, Below w0.heap.size w0 w2 → Only (fun j => j = pb) wr w2 → w2.cell? ⟨b, o + j * 9, none⟩ = some (.int .u8 (K0 : Int)) ∧ w2.cell? ⟨b, o + j * 9 + 7, none⟩ = some (.slice K11 K12 K13) ∧ w2.cell? ⟨b, o + j * 9 + 8, none⟩ = some (.slice K14 K15 K16) ∧ b < w2.heap.size := fun w2 hB2 hO2 => ⟨hO2.cell (a := ⟨b, o + j * 9 + 0, none⟩) hbp hc0, hO2.cell (a := ⟨b, o + j * 9 + 7, none⟩) hbp hc7, hO2.cell (a := ⟨b, o + j * 9 + 8, none⟩) hbp hc8, Nat.lt_of_lt_of_le hbG hB2.size⟩
   clear hc0 hc7 hc8
   by_cases hc : 5 ≤ K0 ∧ K0 ≤ 8
   ·have hbk := fun w => rblocks_any K0 true (by simp [hc]) w
    rw [if_pos hc] at hsl hXl
    have HTK2 := HTK.out
    rw [if_pos hc] at HTK2
    have HTK := Lib.hid HTK2
    clear HTK2 hc
    obtain ⟨EL, hEL⟩ : ∃ EL, EL = (if el.isEmpty = true then [] else rlnT dp [[125], wElse, [123]] ++ rssT (dp + 1) el) := ⟨_, rfl⟩
    rw [← hEL] at hXl HTK
    simp only [List.length_append] at hXl
    obtain ⟨m', rfl⟩ : ∃ m', m = m' + 1 := ⟨m - 1, by have := HL.out; simp only [List.length_cons] at hsl; omega⟩
    have hI := HI.out m' rfl
    have hl1 : (stsL (dp + 1) bd).length ≤ m' := by have := HL.out; simp only [List.length_cons, List.length_append] at hsl; omega
    have hl2 : el.isEmpty = false → (stsL (dp + 1) el).length ≤ m' := fun he => by have := HL.out; rw [if_neg (by rw [he]; exact Bool.false_ne_true)] at hsl; simp only [List.length_cons, List.length_append] at hsl; omega
    have HEL := Lib.hid hEL
    have hdp2 := HDP.out
    clear hsl hEL
    by_cases hel : el.isEmpty = true
    ·have n0 : ¬ (0 : Int) < (K15 : Int) := by rw [HL9.out, List.isEmpty_iff.1 hel]; simp
     have hE0 : EL = [] := by rw [HEL.out, if_pos hel]
     go_wp2_with (first | (with_reducible refine ld9o rfl _ rfl b (o + j * 9) rfl hrg ?_) | (go_at_call 52; ((with_reducible refine hhd.mono ?_); (rintro r w1 ⟨⟨m1, c1, rfl, hs1⟩, hb1⟩); have hr1 := rowG_b hrr hb1; have hln := rline_any X dp HR pb HR.length m1 c1 w1 hr1 rfl (strs_pen hs1 hpr) (by omega) (by omega) (by omega))) | (go_at_call 30; ((with_reducible refine hln.mono ?_); (rintro r w2 ⟨rfl, hr2, hO2⟩); clear hln; have hO3 := (only_below (S := fun j => j = pb) hb1).trans hO2; have hB2 : Below w0.heap.size w0 w2 := hBr.trans (hO3.below (fun j hj => hj ▸ hpb) hBr.size); (obtain ⟨k0, k7, k8, kl⟩ := hcl w2 hB2 hO3))) | (go_at_call 53; ((with_reducible refine (hbk _).mono ?_); clear k0 k7 k8 kl; (rintro r w3 ⟨rfl, hb3⟩); have hO4 := hO3.trans (only_below hb3); have hB3 : Below w0.heap.size w0 w3 := hBr.trans (hO4.below (fun j hj => hj ▸ hpb) hBr.size); have hr3 := rowG_b hr2 hb3; (obtain ⟨k0, k7, k8, kl⟩ := hcl w3 hB3 hO4); have hst := hI bd K11 K12 K13 (dp + 1) _ w3 HB9.out.symm hl1 hf2 hd2 hn2 hBd (by rw [HB9.out]; exact hbl) hB3 hr3 (by omega) (by rw [List.length_append]; omega); (rw [hcast] at hst))) | (go_at_call 31; ((with_reducible refine hst.mono ?_); clear hst k0 k7 k8 kl; (rintro r w4 ⟨rfl, hr4, hO5⟩); have hO6 := hO4.trans hO5; have hB4 : Below w0.heap.size w0 w4 := hBr.trans (hO6.below (fun j hj => hj ▸ hpb) hBr.size); (obtain ⟨k0, k7, k8, kl⟩ := hcl w4 hB4 hO6); have hp4 := hr4.2.2)))
     have hlz := rline_any _ dp [[125]] pb 1 (some ⟨w4.heap.size, 0, none⟩) 1 (w4.alloc (.cells #[.string ⟨#[125]⟩] 9)) (rowG_alloc hr4 _) rfl (strs_pen (strs_new w4 w4 [[125]] (Nat.le_refl _)) hp4) (by omega) (by omega) (by simp only [List.length_append]; have := jn_le_rln dp [[125]]; omega)
     go_wp2_with (go_at_call 30; ((with_reducible refine hlz.mono ?_); clear hlz; (rintro r w5 ⟨rfl, hr5, hO7⟩)))
     go_roundw
     case rel => exact ⟨j + 1, _, by omega, by go_num, hr5, hO.trans (hO6.trans ((only_below (aB (Below.refl _ _) _)).trans hO7)), Lib.hid (by rw [HTK.out, HX.out, hE0]; simp)⟩
     case measure => simp [intOf]; omega
    ·have n0 : (0 : Int) < (K15 : Int) := by rw [HL9.out]; cases el with | nil => exact absurd rfl hel | cons a r => simp
     have hE0 : EL = rlnT dp [[125], wElse, [123]] ++ rssT (dp + 1) el := by rw [HEL.out, if_neg hel]
     rw [hE0, List.length_append] at hXl
     have hl3 := hl2 (by simpa using hel)
     go_wp2_with (first | (with_reducible refine ld9o rfl _ rfl b (o + j * 9) rfl hrg ?_) | (go_at_call 52; ((with_reducible refine hhd.mono ?_); (rintro r w1 ⟨⟨m1, c1, rfl, hs1⟩, hb1⟩); have hr1 := rowG_b hrr hb1; have hln := rline_any X dp HR pb HR.length m1 c1 w1 hr1 rfl (strs_pen hs1 hpr) (by omega) (by omega) (by omega))) | (go_at_call 30; ((with_reducible refine hln.mono ?_); (rintro r w2 ⟨rfl, hr2, hO2⟩); clear hln; have hO3 := (only_below (S := fun j => j = pb) hb1).trans hO2; have hB2 : Below w0.heap.size w0 w2 := hBr.trans (hO3.below (fun j hj => hj ▸ hpb) hBr.size); (obtain ⟨k0, k7, k8, kl⟩ := hcl w2 hB2 hO3))) | (go_at_call 53; ((with_reducible refine (hbk _).mono ?_); clear k0 k7 k8 kl; (rintro r w3 ⟨rfl, hb3⟩); have hO4 := hO3.trans (only_below hb3); have hB3 : Below w0.heap.size w0 w3 := hBr.trans (hO4.below (fun j hj => hj ▸ hpb) hBr.size); have hr3 := rowG_b hr2 hb3; (obtain ⟨k0, k7, k8, kl⟩ := hcl w3 hB3 hO4); have hst := hI bd K11 K12 K13 (dp + 1) _ w3 HB9.out.symm hl1 hf2 hd2 hn2 hBd (by rw [HB9.out]; exact hbl) hB3 hr3 (by omega) (by rw [List.length_append]; omega); (rw [hcast] at hst))) | (go_at_call 31; ((with_reducible refine hst.mono ?_); clear hst k0 k7 k8 kl; (rintro r w4 ⟨rfl, hr4, hO5⟩); have hO6 := hO4.trans hO5; have hB4 : Below w0.heap.size w0 w4 := hBr.trans (hO6.below (fun j hj => hj ▸ hpb) hBr.size); (obtain ⟨k0, k7, k8, kl⟩ := hcl w4 hB4 hO6); have hp4 := hr4.2.2)))
     have hlz := rline_any _ dp [[125], wElse, [123]] pb 3 (some ⟨w4.heap.size, 0, none⟩) 3 (w4.alloc (.cells #[.string ⟨#[125]⟩, .string ⟨#[101, 108, 115, 101]⟩, .string ⟨#[123]⟩] 9)) (rowG_alloc hr4 _) rfl (strs_pen (strs_new w4 w4 [[125], wElse, [123]] (Nat.le_refl _)) hp4) (by omega) (by omega) (by simp only [List.length_append]; have := jn_le_rln dp [[125], wElse, [123]]; omega)
     go_wp2_with (first | (go_at_call 30; ((with_reducible refine hlz.mono ?_); clear hlz k0 k7 k8 kl; (rintro r w5 ⟨rfl, hr5, hO7⟩); have hO8 := hO6.trans ((only_below (aB (Below.refl _ _) _)).trans hO7); have hB5 : Below w0.heap.size w0 w5 := hBr.trans (hO8.below (fun j hj => hj ▸ hpb) hBr.size); (obtain ⟨k0, k7, k8, kl⟩ := hcl w5 hB5 hO8); have hst := hI el K14 K15 K16 (dp + 1) _ w5 HL9.out.symm hl3 hf3 hd3 hn3 hEl (by rw [HL9.out]; exact hll) hB5 hr5 (by omega) (by simp only [List.length_append]; omega); (rw [hcast] at hst))) | (go_at_call 31; ((with_reducible refine hst.mono ?_); clear hst k0 k7 k8 kl; (rintro r w6 ⟨rfl, hr6, hO9⟩); have hO10 := hO8.trans hO9; have hp6 := hr6.2.2; have hly := rline_any _ dp [[125]] pb 1 (some ⟨w6.heap.size, 0, none⟩) 1 (w6.alloc (.cells #[.string ⟨#[125]⟩] 9)) (rowG_alloc hr6 _) rfl (strs_pen (strs_new w6 w6 [[125]] (Nat.le_refl _)) hp6) (by omega) (by omega) (by simp only [List.length_append]; have := jn_le_rln dp [[125]]; omega))) | (go_at_call 30; ((with_reducible refine hly.mono ?_); clear hly; (rintro r w7 ⟨rfl, hr7, hO11⟩))))
     go_roundw
     case rel => exact ⟨j + 1, _, by omega, by go_num, hr7, hO.trans (hO10.trans ((only_below (aB (Below.refl _ _) _)).trans hO11)), Lib.hid (by rw [HTK.out, HX.out, hE0]; simp)⟩
     case measure => simp [intOf]; omega
   ·have hbk := fun w => rblocks_any K0 false (by simp [hc]) w
    have HTK2 := HTK.out
    rw [if_neg hc] at HTK2
    have HTK := Lib.hid HTK2
    have hdp2 := HDP.out
    clear HTK2 hc hsl HI
    go_wp2_with (first | (with_reducible refine ld9o rfl _ rfl b (o + j * 9) rfl hrg ?_) | (go_at_call 52; ((with_reducible refine hhd.mono ?_); (rintro r w1 ⟨⟨m1, c1, rfl, hs1⟩, hb1⟩); have hr1 := rowG_b hrr hb1; have hln := rline_any X dp HR pb HR.length m1 c1 w1 hr1 rfl (strs_pen hs1 hpr) (by omega) (by omega) (by omega))) | (go_at_call 30; ((with_reducible refine hln.mono ?_); (rintro r w2 ⟨rfl, hr2, hO2⟩); clear hln; have hO3 := (only_below (S := fun j => j = pb) hb1).trans hO2; have hB2 : Below w0.heap.size w0 w2 := hBr.trans (hO3.below (fun j hj => hj ▸ hpb) hBr.size); (obtain ⟨k0, -, -, kl⟩ := hcl w2 hB2 hO3))) | (go_at_call 53; ((with_reducible refine (hbk _).mono ?_); clear k0 kl; (rintro r w3 ⟨rfl, hb3⟩))))
    go_roundw
    case rel => exact ⟨j + 1, X ++ rlnT dp HR, by omega, by go_num, rowG_b hr2 hb3, hO.trans (hO3.trans (only_below hb3)), Lib.hid (by rw [HTK.out, HX.out]; simp)⟩
    case measure => simp [intOf]; omega
  ·obtain rfl : j = nl := by omega
   go_wp2
   go_end0
   have hX := HX.out
   rw [List.take_of_length_le (by rw [HN.out]; exact Nat.le_refl _)] at hX
   rw [← hX]
   exact ⟨rfl, hrr, hO⟩
theorem smp_any (w0 : World) (pb : Nat) (hpb : w0.heap.size ≤ pb) : ∀ m, SmP w0 pb m := by
 intro m
 induction m with
 | zero => exact smp_step w0 pb hpb 0 (fun m' h => by omega)
 | succ m ih => exact smp_step w0 pb hpb (m + 1) (fun m' h => by cases h; exact ih)
end Go.Proofs.YtfbjljcmmbdhkaaGreatDoor
