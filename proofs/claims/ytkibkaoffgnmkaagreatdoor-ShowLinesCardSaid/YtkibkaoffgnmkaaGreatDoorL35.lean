/- Contract of first, whatever the statement. -/
import Derived.Test.YtkibkaoffgnmkaaGreatDoorL30
import Derived.Test.YtkibkaoffgnmkaaGreatDoorL31
import Derived.Test.YtkibkaoffgnmkaaGreatDoorL32
import Derived.Test.YtkibkaoffgnmkaaGreatDoorL33
import Derived.Test.YtkibkaoffgnmkaaGreatDoorL34
namespace Go.Proofs.YtkibkaoffgnmkaaGreatDoor
set_option linter.unusedVariables false
set_option linter.unusedSimpArgs false
set_option maxRecDepth 100000
set_option maxHeartbeats 200000000
open Go.ChangeShapes Go.WideShapes Go.ChangeAt Go.RowKit
theorem first_11 (nm fr : List UInt8) (sec mu : Bool) (ex : List Xp) (ar : List (List UInt8)) (mx ma mb ml : Option Addr) (nx cx na ca nb cb nl cl : Nat) (w0 : World) (hX : KidsAt (fun b => b < w0.heap.size) w0 ex mx) (hA : StrsAt (fun b => b < w0.heap.size) w0 ar ma) (hnx : ex.length = nx) (hna : ar.length = na) (hxl : ex.length ≤ 140737488355328) (hal : ar.length ≤ 140737488355328) (hmy : ∀ x ∈ ex, mayB 40 x = true) (hnd : ∀ x ∈ ex, x.nodes ≤ 100000)
  (hTb : Tb w0) (hSw : SwOk w0) (hb : (comT xpT ex).length + (comT (fun s => [nmT s]) ar).length ≤ 890000) :
  Calls Tryz.prog 148 #[.agg #[.int .u8 11, .string (str nm), .string (str fr), .bool sec, .bool mu, .slice mx nx cx, .slice ma na ca, .slice mb nb cb, .slice ml nl cl]] w0 (BgP w0 (wdT wCall :: (secT sec ++ (nmO nm ++ (eqT nm ++ (nmT fr :: sg [40] :: (comT xpT ex ++ sg [59] :: (comT (fun s => [nmT s]) ar ++ [sg [41], sg [59]])))))))) := by
 obtain ⟨W, hWe⟩ : ∃ W, w0.alloc (.cells #[.int .u8 11, .string (str nm), .string (str fr), .bool sec, .bool mu, .slice mx nx cx, .slice ma na ca, .slice mb nb cb, .slice ml nl cl] 52) = W := ⟨_, rfl⟩
 have hBw : Below w0.heap.size w0 W := by rw [← hWe]; exact aB (Below.refl _ _) _
 have hrW : rowG #[.int .u8 11, .string (str nm), .string (str fr), .bool sec, .bool mu, .slice mx nx cx, .slice ma na ca, .slice mb nb cb, .slice ml nl cl] W w0.heap.size := by rw [← hWe]; exact rowG_at _ _ _ _ rfl
 have hbg := begin_w 11 11 wCall nm fr sec mu mx ma mb ml nx cx na ca nb cb nl cl W (hSw.of hBw) (by simp)
 have hln : (nmO nm).length ≤ 1 := by unfold nmO; split <;> simp
 have hls := sec_len sec
 go_enter Tryz.func148, Tryz.ntmps148
 go_wp2_with (first | (with_reducible refine ld9 rfl _ rfl _ rfl hr1 ?_) | (with_reducible refine ld9 rfl _ rfl _ rfl hrW ?_) | (go_at_call 163; ((with_reducible refine hbg.mono ?_); (rintro r v1 ⟨⟨lA, rfl, hoA⟩, hbA⟩); have hr1 := rowG_b hrW hbA; have t0 : v1.cell? ⟨w0.heap.size, 0, none⟩ = some (.int .u8 11) := hr1.1 0 (by simp); have hlv := hr1.2.2; have hoX := own_base hBw.size hoA; have hB0 : w0.heap.size ≤ v1.heap.size := Nat.le_trans hBw.size hbA.size; have hOn0 : Only (fun j => w0.heap.size ≤ j) w0 v1 := (only_below hBw).trans (only_below hbA); have hcl := scall_any nm fr sec mu ex ar mx ma mb ml nx cx na ca nb cb nl cl w0.heap.size lA (zs (wdT wCall :: (secT sec ++ nmO nm))) v1 (kids_on hX hOn0) (strs_on hA hOn0) hnx hna hxl hal hmy hnd ((wr_self hTb).only hOn0 (fun _ h => h)) hoX (by simp [zs]; omega))) | (go_at_call 164; ((with_reducible refine hcl.mono ?_); (rintro r v2 ⟨l2, rfl, hT2⟩))))
 go_ret
 exact first_fin hBw hbA (fun j hj => (own_lt hoA hj).1) hT2 (by simp [zs])
theorem bg_eq {w0 : World} {X Y : List Tk} {r : Ending} {w' : World} (h : BgP w0 X r w') (e : X = Y) : BgP w0 Y r w' := e ▸ h
theorem xp_len {x : Xp} (h : mayB 40 x = true) (hn : x.nodes ≤ 9000) : (xpT x).length ≤ 45000 := Nat.le_trans (tell_len 40 x h) (by omega)
theorem flat_len {α : Type} (f : α → List Tk) (b : Nat) : ∀ (l : List α), (∀ x ∈ l, (f x).length ≤ b) → (l.flatMap fun y => sg [44] :: f y).length ≤ l.length * (b + 1)
 | [], _ => by simp
 | x :: r, h => by
  have h1 := h x (List.mem_cons_self ..)
  have h2 := flat_len f b r (fun y hy => h y (List.mem_cons_of_mem _ hy))
  rw [List.flatMap_cons, List.length_append, List.length_cons, List.length_cons, Nat.succ_mul]
  omega
theorem com_len {α : Type} (f : α → List Tk) (b : Nat) (l : List α) (h : ∀ x ∈ l, (f x).length ≤ b) : (comT f l).length ≤ l.length * (b + 1) := by
 cases l with
 | nil => simp [comT]
 | cons x r =>
  have h1 := h x (List.mem_cons_self ..)
  have h2 := flat_len f b r (fun y hy => h y (List.mem_cons_of_mem _ hy))
  rw [comT, List.length_append, List.length_cons, Nat.succ_mul]
  omega
theorem nmO_ne {s : List UInt8} (h : nmdB s = true) : nmO s = [nmT s] := if_neg (nmd_ne h)
theorem first_any (K : Sx) (w0 : World) (hTb : Tb w0) (hSw : SwOk w0) (hK : K.is (fun b => b < w0.heap.size) w0) (hf : fitsB K.x = true) (hnd : ∀ x ∈ K.x.ex, x.nodes ≤ 9000) :
  Calls Tryz.prog 148 #[.agg K.cells.toArray] w0 (BgP w0 (stH K.k K.nm K.fr K.sec K.mu K.x.ex K.x.ar)) := by
 obtain ⟨hx, h256, hnx, hna, hnb, hnl, hxl, hal, hbl, hll, hX, hA, hB, hL⟩ := sx_all hK
 rw [hx] at hf
 obtain ⟨k, nm, fr, sec, mu, mx, nx, cx, ma, na, ca, mb, nb, cb, ml, nl, cl, x⟩ := K
 simp only at *
 obtain ⟨⟨hk0, hk⟩, hM, har, hex⟩ := fits_parts hf
 obtain ⟨ex, hex'⟩ : ∃ ex, ex = x.ex := ⟨_, rfl⟩
 obtain ⟨ar, har'⟩ : ∃ ar, ar = x.ar := ⟨_, rfl⟩
 rw [← hex'] at hnx hX hM hnd hex ⊢
 rw [← har'] at hna hA hM har ⊢
 rw [← hnx, ← hna] at hM
 rw [hnx] at hxl
 rw [hna] at hal
 clear hx hf hK hex' har'
 have hkk : k = 1 ∨ k = 2 ∨ k = 3 ∨ k = 4 ∨ k = 5 ∨ k = 6 ∨ k = 7 ∨ k = 8 ∨ k = 9 ∨ k = 10 ∨ k = 11 ∨ k = 12 := by omega
 rcases hkk with rfl | rfl | rfl | rfl | rfl | rfl | rfl | rfl | rfl | rfl | rfl | rfl
 ·obtain ⟨h1, h2, h3, h4, h5, h6, h7, h8, h9⟩ := met_parts (show metB (2, 0, true, false, 1, 1, 0, false, false) nm fr sec mu _ _ _ _ = true from hM)
  have hnm : nmdB nm = true := metA2 h1
  obtain ⟨a, rfl⟩ := one_of (ex := ex) (by omega) (by omega)
  obtain ⟨b, off, rfl⟩ := kids_some hX (by simp)
  obtain ⟨m0, c0, k0⟩ := kidIn hX 0 (by simp)
  simp only [Nat.zero_mul, Nat.add_zero, List.getElem_cons_zero] at k0
  simp only [List.length_cons, List.length_nil] at hnx
  subst hnx
  exact (first_e 1 (by simp) _ (bg_l3 _ _ _) nm fr sec mu ma mb ml cx na ca nb cb nl cl w0 hTb hSw b off a m0 c0 k0 (hex a (by simp)) (Nat.le_trans (hnd a (by simp)) (by omega)) (Nat.le_trans (xp_len (hex a (by simp)) (hnd a (by simp))) (by omega)) (fun W h => begin_w 1 1 wLet nm fr sec mu _ ma mb ml _ cx na ca nb cb nl cl W h (by simp))).mono fun r w' h => bg_eq h (by simp [stH, e0T, nmO_ne hnm])
 ·obtain ⟨h1, h2, h3, h4, h5, h6, h7, h8, h9⟩ := met_parts (show metB (2, 0, false, false, 1, 1, 0, false, false) nm fr sec mu _ _ _ _ = true from hM)
  obtain rfl : sec = false := h3.resolve_left (by decide)
  have hnm : nmdB nm = true := metA2 h1
  obtain ⟨a, rfl⟩ := one_of (ex := ex) (by omega) (by omega)
  obtain ⟨b, off, rfl⟩ := kids_some hX (by simp)
  obtain ⟨m0, c0, k0⟩ := kidIn hX 0 (by simp)
  simp only [Nat.zero_mul, Nat.add_zero, List.getElem_cons_zero] at k0
  simp only [List.length_cons, List.length_nil] at hnx
  subst hnx
  exact (first_e 2 (by simp) _ (bg_l1 _) nm fr false mu ma mb ml cx na ca nb cb nl cl w0 hTb hSw b off a m0 c0 k0 (hex a (by simp)) (Nat.le_trans (hnd a (by simp)) (by omega)) (Nat.le_trans (xp_len (hex a (by simp)) (hnd a (by simp))) (by omega)) (fun W h => begin_n 2 2 nm fr false mu _ ma mb ml _ cx na ca nb cb nl cl W h (by simp))).mono fun r w' h => bg_eq h (by simp [stH, e0T, nmO_ne hnm])
 ·obtain ⟨h1, h2, h3, h4, h5, h6, h7, h8, h9⟩ := met_parts (show metB (2, 0, true, false, 1, 1, 0, false, false) nm fr sec mu _ _ _ _ = true from hM)
  have hnm : nmdB nm = true := metA2 h1
  obtain ⟨a, rfl⟩ := one_of (ex := ex) (by omega) (by omega)
  obtain ⟨b, off, rfl⟩ := kids_some hX (by simp)
  obtain ⟨m0, c0, k0⟩ := kidIn hX 0 (by simp)
  simp only [Nat.zero_mul, Nat.add_zero, List.getElem_cons_zero] at k0
  simp only [List.length_cons, List.length_nil] at hnx
  subst hnx
  exact (first_3 nm fr sec mu ma mb ml cx na ca nb cb nl cl w0 hTb hSw b off a m0 c0 k0 (hex a (by simp)) (Nat.le_trans (hnd a (by simp)) (by omega)) (Nat.le_trans (xp_len (hex a (by simp)) (hnd a (by simp))) (by omega))).mono fun r w' h => bg_eq h (by simp [stH, e0T, nmO_ne hnm])
 ·obtain ⟨h1, h2, h3, h4, h5, h6, h7, h8, h9⟩ := met_parts (show metB (2, 0, false, false, 2, 2, 0, false, false) nm fr sec mu _ _ _ _ = true from hM)
  obtain rfl : sec = false := h3.resolve_left (by decide)
  have hnm : nmdB nm = true := metA2 h1
  obtain ⟨a, c, rfl⟩ := two_of (ex := ex) (by omega) (by omega)
  obtain ⟨b, off, rfl⟩ := kids_some hX (by simp)
  obtain ⟨m0, c0, k0⟩ := kidIn hX 0 (by simp)
  obtain ⟨m1, c1, k1⟩ := kidIn hX 1 (by simp)
  simp only [Nat.zero_mul, Nat.add_zero, Nat.one_mul, List.getElem_cons_zero, List.getElem_cons_succ] at k0 k1
  simp only [List.length_cons, List.length_nil] at hnx
  subst hnx
  exact (first_4 nm fr false mu ma mb ml cx na ca nb cb nl cl w0 hTb hSw b off a m0 c0 k0 (hex a (by simp)) (Nat.le_trans (hnd a (by simp)) (by omega)) (Nat.le_trans (xp_len (hex a (by simp)) (hnd a (by simp))) (by omega)) c m1 c1 k1 (hex c (by simp)) (Nat.le_trans (hnd c (by simp)) (by omega)) (Nat.le_trans (xp_len (hex c (by simp)) (hnd c (by simp))) (by omega))).mono fun r w' h => bg_eq h (by simp [stH, e0T, e1T, nmO_ne hnm])
 ·obtain ⟨h1, h2, h3, h4, h5, h6, h7, h8, h9⟩ := met_parts (show metB (0, 0, false, false, 1, 1, 0, true, true) nm fr sec mu _ _ _ _ = true from hM)
  obtain rfl : sec = false := h3.resolve_left (by decide)
  obtain rfl : nm = [] := metA0 h1
  obtain ⟨a, rfl⟩ := one_of (ex := ex) (by omega) (by omega)
  obtain ⟨b, off, rfl⟩ := kids_some hX (by simp)
  obtain ⟨m0, c0, k0⟩ := kidIn hX 0 (by simp)
  simp only [Nat.zero_mul, Nat.add_zero, List.getElem_cons_zero] at k0
  simp only [List.length_cons, List.length_nil] at hnx
  subst hnx
  exact (first_5 [] fr false mu ma mb ml cx na ca nb cb nl cl w0 hTb hSw b off a m0 c0 k0 (hex a (by simp)) (Nat.le_trans (hnd a (by simp)) (by omega)) (Nat.le_trans (xp_len (hex a (by simp)) (hnd a (by simp))) (by omega))).mono fun r w' h => bg_eq h (by simp [stH, e0T, secT, nmO])
 ·obtain ⟨h1, h2, h3, h4, h5, h6, h7, h8, h9⟩ := met_parts (show metB (0, 0, false, false, 1, 1, 0, true, false) nm fr sec mu _ _ _ _ = true from hM)
  obtain rfl : sec = false := h3.resolve_left (by decide)
  obtain rfl : nm = [] := metA0 h1
  obtain ⟨a, rfl⟩ := one_of (ex := ex) (by omega) (by omega)
  obtain ⟨b, off, rfl⟩ := kids_some hX (by simp)
  obtain ⟨m0, c0, k0⟩ := kidIn hX 0 (by simp)
  simp only [Nat.zero_mul, Nat.add_zero, List.getElem_cons_zero] at k0
  simp only [List.length_cons, List.length_nil] at hnx
  subst hnx
  exact (first_6 [] fr false mu ma mb ml cx na ca nb cb nl cl w0 hTb hSw b off a m0 c0 k0 (hex a (by simp)) (Nat.le_trans (hnd a (by simp)) (by omega)) (Nat.le_trans (xp_len (hex a (by simp)) (hnd a (by simp))) (by omega))).mono fun r w' h => bg_eq h (by simp [stH, e0T, secT, nmO])
 ·obtain ⟨h1, h2, h3, h4, h5, h6, h7, h8, h9⟩ := met_parts (show metB (2, 0, false, false, 1, 1, 0, true, false) nm fr sec mu _ _ _ _ = true from hM)
  obtain rfl : sec = false := h3.resolve_left (by decide)
  have hnm : nmdB nm = true := metA2 h1
  obtain ⟨a, rfl⟩ := one_of (ex := ex) (by omega) (by omega)
  obtain ⟨b, off, rfl⟩ := kids_some hX (by simp)
  obtain ⟨m0, c0, k0⟩ := kidIn hX 0 (by simp)
  simp only [Nat.zero_mul, Nat.add_zero, List.getElem_cons_zero] at k0
  simp only [List.length_cons, List.length_nil] at hnx
  subst hnx
  exact (first_7 nm fr false mu ma mb ml cx na ca nb cb nl cl w0 hTb hSw b off a m0 c0 k0 (hex a (by simp)) (Nat.le_trans (hnd a (by simp)) (by omega)) (Nat.le_trans (xp_len (hex a (by simp)) (hnd a (by simp))) (by omega))).mono fun r w' h => bg_eq h (by simp [stH, e0T, secT, nmO_ne hnm])
 ·obtain ⟨h1, h2, h3, h4, h5, h6, h7, h8, h9⟩ := met_parts (show metB (2, 2, false, true, 2, 2, 0, true, false) nm fr sec mu _ _ _ _ = true from hM)
  obtain rfl : sec = false := h3.resolve_left (by decide)
  have hnm : nmdB nm = true := metA2 h1
  obtain ⟨a, c, rfl⟩ := two_of (ex := ex) (by omega) (by omega)
  obtain ⟨b, off, rfl⟩ := kids_some hX (by simp)
  obtain ⟨m0, c0, k0⟩ := kidIn hX 0 (by simp)
  obtain ⟨m1, c1, k1⟩ := kidIn hX 1 (by simp)
  simp only [Nat.zero_mul, Nat.add_zero, Nat.one_mul, List.getElem_cons_zero, List.getElem_cons_succ] at k0 k1
  simp only [List.length_cons, List.length_nil] at hnx
  subst hnx
  cases mu
  ·exact (first_8 _ (bg_l3 _ _ _) nm fr false false ma mb ml cx na ca nb cb nl cl w0 hTb hSw b off a m0 c0 k0 (hex a (by simp)) (Nat.le_trans (hnd a (by simp)) (by omega)) (Nat.le_trans (xp_len (hex a (by simp)) (hnd a (by simp))) (by omega)) c m1 c1 k1 (hex c (by simp)) (Nat.le_trans (hnd c (by simp)) (by omega)) (Nat.le_trans (xp_len (hex c (by simp)) (hnd c (by simp))) (by omega)) (fun W h => begin_w 8 8 wView nm fr false false _ ma mb ml _ cx na ca nb cb nl cl W h (by simp))).mono fun r w' h => bg_eq h (by simp [stH, e0T, e1T, secT, nmO_ne hnm])
  ·exact (first_8 _ (bg_l3 _ _ _) nm fr false true ma mb ml cx na ca nb cb nl cl w0 hTb hSw b off a m0 c0 k0 (hex a (by simp)) (Nat.le_trans (hnd a (by simp)) (by omega)) (Nat.le_trans (xp_len (hex a (by simp)) (hnd a (by simp))) (by omega)) c m1 c1 k1 (hex c (by simp)) (Nat.le_trans (hnd c (by simp)) (by omega)) (Nat.le_trans (xp_len (hex c (by simp)) (hnd c (by simp))) (by omega)) (fun W h => begin_8e nm fr false _ ma mb ml _ cx na ca nb cb nl cl W h)).mono fun r w' h => bg_eq h (by simp [stH, e0T, e1T, secT, nmO_ne hnm])
 ·obtain ⟨h1, h2, h3, h4, h5, h6, h7, h8, h9⟩ := met_parts (show metB (2, 2, false, false, 0, 0, 0, false, false) nm fr sec mu _ _ _ _ = true from hM)
  obtain rfl : sec = false := h3.resolve_left (by decide)
  have hnm : nmdB nm = true := metA2 h1
  obtain rfl : ex = [] := List.length_eq_zero_iff.1 (by omega)
  simp only [List.length_nil] at hnx
  subst hnx
  exact (first_9 nm fr false mu ma mb ml cx na ca nb cb nl cl w0 hTb hSw mx).mono fun r w' h => bg_eq h (by simp [stH, secT, nmO_ne hnm])
 ·obtain ⟨h1, h2, h3, h4, h5, h6, h7, h8, h9⟩ := met_parts (show metB (2, 0, false, false, 1, 1, 0, false, false) nm fr sec mu _ _ _ _ = true from hM)
  obtain rfl : sec = false := h3.resolve_left (by decide)
  have hnm : nmdB nm = true := metA2 h1
  obtain ⟨a, rfl⟩ := one_of (ex := ex) (by omega) (by omega)
  obtain ⟨b, off, rfl⟩ := kids_some hX (by simp)
  obtain ⟨m0, c0, k0⟩ := kidIn hX 0 (by simp)
  simp only [Nat.zero_mul, Nat.add_zero, List.getElem_cons_zero] at k0
  simp only [List.length_cons, List.length_nil] at hnx
  subst hnx
  exact (first_e 10 (by simp) _ (bg_l3 _ _ _) nm fr false mu ma mb ml cx na ca nb cb nl cl w0 hTb hSw b off a m0 c0 k0 (hex a (by simp)) (Nat.le_trans (hnd a (by simp)) (by omega)) (Nat.le_trans (xp_len (hex a (by simp)) (hnd a (by simp))) (by omega)) (fun W h => begin_w 10 10 wOpen nm fr false mu _ ma mb ml _ cx na ca nb cb nl cl W h (by simp))).mono fun r w' h => bg_eq h (by simp [stH, e0T, secT, nmO_ne hnm])
 ·obtain ⟨h1, h2, h3, h4, h5, h6, h7, h8, h9⟩ := met_parts (show metB (1, 2, false, false, 0, 8, 8, false, false) nm fr sec mu _ _ _ _ = true from hM)
  obtain rfl : sec = false := h3.resolve_left (by decide)
  have hlx : ex.length ≤ 8 := by omega
  have hla : ar.length ≤ 8 := by omega
  have hc1 := com_len xpT 45000 ex (fun y hy => xp_len (hex y hy) (hnd y hy))
  have hc2 := com_len (fun s => [nmT s]) 1 ar (fun y hy => by simp)
  have hbd : (comT xpT ex).length + (comT (fun s => [nmT s]) ar).length ≤ 890000 := by
   have e1 : ex.length * (45000 + 1) ≤ 8 * 45001 := Nat.mul_le_mul hlx (Nat.le_refl _)
   have e2 : ar.length * (1 + 1) ≤ 8 * 2 := Nat.mul_le_mul hla (Nat.le_refl _)
   omega
  exact (first_11 nm fr false mu ex ar mx ma mb ml nx cx na ca nb cb nl cl w0 hX hA hnx.symm hna.symm hxl hal hex (fun y hy => Nat.le_trans (hnd y hy) (by omega)) hTb hSw hbd).mono fun r w' h => bg_eq h (by by_cases hn0 : nm = [] <;> simp [stH, secT, nmO, eqT, hn0])
 ·obtain ⟨h1, h2, h3, h4, h5, h6, h7, h8, h9⟩ := met_parts (show metB (0, 0, false, false, 0, 0, 0, false, false) nm fr sec mu _ _ _ _ = true from hM)
  obtain rfl : sec = false := h3.resolve_left (by decide)
  obtain rfl : nm = [] := metA0 h1
  obtain rfl : ex = [] := List.length_eq_zero_iff.1 (by omega)
  simp only [List.length_nil] at hnx
  subst hnx
  exact (first_12 [] fr false mu ma mb ml cx na ca nb cb nl cl w0 hTb hSw mx).mono fun r w' h => bg_eq h (by simp [stH, secT, nmO])
end Go.Proofs.YtkibkaoffgnmkaaGreatDoor
