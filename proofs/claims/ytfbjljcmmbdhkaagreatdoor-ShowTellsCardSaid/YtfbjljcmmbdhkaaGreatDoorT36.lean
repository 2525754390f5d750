/- Contract of first, whatever the statement. -/
import Derived.Test.YtfbjljcmmbdhkaaGreatDoorT29
import Derived.Test.YtfbjljcmmbdhkaaGreatDoorT28
import Derived.Test.YtfbjljcmmbdhkaaGreatDoorT30
import Derived.Test.YtfbjljcmmbdhkaaGreatDoorT06
import Derived.Test.YtfbjljcmmbdhkaaGreatDoorT15
import Derived.Test.YtfbjljcmmbdhkaaGreatDoorT12
import Derived.Test.YtfbjljcmmbdhkaaGreatDoorT26
namespace Go.Proofs.YtfbjljcmmbdhkaaGreatDoor
set_option linter.unusedVariables false
set_option linter.unusedSimpArgs false
set_option maxRecDepth 100000
set_option maxHeartbeats 200000000
section
open Go.ChangeShapes Go.WideShapes Go.ChangeAt Go.RowKit
theorem first_11 (nm fr : List UInt8) (sec mu : Bool) (ex : List Xp) (ar : List (List UInt8)) (mx ma mb ml : Option Addr) (nx cx na ca nb cb nl cl : Nat) (w0 : World) (hX : KidsAt (fun b => b < w0.heap.size) w0 ex mx) (hA : StrsAt (fun b => b < w0.heap.size) w0 ar ma) (hnx : ex.length = nx) (hna : ar.length = na) (hxl : ex.length ≤ 140737488355328) (hal : ar.length ≤ 140737488355328) (hmy : ∀ x ∈ ex, mayB 40 x = true) (hnd : ∀ x ∈ ex, x.nodes ≤ 100000)
 (hTb : Tb w0) (hSw : SwOk w0) (hb : (comT xpT ex).length + (comT (fun s => [nmT s]) ar).length ≤ 890000) :
 Calls Tryz.prog 148 #[.agg #[.int .u8 11, .string (str nm), .string (str fr), .bool sec, .bool mu, .slice mx nx cx, .slice ma na ca, .slice mb nb cb, .slice ml nl cl]] w0 (BgP w0 (wdT wCall :: (secT sec ++ (nmO nm ++ (eqT nm ++ (nmT fr :: sg [40] :: (comT xpT ex ++ sg [59] :: (comT (fun s => [nmT s]) ar ++ [sg [41], sg [59]])))))))) := by
 obtain ⟨W, hWe⟩ : ∃ W, w0.alloc (.cells #[.int .u8 11, .string (str nm), .string (str fr), .bool sec, .bool mu, .slice mx nx cx, .slice ma na ca, .slice mb nb cb, .slice ml nl cl] 52) = W := ⟨_, rfl⟩
 have hBw : Below w0.heap.size w0 W := by rw [← hWe]; exact aB (Below.refl _ _) _
 have hrW : rowG #[.int .u8 11, .string (str nm), .string (str fr), .bool sec, .bool mu, .slice mx nx cx, .slice ma na ca, .slice mb nb cb, .slice ml nl cl] W w0.heap.size := by rw [← hWe]; exact rowG_at _ _ _ _ rfl
 have hbg := begin_m.1 11 11 wCall nm fr sec mu mx ma mb ml nx cx na ca nb cb nl cl W (hSw.of hBw) (by simp)
 have hln : (nmO nm).length ≤ 1 := by unfold nmO; split <;> simp
 have hls := sec_len sec
 go_enter Tryz.func148, Tryz.ntmps148
 go_wp2_with (first | (with_reducible refine ld9 rfl _ rfl _ rfl hr1 ?_) | (with_reducible refine ld9 rfl _ rfl _ rfl hrW ?_) | (go_at_call 163; ((with_reducible refine hbg.mono ?_); (rintro r v1 ⟨⟨lA, rfl, hoA⟩, hbA⟩); have hr1 := rowG_b hrW hbA; have t0 : v1.cell? ⟨w0.heap.size, 0, none⟩ = some (.int .u8 11) := hr1.1 0 (by simp); have hlv := hr1.2.2; have hoX := own_base hBw.size hoA; have hB0 : w0.heap.size ≤ v1.heap.size := Nat.le_trans hBw.size hbA.size; have hOn0 : Only (fun j => w0.heap.size ≤ j) w0 v1 := (only_below hBw).trans (only_below hbA); have hcl := scall_any nm fr sec mu ex ar mx ma mb ml nx cx na ca nb cb nl cl w0.heap.size lA (zs (wdT wCall :: (secT sec ++ nmO nm))) v1 (kids_on hX hOn0) (strs_on hA hOn0) hnx hna hxl hal hmy hnd ((wr_self hTb).only hOn0 (fun _ h => h)) hoX (by simp [zs]; omega))) | (go_at_call 164; ((with_reducible refine hcl.mono ?_); (rintro r v2 ⟨l2, rfl, hT2⟩))))
 go_ret
 exact first_fin hBw hbA (fun j hj => (own_lt hoA hj).1) hT2 (by simp [zs])
theorem bg_eq {w0 : World} {X Y : List Tk} {r : Ending} {w' : World} (h : BgP w0 X r w') (e : X = Y) : BgP w0 Y r w' := e ▸ h
theorem flat_len {α : Type} (f : α → List Tk) (b : Nat) : ∀ (l : List α), (∀ x ∈ l, (f x).length ≤ b) → (l.flatMap fun y => sg [44] :: f y).length ≤ l.length * (b + 1)
 | [], _ => by simp
 | x :: r, h => by
   have h1 := h x (List.mem_cons_self ..)
   have h2 := flat_len f b r (fun y hy => h y (List.mem_cons_of_mem _ hy))
   rw [List.flatMap_cons, List.length_append, List.length_cons, List.length_cons, Nat.succ_mul]
   omega
theorem com_len {α : Type} (f : α → List Tk) (b : Nat) (l : List α) (h : ∀ x ∈ l, (f x).length ≤ b) : (comT f l).length ≤ l.length * (b + 1) := by
 cases l with
 | nil => simp [comT]
 | cons x r =>
  have h1 := h x (List.mem_cons_self ..)
  have h2 := flat_len f b r (fun y hy => h y (List.mem_cons_of_mem _ hy))
  rw [comT, List.length_append, List.length_cons, Nat.succ_mul]
  omega
theorem nmO_ne {s : List UInt8} (h : nmdB s = true) : nmO s = [nmT s] := if_neg (nmd_ne h)
theorem first_any (K : Sx) (w0 : World) (hTb : Tb w0) (hSw : SwOk w0) (hK : K.is (fun b => b < w0.heap.size) w0) (hf : fitsB K.x = true) (hnd : ∀ x ∈ K.x.ex, x.nodes ≤ 9000) :
 Calls Tryz.prog 148 #[.agg K.cells.toArray] w0 (BgP w0 (stH K.k K.nm K.fr K.sec K.mu K.x.ex K.x.ar)) := by
 obtain ⟨hx, h256, hnx, hna, hnb, hnl, hxl, hal, hbl, hll, hX, hA, hB, hL⟩ := sx_all hK
 rw [hx] at hf
 obtain ⟨k, nm, fr, sec, mu, mx, nx, cx, ma, na, ca, mb, nb, cb, ml, nl, cl, x⟩ := K
 simp only at *
 obtain ⟨⟨hk0, hk⟩, hM, har, hex⟩ := fits_parts hf
 obtain ⟨ex, hex'⟩ : ∃ ex, ex = x.ex := ⟨_, rfl⟩
 obtain ⟨ar, har'⟩ : ∃ ar, ar = x.ar := ⟨_, rfl⟩
 rw [← hex'] at hnx hX hM hnd hex ⊢
 rw [← har'] at hna hA hM har ⊢
 rw [← hnx, ← hna] at hM
 rw [hnx] at hxl
 rw [hna] at hal
 clear hx hf hK hex' har'
 have hkk : k = 1 ∨ k = 2 ∨ k = 3 ∨ k = 4 ∨ k = 5 ∨ k = 6 ∨ k = 7 ∨ k = 8 ∨ k = 9 ∨ k = 10 ∨ k = 11 ∨ k = 12 := by omega
 rcases hkk with rfl | rfl | rfl | rfl | rfl | rfl | rfl | rfl | rfl | rfl | rfl | rfl
 ·obtain ⟨h1, h2, h3, h4, h5, h6, h7, h8, h9⟩ := met_parts (show metB (2, 0, true, false, 1, 1, 0, false, false) nm fr sec mu _ _ _ _ = true from hM)
  have hnm : nmdB nm = true := metA2 h1
  obtain ⟨a, rfl⟩ := one_of (ex := ex) (by omega) (by omega)
  obtain ⟨b, off, rfl⟩ := kids_some hX (by simp)
  obtain ⟨m0, c0, k0⟩ := kidIn hX 0 (by simp)
  simp only [Nat.zero_mul, Nat.add_zero, List.getElem_cons_zero] at k0
  simp only [List.length_cons, List.length_nil] at hnx
  subst hnx
  exact (first_m.2.2 1 (by simp) _ (bg_l3 _ _ _) nm fr sec mu ma mb ml cx na ca nb cb nl cl w0 hTb hSw b off a m0 c0 k0 (hex a (by simp)) (Nat.le_trans (hnd a (by simp)) (by omega)) (Nat.le_trans (xp_len (hex a (by simp)) (hnd a (by simp))) (by omega)) (fun W h => begin_m.1 1 1 wLet nm fr sec mu _ ma mb ml _ cx na ca nb cb nl cl W h (by simp))).mono fun r w' h => bg_eq h (by simp [stH, e0T, nmO_ne hnm])
 ·obtain ⟨h1, h2, h3, h4, h5, h6, h7, h8, h9⟩ := met_parts (show metB (2, 0, false, false, 1, 1, 0, false, false) nm fr sec mu _ _ _ _ = true from hM)
  obtain rfl : sec = false := h3.resolve_left (by decide)
  have hnm : nmdB nm = true := metA2 h1
  obtain ⟨a, rfl⟩ := one_of (ex := ex) (by omega) (by omega)
  obtain ⟨b, off, rfl⟩ := kids_some hX (by simp)
  obtain ⟨m0, c0, k0⟩ := kidIn hX 0 (by simp)
  simp only [Nat.zero_mul, Nat.add_zero, List.getElem_cons_zero] at k0
  simp only [List.length_cons, List.length_nil] at hnx
  subst hnx
  exact (first_m.2.2 2 (by simp) _ (bg_l1 _) nm fr false mu ma mb ml cx na ca nb cb nl cl w0 hTb hSw b off a m0 c0 k0 (hex a (by simp)) (Nat.le_trans (hnd a (by simp)) (by omega)) (Nat.le_trans (xp_len (hex a (by simp)) (hnd a (by simp))) (by omega)) (fun W h => begin_m.2 2 2 nm fr false mu _ ma mb ml _ cx na ca nb cb nl cl W h (by simp))).mono fun r w' h => bg_eq h (by simp [stH, e0T, nmO_ne hnm])
 ·obtain ⟨h1, h2, h3, h4, h5, h6, h7, h8, h9⟩ := met_parts (show metB (2, 0, true, false, 1, 1, 0, false, false) nm fr sec mu _ _ _ _ = true from hM)
  have hnm : nmdB nm = true := metA2 h1
  obtain ⟨a, rfl⟩ := one_of (ex := ex) (by omega) (by omega)
  obtain ⟨b, off, rfl⟩ := kids_some hX (by simp)
  obtain ⟨m0, c0, k0⟩ := kidIn hX 0 (by simp)
  simp only [Nat.zero_mul, Nat.add_zero, List.getElem_cons_zero] at k0
  simp only [List.length_cons, List.length_nil] at hnx
  subst hnx
  exact (first_m.1 nm fr sec mu ma mb ml cx na ca nb cb nl cl w0 hTb hSw b off a m0 c0 k0 (hex a (by simp)) (Nat.le_trans (hnd a (by simp)) (by omega)) (Nat.le_trans (xp_len (hex a (by simp)) (hnd a (by simp))) (by omega))).mono fun r w' h => bg_eq h (by simp [stH, e0T, nmO_ne hnm])
 ·obtain ⟨h1, h2, h3, h4, h5, h6, h7, h8, h9⟩ := met_parts (show metB (2, 0, false, false, 2, 2, 0, false, false) nm fr sec mu _ _ _ _ = true from hM)
  obtain rfl : sec = false := h3.resolve_left (by decide)
  have hnm : nmdB nm = true := metA2 h1
  obtain ⟨a, c, rfl⟩ := two_of (ex := ex) (by omega) (by omega)
  obtain ⟨b, off, rfl⟩ := kids_some hX (by simp)
  obtain ⟨m0, c0, k0⟩ := kidIn hX 0 (by simp)
  obtain ⟨m1, c1, k1⟩ := kidIn hX 1 (by simp)
  simp only [Nat.zero_mul, Nat.add_zero, Nat.one_mul, List.getElem_cons_zero, List.getElem_cons_succ] at k0 k1
  simp only [List.length_cons, List.length_nil] at hnx
  subst hnx
  exact (first_4 nm fr false mu ma mb ml cx na ca nb cb nl cl w0 hTb hSw b off a m0 c0 k0 (hex a (by simp)) (Nat.le_trans (hnd a (by simp)) (by omega)) (Nat.le_trans (xp_len (hex a (by simp)) (hnd a (by simp))) (by omega)) c m1 c1 k1 (hex c (by simp)) (Nat.le_trans (hnd c (by simp)) (by omega)) (Nat.le_trans (xp_len (hex c (by simp)) (hnd c (by simp))) (by omega))).mono fun r w' h => bg_eq h (by simp [stH, e0T, e1T, nmO_ne hnm])
 ·obtain ⟨h1, h2, h3, h4, h5, h6, h7, h8, h9⟩ := met_parts (show metB (0, 0, false, false, 1, 1, 0, true, true) nm fr sec mu _ _ _ _ = true from hM)
  obtain rfl : sec = false := h3.resolve_left (by decide)
  obtain rfl : nm = [] := metA0 h1
  obtain ⟨a, rfl⟩ := one_of (ex := ex) (by omega) (by omega)
  obtain ⟨b, off, rfl⟩ := kids_some hX (by simp)
  obtain ⟨m0, c0, k0⟩ := kidIn hX 0 (by simp)
  simp only [Nat.zero_mul, Nat.add_zero, List.getElem_cons_zero] at k0
  simp only [List.length_cons, List.length_nil] at hnx
  subst hnx
  exact (first_5 [] fr false mu ma mb ml cx na ca nb cb nl cl w0 hTb hSw b off a m0 c0 k0 (hex a (by simp)) (Nat.le_trans (hnd a (by simp)) (by omega)) (Nat.le_trans (xp_len (hex a (by simp)) (hnd a (by simp))) (by omega))).mono fun r w' h => bg_eq h (by simp [stH, e0T, secT, nmO])
 ·obtain ⟨h1, h2, h3, h4, h5, h6, h7, h8, h9⟩ := met_parts (show metB (0, 0, false, false, 1, 1, 0, true, false) nm fr sec mu _ _ _ _ = true from hM)
  obtain rfl : sec = false := h3.resolve_left (by decide)
  obtain rfl : nm = [] := metA0 h1
  obtain ⟨a, rfl⟩ := one_of (ex := ex) (by omega) (by omega)
  obtain ⟨b, off, rfl⟩ := kids_some hX (by simp)
  obtain ⟨m0, c0, k0⟩ := kidIn hX 0 (by simp)
  simp only [Nat.zero_mul, Nat.add_zero, List.getElem_cons_zero] at k0
  simp only [List.length_cons, List.length_nil] at hnx
  subst hnx
  exact (first_6 [] fr false mu ma mb ml cx na ca nb cb nl cl w0 hTb hSw b off a m0 c0 k0 (hex a (by simp)) (Nat.le_trans (hnd a (by simp)) (by omega)) (Nat.le_trans (xp_len (hex a (by simp)) (hnd a (by simp))) (by omega))).mono fun r w' h => bg_eq h (by simp [stH, e0T, secT, nmO])
 ·obtain ⟨h1, h2, h3, h4, h5, h6, h7, h8, h9⟩ := met_parts (show metB (2, 0, false, false, 1, 1, 0, true, false) nm fr sec mu _ _ _ _ = true from hM)
  obtain rfl : sec = false := h3.resolve_left (by decide)
  have hnm : nmdB nm = true := metA2 h1
  obtain ⟨a, rfl⟩ := one_of (ex := ex) (by omega) (by omega)
  obtain ⟨b, off, rfl⟩ := kids_some hX (by simp)
  obtain ⟨m0, c0, k0⟩ := kidIn hX 0 (by simp)
  simp only [Nat.zero_mul, Nat.add_zero, List.getElem_cons_zero] at k0
  simp only [List.length_cons, List.length_nil] at hnx
  subst hnx
  exact (first_m.2.1 nm fr false mu ma mb ml cx na ca nb cb nl cl w0 hTb hSw b off a m0 c0 k0 (hex a (by simp)) (Nat.le_trans (hnd a (by simp)) (by omega)) (Nat.le_trans (xp_len (hex a (by simp)) (hnd a (by simp))) (by omega))).mono fun r w' h => bg_eq h (by simp [stH, e0T, secT, nmO_ne hnm])
 ·obtain ⟨h1, h2, h3, h4, h5, h6, h7, h8, h9⟩ := met_parts (show metB (2, 2, false, true, 2, 2, 0, true, false) nm fr sec mu _ _ _ _ = true from hM)
  obtain rfl : sec = false := h3.resolve_left (by decide)
  have hnm : nmdB nm = true := metA2 h1
  obtain ⟨a, c, rfl⟩ := two_of (ex := ex) (by omega) (by omega)
  obtain ⟨b, off, rfl⟩ := kids_some hX (by simp)
  obtain ⟨m0, c0, k0⟩ := kidIn hX 0 (by simp)
  obtain ⟨m1, c1, k1⟩ := kidIn hX 1 (by simp)
  simp only [Nat.zero_mul, Nat.add_zero, Nat.one_mul, List.getElem_cons_zero, List.getElem_cons_succ] at k0 k1
  simp only [List.length_cons, List.length_nil] at hnx
  subst hnx
  cases mu
  ·exact (first_8 _ (bg_l3 _ _ _) nm fr false false ma mb ml cx na ca nb cb nl cl w0 hTb hSw b off a m0 c0 k0 (hex a (by simp)) (Nat.le_trans (hnd a (by simp)) (by omega)) (Nat.le_trans (xp_len (hex a (by simp)) (hnd a (by simp))) (by omega)) c m1 c1 k1 (hex c (by simp)) (Nat.le_trans (hnd c (by simp)) (by omega)) (Nat.le_trans (xp_len (hex c (by simp)) (hnd c (by simp))) (by omega)) (fun W h => begin_m.1 8 8 wView nm fr false false _ ma mb ml _ cx na ca nb cb nl cl W h (by simp))).mono fun r w' h => bg_eq h (by simp [stH, e0T, e1T, secT, nmO_ne hnm])
  ·exact (first_8 _ (bg_l3 _ _ _) nm fr false true ma mb ml cx na ca nb cb nl cl w0 hTb hSw b off a m0 c0 k0 (hex a (by simp)) (Nat.le_trans (hnd a (by simp)) (by omega)) (Nat.le_trans (xp_len (hex a (by simp)) (hnd a (by simp))) (by omega)) c m1 c1 k1 (hex c (by simp)) (Nat.le_trans (hnd c (by simp)) (by omega)) (Nat.le_trans (xp_len (hex c (by simp)) (hnd c (by simp))) (by omega)) (fun W h => begin_8e nm fr false _ ma mb ml _ cx na ca nb cb nl cl W h)).mono fun r w' h => bg_eq h (by simp [stH, e0T, e1T, secT, nmO_ne hnm])
 ·obtain ⟨h1, h2, h3, h4, h5, h6, h7, h8, h9⟩ := met_parts (show metB (2, 2, false, false, 0, 0, 0, false, false) nm fr sec mu _ _ _ _ = true from hM)
  obtain rfl : sec = false := h3.resolve_left (by decide)
  have hnm : nmdB nm = true := metA2 h1
  obtain rfl : ex = [] := List.length_eq_zero_iff.1 (by omega)
  simp only [List.length_nil] at hnx
  subst hnx
  exact (first_9 nm fr false mu ma mb ml cx na ca nb cb nl cl w0 hTb hSw mx).mono fun r w' h => bg_eq h (by simp [stH, secT, nmO_ne hnm])
 ·obtain ⟨h1, h2, h3, h4, h5, h6, h7, h8, h9⟩ := met_parts (show metB (2, 0, false, false, 1, 1, 0, false, false) nm fr sec mu _ _ _ _ = true from hM)
  obtain rfl : sec = false := h3.resolve_left (by decide)
  have hnm : nmdB nm = true := metA2 h1
  obtain ⟨a, rfl⟩ := one_of (ex := ex) (by omega) (by omega)
  obtain ⟨b, off, rfl⟩ := kids_some hX (by simp)
  obtain ⟨m0, c0, k0⟩ := kidIn hX 0 (by simp)
  simp only [Nat.zero_mul, Nat.add_zero, List.getElem_cons_zero] at k0
  simp only [List.length_cons, List.length_nil] at hnx
  subst hnx
  exact (first_m.2.2 10 (by simp) _ (bg_l3 _ _ _) nm fr false mu ma mb ml cx na ca nb cb nl cl w0 hTb hSw b off a m0 c0 k0 (hex a (by simp)) (Nat.le_trans (hnd a (by simp)) (by omega)) (Nat.le_trans (xp_len (hex a (by simp)) (hnd a (by simp))) (by omega)) (fun W h => begin_m.1 10 10 wOpen nm fr false mu _ ma mb ml _ cx na ca nb cb nl cl W h (by simp))).mono fun r w' h => bg_eq h (by simp [stH, e0T, secT, nmO_ne hnm])
 ·obtain ⟨h1, h2, h3, h4, h5, h6, h7, h8, h9⟩ := met_parts (show metB (1, 2, false, false, 0, 8, 8, false, false) nm fr sec mu _ _ _ _ = true from hM)
  obtain rfl : sec = false := h3.resolve_left (by decide)
  have hlx : ex.length ≤ 8 := by omega
  have hla : ar.length ≤ 8 := by omega
  have hc1 := com_len xpT 45000 ex (fun y hy => xp_len (hex y hy) (hnd y hy))
  have hc2 := com_len (fun s => [nmT s]) 1 ar (fun y hy => by simp)
  have hbd : (comT xpT ex).length + (comT (fun s => [nmT s]) ar).length ≤ 890000 := by
   have e1 : ex.length * (45000 + 1) ≤ 8 * 45001 := Nat.mul_le_mul hlx (Nat.le_refl _)
   have e2 : ar.length * (1 + 1) ≤ 8 * 2 := Nat.mul_le_mul hla (Nat.le_refl _)
   omega
  exact (first_11 nm fr false mu ex ar mx ma mb ml nx cx na ca nb cb nl cl w0 hX hA hnx.symm hna.symm hxl hal hex (fun y hy => Nat.le_trans (hnd y hy) (by omega)) hTb hSw hbd).mono fun r w' h => bg_eq h (by by_cases hn0 : nm = [] <;> simp [stH, secT, nmO, eqT, hn0])
 ·obtain ⟨h1, h2, h3, h4, h5, h6, h7, h8, h9⟩ := met_parts (show metB (0, 0, false, false, 0, 0, 0, false, false) nm fr sec mu _ _ _ _ = true from hM)
  obtain rfl : sec = false := h3.resolve_left (by decide)
  obtain rfl : nm = [] := metA0 h1
  obtain rfl : ex = [] := List.length_eq_zero_iff.1 (by omega)
  simp only [List.length_nil] at hnx
  subst hnx
  exact (first_12 [] fr false mu ma mb ml cx na ca nb cb nl cl w0 hTb hSw mx).mono fun r w' h => bg_eq h (by simp [stH, secT, nmO])
end
section
open Go Go.ChangeShapes Go.WideShapes Go.ChangeAt Go.RowKit m9
attribute [local go_sem] Oper.semAt_some
theorem room_none (k : Nat) : Fence.wide.depth.isSome = true → 1 ≤ k := fun h => by cases h
theorem round_any {m m' : Nat} {P : Program} {l : Nat} {f : FuncId} {tmps : Array Value} {assign body : Code} {w : World} {R : Ending → World → Prop}
 (h : RoundIn Fence.wide m P l f tmps assign body w R) : RoundIn Fence.wide m' P l f tmps assign body w R := ⟨h.1, fun c cs _ => h.2 c cs (room_wide _)⟩
theorem yield_any {m : Nat} (m' : Nat) {P : Program} {l : Nat} {args : Array Value} {W : World} {R : Ending → World → Prop} (h : YieldAt Fence.wide m P l args W R) : YieldAt Fence.wide m' P l args W R := by
 obtain ⟨fn, tmps, assign, body, hy, hR⟩ := h
 exact ⟨fn, tmps, assign, body, hy, round_any hR⟩
def LnAt (LL : List (Nat × List Tk)) (k : Nat) (L : List (Nat × List Tk)) : Prop := ∀ i x, L[i]? = some x → LL[k + i]? = some x
theorem LnAt.app {LL : List (Nat × List Tk)} {k : Nat} {a b : List (Nat × List Tk)} (h : LnAt LL k (a ++ b)) : LnAt LL k a ∧ LnAt LL (k + a.length) b :=
 ⟨fun i x hx => h i x (by rw [List.getElem?_append_left (List.getElem?_eq_some_iff.1 hx).1]; exact hx), fun i x hx => by
  have := h (a.length + i) x (by rw [List.getElem?_append_right (by omega), Nat.add_sub_cancel_left]; exact hx)
  rw [← Nat.add_assoc] at this
  exact this⟩
theorem LnAt.cons {LL : List (Nat × List Tk)} {k : Nat} {y : Nat × List Tk} {b : List (Nat × List Tk)} (h : LnAt LL k (y :: b)) : LL[k]? = some y ∧ LnAt LL (k + 1) b :=
 ⟨h 0 y rfl, fun i x hx => by
  have := h (i + 1) x (by simpa using hx)
  rw [show k + (i + 1) = k + 1 + i by omega] at this
  exact this⟩
structure Tak (l : Nat) (LL : List (Nat × List Tk)) (w0 W : World) (J : Nat → World → Prop) : Prop where
 pre : ∀ k A, J k A → Below w0.heap.size w0 A
 ki : ∀ k A A', J k A → Ki 5 W.heap.size A A' → J k A'
 y : ∀ m k d T v A, J k A → LL[k]? = some (d, T) → A.ownsRow 0 95 4 v (zs T).length (cellsZ (zs T)) → W.heap.size ≤ A.heap.size → YieldAt Fence.wide m Tryz.prog l #[.int .i64 ((d : Nat) : Int), v] A fun r A' => r = .returned (.bool true) ∧ J (k + 1) A' ∧ Kp 5 W.heap.size A A'
 tb : Tb w0
 sw : SwOk w0
 le : w0.heap.size ≤ W.heap.size
theorem Tak.to {l : Nat} {LL : List (Nat × List Tk)} {w0 W : World} {J : Nat → World → Prop} (h : Tak l LL w0 W J) {k : Nat} {A A' : World} (hJ : J k A) (hb : Below A.heap.size A A') : J k A' := h.ki k A A' hJ (ki_below hb)
theorem HasS.kp {C : Array Value} {t : TypeId} {k : Nat} {B : Nat} {w w' : World} (h : HasS C t k w) (hk : Kp 5 B w w') (hB : B ≤ k) (ht : t ≠ 5) : HasS C t k w' := hk.at' k _ hB h (fun c fz e => by cases e; exact ht rfl)
def TkB (l : Nat) (LL : List (Nat × List Tk)) (w0 W : World) (J : Nat → World → Prop) (m : Nat) : Prop :=
 ∀ (n : Nat) (ls : List St) (ma : Option Addr) (nl cap dp k : Nat) (A : World), ls.length = nl → (stsL dp ls).length ≤ m → faS ls → ndS ls → StsAt (fun b => b < w0.heap.size) w0 ls ma → nl ≤ 140737488355328 → LnAt LL k (stsL dp ls) → J k A → W.heap.size ≤ A.heap.size → dp + m ≤ 1000000 →
  CallsIn Fence.wide n Tryz.prog 66 #[.func (.yield l) #[] #[], .slice ma nl cap, .int .i64 (dp : Int)] A fun r A' => r = .returned (.bool true) ∧ J (k + (stsL dp ls).length) A' ∧ Kp 5 W.heap.size A A'
def elL (dp : Nat) (el : List St) : List (Nat × List Tk) := if el.isEmpty = true then [] else (dp, [sg [125], wdT wElse, sg [123]]) :: stsL (dp + 1) el
theorem other_in {l : Nat} {LL : List (Nat × List Tk)} {w0 W : World} {J : Nat → World → Prop} (hK : Tak l LL w0 W J) {m : Nat} (ih : TkB l LL w0 W J m) (n : Nat) (el : List St) (ml : Option Addr) (nl cl dp k : Nat) (A : World)
 (hn : el.length = nl) (hlen : (stsL (dp + 1) el).length ≤ m) (hf : faS el) (hd : ndS el) (hS : StsAt (fun b => b < w0.heap.size) w0 el ml) (hnl : nl ≤ 140737488355328) (hL : LnAt LL k (elL dp el)) (hJ : J k A) (hA : W.heap.size ≤ A.heap.size) (hdp : dp + 1 + m ≤ 1000000) :
 CallsIn Fence.wide n Tryz.prog 149 #[.func (.yield l) #[] #[], .slice ml nl cl, .int .i64 (dp : Int)] A fun r A' => r = .returned (.bool true) ∧ J (k + (elL dp el).length) A' ∧ Kp 5 W.heap.size A A' := by
 have hdd : ∀ k : Nat, (Fence.wide.depth.isSome = true → 1 ≤ k) := room_none
 have hwr : IntKind.i64.wrap ((dp : Int) + 1) = ((dp + 1 : Nat) : Int) := by rw [IntKind.wrap_i64]; omega
 by_cases h0 : el = []
 ·subst h0
  obtain rfl : nl = 0 := hn.symm
  refine callsIn_of_wp Tryz.func149 rfl trivial ?_
  simp only [Tryz.ntmps149, List.size_toArray, List.length_cons, List.length_nil, Nat.reduceAdd, Nat.reduceSub, Array.replicate_succ, Array.replicate_zero, List.push_toArray, List.append_toArray, List.nil_append, List.cons_append]
  gi_wp2
  go_ret
  exact ⟨rfl, by simpa [elL] using hJ, Kp.refl _ _ _⟩
 ·have hpos : 0 < nl := by rw [← hn]; exact List.length_pos_iff.2 h0
  have hpi : ((nl : Int) == 0) = false := by simp; omega
  have he : elL dp el = (dp, [sg [125], wdT wElse, sg [123]]) :: stsL (dp + 1) el := by unfold elL; rw [if_neg (by simp [h0])]
  rw [he] at hL ⊢
  obtain ⟨hL0, hL1⟩ := hL.cons
  have hob := own_built A A.heap.size (Nat.le_refl _)
  have hs1 := rsign_any [[125]] (A.heap.size + 1) 1 A.heap.size (.slice (some ⟨A.heap.size, 0, none⟩) 0 0) [] ((A.alloc (.cells #[] 95)).alloc (.cells #[.string { data := #[125] }] 9)) rfl (hasS_strs (ss := [[125]]) (by have := HasS.new (strC [[125]]).toArray 9 (A.alloc (.cells #[] 95)); rw [World.size_alloc] at this; exact this)) (by simp) (fun e => by simp [Value.ownBlock] at e) (hob.alloc _) (by simp; omega) (by simp)
  have hB2 : Below A.heap.size A ((A.alloc (.cells #[] 95)).alloc (.cells #[.string { data := #[125] }] 9)) := aB (aB (Below.refl _ _) _) _
  clear hob
  have hcast : ((dp + 1 : Nat) : Int) = (dp : Int) + 1 := by omega
  have hce : [] ++ zs ([[125]].map sg) ++ zs [wdT wElse] ++ zs ([[123]].map sg) = zs [sg [125], wdT wElse, sg [123]] := by simp [zs]
  refine callsIn_of_wp Tryz.func149 rfl trivial ?_
  simp only [Tryz.ntmps149, List.size_toArray, List.length_cons, List.length_nil, Nat.reduceAdd, Nat.reduceSub, Array.replicate_succ, Array.replicate_zero, List.push_toArray, List.append_toArray, List.nil_append, List.cons_append]
  gi_wp2_with (first | (refine ⟨trivial, hdd _, ?_⟩; gi_at_call 117; (with_reducible refine (callsIn_wide.2 hs1).mono ?_); clear hs1; rintro e v1 ⟨l1, rfl, hT1⟩; have hBl1 : A.heap.size ≤ v1.heap.size := Nat.le_trans (by simp; omega) hT1.only.size; have hwd := rword_any wElse A.heap.size l1 _ v1 hT1.own hBl1 (by simp [zs])) | (refine ⟨trivial, hdd _, ?_⟩; gi_at_call 115; (rw [show ({ data := #[101, 108, 115, 101] } : ByteArray) = str wElse from rfl]); (with_reducible refine (callsIn_wide.2 hwd).mono ?_); clear hwd; rintro e v2 ⟨l2, rfl, hT2⟩; have hs3 := rsign_any [[123]] v2.heap.size 1 A.heap.size l2 _ (v2.alloc (.cells #[.string { data := #[123] }] 9)) rfl (hasS_strs (ss := [[123]]) (HasS.new (strC [[123]]).toArray 9 v2)) (by simp) (own_new hT2.own (.inl (Nat.le_refl _))) (hT2.own.alloc _) (Nat.le_trans (Nat.le_trans hBl1 hT2.only.size) (by simp)) (by simp [zs])) | (refine ⟨trivial, hdd _, ?_⟩; gi_at_call 117; (with_reducible refine (callsIn_wide.2 hs3).mono ?_); clear hs3; rintro e v3 ⟨l3, rfl, hT3⟩; have hTt := (hT1.trans hT2).trans (hT3.pre (aB (Below.refl _ _) _)); have hB3 : Below A.heap.size A v3 := hB2.trans (hTt.only.below (B := A.heap.size) (fun j hj => by cases hj; exact Nat.le_refl _) hB2.size); have hO3 := own_base (Nat.zero_le _) hTt.own; (rw [hce] at hO3); (obtain ⟨fn, tmps, assign, body, hy, hR⟩ := hK.y (n - 1) k dp _ l3 v3 (hK.to hJ hB3) hL0 hO3 (Nat.le_trans hA hB3.size))) | (refine ⟨hdd _, ?_⟩; refine (round_any hR).mono ?_; clear hR hy; rintro e A3 ⟨rfl, hJ3, hK3⟩; have hA3 := Nat.le_trans (Nat.le_trans hA hB3.size) hK3.size; have hbk := ih (n - 1) el ml nl cl (dp + 1) (k + 1) A3 hn hlen hf hd hS hnl hL1 hJ3 hA3 hdp; (rw [hcast] at hbk)) | (refine ⟨trivial, hdd _, ?_⟩; gi_at_call 66; (with_reducible refine hbk.mono ?_); rintro e A4 ⟨rfl, hJ4, hK4⟩))
  go_ret
  refine ⟨rfl, ?_, (kp_below hB3).trans (hK3.trans hK4)⟩
  rw [show k + ((stsL (dp + 1) el).length + 1) = k + 1 + (stsL (dp + 1) el).length by omega]
  exact hJ4
end
section
open Go Go.ChangeShapes Go.WideShapes Go.ChangeAt Go.RowKit m9
attribute [local go_sem] Oper.semAt_some
theorem sx_below {w0 A : World} {K : Sx} (h : K.is (fun b => b < w0.heap.size) w0) (hb : Below w0.heap.size w0 A) : K.is (fun b => b < A.heap.size) A := by
 unfold Sx.is at h ⊢
 exact h.mv (fun b hb' => Nat.lt_of_lt_of_le hb' hb.size) (fun b o v hg hc => (hb.cell (p := ⟨b, o, none⟩) hg).trans hc)
theorem nineq {c0 c1 c2 c3 c4 c5 c6 c7 c8 : Value} {w : World} {g : Nat} (h : rowG #[c0, c1, c2, c3, c4, c5, c6, c7, c8] w g) : w.cell? ⟨g, 0, none⟩ = some c0 ∧ w.cell? ⟨g, 1, none⟩ = some c1 ∧ w.cell? ⟨g, 2, none⟩ = some c2 ∧ w.cell? ⟨g, 3, none⟩ = some c3 ∧ w.cell? ⟨g, 4, none⟩ = some c4 ∧ w.cell? ⟨g, 5, none⟩ = some c5 ∧ w.cell? ⟨g, 6, none⟩ = some c6 ∧ w.cell? ⟨g, 7, none⟩ = some c7 ∧ w.cell? ⟨g, 8, none⟩ = some c8 :=
 ⟨h.1 0 (by simp), h.1 1 (by simp), h.1 2 (by simp), h.1 3 (by simp), h.1 4 (by simp), h.1 5 (by simp), h.1 6 (by simp), h.1 7 (by simp), h.1 8 (by simp)⟩
theorem elL_le (dp : Nat) (el : List St) : (stsL (dp + 1) el).length ≤ (elL dp el).length := by
 unfold elL
 cases el with
 | nil => simp [stsL]
 | cons a r => rw [if_neg (by simp), List.length_cons]; omega
theorem stmt_in {l : Nat} {LL : List (Nat × List Tk)} {w0 W : World} {J : Nat → World → Prop} (hK : Tak l LL w0 W J) {m : Nat} (ih : TkB l LL w0 W J m) (n : Nat) (K : Sx) (dp k : Nat) (A : World)
 (hKi : K.is (fun b => b < w0.heap.size) w0) (hlen : (stL dp K.x).length ≤ m + 1) (hf : K.x.fa) (hd : K.x.nd) (hL : LnAt LL k (stL dp K.x)) (hJ : J k A) (hA : W.heap.size ≤ A.heap.size) (hdp : dp + (m + 1) ≤ 1000000) :
 CallsIn Fence.wide n Tryz.prog 120 #[.func (.yield l) #[] #[], .agg K.cells.toArray, .int .i64 (dp : Int)] A fun r A' => r = .returned (.bool true) ∧ J (k + (stL dp K.x).length) A' ∧ Kp 5 W.heap.size A A' := by
 have hdd : ∀ k : Nat, (Fence.wide.depth.isSome = true → 1 ≤ k) := room_none
 have hcast : ((dp + 1 : Nat) : Int) = (dp : Int) + 1 := by omega
 obtain ⟨hx, h256, hnx, hna, hnb, hnl, hxl, hal, hbl, hll, hX, hAr, hB, hLs⟩ := sx_all hKi
 have hx' := hx
 rw [hx, St.fa] at hf
 rw [hx, St.nd] at hd
 obtain ⟨hft, hfb, hfl⟩ := hf
 obtain ⟨hdx, hdb, hdl⟩ := hd
 have hlines : stL dp K.x = (dp, stH K.k K.nm K.fr K.sec K.mu K.x.ex K.x.ar) :: (if 5 ≤ K.k ∧ K.k ≤ 8 then stsL (dp + 1) K.x.bd ++ (elL dp K.x.el ++ [(dp, [sg [125]])]) else []) := by
  conv => lhs; rw [hx, stL]
  rfl
 rw [hlines] at hL hlen ⊢
 obtain ⟨hL0, hL1⟩ := hL.cons
 -- the boxed statement
 have hPA := hK.pre k A hJ
 obtain ⟨A1, hA1⟩ : ∃ A1, A.alloc (.cells K.cells.toArray 52) = A1 := ⟨_, rfl⟩
 have hB1 : Below A.heap.size A A1 := by rw [← hA1]; exact aB (Below.refl _ _) _
 have hS1 : HasS K.cells.toArray 52 A.heap.size A1 := by rw [← hA1]; exact HasS.new _ _ _
 have hr1 : rowG K.cells.toArray A1 A.heap.size := by rw [← hA1]; exact rowG_at _ _ _ _ rfl
 have hP1 : Below w0.heap.size w0 A1 := hPA.trans (hB1.mono hPA.size)
 have hfi := first_any K A1 (hK.tb.of hP1) (hK.sw.of hP1) (sx_below hKi hP1) (by rw [hx]; exact hft) hdx
 have hl1 := hr1.2.2
 have hdx' := hdx
 clear hdx hft hX hAr hx hlines hP1 hPA hdx'
 obtain ⟨kk, nm, fr, sec, mu, mx, nx, cx, ma, na, ca, mb, nb, cb, ml, nl, cl, x⟩ := K
 simp only [Sx.cells] at *
 generalize x.ex = ex at *
 generalize x.ar = ar at *
 generalize hbd : x.bd = bd at *
 generalize hel : x.el = el at *
 clear hKi hx'
 obtain ⟨ki, hki⟩ : ∃ ki : Int, ki = (kk : Int) := ⟨_, rfl⟩
 rw [← hki] at hA1 hS1 hr1 hfi ⊢
 have hrow : ∀ X, HasS #[.int .u8 ki, .string (str nm), .string (str fr), .bool sec, .bool mu, .slice mx nx cx, .slice ma na ca, .slice mb nb cb, .slice ml nl cl] 52 A.heap.size X → X.cell? ⟨A.heap.size, 0, none⟩ = some (.int .u8 ki) ∧ X.cell? ⟨A.heap.size, 7, none⟩ = some (.slice mb nb cb) ∧ X.cell? ⟨A.heap.size, 8, none⟩ = some (.slice ml nl cl) ∧ A.heap.size < X.heap.size := fun X h => ⟨h.cell 0, h.cell 7, h.cell 8, h.lt⟩
 obtain ⟨t0, t1, t2, t3, t4, t5, t6, t7, t8⟩ := nineq hr1
 by_cases hc : 5 ≤ kk ∧ kk ≤ 8
 ·rw [if_pos hc] at hL1 hlen ⊢
  obtain ⟨hLb, hL2⟩ := hL1.app
  obtain ⟨hLe, hL3⟩ := hL2.app
  obtain ⟨hLz, -⟩ := hL3.cons
  simp only [List.length_cons, List.length_append, List.length_nil] at hlen
  have hel1 := elL_le dp el
  have hnb' : bd.length = nb := hnb.symm
  have hnl' : el.length = nl := hnl.symm
  have hkk : ki = 5 ∨ ki = 6 ∨ ki = 7 ∨ ki = 8 := by omega
  have hce : [] ++ zs ([[125]].map sg) = zs [sg [125]] := by simp [zs]
  clear hc hL1 hL2 hL3 hL h256 hnb hnl hna hnx
  have hbk := fun A3 (h1 : J (k + 1) A3) (h2 : W.heap.size ≤ A3.heap.size) => ih (n - 1) bd mb nb cb (dp + 1) (k + 1) A3 hnb' (by omega) hfb hdb hB hbl hLb h1 h2 (by omega)
  have hot := fun A4 (h1 : J (k + 1 + (stsL (dp + 1) bd).length) A4) (h2 : W.heap.size ≤ A4.heap.size) => other_in hK ih (n - 1) el ml nl cl dp (k + 1 + (stsL (dp + 1) bd).length) A4 hnl' (by omega) hfl hdl hLs hll hLe h1 h2 (by omega)
  simp only [hcast] at hbk
  rcases hkk with rfl | rfl | rfl | rfl
  all_goals
   clear hki
   refine callsIn_of_wp Tryz.func120 rfl trivial ?_
   simp only [Tryz.ntmps120, List.size_toArray, List.length_cons, List.length_nil, Nat.reduceAdd, Nat.reduceSub, Array.replicate_succ, Array.replicate_zero, List.push_toArray, List.append_toArray, List.nil_append, List.cons_append]
   gi_wp2_with (first | (refine ⟨trivial, hdd _, ?_⟩; gi_at_call 148; (with_reducible refine (callsIn_wide.2 hfi).mono ?_); clear hfi t0 t1 t2 t3 t4 t5 t6 t7 t8; rintro e A2 ⟨⟨l2, rfl, ho2⟩, hB2⟩; have hB02 := hB1.trans (hB2.mono hB1.size); have hO2 := own_base (Nat.zero_le _) ho2; (obtain ⟨fn, tmps, assign, body, hy, hR⟩ := hK.y (n - 1) k dp _ l2 A2 (hK.to hJ hB02) hL0 hO2 (Nat.le_trans hA hB02.size)); have hS2 := hS1.below hB2) | (refine ⟨hdd _, ?_⟩; refine (round_any hR).mono ?_; clear hR hy; rintro e A3 ⟨rfl, hJ3, hK3⟩; have hA3 := Nat.le_trans (Nat.le_trans hA hB02.size) hK3.size; have hS3 := hS2.kp hK3 hA (by decide); (obtain ⟨c0, c7, -, cl3⟩ := hrow A3 hS3); have hb3 := hbk A3 hJ3 hA3; clear hbk) | (refine ⟨trivial, hdd _, ?_⟩; gi_at_call 66; (with_reducible refine hb3.mono ?_); clear hb3; rintro e A4 ⟨rfl, hJ4, hK4⟩; have hA4 := Nat.le_trans hA3 hK4.size; have hS4 := hS3.kp hK4 hA (by decide); clear c0 c7; (obtain ⟨-, -, c8, cl4⟩ := hrow A4 hS4); have ho4 := hot A4 hJ4 hA4; clear hot) | (refine ⟨trivial, hdd _, ?_⟩; gi_at_call 149; (with_reducible refine ho4.mono ?_); clear ho4; rintro e A5 ⟨rfl, hJ5, hK5⟩; have hA5 := Nat.le_trans hA4 hK5.size; have hob := own_built A5 A5.heap.size (Nat.le_refl _); have hs1 := rsign_any [[125]] (A5.heap.size + 1) 1 A5.heap.size (.slice (some ⟨A5.heap.size, 0, none⟩) 0 0) [] ((A5.alloc (.cells #[] 95)).alloc (.cells #[.string { data := #[125] }] 9)) rfl (hasS_strs (ss := [[125]]) (by have := HasS.new (strC [[125]]).toArray 9 (A5.alloc (.cells #[] 95)); rw [World.size_alloc] at this; exact this)) (by simp) (fun e => by simp [Value.ownBlock] at e) (hob.alloc _) (by simp; omega) (by simp); have hB6 : Below A5.heap.size A5 ((A5.alloc (.cells #[] 95)).alloc (.cells #[.string { data := #[125] }] 9)) := aB (aB (Below.refl _ _) _) _; clear hob c8) | (refine ⟨trivial, hdd _, ?_⟩; gi_at_call 117; (with_reducible refine (callsIn_wide.2 hs1).mono ?_); clear hs1; rintro e A7 ⟨l7, rfl, hT7⟩; have hB7 : Below A5.heap.size A5 A7 := hB6.trans (hT7.only.below (B := A5.heap.size) (fun j hj => by cases hj; exact Nat.le_refl _) hB6.size); have hO7 := own_base (Nat.zero_le _) hT7.own; (rw [hce] at hO7); (obtain ⟨fn2, tmps2, assign2, body2, hy2, hR2⟩ := hK.y (n - 1) _ dp _ l7 A7 (hK.to hJ5 hB7) hLz hO7 (Nat.le_trans hA5 hB7.size))) | (refine ⟨hdd _, ?_⟩; refine (round_any hR2).mono ?_; clear hR2 hy2; rintro e A8 ⟨rfl, hJ8, hK8⟩))
   go_ret
   refine ⟨rfl, ?_, (kp_below hB02).trans (hK3.trans (hK4.trans (hK5.trans ((kp_below hB7).trans hK8))))⟩
   have he : k + 1 + (stsL (dp + 1) bd).length + (elL dp el).length + 1 = k + ((stsL (dp + 1) bd).length + ((elL dp el).length + 1) + 1) := by omega
   rw [he] at hJ8
   first | exact hJ8 | simpa using hJ8
 ·rw [if_neg hc] at hL1 hlen ⊢
  have n5 : ¬ (ki = 5) := by omega
  have n6 : ¬ (ki = 6) := by omega
  have n7 : ¬ (ki = 7) := by omega
  have n8 : ¬ (ki = 8) := by omega
  clear hc hnb hnl hna hnx hki
  refine callsIn_of_wp Tryz.func120 rfl trivial ?_
  simp only [Tryz.ntmps120, List.size_toArray, List.length_cons, List.length_nil, Nat.reduceAdd, Nat.reduceSub, Array.replicate_succ, Array.replicate_zero, List.push_toArray, List.append_toArray, List.nil_append, List.cons_append]
  gi_wp2_with (first | (refine ⟨trivial, hdd _, ?_⟩; gi_at_call 148; (with_reducible refine (callsIn_wide.2 hfi).mono ?_); clear hfi t0 t1 t2 t3 t4 t5 t6 t7 t8; rintro e A2 ⟨⟨l2, rfl, ho2⟩, hB2⟩; have hB02 := hB1.trans (hB2.mono hB1.size); have hO2 := own_base (Nat.zero_le _) ho2; (obtain ⟨fn, tmps, assign, body, hy, hR⟩ := hK.y (n - 1) k dp _ l2 A2 (hK.to hJ hB02) hL0 hO2 (Nat.le_trans hA hB02.size)); have hS2 := hS1.below hB2) | (refine ⟨hdd _, ?_⟩; refine (round_any hR).mono ?_; clear hR hy; rintro e A3 ⟨rfl, hJ3, hK3⟩; have hS3 := hS2.kp hK3 hA (by decide); (obtain ⟨c0, -, -, cl3⟩ := hrow A3 hS3)))
  go_ret
  exact ⟨rfl, by simpa using hJ3, (kp_below hB02).trans hK3⟩
end
end Go.Proofs.YtfbjljcmmbdhkaaGreatDoor
