/- Contract of begin, kind by kind. -/
import Derived.Test.YtfbjljcmmbdhkaaGreatDoorT14
namespace Go.Proofs.YtfbjljcmmbdhkaaGreatDoor
set_option linter.unusedVariables false
set_option linter.unusedSimpArgs false
set_option maxRecDepth 100000
set_option maxHeartbeats 200000000
open Go.ChangeShapes Go.WideShapes Go.ChangeAt Go.RowKit
theorem res_row {fn : Func} {p : Tmp} (h : fn.results = #[.cell p 63]) (tmps : Array Value) (w : World) (g : Nat) (c0 : Value) (hp : tmps.getD p undef = .pointer (some ⟨g, 0, none⟩)) (hr : rowG #[c0] w g) :
 (results fn tmps).run Tryz.prog w = .ok c0 w := by
 have hp' : tmps[p]?.getD undef = .pointer (some ⟨g, 0, none⟩) := by simpa using hp
 have h0 : w.cell? ⟨g, 0, none⟩ = some c0 := hr.1 0 (by simp)
 simp [results, h, hp', go_sem, h0]
theorem own_form9 {w : World} {base size n : Nat} {e : TypeId} {v : Value} {xs : List Value} (h : w.ownsRow base e size v n xs) : ∃ a m c, v = .slice a m c := by
 rcases h.2 with ⟨h1, h2⟩ | ⟨g, cap, cur, h1, _⟩
 ·exact ⟨none, 0, 0, h1⟩
 ·exact ⟨_, _, _, h1⟩
def BgP (w0 : World) (X : List Tk) (r : Ending) (w' : World) : Prop := (∃ l', r = .returned l' ∧ w'.ownsRow w0.heap.size 95 4 l' (zs X).length (cellsZ (zs X))) ∧ Below w0.heap.size w0 w'
theorem begin_8e (nm fr : List UInt8) (sec : Bool) (mx ma mb ml : Option Addr) (nx cx na ca nb cb nl cl : Nat) (w0 : World) (hSw : SwOk w0) :
 Calls Tryz.prog 163 #[.agg #[.int .u8 8, .string (str nm), .string (str fr), .bool sec, .bool true, .slice mx nx cx, .slice ma na ca, .slice mb nb cb, .slice ml nl cl]] w0 (BgP w0 (wdT wEdit :: (secT sec ++ nmO nm))) := by
 obtain ⟨mu, hmu⟩ : ∃ mu, mu = true := ⟨_, rfl⟩
 rw [← hmu]
 obtain ⟨W, hWe⟩ : ∃ W, (w0.alloc (.cells #[.int .u8 8, .string (str nm), .string (str fr), .bool sec, .bool mu, .slice mx nx cx, .slice ma na ca, .slice mb nb cb, .slice ml nl cl] 52)).alloc (.cells #[.slice none 0 0] 63) = W := ⟨_, rfl⟩
 have hBw : Below w0.heap.size w0 W := by rw [← hWe]; exact aB (aB (Below.refl _ _) _) _
 have hzW : W.heap.size = w0.heap.size + 1 + 1 := by rw [← hWe]; simp
 have hs : rowG #[.int .u8 8, .string (str nm), .string (str fr), .bool sec, .bool mu, .slice mx nx cx, .slice ma na ca, .slice mb nb cb, .slice ml nl cl] W w0.heap.size := by rw [← hWe]; exact rowG_alloc (rowG_at _ _ _ _ rfl) _
 have hb : rowG #[.slice none 0 0] W (w0.heap.size + 1) := by rw [← hWe]; exact rowG_at _ _ _ _ (by simp)
 have hSwW := hSw.of hBw
 have hlt : w0.heap.size < W.heap.size := by omega
 have hltb : w0.heap.size + 1 < W.heap.size := by omega
 have x0 : W.cell? ⟨w0.heap.size + 1, 0, none⟩ = some (.slice none 0 0) := hb.1 0 (by simp)
 have y0 := hb.2.1 0
 have hnil : W.ownsRow W.heap.size 95 4 (.slice none 0 0) ([] : List (Tk × Int)).length (cellsZ []) := World.ownsRow_nil _ _ _ _
 have t0 : W.cell? ⟨w0.heap.size, 0, none⟩ = some (.int .u8 8) := hs.1 0 (by simp)
 have t4 : W.cell? ⟨w0.heap.size, 4, none⟩ = some (.bool mu) := hs.1 4 (by simp)
 have cw : W.cell? ⟨6, 8, none⟩ = some (.string (str wView)) := hSwW 8 (by omega)
 have gw : 6 < W.heap.size := World.block_lt_of_cell? W _ cw
 have hp1 := put_wd wEdit (w0.heap.size + 1) W.heap.size (.slice none 0 0) [] W hb hnil (Nat.le_refl _) hltb (by simp)
 rw [show str wEdit = { data := #[101, 100, 105, 116] } from rfl] at hp1
 rw [show wdO wEdit = [wdT wEdit] from rfl] at hp1
 have HF := Lib.hid (show [] ++ zs [wdT wEdit] ++ zs (secT sec) ++ zs (nmO nm) = zs (wdT wEdit :: (secT sec ++ nmO nm)) from by simp [zs])
 clear hSw hSwW
 subst hmu
 go_enter Tryz.func163, Tryz.ntmps163
 go_wp2_with (first | (go_at_call 181; ((with_reducible refine hp1.mono ?_); (rintro e v1 ⟨rfl, l1, hG1⟩); clear hp1 x0 y0 t0 t4; (obtain ⟨a1, n1, c1, rfl⟩ := own_form9 hG1.own); have hs1 := rowG_only hs hG1.only (fun h => h.elim (own_new hnil (.inr hlt)) (by omega)); have t11 : v1.cell? ⟨w0.heap.size, 1, none⟩ = some (.string (str nm)) := hs1.1 1 (by simp); have t13 : v1.cell? ⟨w0.heap.size, 3, none⟩ = some (.bool sec) := hs1.1 3 (by simp); have hls1 := hs1.2.2; have x1 : v1.cell? ⟨w0.heap.size + 1, 0, none⟩ = some _ := hG1.box.1 0 (by simp); have y1 := hG1.box.2.1 0; have hlb1 := hG1.box.2.2; have hB1 : W.heap.size ≤ v1.heap.size := hG1.only.size; have hsec := rsecret_any sec W.heap.size _ _ v1 hG1.own hB1 (by simp [zs]))) | (go_at_call 121; ((with_reducible refine hsec.mono ?_); (rintro e v2 ⟨l2, rfl, hT2⟩); clear hsec x1 y1 t11 t13; (obtain ⟨a2, n2, c2, rfl⟩ := own_form9 hT2.own); have hs2 := rowG_only hs1 hT2.only (own_new hG1.own (.inr hlt)); have hb2 := rowG_only hG1.box hT2.only (own_new hG1.own (.inr hltb)); have t21 : v2.cell? ⟨w0.heap.size, 1, none⟩ = some (.string (str nm)) := hs2.1 1 (by simp); have hls2 := hs2.2.2; have x2 : v2.cell? ⟨w0.heap.size + 1, 0, none⟩ = some _ := hb2.1 0 (by simp); have y2 := hb2.2.1 0; have hlb2 := hb2.2.2; have hB2 : W.heap.size ≤ v2.heap.size := Nat.le_trans hB1 hT2.only.size; have hp3 := put_nm nm (w0.heap.size + 1) W.heap.size _ _ _ (row_set0' (.slice a2 n2 c2) hb2) (bg_own hT2.own ((Only.refl _ _).setCell rfl) hltb) (by simp only [World.size_setCell]; exact hB2) hltb (by have := sec_len sec; simp [zs]; omega))) | (go_at_call 181; ((with_reducible refine hp3.mono ?_); (rintro e v4 ⟨rfl, l4, hG4⟩); clear hp3 x2 y2; (obtain ⟨a4, n4, c4, rfl⟩ := own_form9 hG4.own); have x4 : v4.cell? ⟨w0.heap.size + 1, 0, none⟩ = some _ := hG4.box.1 0 (by simp); have y4 := hG4.box.2.1 0; have hlb4 := hG4.box.2.2)))
 have hBf : Below w0.heap.size w0 (v4.setCell ⟨w0.heap.size + 1, 0, none⟩ (.slice a4 n4 c4)) := (((hBw.trans (hG1.only.below (B := w0.heap.size) (fun j hj => hj.elim (fun h => absurd h (nil_own j)) (by omega)) (by omega))).trans (hT2.only.below (B := w0.heap.size) (fun j hj => by have := own_ge hG1.own j hj; omega) (by omega))).trans (((Only.refl _ _).setCell (S := fun j => j = w0.heap.size + 1) rfl).below (B := w0.heap.size) (fun j hj => by omega) (by omega))).trans ((hG4.only.below (B := w0.heap.size) (fun j hj => hj.elim (fun h => by have := own_ge hT2.own j h; omega) (by omega)) (by simp only [World.size_setCell]; omega)).trans (((Only.refl _ _).setCell (S := fun j => j = w0.heap.size + 1) rfl).below (B := w0.heap.size) (fun j hj => by omega) (by have := hG4.only.size; simp only [World.size_setCell] at this; omega)))
 have hof := own_base (Nat.le_of_lt hlt) (bg_own (w' := v4.setCell ⟨w0.heap.size + 1, 0, none⟩ (.slice a4 n4 c4)) hG4.own ((Only.refl _ _).setCell rfl) hltb)
 refine bodyPost_ret (res_row rfl _ _ (w0.heap.size + 1) _ rfl (row_set0' _ hG4.box)) rfl ?_
 rw [HF.out] at hof
 exact ⟨⟨_, rfl, hof⟩, hBf⟩
theorem begin_m  :
 (∀ (k : Nat) (K : Int) (ws : List UInt8) (nm fr : List UInt8) (sec mu : Bool) (mx ma mb ml : Option Addr) (nx cx na ca nb cb nl cl : Nat) (w0 : World) (hSw : SwOk w0) (hk : k = 1 ∧ K = 1 ∧ ws = wLet ∨ k = 3 ∧ K = 3 ∧ ws = wBuf ∨ k = 5 ∧ K = 5 ∧ ws = wIf ∨ k = 6 ∧ K = 6 ∧ ws = wWhile ∨ k = 7 ∧ K = 7 ∧ ws = wFor ∨ k = 8 ∧ K = 8 ∧ ws = wView ∧ mu = false ∨ k = 9 ∧ K = 9 ∧ ws = wMove ∨ k = 10 ∧ K = 10 ∧ ws = wOpen ∨ k = 11 ∧ K = 11 ∧ ws = wCall ∨ k = 12 ∧ K = 12 ∧ ws = wSeal), Calls Tryz.prog 163 #[.agg #[.int .u8 K, .string (str nm), .string (str fr), .bool sec, .bool mu, .slice mx nx cx, .slice ma na ca, .slice mb nb cb, .slice ml nl cl]] w0 (BgP w0 (wdT ws :: (secT sec ++ nmO nm)))) ∧
 (∀ (k : Nat) (K : Int) (nm fr : List UInt8) (sec mu : Bool) (mx ma mb ml : Option Addr) (nx cx na ca nb cb nl cl : Nat) (w0 : World) (hSw : SwOk w0) (hk : k = 2 ∧ K = 2 ∨ k = 4 ∧ K = 4), Calls Tryz.prog 163 #[.agg #[.int .u8 K, .string (str nm), .string (str fr), .bool sec, .bool mu, .slice mx nx cx, .slice ma na ca, .slice mb nb cb, .slice ml nl cl]] w0 (BgP w0 (nmO nm))) := by
 refine ⟨(@fun k K ws nm fr sec mu mx ma mb ml nx cx na ca nb cb nl cl w0 hSw hk => have k1 : Nat := 0; ?_), (@fun k K nm fr sec mu mx ma mb ml nx cx na ca nb cb nl cl w0 hSw hk => have k2 : Nat := 0; ?_)⟩
 all_goals
  obtain ⟨W, hWe⟩ : ∃ W, (w0.alloc (.cells #[.int .u8 K, .string (str nm), .string (str fr), .bool sec, .bool mu, .slice mx nx cx, .slice ma na ca, .slice mb nb cb, .slice ml nl cl] 52)).alloc (.cells #[.slice none 0 0] 63) = W := ⟨_, rfl⟩
  have hBw : Below w0.heap.size w0 W := by rw [← hWe]; exact aB (aB (Below.refl _ _) _) _
  have hzW : W.heap.size = w0.heap.size + 1 + 1 := by rw [← hWe]; simp
  have hs : rowG #[.int .u8 K, .string (str nm), .string (str fr), .bool sec, .bool mu, .slice mx nx cx, .slice ma na ca, .slice mb nb cb, .slice ml nl cl] W w0.heap.size := by rw [← hWe]; exact rowG_alloc (rowG_at _ _ _ _ rfl) _
  have hb : rowG #[.slice none 0 0] W (w0.heap.size + 1) := by rw [← hWe]; exact rowG_at _ _ _ _ (by simp)
  have hSwW := hSw.of hBw
  have hlt : w0.heap.size < W.heap.size := by omega
  have hltb : w0.heap.size + 1 < W.heap.size := by omega
  have x0 : W.cell? ⟨w0.heap.size + 1, 0, none⟩ = some (.slice none 0 0) := hb.1 0 (by simp)
  have y0 := hb.2.1 0
  have hnil : W.ownsRow W.heap.size 95 4 (.slice none 0 0) ([] : List (Tk × Int)).length (cellsZ []) := World.ownsRow_nil _ _ _ _
  have t0 : W.cell? ⟨w0.heap.size, 0, none⟩ = some (.int .u8 K) := hs.1 0 (by simp)
  have t4 : W.cell? ⟨w0.heap.size, 4, none⟩ = some (.bool mu) := hs.1 4 (by simp)
  first
  | (replace k1 := k1
     have cw : W.cell? ⟨6, k, none⟩ = some (.string (str ws)) := by rcases hk with ⟨rfl, -, rfl⟩ | ⟨rfl, -, rfl⟩ | ⟨rfl, -, rfl⟩ | ⟨rfl, -, rfl⟩ | ⟨rfl, -, rfl⟩ | ⟨rfl, -, rfl, -⟩ | ⟨rfl, -, rfl⟩ | ⟨rfl, -, rfl⟩ | ⟨rfl, -, rfl⟩ | ⟨rfl, -, rfl⟩ <;> exact hSwW _ (by omega))
  | (replace k2 := k2
     have cw : W.cell? ⟨6, k, none⟩ = some (.string ⟨#[]⟩) := by rcases hk with ⟨rfl, -⟩ | ⟨rfl, -⟩ <;> exact hSwW _ (by omega))
  have gw : 6 < W.heap.size := World.block_lt_of_cell? W _ cw
  first
  | (replace k1 := k1
     have hp1 := put_wd ws (w0.heap.size + 1) W.heap.size (.slice none 0 0) [] W hb hnil (Nat.le_refl _) hltb (by simp)
     have hwd : wdO ws = [wdT ws] := if_neg (fun e => by subst e; simp [wLet, wBuf, wIf, wWhile, wFor, wView, wMove, wOpen, wCall, wSeal] at hk)
     rw [hwd] at hp1
     clear hwd
     have HF := Lib.hid (show [] ++ zs [wdT ws] ++ zs (secT sec) ++ zs (nmO nm) = zs (wdT ws :: (secT sec ++ nmO nm)) from by simp [zs]))
  | (replace k2 := k2
     have t1 : W.cell? ⟨w0.heap.size, 1, none⟩ = some (.string (str nm)) := hs.1 1 (by simp)
     have hp3 := put_nm nm (w0.heap.size + 1) W.heap.size (.slice none 0 0) [] W hb hnil (Nat.le_refl _) hltb (by simp))
  clear hSw hSwW
  first
  | (replace k1 := k1
     rcases hk with ⟨rfl, rfl, rfl⟩ | ⟨rfl, rfl, rfl⟩ | ⟨rfl, rfl, rfl⟩ | ⟨rfl, rfl, rfl⟩ | ⟨rfl, rfl, rfl⟩ | ⟨rfl, rfl, rfl, rfl⟩ | ⟨rfl, rfl, rfl⟩ | ⟨rfl, rfl, rfl⟩ | ⟨rfl, rfl, rfl⟩ | ⟨rfl, rfl, rfl⟩)
  | (replace k2 := k2
     rcases hk with ⟨rfl, rfl⟩ | ⟨rfl, rfl⟩)
  all_goals
   go_enter Tryz.func163, Tryz.ntmps163
   first
   | (replace k1 := k1
      go_wp2_with (first | (go_at_call 181; ((with_reducible refine hp1.mono ?_); (rintro e v1 ⟨rfl, l1, hG1⟩); clear hp1 x0 y0 t0 t4; (obtain ⟨a1, n1, c1, rfl⟩ := own_form9 hG1.own); have hs1 := rowG_only hs hG1.only (fun h => h.elim (own_new hnil (.inr hlt)) (by omega)); have t11 : v1.cell? ⟨w0.heap.size, 1, none⟩ = some (.string (str nm)) := hs1.1 1 (by simp); have t13 : v1.cell? ⟨w0.heap.size, 3, none⟩ = some (.bool sec) := hs1.1 3 (by simp); have hls1 := hs1.2.2; have x1 : v1.cell? ⟨w0.heap.size + 1, 0, none⟩ = some _ := hG1.box.1 0 (by simp); have y1 := hG1.box.2.1 0; have hlb1 := hG1.box.2.2; have hB1 : W.heap.size ≤ v1.heap.size := hG1.only.size; have hsec := rsecret_any sec W.heap.size _ _ v1 hG1.own hB1 (by simp [zs]))) | (go_at_call 121; ((with_reducible refine hsec.mono ?_); (rintro e v2 ⟨l2, rfl, hT2⟩); clear hsec x1 y1 t11 t13; (obtain ⟨a2, n2, c2, rfl⟩ := own_form9 hT2.own); have hs2 := rowG_only hs1 hT2.only (own_new hG1.own (.inr hlt)); have hb2 := rowG_only hG1.box hT2.only (own_new hG1.own (.inr hltb)); have t21 : v2.cell? ⟨w0.heap.size, 1, none⟩ = some (.string (str nm)) := hs2.1 1 (by simp); have hls2 := hs2.2.2; have x2 : v2.cell? ⟨w0.heap.size + 1, 0, none⟩ = some _ := hb2.1 0 (by simp); have y2 := hb2.2.1 0; have hlb2 := hb2.2.2; have hB2 : W.heap.size ≤ v2.heap.size := Nat.le_trans hB1 hT2.only.size; have hp3 := put_nm nm (w0.heap.size + 1) W.heap.size _ _ _ (row_set0' (.slice a2 n2 c2) hb2) (bg_own hT2.own ((Only.refl _ _).setCell rfl) hltb) (by simp only [World.size_setCell]; exact hB2) hltb (by have := sec_len sec; simp [zs]; omega))) | (go_at_call 181; ((with_reducible refine hp3.mono ?_); (rintro e v4 ⟨rfl, l4, hG4⟩); clear hp3 x2 y2; (obtain ⟨a4, n4, c4, rfl⟩ := own_form9 hG4.own); have x4 : v4.cell? ⟨w0.heap.size + 1, 0, none⟩ = some _ := hG4.box.1 0 (by simp); have y4 := hG4.box.2.1 0; have hlb4 := hG4.box.2.2))))
   | (replace k2 := k2
      go_wp2_with (go_at_call 181; ((with_reducible refine hp3.mono ?_); (rintro e v4 ⟨rfl, l4, hG4⟩); clear hp3 x0 y0; (obtain ⟨a4, n4, c4, rfl⟩ := own_form9 hG4.own); have x4 : v4.cell? ⟨w0.heap.size + 1, 0, none⟩ = some _ := hG4.box.1 0 (by simp); have y4 := hG4.box.2.1 0; have hlb4 := hG4.box.2.2)))
   first
   | (replace k1 := k1
      have hBf : Below w0.heap.size w0 (v4.setCell ⟨w0.heap.size + 1, 0, none⟩ (.slice a4 n4 c4)) := (((hBw.trans (hG1.only.below (B := w0.heap.size) (fun j hj => hj.elim (fun h => absurd h (nil_own j)) (by omega)) (by omega))).trans (hT2.only.below (B := w0.heap.size) (fun j hj => by have := own_ge hG1.own j hj; omega) (by omega))).trans (((Only.refl _ _).setCell (S := fun j => j = w0.heap.size + 1) rfl).below (B := w0.heap.size) (fun j hj => by omega) (by omega))).trans ((hG4.only.below (B := w0.heap.size) (fun j hj => hj.elim (fun h => by have := own_ge hT2.own j h; omega) (by omega)) (by simp only [World.size_setCell]; omega)).trans (((Only.refl _ _).setCell (S := fun j => j = w0.heap.size + 1) rfl).below (B := w0.heap.size) (fun j hj => by omega) (by have := hG4.only.size; simp only [World.size_setCell] at this; omega))))
   | (replace k2 := k2
      have hBf : Below w0.heap.size w0 (v4.setCell ⟨w0.heap.size + 1, 0, none⟩ (.slice a4 n4 c4)) := (hBw.trans (hG4.only.below (B := w0.heap.size) (fun j hj => hj.elim (fun h => absurd h (nil_own j)) (by omega)) (by omega))).trans (((Only.refl _ _).setCell (S := fun j => j = w0.heap.size + 1) rfl).below (B := w0.heap.size) (fun j hj => by omega) (by have := hG4.only.size; omega)))
   have hof := own_base (Nat.le_of_lt hlt) (bg_own (w' := v4.setCell ⟨w0.heap.size + 1, 0, none⟩ (.slice a4 n4 c4)) hG4.own ((Only.refl _ _).setCell rfl) hltb)
   refine bodyPost_ret (res_row rfl _ _ (w0.heap.size + 1) _ rfl (row_set0' _ hG4.box)) rfl ?_
   first
   | (replace k1 := k1
      rw [HF.out] at hof)
   | (replace k2 := k2
      rw [show [] ++ zs (nmO nm) = zs (nmO nm) from by simp [zs]] at hof)
   exact ⟨⟨_, rfl, hof⟩, hBf⟩
end Go.Proofs.YtfbjljcmmbdhkaaGreatDoor
