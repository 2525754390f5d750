/- Contracts of the reader's place, and of Read. -/
import Derived.Test.YtnblnmehfhkfmaaGreatDoorEl
namespace Go.Proofs.YtnblnmehfhkfmaaGreatDoor
open Go.ChangeShapes Go.WideShapes Go.ChangeAt Go.RowKit
set_option linter.unusedVariables false
def placeZ (T : List (Tk × Int)) (p : Int) : Int := if p < 0 then 0 else (T.getD (min p.toNat (T.length - 1)) (⟨0, [], 0⟩, 0)).2
set_option maxRecDepth 100000 in
set_option maxHeartbeats 2000000 in
theorem place_any {w : World} {rb : Nat} {v : Value} {T : List (Tk × Int)} {p d : Int} (h : IsRd w rb v T p d) :
    Calls Tryz.prog 28 #[.pointer (some ⟨rb, 0, none⟩)] w fun e w' => e = .returned (.int .i64 (placeZ T p)) ∧ Below w.heap.size w w' := by
  obtain ⟨ma, c, hv, hc⟩ := h.row.row
  subst hv
  have c0 := h.c0
  have c1 := h.c1
  have hlt := h.lt
  have hlen := h.len
  by_cases hp : p < 0
  · have hpl : placeZ T p = 0 := by unfold placeZ; rw [if_pos hp]
    rw [hpl]
    clear hc h hpl
    go_enter Tryz.func28, Tryz.ntmps28
    go_wp2
    go_ret
    exact ⟨rfl, Below.refl _ _⟩
  · by_cases hn : T.length = 0
    · have hpl : placeZ T p = 0 := by
        obtain rfl : T = [] := List.length_eq_zero_iff.1 hn
        unfold placeZ; rw [if_neg hp]; rfl
      rw [hpl]
      rw [hn] at c0
      clear hc h hpl hn hlen
      go_enter Tryz.func28, Tryz.ntmps28
      go_wp2
      go_ret
      exact ⟨rfl, Below.refl _ _⟩
    · obtain ⟨i, hi⟩ : ∃ i : Nat, i = min p.toNat (T.length - 1) := ⟨_, rfl⟩
      have hil : i < T.length := by omega
      obtain ⟨b, off, rfl, hb, _, _, _, q3⟩ := hc i hil
      have hpl : placeZ T p = T[i].2 := by unfold placeZ; rw [if_neg hp, ← hi, List.getD_eq_getElem?_getD, List.getElem?_eq_getElem hil]; rfl
      rw [hpl]
      generalize T[i].2 = z at q3
      obtain ⟨N, hN⟩ : ∃ N, N = T.length := ⟨_, rfl⟩
      rw [← hN] at c0 hlen hil hn hi
      have hN0 : ((N : Int) == 0) = false := by simp only [beq_eq_false_iff_ne]; omega
      have hw : IntKind.i64.wrap ((N : Int) - 1) = (N : Int) - 1 := by rw [IntKind.wrap_i64]; omega
      have hm : min p ((N : Int) - 1) = (i : Int) := by omega
      have hi0 : (0 : Int) ≤ (i : Int) := by omega
      have hiN : (i : Int) < (N : Int) := by omega
      clear hc h hpl hN hn hi
      go_enter Tryz.func28, Tryz.ntmps28
      go_wp2
      refine region_below (by kernel_rfl) (by kernel_rfl) ?_
      repeat (first
        | go_big_quiet_skip
        | (refine BigFrame.wpQuiet_want (by kernel_rfl) fun K hK => ?_
           apply Exists.intro
           refine ⟨fun w' hb' => ?_, ?_⟩
           · have s0 := stay hb' c0
             have s1 := stay hb' c1
             have s2 := stay hb' q3
             go_simp
             first
               | exact rfl
               | exact ⟨rfl, hb'⟩
           go_simp
           refine hK _ ?_
           clear hK K))
      refine wpQuiet_nil ?_
      intro w1 hb1
      go_wp2
      go_ret
      exact ⟨rfl, hb1⟩
theorem rowG_fiv {a0 a1 a2 a3 a4 : Value} (c0 c1 c2 c3 c4 : Value) {w : World} {k : Nat} (h : rowG #[a0, a1, a2, a3, a4] w k) :
    rowG #[c0, c1, c2, c3, c4] (((((w.setCell ⟨k, 0, none⟩ c0).setCell ⟨k, 1, none⟩ c1).setCell ⟨k, 2, none⟩ c2).setCell ⟨k, 3, none⟩ c3).setCell ⟨k, 4, none⟩ c4) k :=
  row5_set 4 (by omega) c4 (row5_set 3 (by omega) c3 (row5_set 2 (by omega) c2 (row5_set 1 (by omega) c1 (row5_set 0 (by omega) c0 h))))
theorem only_fiv (c0 c1 c2 c3 c4 : Value) (w : World) (k : Nat) : Only (fun j => j = k) w (((((w.setCell ⟨k, 0, none⟩ c0).setCell ⟨k, 1, none⟩ c1).setCell ⟨k, 2, none⟩ c2).setCell ⟨k, 3, none⟩ c3).setCell ⟨k, 4, none⟩ c4) :=
  ((((only_one w k 0 c0).trans (only_one _ k 1 c1)).trans (only_one _ k 2 c2)).trans (only_one _ k 3 c3)).trans (only_one _ k 4 c4)
theorem rd_new {w : World} {ma : Option Addr} {c0 : Nat} {T : List (Tk × Int)} {p : Int} (hv : RowZ w (.slice ma T.length c0) T) (hl : T.length ≤ 140737488355328) (h1 : -9223372036854775808 ≤ p) (h2 : p < 9223372036854775808) : IsRd ((w.alloc (.cells #[.int .u8 0, .int .u64 0, .string ⟨#[]⟩, .int .u8 0, .slice none 0 0] 25)).alloc (.cells #[.slice ma T.length c0, .int .i64 p, .int .i64 0] 57)) (w.heap.size + 1) (.slice ma T.length c0) T p 0 := by
  have hn := fun o => new_cell (w.alloc (.cells #[.int .u8 0, .int .u64 0, .string ⟨#[]⟩, .int .u8 0, .slice none 0 0] 25)) #[.slice ma T.length c0, .int .i64 p, .int .i64 0] 57 o
  have hf := fun o => new_frozen (w.alloc (.cells #[.int .u8 0, .int .u64 0, .string ⟨#[]⟩, .int .u8 0, .slice none 0 0] 25)) #[.slice ma T.length c0, .int .i64 p, .int .i64 0] 57 o
  rw [World.size_alloc] at hn hf
  exact ⟨hn 0, hn 1, hn 2, hf, (hv.of (aB (Below.refl _ _) _)).of (aB (Below.refl _ _) _), fun e => by have := hv.ob_lt e; omega, hl, h1, h2⟩
theorem below_w0 {w : World} {ma : Option Addr} {c0 N : Nat} {p : Int} : Below w.heap.size w ((w.alloc (.cells #[.int .u8 0, .int .u64 0, .string ⟨#[]⟩, .int .u8 0, .slice none 0 0] 25)).alloc (.cells #[.slice ma N c0, .int .i64 p, .int .i64 0] 57)) := aB (aB (Below.refl _ _) _) _
theorem res_w0 {w : World} {ma : Option Addr} {c0 N : Nat} {p : Int} : rowG #[.int .u8 0, .int .u64 0, .string ⟨#[]⟩, .int .u8 0, .slice none 0 0] ((w.alloc (.cells #[.int .u8 0, .int .u64 0, .string ⟨#[]⟩, .int .u8 0, .slice none 0 0] 25)).alloc (.cells #[.slice ma N c0, .int .i64 p, .int .i64 0] 57)) w.heap.size := rowG_alloc (rowG_at _ _ _ _ rfl) _
set_option maxRecDepth 100000 in
set_option maxHeartbeats 4000000 in
theorem read_er {w : World} {ma : Option Addr} {c0 : Nat} {T : List (Tk × Int)} {p c q : Int} (hc0 : ¬ c = 0)
    (hX : Calls Tryz.prog 27 #[.pointer (some ⟨w.heap.size + 1, 0, none⟩)] ((w.alloc (.cells #[.int .u8 0, .int .u64 0, .string ⟨#[]⟩, .int .u8 0, .slice none 0 0] 25)).alloc (.cells #[.slice ma T.length c0, .int .i64 p, .int .i64 0] 57)) (ExEr ((w.alloc (.cells #[.int .u8 0, .int .u64 0, .string ⟨#[]⟩, .int .u8 0, .slice none 0 0] 25)).alloc (.cells #[.slice ma T.length c0, .int .i64 p, .int .i64 0] 57)) (w.heap.size + 1) (.slice ma T.length c0) T c q)) (hv : RowZ w (.slice ma T.length c0) T) :
    Calls Tryz.prog 16 #[.slice ma T.length c0, .int .i64 p] w fun e w' => e = .returned (.tuple #[.agg #[.int .u8 0, .int .u64 0, .string ⟨#[]⟩, .int .u8 0, .slice none 0 0], .int .i64 0, .iface 48 (.agg #[.int .i64 (placeZ T q), .int .i64 c])]) ∧ Below w.heap.size w w' := by
  have hob : ∀ j, ob (.slice ma T.length c0) T = some j → j < w.heap.size := fun j hj => hv.ob_lt hj
  unfold ExEr at hX
  obtain ⟨N, hN⟩ : ∃ N, N = T.length := ⟨_, rfl⟩
  rw [← hN] at hX hob ⊢
  clear hN hv
  have hB0 : Below w.heap.size w ((w.alloc (.cells #[.int .u8 0, .int .u64 0, .string ⟨#[]⟩, .int .u8 0, .slice none 0 0] 25)).alloc (.cells #[.slice ma N c0, .int .i64 p, .int .i64 0] 57)) := below_w0
  have hZ0 : rowG #[.int .u8 0, .int .u64 0, .string ⟨#[]⟩, .int .u8 0, .slice none 0 0] ((w.alloc (.cells #[.int .u8 0, .int .u64 0, .string ⟨#[]⟩, .int .u8 0, .slice none 0 0] 25)).alloc (.cells #[.slice ma N c0, .int .i64 p, .int .i64 0] 57)) w.heap.size := res_w0
  go_enter Tryz.func16, Tryz.ntmps16
  go_wp2_with (first | (go_at_call 27; ((with_reducible refine hX.mono ?_); (rintro e x1 ⟨rfl, ⟨d', hR1⟩, hO1⟩); have hZZ := rowG_only hZ0 hO1 (by omega); have z0 := hZZ.1 0 (by simp); have z1 := hZZ.1 1 (by simp); have z2 := hZZ.1 2 (by simp); have z3 := hZZ.1 3 (by simp); have z4 := hZZ.1 4 (by simp); have y0 := hZZ.2.1 0; have y1 := hZZ.2.1 1; have y2 := hZZ.2.1 2; have y3 := hZZ.2.1 3; have y4 := hZZ.2.1 4; have hzl := hZZ.2.2; have h5 := only_fiv (.int .u8 0) (.int .u64 0) (.string ⟨#[]⟩) (.int .u8 0) (.slice none 0 0) x1 w.heap.size; have hRS := hR1.only h5 (by omega) (fun j hj e => by have := hob j hj; omega); have hZ5 := rowG_fiv (.int .u8 0) (.int .u64 0) (.string ⟨#[]⟩) (.int .u8 0) (.slice none 0 0) hZZ; have hBx : Below w.heap.size w x1 := hB0.trans (hO1.below (fun j hj => by omega) (by have := hB0.size; omega)); have hB5 : Below w.heap.size w (((((x1.setCell ⟨w.heap.size, 0, none⟩ (.int .u8 0)).setCell ⟨w.heap.size, 1, none⟩ (.int .u64 0)).setCell ⟨w.heap.size, 2, none⟩ (.string ⟨#[]⟩)).setCell ⟨w.heap.size, 3, none⟩ (.int .u8 0)).setCell ⟨w.heap.size, 4, none⟩ (.slice none 0 0)) := hBx.trans (h5.below (fun j hj => by omega) (by have := hBx.size; omega)))) | (go_at_call 28; ((with_reducible refine (place_any hRS).mono ?_); (rintro e x2 ⟨rfl, hb2⟩); have hZ6 := rowG_b hZ5 hb2; have u0 := hZ6.1 0 (by simp); have u1 := hZ6.1 1 (by simp); have u2 := hZ6.1 2 (by simp); have u3 := hZ6.1 3 (by simp); have u4 := hZ6.1 4 (by simp); have t0 := hZ6.2.1 0; have t1 := hZ6.2.1 1; have t2 := hZ6.2.1 2; have t3 := hZ6.2.1 3; have t4 := hZ6.2.1 4; have hul := hZ6.2.2)))
  have hB6 : Below w.heap.size w x2 := hB5.trans (hb2.mono hB5.size)
  have hB7 : Below w.heap.size w (((((x2.setCell ⟨w.heap.size, 0, none⟩ (.int .u8 0)).setCell ⟨w.heap.size, 1, none⟩ (.int .u64 0)).setCell ⟨w.heap.size, 2, none⟩ (.string ⟨#[]⟩)).setCell ⟨w.heap.size, 3, none⟩ (.int .u8 0)).setCell ⟨w.heap.size, 4, none⟩ (.slice none 0 0)) := hB6.trans ((only_fiv (.int .u8 0) (.int .u64 0) (.string ⟨#[]⟩) (.int .u8 0) (.slice none 0 0) x2 w.heap.size).below (fun j hj => by omega) (by have := hB6.size; omega))
  exact bodyPost_ret (res_xp3 rfl _ _ w.heap.size _ _ _ _ _ _ _ rfl rfl rfl (rowG_fiv _ _ _ _ _ hZ6)) rfl ⟨rfl, hB7⟩
set_option maxRecDepth 100000 in
set_option maxHeartbeats 4000000 in
theorem read_ok {w : World} {ma : Option Addr} {c0 : Nat} {T : List (Tk × Int)} {p q : Int} {x : Xp}
    (hX : Calls Tryz.prog 27 #[.pointer (some ⟨w.heap.size + 1, 0, none⟩)] ((w.alloc (.cells #[.int .u8 0, .int .u64 0, .string ⟨#[]⟩, .int .u8 0, .slice none 0 0] 25)).alloc (.cells #[.slice ma T.length c0, .int .i64 p, .int .i64 0] 57)) (ExOk ((w.alloc (.cells #[.int .u8 0, .int .u64 0, .string ⟨#[]⟩, .int .u8 0, .slice none 0 0] 25)).alloc (.cells #[.slice ma T.length c0, .int .i64 p, .int .i64 0] 57)) (w.heap.size + 1) (.slice ma T.length c0) T 0 x q)) (hv : RowZ w (.slice ma T.length c0) T) :
    Calls Tryz.prog 16 #[.slice ma T.length c0, .int .i64 p] w fun e w' => (∃ (k n : Int) (s : ByteArray) (o : Int) (mk : Option Addr) (m cap : Nat), e = .returned (.tuple #[vX k n s o mk m cap, .int .i64 q, .nilIface]) ∧ IsE (fun b => w.heap.size ≤ b ∧ b < w'.heap.size) w' (vX k n s o mk m cap) x) ∧ Below w.heap.size w w' := by
  have hob : ∀ j, ob (.slice ma T.length c0) T = some j → j < w.heap.size := fun j hj => hv.ob_lt hj
  unfold ExOk at hX
  obtain ⟨N, hN⟩ : ∃ N, N = T.length := ⟨_, rfl⟩
  rw [← hN] at hX hob ⊢
  clear hN hv
  have hB0 : Below w.heap.size w ((w.alloc (.cells #[.int .u8 0, .int .u64 0, .string ⟨#[]⟩, .int .u8 0, .slice none 0 0] 25)).alloc (.cells #[.slice ma N c0, .int .i64 p, .int .i64 0] 57)) := below_w0
  have hZ0 : rowG #[.int .u8 0, .int .u64 0, .string ⟨#[]⟩, .int .u8 0, .slice none 0 0] ((w.alloc (.cells #[.int .u8 0, .int .u64 0, .string ⟨#[]⟩, .int .u8 0, .slice none 0 0] 25)).alloc (.cells #[.slice ma N c0, .int .i64 p, .int .i64 0] 57)) w.heap.size := res_w0
  go_enter Tryz.func16, Tryz.ntmps16
  go_wp2_with (go_at_call 27; ((with_reducible refine hX.mono ?_); (rintro e x1 ⟨k, n, s, o, mk, m, cap, rfl, hR1, hO1, hE1⟩); have hZZ := rowG_only hZ0 hO1 (by omega); have z0 := hZZ.1 0 (by simp); have z1 := hZZ.1 1 (by simp); have z2 := hZZ.1 2 (by simp); have z3 := hZZ.1 3 (by simp); have z4 := hZZ.1 4 (by simp); have y0 := hZZ.2.1 0; have y1 := hZZ.2.1 1; have y2 := hZZ.2.1 2; have y3 := hZZ.2.1 3; have y4 := hZZ.2.1 4; have hzl := hZZ.2.2))
  have h5 := only_fiv (.int .u8 k) (.int .u64 n) (.string s) (.int .u8 o) (.slice mk m cap) x1 w.heap.size
  have hRS := hR1.only h5 (by omega) (fun j hj e => by have := hob j hj; omega)
  have hZ5 := rowG_fiv (.int .u8 k) (.int .u64 n) (.string s) (.int .u8 o) (.slice mk m cap) hZZ
  have hBx : Below w.heap.size w x1 := hB0.trans (hO1.below (fun j hj => by omega) (by have := hB0.size; omega))
  have hB5 : Below w.heap.size w (((((x1.setCell ⟨w.heap.size, 0, none⟩ (.int .u8 k)).setCell ⟨w.heap.size, 1, none⟩ (.int .u64 n)).setCell ⟨w.heap.size, 2, none⟩ (.string s)).setCell ⟨w.heap.size, 3, none⟩ (.int .u8 o)).setCell ⟨w.heap.size, 4, none⟩ (.slice mk m cap)) := hBx.trans (h5.below (fun j hj => by omega) (by have := hBx.size; omega))
  have hl0 : w.heap.size + 2 = ((w.alloc (.cells #[.int .u8 0, .int .u64 0, .string ⟨#[]⟩, .int .u8 0, .slice none 0 0] 25)).alloc (.cells #[.slice ma N c0, .int .i64 p, .int .i64 0] 57)).heap.size := by simp
  have hE5 := hE1.only h5 (fun b hb e => by omega)
  obtain ⟨X5, hX5⟩ : ∃ X5, (((((x1.setCell ⟨w.heap.size, 0, none⟩ (.int .u8 k)).setCell ⟨w.heap.size, 1, none⟩ (.int .u64 n)).setCell ⟨w.heap.size, 2, none⟩ (.string s)).setCell ⟨w.heap.size, 3, none⟩ (.int .u8 o)).setCell ⟨w.heap.size, 4, none⟩ (.slice mk m cap)) = X5 := ⟨_, rfl⟩
  have hs5 : x1.heap.size = X5.heap.size := by rw [← hX5]; simp only [World.size_setCell]
  rw [hX5] at h5 hRS hZ5 hB5 hE5 ⊢
  clear hX5 z0 z1 z2 z3 z4 y0 y1 y2 y3 y4 hzl hZZ hR1 hE1
  have hFi : ∀ w', (rowG #[.int .u8 k, .int .u64 n, .string s, .int .u8 o, .slice mk m cap] w' w.heap.size ∧ w'.cell? ⟨w.heap.size + 1, 1, none⟩ = some (.int .i64 q) ∧ w.heap.size + 1 < w'.heap.size) → w'.cell? ⟨w.heap.size, 0, none⟩ = some (.int .u8 k) ∧ w'.cell? ⟨w.heap.size, 1, none⟩ = some (.int .u64 n) ∧ w'.cell? ⟨w.heap.size, 2, none⟩ = some (.string s) ∧ w'.cell? ⟨w.heap.size, 3, none⟩ = some (.int .u8 o) ∧ w'.cell? ⟨w.heap.size, 4, none⟩ = some (.slice mk m cap) ∧ w'.cell? ⟨w.heap.size + 1, 1, none⟩ = some (.int .i64 q) ∧ w.heap.size < w'.heap.size ∧ w.heap.size + 1 < w'.heap.size := fun w' h => ⟨h.1.1 0 (by simp), h.1.1 1 (by simp), h.1.1 2 (by simp), h.1.1 3 (by simp), h.1.1 4 (by simp), h.2.1, h.1.2.2, h.2.2⟩
  have hD : Only (fun _ => False) X5 X5.drew := od1
  have hF0 : rowG #[.int .u8 k, .int .u64 n, .string s, .int .u8 o, .slice mk m cap] X5.drew w.heap.size ∧ X5.drew.cell? ⟨w.heap.size + 1, 1, none⟩ = some (.int .i64 q) ∧ w.heap.size + 1 < X5.drew.heap.size := ⟨rowG_only hZ5 hD (fun h => h), hD.cell (a := ⟨w.heap.size + 1, 1, none⟩) (fun h => h) hRS.c1, hRS.lt⟩
  have hBd : Below w.heap.size w X5.drew := hB5.trans (hD.below (fun j hj => hj.elim) (by have := hB5.size; omega))
  have hEd := hE5.only hD (fun _ _ h => h)
  obtain ⟨Xd, hXd⟩ : ∃ Xd, X5.drew = Xd := ⟨_, rfl⟩
  refine region_KN (fun w' => rowG #[.int .u8 k, .int .u64 n, .string s, .int .u8 o, .slice mk m cap] w' w.heap.size ∧ w'.cell? ⟨w.heap.size + 1, 1, none⟩ = some (.int .i64 q) ∧ w.heap.size + 1 < w'.heap.size) (by kernel_rfl) ?_
  rw [hXd] at hD hF0 hBd hEd ⊢
  have hsd : X5.heap.size = Xd.heap.size := by rw [← hXd]; rfl
  clear hXd
  refine wpAnyK_take (i := 0) rfl (by kernel_rfl) (by kernel_rfl) (by kernel_rfl) (onlyN_panic _) hF0 (fun K hK => ?_)
  apply Exists.intro
  refine ⟨Or.inl ⟨by kernel_rfl, fun w' hf => ?_⟩, ?_⟩
  · obtain ⟨z0, z1, z2, z3, z4, zq, zl, zr⟩ := hFi _ hf
    go_simp
    try exact rfl
  go_simp
  refine hK _ ?_
  clear hK K
  refine wpAnyK_take (i := 1) rfl (by kernel_rfl) (by kernel_rfl) (by kernel_rfl) (onlyN_panic _) hF0 (fun K hK => ?_)
  apply Exists.intro
  refine ⟨Or.inl ⟨by kernel_rfl, fun w' hf => ?_⟩, ?_⟩
  · obtain ⟨z0, z1, z2, z3, z4, zq, zl, zr⟩ := hFi _ hf
    go_simp
    try exact rfl
  go_simp
  refine hK _ ?_
  clear hK K
  refine wpAnyK_take (i := 2) rfl (by kernel_rfl) (by kernel_rfl) (by kernel_rfl) (onlyN_panic _) hF0 (fun K hK => ?_)
  apply Exists.intro
  refine ⟨Or.inl ⟨by kernel_rfl, fun w' hf => ?_⟩, ?_⟩
  · obtain ⟨z0, z1, z2, z3, z4, zq, zl, zr⟩ := hFi _ hf
    go_simp
    try exact rfl
  go_simp
  refine hK _ ?_
  clear hK K
  refine wpAnyK_one (k := 3) (by kernel_rfl) ?_
  refine wpOp_step rfl (fun K hK => ?_)
  obtain ⟨z0, z1, z2, z3, z4, zq, zl, zr⟩ := hFi _ hF0
  have y0 := hF0.1.2.1 0
  have y1 := hF0.1.2.1 1
  have y2 := hF0.1.2.1 2
  have y3 := hF0.1.2.1 3
  have y4 := hF0.1.2.1 4
  go_simp
  have h9 := only_fiv (.int .u8 k) (.int .u64 n) (.string s) (.int .u8 o) (.slice mk m cap) Xd w.heap.size
  have hF9 : rowG #[.int .u8 k, .int .u64 n, .string s, .int .u8 o, .slice mk m cap] (((((Xd.setCell ⟨w.heap.size, 0, none⟩ (.int .u8 k)).setCell ⟨w.heap.size, 1, none⟩ (.int .u64 n)).setCell ⟨w.heap.size, 2, none⟩ (.string s)).setCell ⟨w.heap.size, 3, none⟩ (.int .u8 o)).setCell ⟨w.heap.size, 4, none⟩ (.slice mk m cap)) w.heap.size ∧ (((((Xd.setCell ⟨w.heap.size, 0, none⟩ (.int .u8 k)).setCell ⟨w.heap.size, 1, none⟩ (.int .u64 n)).setCell ⟨w.heap.size, 2, none⟩ (.string s)).setCell ⟨w.heap.size, 3, none⟩ (.int .u8 o)).setCell ⟨w.heap.size, 4, none⟩ (.slice mk m cap)).cell? ⟨w.heap.size + 1, 1, none⟩ = some (.int .i64 q) ∧ w.heap.size + 1 < (((((Xd.setCell ⟨w.heap.size, 0, none⟩ (.int .u8 k)).setCell ⟨w.heap.size, 1, none⟩ (.int .u64 n)).setCell ⟨w.heap.size, 2, none⟩ (.string s)).setCell ⟨w.heap.size, 3, none⟩ (.int .u8 o)).setCell ⟨w.heap.size, 4, none⟩ (.slice mk m cap)).heap.size := ⟨rowG_fiv _ _ _ _ _ hF0.1, h9.cell (a := ⟨w.heap.size + 1, 1, none⟩) (by simp) hF0.2.1, Nat.lt_of_lt_of_le hF0.2.2 h9.size⟩
  refine hK _ _ ⟨hF9, ?_⟩
  clear hK K
  refine wpAnyK_one (k := 4) (by kernel_rfl) ?_
  refine wpOp_step rfl (fun K hK => ?_)
  go_simp
  refine hK _ _ ⟨hF9, ?_⟩
  clear hK K
  refine wpAnyK_one (k := 5) (by kernel_rfl) ?_
  refine wpOp_step rfl (fun K hK => ?_)
  go_simp
  refine hK _ _ ⟨hF9, ?_⟩
  clear hK K
  refine wpAnyK_done (by kernel_rfl) ⟨rfl, ?_⟩
  go_wp2
  have hB9 : Below w.heap.size w (((((Xd.setCell ⟨w.heap.size, 0, none⟩ (.int .u8 k)).setCell ⟨w.heap.size, 1, none⟩ (.int .u64 n)).setCell ⟨w.heap.size, 2, none⟩ (.string s)).setCell ⟨w.heap.size, 3, none⟩ (.int .u8 o)).setCell ⟨w.heap.size, 4, none⟩ (.slice mk m cap)) := hBd.trans (h9.below (fun j hj => by omega) (by have := hBd.size; omega))
  refine bodyPost_ret (res_xp3 rfl _ _ w.heap.size _ _ _ _ _ _ _ rfl rfl rfl hF9.1) rfl ⟨⟨k, n, s, o, mk, m, cap, rfl, ?_⟩, hB9⟩
  refine (hEd.only h9 (fun b hb e => by omega)).mono (fun b hb => ⟨by omega, ?_⟩)
  have := h9.size
  omega
end Go.Proofs.YtnblnmehfhkfmaaGreatDoor
