/- Contract of the document's own answer Encode of layer 2: for any instruction. -/
import Derived.Test.YtcckgfablfgknaaGreatDoorR2A
import Derived.Test.YtcckgfablfgknaaGreatDoorQy
import Derived.Test.YtcckgfablfgknaaGreatDoorR2C
import Derived.Test.YtcckgfablfgknaaGreatDoorQp
import Derived.Deep.QuietTactic
import Derived.BigQuiet
namespace Go.Proofs.YtcckgfablfgknaaGreatDoor
open Go.ChangeShapes Go.WideShapes Go.ChangeAt Go.RowKit
set_option linter.unusedVariables false
theorem num_any (f : Nat) (hf : f ≤ 8) (hf0 : f ≠ 0) (v : Int) (h0 : -9223372036854775808 ≤ v) (h1 : v < 9223372036854775808) (w : World) :
    Calls Tryz.prog 120 #[.int .i64 f, .int .i64 v] w fun e w' => e = .returned (.int .u32 (numv f v : Nat)) ∧ w' = w := by
  have sw : ∀ {e : Ending} {w' : World} {x : Ending}, (e = x ∧ w = w') → (e = x ∧ w' = w) := fun h => ⟨h.1, h.2.symm⟩
  rcases form_cases hf hf0 with rfl | rfl | rfl | rfl | rfl | rfl | rfl | rfl
  · exact (num_1 v h0 h1 w).mono fun _ _ h => sw h
  · exact (num_2 v h0 h1 w).mono fun _ _ h => sw h
  · exact (num_3 v h0 h1 w).mono fun _ _ h => sw h
  · exact (num_4 v h0 h1 w).mono fun _ _ h => sw h
  · exact (num_5 v h0 h1 w).mono fun _ _ h => sw h
  · exact (num_6 v h0 h1 w).mono fun _ _ h => sw h
  · exact (num_7 v h0 h1 w).mono fun _ _ h => sw h
  · exact (num_8 v h0 h1 w).mono fun _ _ h => sw h
theorem rof_any (k : Nat) (h1 : 1 ≤ k) (h2 : k ≤ 34) (w : World) : Calls Tryz.prog 89 #[.int .u8 k] w fun e w' => e = .returned (.tuple #[.agg #[.int .u32 (codeT k : Nat), .int .u32 (f3T k : Nat), .int .u32 (f7T k : Nat), .int .i64 (formT k : Nat)], .bool true]) ∧ Below w.heap.size w w' := by
  have hc : k = 1 ∨ k = 2 ∨ k = 3 ∨ k = 4 ∨ k = 5 ∨ k = 6 ∨ k = 7 ∨ k = 8 ∨ k = 9 ∨ k = 10 ∨ k = 11 ∨ k = 12 ∨ k = 13 ∨ k = 14 ∨ k = 15 ∨ k = 16 ∨ k = 17 ∨ k = 18 ∨ k = 19 ∨ k = 20 ∨ k = 21 ∨ k = 22 ∨ k = 23 ∨ k = 24 ∨ k = 25 ∨ k = 26 ∨ k = 27 ∨ k = 28 ∨ k = 29 ∨ k = 30 ∨ k = 31 ∨ k = 32 ∨ k = 33 ∨ k = 34 := by omega
  clear h1 h2
  rcases hc with rfl | rfl | rfl | rfl | rfl | rfl | rfl | rfl | rfl | rfl | rfl | rfl | rfl | rfl | rfl | rfl | rfl | rfl | rfl | rfl | rfl | rfl | rfl | rfl | rfl | rfl | rfl | rfl | rfl | rfl | rfl | rfl | rfl | rfl
  · exact rof_1 w
  · exact rof_2 w
  · exact rof_3 w
  · exact rof_4 w
  · exact rof_5 w
  · exact rof_6 w
  · exact rof_7 w
  · exact rof_8 w
  · exact rof_9 w
  · exact rof_10 w
  · exact rof_11 w
  · exact rof_12 w
  · exact rof_13 w
  · exact rof_14 w
  · exact rof_15 w
  · exact rof_16 w
  · exact rof_17 w
  · exact rof_18 w
  · exact rof_19 w
  · exact rof_20 w
  · exact rof_21 w
  · exact rof_22 w
  · exact rof_23 w
  · exact rof_24 w
  · exact rof_25 w
  · exact rof_26 w
  · exact rof_27 w
  · exact rof_28 w
  · exact rof_29 w
  · exact rof_30 w
  · exact rof_31 w
  · exact rof_32 w
  · exact rof_33 w
  · exact rof_34 w
theorem fld_cut (v : Int) (a n : Nat) (h : n ≤ 32) : fld v a n = cutN v a % 2 ^ n := by
  have h1 := fld_cast v a n
  have h2 := cutN_eq v a
  apply Int.ofNat.inj
  show ((fld v a n : Nat) : Int) = ((cutN v a % 2 ^ n : Nat) : Int)
  rw [h1, Int.natCast_emod, h2, Int.natCast_pow]
  have hd : (2 : Int) ^ n ∣ 4294967296 := ⟨2 ^ (32 - n), by rw [← Int.pow_add, show n + (32 - n) = 32 by omega]; rfl⟩
  exact (Int.emod_emod_of_dvd (v / 2 ^ a) hd).symm
theorem sum_1 (c f3 f7 rd rs1 rs2 : Nat) (v : Int) (hc : c < 128) (hf3 : f3 < 8) (hf7 : f7 < 128) (h0 : rd < 32) (h1 : rs1 < 32) (h2 : rs2 < 32) :
    (((c : Int) + (rd : Int) * 128 + (f3 : Int) * 4096 + (rs1 : Int) * 32768 + (rs2 : Int) * 1048576 + (f7 : Int) * 33554432) % 4294967296 + ((numv 1 v : Nat) : Int)) % 4294967296 = ((layv (piecesv 1 c f3 f7 rd rs1 rs2 v) : Nat) : Int) := by
  rw [lay1]
  rw [show numv 1 v = 0 from rfl]
  omega
theorem sum_2 (c f3 f7 rd rs1 rs2 : Nat) (v : Int) (hc : c < 128) (hf3 : f3 < 8) (hf7 : f7 = 0) (h0 : rd < 32) (h1 : rs1 < 32) (h2 : rs2 = 0) :
    (((c : Int) + (rd : Int) * 128 + (f3 : Int) * 4096 + (rs1 : Int) * 32768 + (rs2 : Int) * 1048576 + (f7 : Int) * 33554432) % 4294967296 + ((numv 2 v : Nat) : Int)) % 4294967296 = ((layv (piecesv 2 c f3 f7 rd rs1 rs2 v) : Nat) : Int) := by
  rw [lay2]
  rw [show numv 2 v = fld v 0 12 * 1048576 from rfl]
  rw [fld_cut v 0 12 (by omega)]
  simp only [Nat.reducePow]
  omega
theorem sum_3 (c f3 f7 rd rs1 rs2 : Nat) (v : Int) (hc : c < 128) (hf3 : f3 < 8) (hf7 : f7 < 128 ∧ f7 % 2 = 0) (h0 : rd < 32) (h1 : rs1 < 32) (h2 : rs2 = 0) :
    (((c : Int) + (rd : Int) * 128 + (f3 : Int) * 4096 + (rs1 : Int) * 32768 + (rs2 : Int) * 1048576 + (f7 : Int) * 33554432) % 4294967296 + ((numv 3 v : Nat) : Int)) % 4294967296 = ((layv (piecesv 3 c f3 f7 rd rs1 rs2 v) : Nat) : Int) := by
  rw [lay3]
  rw [show numv 3 v = fld v 0 6 * 1048576 from rfl]
  rw [fld_cut v 0 6 (by omega)]
  simp only [Nat.reducePow]
  omega
theorem sum_4 (c f3 f7 rd rs1 rs2 : Nat) (v : Int) (hc : c < 128) (hf3 : f3 = 0) (hf7 : f7 = 0) (h0 : rd < 32) (h1 : rs1 = 0) (h2 : rs2 = 0) :
    (((c : Int) + (rd : Int) * 128 + (f3 : Int) * 4096 + (rs1 : Int) * 32768 + (rs2 : Int) * 1048576 + (f7 : Int) * 33554432) % 4294967296 + ((numv 4 v : Nat) : Int)) % 4294967296 = ((layv (piecesv 4 c f3 f7 rd rs1 rs2 v) : Nat) : Int) := by
  rw [lay4]
  rw [show numv 4 v = fld v 12 20 * 4096 from rfl]
  rw [fld_cut v 12 20 (by omega)]
  simp only [Nat.reducePow]
  omega
theorem sum_5 (c f3 f7 rd rs1 rs2 : Nat) (v : Int) (hc : c < 128) (hf3 : f3 < 8) (hf7 : f7 = 0) (h0 : rd = 0) (h1 : rs1 < 32) (h2 : rs2 < 32) :
    (((c : Int) + (rd : Int) * 128 + (f3 : Int) * 4096 + (rs1 : Int) * 32768 + (rs2 : Int) * 1048576 + (f7 : Int) * 33554432) % 4294967296 + ((numv 5 v : Nat) : Int)) % 4294967296 = ((layv (piecesv 5 c f3 f7 rd rs1 rs2 v) : Nat) : Int) := by
  rw [lay5]
  rw [show numv 5 v = fld v 0 5 * 128 + fld v 5 7 * 33554432 from rfl]
  rw [fld_cut v 0 5 (by omega), fld_cut v 5 7 (by omega)]
  simp only [Nat.reducePow]
  omega
theorem sum_6 (c f3 f7 rd rs1 rs2 : Nat) (v : Int) (hc : c < 128) (hf3 : f3 < 8) (hf7 : f7 = 0) (h0 : rd = 0) (h1 : rs1 < 32) (h2 : rs2 < 32) :
    (((c : Int) + (rd : Int) * 128 + (f3 : Int) * 4096 + (rs1 : Int) * 32768 + (rs2 : Int) * 1048576 + (f7 : Int) * 33554432) % 4294967296 + ((numv 6 v : Nat) : Int)) % 4294967296 = ((layv (piecesv 6 c f3 f7 rd rs1 rs2 v) : Nat) : Int) := by
  rw [lay6]
  rw [show numv 6 v = fld v 11 1 * 128 + fld v 1 4 * 256 + fld v 5 6 * 33554432 + fld v 12 1 * 2147483648 from rfl]
  rw [fld_cut v 11 1 (by omega), fld_cut v 1 4 (by omega), fld_cut v 5 6 (by omega), fld_cut v 12 1 (by omega)]
  simp only [Nat.reducePow]
  omega
theorem sum_7 (c f3 f7 rd rs1 rs2 : Nat) (v : Int) (hc : c < 128) (hf3 : f3 = 0) (hf7 : f7 = 0) (h0 : rd < 32) (h1 : rs1 = 0) (h2 : rs2 = 0) :
    (((c : Int) + (rd : Int) * 128 + (f3 : Int) * 4096 + (rs1 : Int) * 32768 + (rs2 : Int) * 1048576 + (f7 : Int) * 33554432) % 4294967296 + ((numv 7 v : Nat) : Int)) % 4294967296 = ((layv (piecesv 7 c f3 f7 rd rs1 rs2 v) : Nat) : Int) := by
  rw [lay7]
  rw [show numv 7 v = fld v 12 8 * 4096 + fld v 11 1 * 1048576 + fld v 1 10 * 2097152 + fld v 20 1 * 2147483648 from rfl]
  rw [fld_cut v 12 8 (by omega), fld_cut v 11 1 (by omega), fld_cut v 1 10 (by omega), fld_cut v 20 1 (by omega)]
  simp only [Nat.reducePow]
  omega
theorem sum_8 (c f3 f7 rd rs1 rs2 : Nat) (v : Int) (hc : c < 128) (hf3 : f3 = 0) (hf7 : f7 = 0) (h0 : rd = 0) (h1 : rs1 = 0) (h2 : rs2 = 0) :
    (((c : Int) + (rd : Int) * 128 + (f3 : Int) * 4096 + (rs1 : Int) * 32768 + (rs2 : Int) * 1048576 + (f7 : Int) * 33554432) % 4294967296 + ((numv 8 v : Nat) : Int)) % 4294967296 = ((layv (piecesv 8 c f3 f7 rd rs1 rs2 v) : Nat) : Int) := by
  rw [lay8]
  rw [show numv 8 v = 0 from rfl]
  omega
theorem word_sum (op rd rs1 rs2 : Nat) (v : Int) (hop : op < 35) (hf0 : formT op ≠ 0) (h : takesB (formT op) rd rs1 rs2 v = true) :
    (((codeT op : Int) + (rd : Int) * 128 + (f3T op : Int) * 4096 + (rs1 : Int) * 32768 + (rs2 : Int) * 1048576 + (f7T op : Int) * 33554432) % 4294967296 + ((numv (formT op) v : Nat) : Int)) % 4294967296 = ((layv (piecesv (formT op) (codeT op) (f3T op) (f7T op) rd rs1 rs2 v) : Nat) : Int) := by
  have ho : okB op rd rs1 rs2 v = true := by simp [okB, hop, h]
  obtain ⟨k1, k2, k3, k4, k5, k6⟩ := ok_parts ho
  obtain ⟨t1, t2, t3, t4, t5, t6⟩ := tabs op k1 k2
  have u := (by decide +kernel : ∀ k < 35, (formT k = 1 ∨ formT k = 3 ∨ f7T k = 0) ∧ (formT k ≠ 3 ∨ f7T k % 2 = 0) ∧ ((formT k ≠ 4 ∧ formT k ≠ 7 ∧ formT k ≠ 8) ∨ f3T k = 0)) op k1
  obtain ⟨u1, u2, u3⟩ := u
  clear h ho k6
  generalize codeT op = c at *
  generalize f3T op = f3 at *
  generalize f7T op = f7 at *
  generalize formT op = fm at *
  rcases form_cases t5 hf0 with rfl | rfl | rfl | rfl | rfl | rfl | rfl | rfl
  · exact sum_1 c f3 f7 rd rs1 rs2 v t2 (by omega) (by omega) ((reg_t _).1 k3) ((reg_t _).1 k4) ((reg_t _).1 k5)
  · exact sum_2 c f3 f7 rd rs1 rs2 v t2 (by omega) (by omega) ((reg_t _).1 k3) ((reg_t _).1 k4) ((reg_f _).1 k5)
  · exact sum_3 c f3 f7 rd rs1 rs2 v t2 (by omega) (by omega) ((reg_t _).1 k3) ((reg_t _).1 k4) ((reg_f _).1 k5)
  · exact sum_4 c f3 f7 rd rs1 rs2 v t2 (by omega) (by omega) ((reg_t _).1 k3) ((reg_f _).1 k4) ((reg_f _).1 k5)
  · exact sum_5 c f3 f7 rd rs1 rs2 v t2 (by omega) (by omega) ((reg_f _).1 k3) ((reg_t _).1 k4) ((reg_t _).1 k5)
  · exact sum_6 c f3 f7 rd rs1 rs2 v t2 (by omega) (by omega) ((reg_f _).1 k3) ((reg_t _).1 k4) ((reg_t _).1 k5)
  · exact sum_7 c f3 f7 rd rs1 rs2 v t2 (by omega) (by omega) ((reg_t _).1 k3) ((reg_f _).1 k4) ((reg_f _).1 k5)
  · exact sum_8 c f3 f7 rd rs1 rs2 v t2 (by omega) (by omega) ((reg_f _).1 k3) ((reg_f _).1 k4) ((reg_f _).1 k5)
theorem fin2 {w w1 w2 : World} {o o' : Obj} (h1 : Below (w.alloc o).heap.size (w.alloc o) w1) (h2 : Below (w1.alloc o').heap.size (w1.alloc o') w2) : Below w.heap.size w w2 := by
  have h0 : Below w.heap.size w w1 := ((Below.refl _ _).alloc (Nat.le_refl _) _).trans (h1.mono (by simp))
  exact btl h0 (o := o') |>.trans (h2.mono (btl h0 (o := o')).size)
theorem ok_none (op rd rs1 rs2 : Nat) (v : Int) (h : op = 0 ∨ 34 < op) : okB op rd rs1 rs2 v = false := by
  rcases h with rfl | h
  · simp [okB, takesB, show formT 0 = 0 from rfl]
  · simp [okB]; omega
set_option maxHeartbeats 2000000 in
set_option maxRecDepth 100000 in
theorem renc_any (op rd rs1 rs2 : Nat) (v : Int) (hop : op < 256) (hrd : rd < 256) (hr1 : rs1 < 256) (hr2 : rs2 < 256) (h0 : -9223372036854775808 ≤ v) (h1 : v < 9223372036854775808) (w : World) :
    Calls Tryz.prog 61 #[.agg #[.int .u8 op, .int .u8 rd, .int .u8 rs1, .int .u8 rs2, .int .i64 v]] w fun e w' => e = .returned (.tuple #[.int .u32 (encW op rd rs1 rs2 v : Nat), .int .i64 (encE op rd rs1 rs2 v)]) ∧ Below w.heap.size w w' := by
  by_cases hlt : 1 ≤ op ∧ op ≤ 34
  · obtain ⟨g1, g2⟩ := hlt
    have hT := tabs op (by omega) ((by decide +kernel : ∀ k < 35, 1 ≤ k → formT k ≠ 0) op (by omega) g1)
    have hf0 : formT op ≠ 0 := (by decide +kernel : ∀ k < 35, 1 ≤ k → formT k ≠ 0) op (by omega) g1
    obtain ⟨t1, t2, t3, t4, t5, t6⟩ := hT
    have ht := rnamed_any (formT op) op rd rs1 rs2 t5 hf0 v hop hrd hr1 hr2 h0 h1
    have ho := rof_any op g1 g2
    cases hb : takesB (formT op) rd rs1 rs2 v
    · rw [hb] at ht
      have HW := Lib.hid (show encW op rd rs1 rs2 v = 0 by simp [encW, okB, hb])
      have HE := Lib.hid (show encE op rd rs1 rs2 v = 2 by simp [encE, okB, hb])
      clear hb
      go_enter Tryz.func61, Tryz.ntmps61
      go_wp2_with (first | (go_at_call 89; ((with_reducible refine (ho _).mono ?_); (rintro e w1 ⟨rfl, hb1⟩); obtain ⟨hc1, hf1⟩ := bcell hb1; have hz1 : w.heap.size < w1.heap.size := (by have := hb1.size; simp at this; omega))) | (go_at_call 119; ((with_reducible refine (ht _).mono ?_); (rintro e w2 ⟨rfl, hb2⟩))))
      go_ret2
      exact ⟨by rw [HW.out, HE.out]; rfl, fin2 hb1 hb2⟩
    · rw [hb] at ht
      have hn := num_any (formT op) t5 hf0 v h0 h1
      have HW := Lib.hid (show encW op rd rs1 rs2 v = layv (piecesv (formT op) (codeT op) (f3T op) (f7T op) rd rs1 rs2 v) by simp [encW, okB, hb, wordN]; omega)
      have HE := Lib.hid (show encE op rd rs1 rs2 v = 0 by simp [encE, okB, hb]; omega)
      have HB := Lib.hid hb
      clear hb
      go_enter Tryz.func61, Tryz.ntmps61
      go_wp2_with (first | (go_at_call 89; ((with_reducible refine (ho _).mono ?_); (rintro e w1 ⟨rfl, hb1⟩); obtain ⟨hc1, hf1⟩ := bcell hb1; have hz1 : w.heap.size < w1.heap.size := (by have := hb1.size; simp at this; omega); have hz3 : w.heap.size < w1.heap.size + 1 := (by omega))) | (go_at_call 119; ((with_reducible refine (ht _).mono ?_); (rintro e w2 ⟨rfl, hb2⟩); obtain ⟨hc2, hf2⟩ := bcell hb2)))
      go_quiet ((go_at_call 120; exact Calls.quiet_of_same (hn _)))
      go_wp2
      go_ret2
      have hs := word_sum op rd rs1 rs2 v (by omega) hf0 HB.out
      exact ⟨by rw [HW.out, HE.out, ← hs]; rfl, bdN (fin2 hb1 hb2) _⟩
  · have hc0 := rof_no op hop (by omega)
    have HW := Lib.hid (show encW op rd rs1 rs2 v = 0 by simp [encW, ok_none op rd rs1 rs2 v (by omega)])
    have HE := Lib.hid (show encE op rd rs1 rs2 v = 2 by simp [encE, ok_none op rd rs1 rs2 v (by omega)])
    clear hlt
    go_enter Tryz.func61, Tryz.ntmps61
    go_wp2_with (go_at_call 89; ((with_reducible refine (hc0 _).mono ?_); (rintro e w1 ⟨rfl, hb1⟩)))
    go_ret2
    exact ⟨by rw [HW.out, HE.out]; rfl, (((Below.refl _ _).alloc (Nat.le_refl _) _).trans (hb1.mono (by simp))).alloc (by have := hb1.size; simp at this; omega) _⟩
end Go.Proofs.YtcckgfablfgknaaGreatDoor
