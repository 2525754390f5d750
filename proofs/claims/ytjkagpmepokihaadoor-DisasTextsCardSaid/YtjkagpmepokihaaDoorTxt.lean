/- Contract of disas.Text: for any instruction. -/
import Derived.Test.YtjkagpmepokihaaDoorDec
import Derived.Test.YtjkagpmepokihaaDoorOpn
import Derived.Test.YtjkagpmepokihaaDoorShelf
import Derived.Lib.ItoaNum
import Derived.Lib.ItoaLen
namespace Go.Proofs.YtjkagpmepokihaaDoor
open Go.ChangeShapes Go.WideShapes Go.ChangeAt Go.RowKit
set_option linter.unusedVariables false
def regT (b : Bool) (r : Nat) : List UInt8 := if b then 32 :: 120 :: Lib.decDigits r else []
def str (l : List UInt8) : ByteArray := ⟨l.toArray⟩
theorem str_app (a b : List UInt8) : str a ++ str b = str (a ++ b) := by
  apply ByteArray.ext
  simp [str]
theorem str_size (a : List UInt8) : (str a).size = a.length := by simp [str, ByteArray.size]
theorem dig_len (r : Nat) (h : r < 18446744073709551616) : (Lib.decDigits r).length ≤ 20 := by rw [Lib.decDigits_length]; exact Lib.nDigits_le20 r h
theorem reg_len (b : Bool) (r : Nat) (h : r < 32) : (regT b r).length ≤ 22 := by
  have := dig_len r (by omega)
  cases b <;> simp [regT]; omega
theorem reg_any (b : Bool) (r : Nat) (hr : r < 32) (w : World) :
    Calls Tryd.prog 22 #[.bool b, .int .u8 r] w fun e w' => e = .returned (.string (str (regT b r))) ∧ w' = w := by
  cases b
  · go_enter Tryd.func22, Tryd.ntmps22
    go_wp2
    go_ret
    exact ⟨rfl, rfl⟩
  · have hi := Lstrconv_Itoa_small r (by omega)
    have hl := dig_len r (by omega)
    have hn : ¬ 9223372036854775807 < 2 + (Lib.decDigits r).length := by omega
    go_enter Tryd.func22, Tryd.ntmps22
    go_wp2_with (go_at_call 39; (with_reducible refine (hi _).mono ?_); rintro e w1 ⟨rfl, rfl⟩)
    go_ret
    exact ⟨congrArg (fun x => Ending.returned (Value.string x)) (by exact str_app [32, 120] (Lib.decDigits r)), rfl⟩
/-- The text of an instruction that has a word. -/
def txtB (x : In) : List UInt8 := nameB x.op ++ regT (rdT (formT x.op)) x.rd ++ regT (rs1T (formT x.op)) x.rs1 ++ regT (rs2T (formT x.op)) x.rs2 ++ (if immT (formT x.op) then 32 :: Lib.itoa x.imm else [])
theorem name_len : ∀ k < 35, (nameB k).length ≤ 5 := by decide +kernel
theorem grow_below {w w' : World} (h : ∃ k os, w' = Sort.grow (w.drewN k) os) : Below w.heap.size w w' := by
  obtain ⟨k, os, rfl⟩ := h
  exact ⟨rfl, rfl, rfl, by simp [Sort.grow, World.drewN], fun j hj => by simp [Sort.grow, World.drewN]; rw [Array.getElem?_append_left (by simpa using hj)]⟩
theorem Tb.pow {w : World} (h : Tb w) : PowOk w := h.2.2.2
theorem fmt_any (n : Int) (h0 : -9223372036854775808 ≤ n) (h1 : n < 9223372036854775808) (w : World) (hT : PowOk w) :
    Calls Tryd.prog 23 #[.int .i64 n, .int .i64 10] w fun e w' => e = .returned (.string (str (Lib.itoa n))) ∧ Below w.heap.size w w' :=
  (Lstrconv_FormatInt_10 n h0 (by omega) w hT).mono fun e w' h => ⟨h.1, grow_below h.2⟩
theorem txt_no (x : In) (h : x.wf) (ho : x.ok = false) (w : World) (hT : Tb w) :
    Calls Tryd.prog 9 #[.agg (inC x)] w fun e w' => e = .returned (.string (str [63])) ∧ Below w.heap.size w w' := by
  unfold inC
  have hE := encn x h ho
  go_enter Tryd.func9, Tryd.ntmps9
  go_wp2_with (go_at_call 15; (with_reducible refine (hE _ (hT.alloc _)).mono ?_); rintro e w1 ⟨rfl, hb⟩)
  go_ret
  exact ⟨rfl, below_trans' ((Below.refl _ _).alloc (Nat.le_refl _) _) (Nat.le_refl _) (hb.mono (by simp))⟩
theorem form_le (k : Nat) (h : k < 35) : formT k ≤ 8 := (by decide +kernel : ∀ k < 35, formT k ≤ 8) k h
theorem reg_lt {b : Bool} {r : Nat} (h : regB b r = true) : r < 32 := by
  cases b
  · have := (reg_f r).1 h; omega
  · exact (reg_t r).1 h
set_option maxRecDepth 100000 in
set_option maxHeartbeats 4000000 in
theorem txt_yes (x : In) (h : x.wf) (ho : x.ok = true) (w : World) (hT : Tb w) :
    Calls Tryd.prog 9 #[.agg (inC x)] w fun e w' => e = .returned (.string (str (txtB x))) ∧ Below w.heap.size w w' := by
  unfold inC
  have hE := ency x h ho
  have hF := form_of ho
  have hwd : x.word < 4294967296 := wordN_lt _ _ _ _ _
  have hFm := formOf_any x.word hwd
  rw [hF] at hFm
  obtain ⟨k1, k2, k3, k4, k5, k6⟩ := ok_parts ho
  have l0 := reg_lt k3; have l1 := reg_lt k4; have l2 := reg_lt k5
  have hf8 := form_le x.op k1
  have c0 := reg_any (rdT (formT x.op)) x.rd l0
  have c1 := reg_any (rs1T (formT x.op)) x.rs1 l1
  have c2 := reg_any (rs2T (formT x.op)) x.rs2 l2
  have z0 := reg_len (rdT (formT x.op)) x.rd l0
  have z1 := reg_len (rs1T (formT x.op)) x.rs1 l1
  have z2 := reg_len (rs2T (formT x.op)) x.rs2 l2
  have zn := name_len x.op k1
  have zi : (Lib.itoa x.imm).length ≤ 21 := Lib.itoa_length_le x.imm h.2.2.2.2.1 (by have := h.2.2.2.2.2; omega)
  rw [← str_size] at z0 z1 z2 zn zi
  have hFi := fmt_any x.imm h.2.2.2.2.1 h.2.2.2.2.2
  have hsum : str (txtB x) = str (nameB x.op) ++ str (regT (rdT (formT x.op)) x.rd) ++ str (regT (rs1T (formT x.op)) x.rs1) ++ str (regT (rs2T (formT x.op)) x.rs2) ++ (if immT (formT x.op) then str [32] ++ str (Lib.itoa x.imm) else str []) := by
    rw [str_app, str_app, str_app, str_app]
    unfold txtB
    split
    · rw [str_app]; rfl
    · rw [str_app]
  obtain ⟨s0, hs0⟩ : ∃ s, str (nameB x.op) = s := ⟨_, rfl⟩
  obtain ⟨sd, hsd⟩ : ∃ s, str (regT (rdT (formT x.op)) x.rd) = s := ⟨_, rfl⟩
  obtain ⟨s1, hs1⟩ : ∃ s, str (regT (rs1T (formT x.op)) x.rs1) = s := ⟨_, rfl⟩
  obtain ⟨s2, hs2⟩ : ∃ s, str (regT (rs2T (formT x.op)) x.rs2) = s := ⟨_, rfl⟩
  obtain ⟨si, hsi⟩ : ∃ s, str (Lib.itoa x.imm) = s := ⟨_, rfl⟩
  obtain ⟨sT, hsT⟩ : ∃ s, str (txtB x) = s := ⟨_, rfl⟩
  rw [hs0, hsd, hs1, hs2, hsi, hsT] at hsum
  rw [hsd] at c0 z0; rw [hs1] at c1 z1; rw [hs2] at c2 z2; rw [hs0] at zn; rw [hsi] at zi hFi
  rw [hsT]
  clear hs1 hsd hs2 hsi hsT hF k2 k3 k4 k5 k6
  have hi0 : (0 : Int) ≤ (formT x.op : Int) := by omega
  have hi9 : (formT x.op : Int) < 9 := by omega
  have hj0 : (0 : Int) ≤ (x.op : Int) := by omega
  have hj9 : (x.op : Int) < 35 := by omega
  obtain ⟨hw0, hw1, hw2, hw3, hw4, hw5⟩ := h
  have hTb := fun f (hf : f < 9) => (hT.2.1 f hf)
  obtain ⟨u0, u1, u2, u3⟩ := hTb (formT x.op) (by omega)
  have n0 := hT.2.2.1 x.op k1
  rw [show (⟨(nameB x.op).toArray⟩ : ByteArray) = s0 from hs0] at n0
  clear hs0 hTb
  generalize formT x.op = f at *
  generalize rdT f = t0 at *
  generalize rs1T f = t1 at *
  generalize rs2T f = t2 at *
  generalize immT f = t3 at *
  have gs := World.block_lt_of_cell? w _ u0
  have gn := World.block_lt_of_cell? w _ n0
  simp only at gs gn
  obtain ⟨wa, hwa⟩ : ∃ wa, w.alloc (.cells #[.int .u8 x.op, .int .u8 x.rd, .int .u8 x.rs1, .int .u8 x.rs2, .int .i64 x.imm] 24) = wa := ⟨_, rfl⟩
  have hBa : Below w.heap.size w wa := by rw [← hwa]; exact (Below.refl _ _).alloc (Nat.le_refl _) _
  have hra : rowG #[.int .u8 x.op, .int .u8 x.rd, .int .u8 x.rs1, .int .u8 x.rs2, .int .i64 x.imm] wa w.heap.size := by rw [← hwa]; exact rowG_new _ _ _
  have va0 : wa.cell? ⟨w.heap.size, 0, none⟩ = some (.int .u8 x.op) := hra.1 0 (by simp)
  have va1 : wa.cell? ⟨w.heap.size, 1, none⟩ = some (.int .u8 x.rd) := hra.1 1 (by simp)
  have va2 : wa.cell? ⟨w.heap.size, 2, none⟩ = some (.int .u8 x.rs1) := hra.1 2 (by simp)
  have va3 : wa.cell? ⟨w.heap.size, 3, none⟩ = some (.int .u8 x.rs2) := hra.1 3 (by simp)
  have va4 : wa.cell? ⟨w.heap.size, 4, none⟩ = some (.int .i64 x.imm) := hra.1 4 (by simp)
  have happ : ∀ s : ByteArray, s ++ str [] = s := fun s => by apply ByteArray.ext; simp [str]
  cases t3
  · rw [if_neg (by simp), happ] at hsum
    go_enter Tryd.func9, Tryd.ntmps9
    go_wp2_with (first | (go_at_call 15; (try rw [hwa]); (with_reducible refine (hE _ (hT.of hBa)).mono ?_); rintro e w1 ⟨rfl, hb⟩) | (go_at_call 21; (with_reducible refine (hFm _).mono ?_); (rintro e w2 ⟨rfl, hb2⟩); have hB2 := below_trans' (below_trans' hBa (Nat.le_refl _) hb) (Nat.le_refl _) hb2; have hr2 := rowG_below (rowG_below hra hb hra.2.2) hb2 (Nat.lt_of_lt_of_le hra.2.2 hb.size); have hg2 := hr2.2.2; have v0 : w2.cell? ⟨w.heap.size, 0, none⟩ = some (.int .u8 x.op) := hr2.1 0 (by simp); have v1 : w2.cell? ⟨w.heap.size, 1, none⟩ = some (.int .u8 x.rd) := hr2.1 1 (by simp); have v2 : w2.cell? ⟨w.heap.size, 2, none⟩ = some (.int .u8 x.rs1) := hr2.1 2 (by simp); have v3 : w2.cell? ⟨w.heap.size, 3, none⟩ = some (.int .u8 x.rs2) := hr2.1 3 (by simp); have v4 : w2.cell? ⟨w.heap.size, 4, none⟩ = some (.int .i64 x.imm) := hr2.1 4 (by simp); have y0 := stay hB2 u0; have y1 := stay hB2 u1; have y2 := stay hB2 u2; have y3 := stay hB2 u3; have m0 := stay hB2 n0; have gs2 := Nat.lt_of_lt_of_le gs hB2.size; have gn2 := Nat.lt_of_lt_of_le gn hB2.size))
    go_quiet (first | (go_at_call 22; first | (with_reducible exact Calls.quiet_of_same (c0 _)) | (with_reducible exact Calls.quiet_of_same (c1 _)) | (with_reducible exact Calls.quiet_of_same (c2 _))))
    go_wp2
    go_ret
    exact ⟨by rw [hsum]; rfl, bdN (hB2.alloc hB2.size _) _⟩
  · rw [if_pos rfl] at hsum
    have hlen1 : ¬ 9223372036854775807 < 1 + si.size := by omega
    have hs32 : str [32] = ⟨#[32]⟩ := rfl
    rw [hs32] at hsum
    go_enter Tryd.func9, Tryd.ntmps9
    go_wp2_with (first | (go_at_call 15; (try rw [hwa]); (with_reducible refine (hE _ (hT.of hBa)).mono ?_); rintro e w1 ⟨rfl, hb⟩) | (go_at_call 21; (with_reducible refine (hFm _).mono ?_); (rintro e w2 ⟨rfl, hb2⟩); have hB2 := below_trans' (below_trans' hBa (Nat.le_refl _) hb) (Nat.le_refl _) hb2; have hr2 := rowG_below (rowG_below hra hb hra.2.2) hb2 (Nat.lt_of_lt_of_le hra.2.2 hb.size); have hg2 := hr2.2.2; have v0 : w2.cell? ⟨w.heap.size, 0, none⟩ = some (.int .u8 x.op) := hr2.1 0 (by simp); have v1 : w2.cell? ⟨w.heap.size, 1, none⟩ = some (.int .u8 x.rd) := hr2.1 1 (by simp); have v2 : w2.cell? ⟨w.heap.size, 2, none⟩ = some (.int .u8 x.rs1) := hr2.1 2 (by simp); have v3 : w2.cell? ⟨w.heap.size, 3, none⟩ = some (.int .u8 x.rs2) := hr2.1 3 (by simp); have v4 : w2.cell? ⟨w.heap.size, 4, none⟩ = some (.int .i64 x.imm) := hr2.1 4 (by simp); have y0 := stay hB2 u0; have y1 := stay hB2 u1; have y2 := stay hB2 u2; have y3 := stay hB2 u3; have m0 := stay hB2 n0; have gs2 := Nat.lt_of_lt_of_le gs hB2.size; have gn2 := Nat.lt_of_lt_of_le gn hB2.size))
    go_quiet (first | (go_at_call 22; first | (with_reducible exact Calls.quiet_of_same (c0 _)) | (with_reducible exact Calls.quiet_of_same (c1 _)) | (with_reducible exact Calls.quiet_of_same (c2 _))))
    go_wp2_with (go_at_call 23; (with_reducible refine (hFi _ (((hT.of hB2).alloc _).drewN _).pow).mono ?_); rintro e w5 ⟨rfl, hb5⟩)
    go_ret
    exact ⟨by rw [hsum]; rfl, below_trans' (bdN (hB2.alloc hB2.size _) _) (Nat.le_refl _) hb5⟩
end Go.Proofs.YtjkagpmepokihaaDoor
