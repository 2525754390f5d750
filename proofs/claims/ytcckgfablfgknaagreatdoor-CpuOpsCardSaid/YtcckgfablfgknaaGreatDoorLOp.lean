/- What is proved: CpuOps returns true for any numbers, which stay as they were (its own card). Conditions: none beyond the row's own; the laid tables are tied to the program's text. -/
import Derived.Test.YtcckgfablfgknaaGreatDoorRc
import Derived.Test.YtcckgfablfgknaaGreatDoorCards
import Derived.Test.YtcckgfablfgknaaGreatDoorTie
import Derived.SevenTiedAt
namespace Go.Proofs.YtcckgfablfgknaaGreatDoor.cpuOps
open Go.Proofs.YtcckgfablfgknaaGreatDoor.m4
open Go.ChangeShapes Go.WideShapes Go.ChangeAt Go.RowKit
set_option linter.unusedVariables false
def xi (op to : Nat) (k : Int) : List In := [⟨op, to, 5, 6, 0⟩, ⟨17, 7, 5, 0, k⟩, ⟨15, 0, 0, 0, 5⟩]
def xr (a b : Nat) : List Ce := [⟨5, a, false⟩, ⟨6, b, true⟩]
def xs (p q : Option Addr) (op to a b : Nat) (k : Int) : Su := ⟨p, 3, xi op to k, q, 2, xr a b, none, 0, []⟩
theorem ok_two : ∀ op < 15, 1 ≤ op → ∀ to < 32, (⟨op, to, 5, 6, 0⟩ : In).ok = true := by decide +kernel
theorem ok_num (k : Int) (h1 : -2048 < k) (h2 : k < 2048) : (⟨17, 7, 5, 0, k⟩ : In).ok = true := by
  unfold In.ok okB
  simp only [show formT 17 = 2 from rfl]
  unfold takesB
  rw [(imm2 k).2 ⟨by omega, by omega⟩]
  rfl
theorem ok_add : (⟨15, 0, 0, 0, 5⟩ : In).ok = true := by decide
/-- What the three steps leave. -/
structure Od (s0 s1 s2 s3 : Ms) (op to a b : Nat) (k : Int) : Prop where
  f1 : stF (rgs 3) s0 = (0, s1)
  f2 : stF (rgs 3) s1 = (0, s2)
  f3 : stF (rgs 3) s2 = (0, s3)
  v1 : s1.rv to = if to = 0 then 0 else opv op a b
  u1 : s1.rt to = decide (to ≠ 0)
  p1 : s1.pc = 4100
  v2 : s2.rv 7 = s1.rv 5 ^^^ uw k
  u2 : s2.rt 7 = decide (to = 5)
  w2 : s2.rv 5 = s1.rv 5
  w1 : to ≠ 5 → s1.rv 5 = a
  v3 : s3.rv 0 = 0
  u3 : s3.rt 0 = false
theorem exTD (l : List Rg) (s : Ms) (op to : Nat) (h : 1 ≤ op ∧ op ≤ 14) : ∃ n, exF l s ⟨op, to, 5, 6, 0⟩ = ⟨0, (s.lay to (opv op (s.rv 5) (s.rv 6)) (s.rt 5 || s.rt 6)).go s.nx, n⟩ := by
  unfold exF
  by_cases h1 : op ≤ 12
  · rw [if_pos h1]; exact ⟨_, rfl⟩
  · rw [if_neg h1, if_pos (show (⟨op, to, 5, 6, 0⟩ : In).op ≤ 14 from h.2)]; exact ⟨_, rfl⟩
theorem steps (p q : Option Addr) (op to a b : Nat) (k : Int) (ho : 1 ≤ op ∧ op ≤ 14) (ht : to < 32) (h1 : -2048 < k) (h2 : k < 2048) : ∃ s1 s2 s3, Od (xs p q op to a b k).ms s1 s2 s3 op to a b k := by
  have hf := fun bv hb j hj => fetch_at (xs p q op to a b k) (by show 3 ≤ 200; omega) bv hb j hj
  have hc := ms_code (xs p q op to a b k) (by show 3 ≤ 200; omega)
  obtain ⟨s0, hs0⟩ : ∃ s0, (xs p q op to a b k).ms = s0 := ⟨_, rfl⟩
  have a1 : s0.rv 5 = a := by rw [← hs0]; rfl
  have a2 : s0.rv 6 = b := by rw [← hs0]; rfl
  have a3 : s0.rt 5 = false := by rw [← hs0]; rfl
  have a4 : s0.rt 6 = true := by rw [← hs0]; rfl
  have a5 : s0.rv 0 = 0 := by rw [← hs0]; rfl
  have a6 : s0.rt 0 = false := by rw [← hs0]; rfl
  have a7 : s0.pc = 4096 := by rw [← hs0]; rfl
  have a8 : s0.tr = [] := by rw [← hs0]; rfl
  have a9 : s0.ov = false := by rw [← hs0]; rfl
  rw [hs0] at hc ⊢
  clear hs0
  obtain ⟨n1, hn1⟩ := exTD (rgs 3) s0 op to ho
  obtain ⟨s1, hs1⟩ : ∃ s1, ((s0.lay to (opv op (s0.rv 5) (s0.rv 6)) (s0.rt 5 || s0.rt 6)).go s0.nx).seen n1 = s1 := ⟨_, rfl⟩
  have e1 : stF (rgs 3) s0 = (0, s1) := by
    rw [stF_do (y := ⟨op, to, 5, 6, 0⟩) a9 (by rw [a8]; decide) (by rw [a7]; exact hf s0.bv hc 0 (by show 0 < 3; omega)) (ok_two op (by omega) ho.1 to ht)]
    unfold exE
    rw [hn1, if_pos rfl, hs1]
  have b1 : s1.rv = lyV s0.rv to (opv op a b) := by rw [← hs1, ← a1, ← a2]; rfl
  have b2 : s1.rt = lyT s0.rt to true := by rw [← hs1]; show lyT s0.rt to (s0.rt 5 || s0.rt 6) = _; rw [a3, a4]; rfl
  have b3 : s1.pc = 4100 := by rw [← hs1]; show sm s0.pc 4 = 4100; rw [a7]; rfl
  have b4 : s1.bv = s0.bv := by rw [← hs1]; rfl
  have b5 : s1.tr.length = 1 := by rw [← hs1]; show (s0.tr ++ [n1]).length = 1; rw [a8]; rfl
  have b6 : s1.ov = false := by rw [← hs1]; exact a9
  clear hs1 hn1
  obtain ⟨s2, hs2⟩ : ∃ s2, (((s1.lay 7 (opv 6 (s1.rv 5) (uw k)) (s1.rt 5)).go s1.nx).seen s1.sn) = s2 := ⟨_, rfl⟩
  have e2 : stF (rgs 3) s1 = (0, s2) := by
    rw [stF_do (y := ⟨17, 7, 5, 0, k⟩) b6 (by omega) (by rw [b3, b4]; exact hf s0.bv hc 1 (by show 1 < 3; omega)) (ok_num k h1 h2), ← hs2]
    rfl
  have c1 : s2.rv = lyV s1.rv 7 (opv 6 (s1.rv 5) (uw k)) := by rw [← hs2]; rfl
  have c2 : s2.rt = lyT s1.rt 7 (s1.rt 5) := by rw [← hs2]; rfl
  have c3 : s2.pc = 4104 := by rw [← hs2]; show sm s1.pc 4 = 4104; rw [b3]; rfl
  have c4 : s2.bv = s0.bv := by rw [← hs2]; exact b4
  have c5 : s2.tr.length = 2 := by rw [← hs2]; show (s1.tr ++ [s1.sn]).length = 2; rw [List.length_append, b5]; rfl
  have c6 : s2.ov = false := by rw [← hs2]; exact b6
  clear hs2
  obtain ⟨s3, hs3⟩ : ∃ s3, (((s2.lay 0 (opv 1 (s2.rv 0) (uw 5)) (s2.rt 0)).go s2.nx).seen s2.sn) = s3 := ⟨_, rfl⟩
  have e3 : stF (rgs 3) s2 = (0, s3) := by
    rw [stF_do (y := ⟨15, 0, 0, 0, 5⟩) c6 (by omega) (by rw [c3, c4]; exact hf s0.bv hc 2 (by show 2 < 3; omega)) ok_add, ← hs3]
    rfl
  have r0 : s1.rv 0 = 0 := by rw [b1]; exact lyV_0 a5
  have r1 : s1.rt 0 = false := by rw [b2]; exact lyT_0 a6
  refine ⟨s1, s2, s3, e1, e2, e3, ?_, ?_, b3, ?_, ?_, ?_, ?_, ?_, ?_⟩
  · rw [b1]; unfold lyV
    by_cases h : to = 0
    · rw [if_pos h, if_pos h, h, a5]
    · rw [if_neg h, if_neg h, up1_at]
  · rw [b2]; unfold lyT
    by_cases h : to = 0
    · rw [if_pos h, h, a6]; rfl
    · rw [if_neg h, up1_at]; simp [h]
  · rw [c1, ← opv_6]; rfl
  · rw [c2]
    show s1.rt 5 = _
    rw [b2]; unfold lyT
    by_cases h : to = 0
    · rw [if_pos h, a3, h]; rfl
    · rw [if_neg h]; unfold up1
      by_cases h5 : 5 = to
      · rw [if_pos h5]; simp [h5]
      · rw [if_neg h5, a3]; simp; omega
  · rw [c1]; rfl
  · intro h
    rw [b1]; unfold lyV
    by_cases h0 : to = 0
    · rw [if_pos h0, a1]
    · rw [if_neg h0, up1_ne _ _ _ (by omega), a1]
  · rw [← hs3]; show s2.rv 0 = 0; rw [c1]; exact lyV_0 r0
  · rw [← hs3]; show s2.rt 0 = false; rw [c2]; exact lyT_0 r1
theorem builtO (op to a b : Nat) (ti k : Int) (hti : ti = (to : Nat)) (ho : op ≤ 14) (ht : to < 32) (ha : a < 18446744073709551616) (hb : b < 18446744073709551616) (hk : -2048 < k ∧ k < 2048) (w : World) (ob : Obj) : Calls Tryz.prog 10 #[.agg #[.slice (some ⟨w.heap.size, 0, none⟩) 3 3, .slice (some ⟨w.heap.size + 1, 0, none⟩) 2 2, .slice none 0 0]] (((w.alloc (.cells #[.int .u8 (op : Nat), .int .u8 ti, .int .u8 5, .int .u8 6, .int .i64 0, .int .u8 17, .int .u8 7, .int .u8 5, .int .u8 0, .int .i64 k, .int .u8 15, .int .u8 0, .int .u8 0, .int .u8 0, .int .i64 5] 68)).alloc (.cells #[.int .u8 5, .int .u64 (a : Nat), .bool false, .int .u8 6, .int .u64 (b : Nat), .bool true] 70)).alloc ob) (BxP (((w.alloc (.cells #[.int .u8 (op : Nat), .int .u8 ti, .int .u8 5, .int .u8 6, .int .i64 0, .int .u8 17, .int .u8 7, .int .u8 5, .int .u8 0, .int .i64 k, .int .u8 15, .int .u8 0, .int .u8 0, .int .u8 0, .int .i64 5] 68)).alloc (.cells #[.int .u8 5, .int .u64 (a : Nat), .bool false, .int .u8 6, .int .u64 (b : Nat), .bool true] 70)).alloc ob) 3 (xs (some ⟨w.heap.size, 0, none⟩) (some ⟨w.heap.size + 1, 0, none⟩) op to a b k).ms) := by
  subst hti
  have hc := fun k' => nwc w #[.int .u8 (op : Nat), .int .u8 (to : Nat), .int .u8 5, .int .u8 6, .int .i64 0, .int .u8 17, .int .u8 7, .int .u8 5, .int .u8 0, .int .i64 k, .int .u8 15, .int .u8 0, .int .u8 0, .int .u8 0, .int .i64 5] 68 k'
  have hs : (w.alloc (.cells #[.int .u8 (op : Nat), .int .u8 (to : Nat), .int .u8 5, .int .u8 6, .int .i64 0, .int .u8 17, .int .u8 7, .int .u8 5, .int .u8 0, .int .i64 k, .int .u8 15, .int .u8 0, .int .u8 0, .int .u8 0, .int .i64 5] 68)).heap.size = w.heap.size + 1 := by rw [World.size_alloc]
  have hr := fun k' => nwc (w.alloc (.cells #[.int .u8 (op : Nat), .int .u8 (to : Nat), .int .u8 5, .int .u8 6, .int .i64 0, .int .u8 17, .int .u8 7, .int .u8 5, .int .u8 0, .int .i64 k, .int .u8 15, .int .u8 0, .int .u8 0, .int .u8 0, .int .i64 5] 68)) #[.int .u8 5, .int .u64 (a : Nat), .bool false, .int .u8 6, .int .u64 (b : Nat), .bool true] 70 k'
  rw [hs] at hr
  refine built_cx (xs (some ⟨w.heap.size, 0, none⟩) (some ⟨w.heap.size + 1, 0, none⟩) op to a b k) ⟨by show 3 ≤ 200; omega, by show 2 ≤ 100; omega, by show 0 ≤ 600; omega⟩ _ ⟨fun i hi => ⟨_, 0, rfl, ?_⟩, fun i hi => ⟨_, 0, rfl, ?_⟩, fun i hi => absurd hi (Nat.not_lt_zero _), fun i => ?_, fun i => ?_, fun i => (by show (0 : Nat) < 256 ∧ (0 : Nat) < 18446744073709551616; omega)⟩
  · refine inAt5.of (w := w.alloc (.cells #[.int .u8 (op : Nat), .int .u8 (to : Nat), .int .u8 5, .int .u8 6, .int .i64 0, .int .u8 17, .int .u8 7, .int .u8 5, .int .u8 0, .int .i64 k, .int .u8 15, .int .u8 0, .int .u8 0, .int .u8 0, .int .i64 5] 68)) ?_ (aBelow (aBelow (Below.refl _ _) _) _)
    have hi5 : i < 3 := hi
    have hcs : i = 0 ∨ i = 1 ∨ i = 2 := by omega
    rcases hcs with rfl | rfl | rfl
    · exact ⟨hc 0, hc 1, hc 2, hc 3, hc 4⟩
    · exact ⟨hc 5, hc 6, hc 7, hc 8, hc 9⟩
    · exact ⟨hc 10, hc 11, hc 12, hc 13, hc 14⟩
  · refine ceAt.of (w := (w.alloc (.cells #[.int .u8 (op : Nat), .int .u8 (to : Nat), .int .u8 5, .int .u8 6, .int .i64 0, .int .u8 17, .int .u8 7, .int .u8 5, .int .u8 0, .int .i64 k, .int .u8 15, .int .u8 0, .int .u8 0, .int .u8 0, .int .i64 5] 68)).alloc (.cells #[.int .u8 5, .int .u64 (a : Nat), .bool false, .int .u8 6, .int .u64 (b : Nat), .bool true] 70)) ?_ (aBelow (Below.refl _ _) _)
    have hi5 : i < 2 := hi
    have hcs : i = 0 ∨ i = 1 := by omega
    rcases hcs with rfl | rfl
    · exact ⟨hr 0, hr 1, hr 2⟩
    · exact ⟨hr 3, hr 4, hr 5⟩
  · match i with
    | 0 => exact ⟨by show op < 256; omega, by show to < 256; omega, by show (5 : Nat) < 256; omega, by show (6 : Nat) < 256; omega, by show -9223372036854775808 ≤ (0 : Int); omega, by show (0 : Int) < 9223372036854775808; omega⟩
    | 1 => exact ⟨by show (17 : Nat) < 256; omega, by show (7 : Nat) < 256; omega, by show (5 : Nat) < 256; omega, by show (0 : Nat) < 256; omega, by show -9223372036854775808 ≤ k; omega, by show k < 9223372036854775808; omega⟩
    | 2 => exact ⟨by show (15 : Nat) < 256; omega, by show (0 : Nat) < 256; omega, by show (0 : Nat) < 256; omega, by show (0 : Nat) < 256; omega, by show -9223372036854775808 ≤ (5 : Int); omega, by show (5 : Int) < 9223372036854775808; omega⟩
    | j + 3 => exact In0_wf
  · match i with
    | 0 => exact ⟨by show (5 : Nat) < 256; omega, ha⟩
    | 1 => exact ⟨by show (6 : Nat) < 256; omega, hb⟩
    | j + 2 => exact ⟨by show (0 : Nat) < 256; omega, by show (0 : Nat) < 18446744073709551616; omega⟩
set_option maxRecDepth 100000 in
set_option maxHeartbeats 8000000 in
theorem walk_0 (fn a b rd op : Nat) (i k : Int) (ha : a < 18446744073709551616) (hb : b < 18446744073709551616) (hi : -32768 ≤ i ∧ i < 32768) (hop : (fn : Int).tmod 14 = ((op : Nat) : Int) - 1) (o1 : 1 ≤ op) (o2 : op ≤ 14) (hto : (rd : Int).tmod 32 = 0) (t1 : 0 < 32) (hk : i.tmod 2048 = k) (k1 : -2048 < k) (k2 : k < 2048) (hrd : rd < 256) (hfn : fn < 256) (w : World) (hT : Tb w) : Calls Tryz.prog 6 #[.int .u8 fn, .int .u64 a, .int .u64 b, .int .u8 rd, .int .i16 i] w fun e w' => e = .returned (.bool true) ∧ Below w.heap.size w w' := by
  have e1 : (1 : Int) + ((op : Int) - 1) = (op : Int) := by omega
  obtain ⟨s1, s2, s3, hO⟩ := steps (some ⟨w.heap.size, 0, none⟩) (some ⟨w.heap.size + 1, 0, none⟩) op 0 a b k ⟨o1, o2⟩ t1 k1 k2
  have hBt := fun ob => builtO op 0 a b (0) k rfl o2 t1 ha hb ⟨k1, k2⟩ w ob
  obtain ⟨s0, hs0⟩ : ∃ s0, (xs (some ⟨w.heap.size, 0, none⟩) (some ⟨w.heap.size + 1, 0, none⟩) op 0 a b k).ms = s0 := ⟨_, rfl⟩
  rw [hs0] at hO hBt
  clear hs0
  have hopw := fun w' => (wop_any op a b (by omega) ha hb w').mono (R' := fun e w'' => e = .returned (.tuple #[.int .u64 (opv op a b : Nat), .int .i64 0]) ∧ Below w'.heap.size w' w'') fun e w'' ⟨he, hb⟩ => ⟨by rw [he, show ope op = 0 from if_pos ⟨o1, o2⟩]; rfl, hb⟩
  have hol := opv_lt op a b ha hb
  have hBb : Below w.heap.size w (((w.alloc (.cells #[.int .u8 (op : Nat), .int .u8 0, .int .u8 5, .int .u8 6, .int .i64 0, .int .u8 17, .int .u8 7, .int .u8 5, .int .u8 0, .int .i64 k, .int .u8 15, .int .u8 0, .int .u8 0, .int .u8 0, .int .i64 5] 68)).alloc (.cells #[.int .u8 5, .int .u64 (a : Nat), .bool false, .int .u8 6, .int .u64 (b : Nat), .bool true] 70)).alloc (.cells #[.slice (some ⟨w.heap.size, 0, none⟩) 3 3, .slice (some ⟨w.heap.size + 1, 0, none⟩) 2 2, .slice none 0 0] 25)) := aBelow (aBelow (aBelow (Below.refl _ _) _) _) _
  have hz2 : ((w.alloc (.cells #[.int .u8 (op : Nat), .int .u8 0, .int .u8 5, .int .u8 6, .int .i64 0, .int .u8 17, .int .u8 7, .int .u8 5, .int .u8 0, .int .i64 k, .int .u8 15, .int .u8 0, .int .u8 0, .int .u8 0, .int .i64 5] 68)).alloc (.cells #[.int .u8 5, .int .u64 (a : Nat), .bool false, .int .u8 6, .int .u64 (b : Nat), .bool true] 70)).heap.size = w.heap.size + 1 + 1 := by simp
  have hbox := fun o => nwc ((w.alloc (.cells #[.int .u8 (op : Nat), .int .u8 0, .int .u8 5, .int .u8 6, .int .i64 0, .int .u8 17, .int .u8 7, .int .u8 5, .int .u8 0, .int .i64 k, .int .u8 15, .int .u8 0, .int .u8 0, .int .u8 0, .int .i64 5] 68)).alloc (.cells #[.int .u8 5, .int .u64 (a : Nat), .bool false, .int .u8 6, .int .u64 (b : Nat), .bool true] 70)) #[.slice (some ⟨w.heap.size, 0, none⟩) 3 3, .slice (some ⟨w.heap.size + 1, 0, none⟩) 2 2, .slice none 0 0] 25 o
  rw [hz2] at hbox
  have g0 := hbox 0
  have hrow : ∀ o u, #[.int .u8 (op : Nat), .int .u8 0, .int .u8 5, .int .u8 6, .int .i64 0, .int .u8 17, .int .u8 7, .int .u8 5, .int .u8 0, .int .i64 k, .int .u8 15, .int .u8 0, .int .u8 0, .int .u8 0, .int .i64 5][o]? = some u → (((w.alloc (.cells #[.int .u8 (op : Nat), .int .u8 0, .int .u8 5, .int .u8 6, .int .i64 0, .int .u8 17, .int .u8 7, .int .u8 5, .int .u8 0, .int .i64 k, .int .u8 15, .int .u8 0, .int .u8 0, .int .u8 0, .int .i64 5] 68)).alloc (.cells #[.int .u8 5, .int .u64 (a : Nat), .bool false, .int .u8 6, .int .u64 (b : Nat), .bool true] 70)).alloc (.cells #[.slice (some ⟨w.heap.size, 0, none⟩) 3 3, .slice (some ⟨w.heap.size + 1, 0, none⟩) 2 2, .slice none 0 0] 25)).cell? ⟨w.heap.size, o, none⟩ = some u := fun o u hu => stay (aBelow (aBelow (Below.refl _ _) _) _) ((nwc w #[.int .u8 (op : Nat), .int .u8 0, .int .u8 5, .int .u8 6, .int .i64 0, .int .u8 17, .int .u8 7, .int .u8 5, .int .u8 0, .int .i64 k, .int .u8 15, .int .u8 0, .int .u8 0, .int .u8 0, .int .i64 5] 68 o).trans hu)
  have g5 := hrow 5 _ rfl
  have g6 := hrow 6 _ rfl
  have g7 := hrow 7 _ rfl
  have g8 := hrow 8 _ rfl
  have g9 := hrow 9 _ rfl
  have hBt := hBt (.cells #[.slice (some ⟨w.heap.size, 0, none⟩) 3 3, .slice (some ⟨w.heap.size + 1, 0, none⟩) 2 2, .slice none 0 0] 25)
  have hV1 := hO.v1
  have hU1 := hO.u1
  have hP1 := hO.p1
  have hV2 := hO.v2
  have hU2 := hO.u2
  have hW2 := hO.w2
  have hV3 := hO.v3
  have hU3 := hO.u3
  have hf1 := hO.f1
  have hf2 := hO.f2
  have hf3 := hO.f3
  rw [if_pos rfl] at hV1
  have hU1 : s1.rt 0 = false := hU1
  have hU2 : s2.rt 7 = false := hU2
  have hW1 := hO.w1 (by omega)
  rw [hW1] at hV2 hW2
  have hx := bits_xor_u64_nat (a) (uw k) (by first | exact ha | exact hol) (uw_lt k)
  have hu := uw_wrap k
  have hEn : ∀ w', Tb w' → Calls Tryz.prog 29 #[.agg #[.int .u8 17, .int .u8 7, .int .u8 5, .int .u8 0, .int .i64 k]] w' fun e w'' => e = .returned (.tuple #[.int .u32 ((⟨17, 7, 5, 0, k⟩ : In).word : Nat), .int .i64 0]) ∧ Below w'.heap.size w' w'' := fun w' hT => ency ⟨17, 7, 5, 0, k⟩ ⟨by show (17 : Nat) < 256; omega, by show (7 : Nat) < 256; omega, by show (5 : Nat) < 256; omega, by show (0 : Nat) < 256; omega, by show -9223372036854775808 ≤ k; omega, by show k < 9223372036854775808; omega⟩ (ok_num k k1 k2) w' hT
  clear hrow hbox hz2 hO
  go_enter Tryz.func6, Tryz.ntmps6
  go_wp2_with (first
    | (go_at_call 10; (with_reducible refine hBt.mono ?_); (rintro e w1 ⟨M, rfl, hl, hC, hA⟩); have hS := step_cx (hT.of hBb) hC; rw [hl, hf1] at hS)
    | (go_at_call 12; (with_reducible refine hS.mono ?_); (rintro e w2 ⟨M1, hn1, rfl, hC1, hO1⟩); have hRg := reg_any hC1.c 0 t1; rw [hn1.1, hV1, hU1] at hRg; rw [show ((0 : Nat) : Int) = 0 from rfl] at hRg)
    | (go_at_call 27; (with_reducible refine hRg.mono ?_); (rintro e w3 ⟨rfl, hb3⟩); have hC3 := hC1.of hb3)
    | (go_at_call 28; (with_reducible refine (hopw _).mono ?_); (rintro e w4 ⟨rfl, hb4⟩); have hC4 := hC3.of hb4; have hPc := pc_any hC4.c; rw [hn1.1, hP1, show ((4100 : Nat) : Int) = 4100 from rfl] at hPc)
    | (go_at_call 18; (with_reducible refine hPc.mono ?_); (rintro e w5 ⟨rfl, rfl⟩); have g0 := stay hC4.b g0; have g5 := stay hC4.b g5; have g6 := stay hC4.b g6; have g7 := stay hC4.b g7; have g8 := stay hC4.b g8; have g9 := stay hC4.b g9; have hB4 := below_trans' hBb (Nat.le_refl _) hC4.b; have hEw := hEn _ (hT.of hB4))
    | (go_at_call 29; (with_reducible refine hEw.mono ?_); (rintro e w6 ⟨rfl, hb6⟩); have hC6 := hC4.of hb6; have hS2 := step_cx (hT.of hBb) hC6; rw [hn1.2.1, hl, hf2, hn1.1] at hS2)
    | (go_at_call 12; (with_reducible refine hS2.mono ?_); (rintro e w7 ⟨M2, hn2, rfl, hC7, hO7⟩); have hR7 := reg_any hC7.c 7 (by omega); rw [hn2.1, hn1.1, hV2, hU2, show ((7 : Nat) : Int) = 7 from rfl] at hR7)
    | (go_at_call 27; (with_reducible refine hR7.mono ?_); (rintro e w8 ⟨rfl, hb8⟩); have hC8 := hC7.of hb8; have hR5 := reg_any hC8.c 5 (by omega); rw [hn2.1, hn1.1, hW2, show ((5 : Nat) : Int) = 5 from rfl] at hR5)
    | (go_at_call 27; (with_reducible refine hR5.mono ?_); (rintro e w9 ⟨rfl, hb9⟩); have hC9 := hC8.of hb9; have hS3 := step_cx (hT.of hBb) hC9; rw [hn2.2.1, hn1.2.1, hl, hf3, hn2.1, hn1.1] at hS3)
    | (go_at_call 12; (with_reducible refine hS3.mono ?_); (rintro e w10 ⟨M3, hn3, rfl, hC10, hO10⟩); have hR0 := reg_any hC10.c 0 (by omega); rw [hn3.1, hn2.1, hn1.1, hV3, hU3, show ((0 : Nat) : Int) = 0 from rfl] at hR0)
    | (go_at_call 27; (with_reducible refine hR0.mono ?_); (rintro e w11 ⟨rfl, hb11⟩); have hC11 := hC10.of hb11; have hB11 := below_trans' hBb (Nat.le_refl _) hC11.b; have hAl := alive_any _ (hT.of hB11))
    | (go_at_call 9; (with_reducible refine hAl.mono ?_); (rintro e w12 ⟨rfl, hb12⟩)))
  go_ret
  exact ⟨rfl, below_trans' hB11 (Nat.le_refl _) hb12⟩
set_option maxRecDepth 100000 in
set_option maxHeartbeats 8000000 in
theorem walk_5 (fn a b rd op : Nat) (i k : Int) (ha : a < 18446744073709551616) (hb : b < 18446744073709551616) (hi : -32768 ≤ i ∧ i < 32768) (hop : (fn : Int).tmod 14 = ((op : Nat) : Int) - 1) (o1 : 1 ≤ op) (o2 : op ≤ 14) (hto : (rd : Int).tmod 32 = 5) (t1 : 5 < 32) (hk : i.tmod 2048 = k) (k1 : -2048 < k) (k2 : k < 2048) (hrd : rd < 256) (hfn : fn < 256) (w : World) (hT : Tb w) : Calls Tryz.prog 6 #[.int .u8 fn, .int .u64 a, .int .u64 b, .int .u8 rd, .int .i16 i] w fun e w' => e = .returned (.bool true) ∧ Below w.heap.size w w' := by
  have e1 : (1 : Int) + ((op : Int) - 1) = (op : Int) := by omega
  obtain ⟨s1, s2, s3, hO⟩ := steps (some ⟨w.heap.size, 0, none⟩) (some ⟨w.heap.size + 1, 0, none⟩) op 5 a b k ⟨o1, o2⟩ t1 k1 k2
  have hBt := fun ob => builtO op 5 a b (5) k rfl o2 t1 ha hb ⟨k1, k2⟩ w ob
  obtain ⟨s0, hs0⟩ : ∃ s0, (xs (some ⟨w.heap.size, 0, none⟩) (some ⟨w.heap.size + 1, 0, none⟩) op 5 a b k).ms = s0 := ⟨_, rfl⟩
  rw [hs0] at hO hBt
  clear hs0
  have hopw := fun w' => (wop_any op a b (by omega) ha hb w').mono (R' := fun e w'' => e = .returned (.tuple #[.int .u64 (opv op a b : Nat), .int .i64 0]) ∧ Below w'.heap.size w' w'') fun e w'' ⟨he, hb⟩ => ⟨by rw [he, show ope op = 0 from if_pos ⟨o1, o2⟩]; rfl, hb⟩
  have hol := opv_lt op a b ha hb
  have hBb : Below w.heap.size w (((w.alloc (.cells #[.int .u8 (op : Nat), .int .u8 5, .int .u8 5, .int .u8 6, .int .i64 0, .int .u8 17, .int .u8 7, .int .u8 5, .int .u8 0, .int .i64 k, .int .u8 15, .int .u8 0, .int .u8 0, .int .u8 0, .int .i64 5] 68)).alloc (.cells #[.int .u8 5, .int .u64 (a : Nat), .bool false, .int .u8 6, .int .u64 (b : Nat), .bool true] 70)).alloc (.cells #[.slice (some ⟨w.heap.size, 0, none⟩) 3 3, .slice (some ⟨w.heap.size + 1, 0, none⟩) 2 2, .slice none 0 0] 25)) := aBelow (aBelow (aBelow (Below.refl _ _) _) _) _
  have hz2 : ((w.alloc (.cells #[.int .u8 (op : Nat), .int .u8 5, .int .u8 5, .int .u8 6, .int .i64 0, .int .u8 17, .int .u8 7, .int .u8 5, .int .u8 0, .int .i64 k, .int .u8 15, .int .u8 0, .int .u8 0, .int .u8 0, .int .i64 5] 68)).alloc (.cells #[.int .u8 5, .int .u64 (a : Nat), .bool false, .int .u8 6, .int .u64 (b : Nat), .bool true] 70)).heap.size = w.heap.size + 1 + 1 := by simp
  have hbox := fun o => nwc ((w.alloc (.cells #[.int .u8 (op : Nat), .int .u8 5, .int .u8 5, .int .u8 6, .int .i64 0, .int .u8 17, .int .u8 7, .int .u8 5, .int .u8 0, .int .i64 k, .int .u8 15, .int .u8 0, .int .u8 0, .int .u8 0, .int .i64 5] 68)).alloc (.cells #[.int .u8 5, .int .u64 (a : Nat), .bool false, .int .u8 6, .int .u64 (b : Nat), .bool true] 70)) #[.slice (some ⟨w.heap.size, 0, none⟩) 3 3, .slice (some ⟨w.heap.size + 1, 0, none⟩) 2 2, .slice none 0 0] 25 o
  rw [hz2] at hbox
  have g0 := hbox 0
  have hrow : ∀ o u, #[.int .u8 (op : Nat), .int .u8 5, .int .u8 5, .int .u8 6, .int .i64 0, .int .u8 17, .int .u8 7, .int .u8 5, .int .u8 0, .int .i64 k, .int .u8 15, .int .u8 0, .int .u8 0, .int .u8 0, .int .i64 5][o]? = some u → (((w.alloc (.cells #[.int .u8 (op : Nat), .int .u8 5, .int .u8 5, .int .u8 6, .int .i64 0, .int .u8 17, .int .u8 7, .int .u8 5, .int .u8 0, .int .i64 k, .int .u8 15, .int .u8 0, .int .u8 0, .int .u8 0, .int .i64 5] 68)).alloc (.cells #[.int .u8 5, .int .u64 (a : Nat), .bool false, .int .u8 6, .int .u64 (b : Nat), .bool true] 70)).alloc (.cells #[.slice (some ⟨w.heap.size, 0, none⟩) 3 3, .slice (some ⟨w.heap.size + 1, 0, none⟩) 2 2, .slice none 0 0] 25)).cell? ⟨w.heap.size, o, none⟩ = some u := fun o u hu => stay (aBelow (aBelow (Below.refl _ _) _) _) ((nwc w #[.int .u8 (op : Nat), .int .u8 5, .int .u8 5, .int .u8 6, .int .i64 0, .int .u8 17, .int .u8 7, .int .u8 5, .int .u8 0, .int .i64 k, .int .u8 15, .int .u8 0, .int .u8 0, .int .u8 0, .int .i64 5] 68 o).trans hu)
  have g5 := hrow 5 _ rfl
  have g6 := hrow 6 _ rfl
  have g7 := hrow 7 _ rfl
  have g8 := hrow 8 _ rfl
  have g9 := hrow 9 _ rfl
  have hBt := hBt (.cells #[.slice (some ⟨w.heap.size, 0, none⟩) 3 3, .slice (some ⟨w.heap.size + 1, 0, none⟩) 2 2, .slice none 0 0] 25)
  have hV1 := hO.v1
  have hU1 := hO.u1
  have hP1 := hO.p1
  have hV2 := hO.v2
  have hU2 := hO.u2
  have hW2 := hO.w2
  have hV3 := hO.v3
  have hU3 := hO.u3
  have hf1 := hO.f1
  have hf2 := hO.f2
  have hf3 := hO.f3
  rw [if_neg (by omega)] at hV1
  have hU1 : s1.rt 5 = true := hU1
  have hU2 : s2.rt 7 = true := hU2
  rw [hV1] at hV2 hW2
  have hx := bits_xor_u64_nat (opv op a b) (uw k) (by first | exact ha | exact hol) (uw_lt k)
  have hu := uw_wrap k
  have hEn : ∀ w', Tb w' → Calls Tryz.prog 29 #[.agg #[.int .u8 17, .int .u8 7, .int .u8 5, .int .u8 0, .int .i64 k]] w' fun e w'' => e = .returned (.tuple #[.int .u32 ((⟨17, 7, 5, 0, k⟩ : In).word : Nat), .int .i64 0]) ∧ Below w'.heap.size w' w'' := fun w' hT => ency ⟨17, 7, 5, 0, k⟩ ⟨by show (17 : Nat) < 256; omega, by show (7 : Nat) < 256; omega, by show (5 : Nat) < 256; omega, by show (0 : Nat) < 256; omega, by show -9223372036854775808 ≤ k; omega, by show k < 9223372036854775808; omega⟩ (ok_num k k1 k2) w' hT
  clear hrow hbox hz2 hO
  go_enter Tryz.func6, Tryz.ntmps6
  go_wp2_with (first
    | (go_at_call 10; (with_reducible refine hBt.mono ?_); (rintro e w1 ⟨M, rfl, hl, hC, hA⟩); have hS := step_cx (hT.of hBb) hC; rw [hl, hf1] at hS)
    | (go_at_call 12; (with_reducible refine hS.mono ?_); (rintro e w2 ⟨M1, hn1, rfl, hC1, hO1⟩); have hRg := reg_any hC1.c 5 t1; rw [hn1.1, hV1, hU1] at hRg; rw [show ((5 : Nat) : Int) = 5 from rfl] at hRg)
    | (go_at_call 27; (with_reducible refine hRg.mono ?_); (rintro e w3 ⟨rfl, hb3⟩); have hC3 := hC1.of hb3)
    | (go_at_call 28; (with_reducible refine (hopw _).mono ?_); (rintro e w4 ⟨rfl, hb4⟩); have hC4 := hC3.of hb4; have hPc := pc_any hC4.c; rw [hn1.1, hP1, show ((4100 : Nat) : Int) = 4100 from rfl] at hPc)
    | (go_at_call 18; (with_reducible refine hPc.mono ?_); (rintro e w5 ⟨rfl, rfl⟩); have g0 := stay hC4.b g0; have g5 := stay hC4.b g5; have g6 := stay hC4.b g6; have g7 := stay hC4.b g7; have g8 := stay hC4.b g8; have g9 := stay hC4.b g9; have hB4 := below_trans' hBb (Nat.le_refl _) hC4.b; have hEw := hEn _ (hT.of hB4))
    | (go_at_call 29; (with_reducible refine hEw.mono ?_); (rintro e w6 ⟨rfl, hb6⟩); have hC6 := hC4.of hb6; have hS2 := step_cx (hT.of hBb) hC6; rw [hn1.2.1, hl, hf2, hn1.1] at hS2)
    | (go_at_call 12; (with_reducible refine hS2.mono ?_); (rintro e w7 ⟨M2, hn2, rfl, hC7, hO7⟩); have hR7 := reg_any hC7.c 7 (by omega); rw [hn2.1, hn1.1, hV2, hU2, show ((7 : Nat) : Int) = 7 from rfl] at hR7)
    | (go_at_call 27; (with_reducible refine hR7.mono ?_); (rintro e w8 ⟨rfl, hb8⟩); have hC8 := hC7.of hb8; have hR5 := reg_any hC8.c 5 (by omega); rw [hn2.1, hn1.1, hW2, show ((5 : Nat) : Int) = 5 from rfl] at hR5)
    | (go_at_call 27; (with_reducible refine hR5.mono ?_); (rintro e w9 ⟨rfl, hb9⟩); have hC9 := hC8.of hb9; have hS3 := step_cx (hT.of hBb) hC9; rw [hn2.2.1, hn1.2.1, hl, hf3, hn2.1, hn1.1] at hS3)
    | (go_at_call 12; (with_reducible refine hS3.mono ?_); (rintro e w10 ⟨M3, hn3, rfl, hC10, hO10⟩); have hR0 := reg_any hC10.c 0 (by omega); rw [hn3.1, hn2.1, hn1.1, hV3, hU3, show ((0 : Nat) : Int) = 0 from rfl] at hR0)
    | (go_at_call 27; (with_reducible refine hR0.mono ?_); (rintro e w11 ⟨rfl, hb11⟩); have hC11 := hC10.of hb11; have hB11 := below_trans' hBb (Nat.le_refl _) hC11.b; have hAl := alive_any _ (hT.of hB11))
    | (go_at_call 9; (with_reducible refine hAl.mono ?_); (rintro e w12 ⟨rfl, hb12⟩)))
  go_ret
  exact ⟨rfl, below_trans' hB11 (Nat.le_refl _) hb12⟩
set_option maxRecDepth 100000 in
set_option maxHeartbeats 8000000 in
theorem walk_t (fn a b rd op to : Nat) (i k : Int) (ha : a < 18446744073709551616) (hb : b < 18446744073709551616) (hi : -32768 ≤ i ∧ i < 32768) (hop : (fn : Int).tmod 14 = ((op : Nat) : Int) - 1) (o1 : 1 ≤ op) (o2 : op ≤ 14) (hto : (rd : Int).tmod 32 = (to : Int)) (t1 : to < 32) (hk : i.tmod 2048 = k) (k1 : -2048 < k) (k2 : k < 2048) (h0 : to ≠ 0) (h5 : to ≠ 5) (hrd : rd < 256) (hfn : fn < 256) (w : World) (hT : Tb w) : Calls Tryz.prog 6 #[.int .u8 fn, .int .u64 a, .int .u64 b, .int .u8 rd, .int .i16 i] w fun e w' => e = .returned (.bool true) ∧ Below w.heap.size w w' := by
  have e1 : (1 : Int) + ((op : Int) - 1) = (op : Int) := by omega
  obtain ⟨s1, s2, s3, hO⟩ := steps (some ⟨w.heap.size, 0, none⟩) (some ⟨w.heap.size + 1, 0, none⟩) op to a b k ⟨o1, o2⟩ t1 k1 k2
  have hBt := fun ob => builtO op to a b ((to : Int)) k rfl o2 t1 ha hb ⟨k1, k2⟩ w ob
  obtain ⟨s0, hs0⟩ : ∃ s0, (xs (some ⟨w.heap.size, 0, none⟩) (some ⟨w.heap.size + 1, 0, none⟩) op to a b k).ms = s0 := ⟨_, rfl⟩
  rw [hs0] at hO hBt
  clear hs0
  have hopw := fun w' => (wop_any op a b (by omega) ha hb w').mono (R' := fun e w'' => e = .returned (.tuple #[.int .u64 (opv op a b : Nat), .int .i64 0]) ∧ Below w'.heap.size w' w'') fun e w'' ⟨he, hb⟩ => ⟨by rw [he, show ope op = 0 from if_pos ⟨o1, o2⟩]; rfl, hb⟩
  have hol := opv_lt op a b ha hb
  have hBb : Below w.heap.size w (((w.alloc (.cells #[.int .u8 (op : Nat), .int .u8 (to : Int), .int .u8 5, .int .u8 6, .int .i64 0, .int .u8 17, .int .u8 7, .int .u8 5, .int .u8 0, .int .i64 k, .int .u8 15, .int .u8 0, .int .u8 0, .int .u8 0, .int .i64 5] 68)).alloc (.cells #[.int .u8 5, .int .u64 (a : Nat), .bool false, .int .u8 6, .int .u64 (b : Nat), .bool true] 70)).alloc (.cells #[.slice (some ⟨w.heap.size, 0, none⟩) 3 3, .slice (some ⟨w.heap.size + 1, 0, none⟩) 2 2, .slice none 0 0] 25)) := aBelow (aBelow (aBelow (Below.refl _ _) _) _) _
  have hz2 : ((w.alloc (.cells #[.int .u8 (op : Nat), .int .u8 (to : Int), .int .u8 5, .int .u8 6, .int .i64 0, .int .u8 17, .int .u8 7, .int .u8 5, .int .u8 0, .int .i64 k, .int .u8 15, .int .u8 0, .int .u8 0, .int .u8 0, .int .i64 5] 68)).alloc (.cells #[.int .u8 5, .int .u64 (a : Nat), .bool false, .int .u8 6, .int .u64 (b : Nat), .bool true] 70)).heap.size = w.heap.size + 1 + 1 := by simp
  have hbox := fun o => nwc ((w.alloc (.cells #[.int .u8 (op : Nat), .int .u8 (to : Int), .int .u8 5, .int .u8 6, .int .i64 0, .int .u8 17, .int .u8 7, .int .u8 5, .int .u8 0, .int .i64 k, .int .u8 15, .int .u8 0, .int .u8 0, .int .u8 0, .int .i64 5] 68)).alloc (.cells #[.int .u8 5, .int .u64 (a : Nat), .bool false, .int .u8 6, .int .u64 (b : Nat), .bool true] 70)) #[.slice (some ⟨w.heap.size, 0, none⟩) 3 3, .slice (some ⟨w.heap.size + 1, 0, none⟩) 2 2, .slice none 0 0] 25 o
  rw [hz2] at hbox
  have g0 := hbox 0
  have hrow : ∀ o u, #[.int .u8 (op : Nat), .int .u8 (to : Int), .int .u8 5, .int .u8 6, .int .i64 0, .int .u8 17, .int .u8 7, .int .u8 5, .int .u8 0, .int .i64 k, .int .u8 15, .int .u8 0, .int .u8 0, .int .u8 0, .int .i64 5][o]? = some u → (((w.alloc (.cells #[.int .u8 (op : Nat), .int .u8 (to : Int), .int .u8 5, .int .u8 6, .int .i64 0, .int .u8 17, .int .u8 7, .int .u8 5, .int .u8 0, .int .i64 k, .int .u8 15, .int .u8 0, .int .u8 0, .int .u8 0, .int .i64 5] 68)).alloc (.cells #[.int .u8 5, .int .u64 (a : Nat), .bool false, .int .u8 6, .int .u64 (b : Nat), .bool true] 70)).alloc (.cells #[.slice (some ⟨w.heap.size, 0, none⟩) 3 3, .slice (some ⟨w.heap.size + 1, 0, none⟩) 2 2, .slice none 0 0] 25)).cell? ⟨w.heap.size, o, none⟩ = some u := fun o u hu => stay (aBelow (aBelow (Below.refl _ _) _) _) ((nwc w #[.int .u8 (op : Nat), .int .u8 (to : Int), .int .u8 5, .int .u8 6, .int .i64 0, .int .u8 17, .int .u8 7, .int .u8 5, .int .u8 0, .int .i64 k, .int .u8 15, .int .u8 0, .int .u8 0, .int .u8 0, .int .i64 5] 68 o).trans hu)
  have g5 := hrow 5 _ rfl
  have g6 := hrow 6 _ rfl
  have g7 := hrow 7 _ rfl
  have g8 := hrow 8 _ rfl
  have g9 := hrow 9 _ rfl
  have hBt := hBt (.cells #[.slice (some ⟨w.heap.size, 0, none⟩) 3 3, .slice (some ⟨w.heap.size + 1, 0, none⟩) 2 2, .slice none 0 0] 25)
  have hV1 := hO.v1
  have hU1 := hO.u1
  have hP1 := hO.p1
  have hV2 := hO.v2
  have hU2 := hO.u2
  have hW2 := hO.w2
  have hV3 := hO.v3
  have hU3 := hO.u3
  have hf1 := hO.f1
  have hf2 := hO.f2
  have hf3 := hO.f3
  rw [if_neg h0] at hV1
  have hU1 : s1.rt to = true := by rw [hU1]; simp [h0]
  have hU2 : s2.rt 7 = false := by rw [hU2]; simp [h5]
  have hW1 := hO.w1 h5
  rw [hW1] at hV2 hW2
  have n0 : ¬ (to : Int) = 0 := by omega
  have n5 : ¬ (to : Int) = 5 := by omega
  have nb0 : ((to : Int) != 0) = true := by simp [h0]
  have nb5 : ((to : Int) == 5) = false := by simp; omega
  have nb6 : ((to : Int) != 5) = true := by simp; omega
  have nc5 : decide ((to : Int) = 5) = false := by simp; omega
  have hx := bits_xor_u64_nat (a) (uw k) (by first | exact ha | exact hol) (uw_lt k)
  have hu := uw_wrap k
  have hEn : ∀ w', Tb w' → Calls Tryz.prog 29 #[.agg #[.int .u8 17, .int .u8 7, .int .u8 5, .int .u8 0, .int .i64 k]] w' fun e w'' => e = .returned (.tuple #[.int .u32 ((⟨17, 7, 5, 0, k⟩ : In).word : Nat), .int .i64 0]) ∧ Below w'.heap.size w' w'' := fun w' hT => ency ⟨17, 7, 5, 0, k⟩ ⟨by show (17 : Nat) < 256; omega, by show (7 : Nat) < 256; omega, by show (5 : Nat) < 256; omega, by show (0 : Nat) < 256; omega, by show -9223372036854775808 ≤ k; omega, by show k < 9223372036854775808; omega⟩ (ok_num k k1 k2) w' hT
  clear hrow hbox hz2 hO
  go_enter Tryz.func6, Tryz.ntmps6
  go_wp2_with (first
    | (go_at_call 10; (with_reducible refine hBt.mono ?_); (rintro e w1 ⟨M, rfl, hl, hC, hA⟩); have hS := step_cx (hT.of hBb) hC; rw [hl, hf1] at hS)
    | (go_at_call 12; (with_reducible refine hS.mono ?_); (rintro e w2 ⟨M1, hn1, rfl, hC1, hO1⟩); have hRg := reg_any hC1.c to t1; rw [hn1.1, hV1, hU1] at hRg)
    | (go_at_call 27; (with_reducible refine hRg.mono ?_); (rintro e w3 ⟨rfl, hb3⟩); have hC3 := hC1.of hb3)
    | (go_at_call 28; (with_reducible refine (hopw _).mono ?_); (rintro e w4 ⟨rfl, hb4⟩); have hC4 := hC3.of hb4; have hPc := pc_any hC4.c; rw [hn1.1, hP1, show ((4100 : Nat) : Int) = 4100 from rfl] at hPc)
    | (go_at_call 18; (with_reducible refine hPc.mono ?_); (rintro e w5 ⟨rfl, rfl⟩); have g0 := stay hC4.b g0; have g5 := stay hC4.b g5; have g6 := stay hC4.b g6; have g7 := stay hC4.b g7; have g8 := stay hC4.b g8; have g9 := stay hC4.b g9; have hB4 := below_trans' hBb (Nat.le_refl _) hC4.b; have hEw := hEn _ (hT.of hB4))
    | (go_at_call 29; (with_reducible refine hEw.mono ?_); (rintro e w6 ⟨rfl, hb6⟩); have hC6 := hC4.of hb6; have hS2 := step_cx (hT.of hBb) hC6; rw [hn1.2.1, hl, hf2, hn1.1] at hS2)
    | (go_at_call 12; (with_reducible refine hS2.mono ?_); (rintro e w7 ⟨M2, hn2, rfl, hC7, hO7⟩); have hR7 := reg_any hC7.c 7 (by omega); rw [hn2.1, hn1.1, hV2, hU2, show ((7 : Nat) : Int) = 7 from rfl] at hR7)
    | (go_at_call 27; (with_reducible refine hR7.mono ?_); (rintro e w8 ⟨rfl, hb8⟩); have hC8 := hC7.of hb8; have hR5 := reg_any hC8.c 5 (by omega); rw [hn2.1, hn1.1, hW2, show ((5 : Nat) : Int) = 5 from rfl] at hR5)
    | (go_at_call 27; (with_reducible refine hR5.mono ?_); (rintro e w9 ⟨rfl, hb9⟩); have hC9 := hC8.of hb9; have hS3 := step_cx (hT.of hBb) hC9; rw [hn2.2.1, hn1.2.1, hl, hf3, hn2.1, hn1.1] at hS3)
    | (go_at_call 12; (with_reducible refine hS3.mono ?_); (rintro e w10 ⟨M3, hn3, rfl, hC10, hO10⟩); have hR0 := reg_any hC10.c 0 (by omega); rw [hn3.1, hn2.1, hn1.1, hV3, hU3, show ((0 : Nat) : Int) = 0 from rfl] at hR0)
    | (go_at_call 27; (with_reducible refine hR0.mono ?_); (rintro e w11 ⟨rfl, hb11⟩); have hC11 := hC10.of hb11; have hB11 := below_trans' hBb (Nat.le_refl _) hC11.b; have hAl := alive_any _ (hT.of hB11))
    | (go_at_call 9; (with_reducible refine hAl.mono ?_); (rintro e w12 ⟨rfl, hb12⟩)))
  go_ret
  exact ⟨rfl, below_trans' hB11 (Nat.le_refl _) hb12⟩
theorem walkI (m0 : Int) (y0 : (Lit.int .u8 m0).wf = true) (m1 : Int) (y1 : (Lit.int .u64 m1).wf = true) (m2 : Int) (y2 : (Lit.int .u64 m2).wf = true) (m3 : Int) (y3 : (Lit.int .u8 m3).wf = true) (m4 : Int) (y4 : (Lit.int .i16 m4).wf = true) (w : World) (h : Tb w) :
    Calls Tryz.prog 6 #[.int .u8 m0, .int .u64 m1, .int .u64 m2, .int .u8 m3, .int .i16 m4] w fun e w' => e = .returned (.bool true) ∧ Below w.heap.size w w' := by
  have b0 := bounds_u8 y0
  have b1 := bounds_u64 y1
  have b2 := bounds_u64 y2
  have b3 := bounds_u8 y3
  have b4 : -32768 ≤ m4 ∧ m4 < 32768 := by have := bounds_i16 y4; omega
  obtain ⟨fn, rfl⟩ := Int.eq_ofNat_of_zero_le b0.1
  obtain ⟨a, rfl⟩ := Int.eq_ofNat_of_zero_le b1.1
  obtain ⟨b, rfl⟩ := Int.eq_ofNat_of_zero_le b2.1
  obtain ⟨rd, rfl⟩ := Int.eq_ofNat_of_zero_le b3.1
  have ha : a < 18446744073709551616 := by omega
  have hb : b < 18446744073709551616 := by omega
  have hop : (fn : Int).tmod 14 = ((fn % 14 + 1 : Nat) : Int) - 1 := by rw [Int.tmod_eq_emod_of_nonneg (by omega)]; omega
  have k1 : -2048 < m4.tmod 2048 := Int.lt_tmod_of_pos _ (by omega)
  have k2 : m4.tmod 2048 < 2048 := Int.tmod_lt_of_pos _ (by omega)
  by_cases c0 : rd % 32 = 0
  · exact walk_0 fn a b rd (fn % 14 + 1) m4 _ ha hb b4 hop (by omega) (by omega) (by rw [Int.tmod_eq_emod_of_nonneg (by omega)]; omega) (by omega) rfl k1 k2 (by omega) (by omega) w h
  by_cases c5 : rd % 32 = 5
  · exact walk_5 fn a b rd (fn % 14 + 1) m4 _ ha hb b4 hop (by omega) (by omega) (by rw [Int.tmod_eq_emod_of_nonneg (by omega)]; omega) (by omega) rfl k1 k2 (by omega) (by omega) w h
  · exact walk_t fn a b rd (fn % 14 + 1) (rd % 32) m4 _ ha hb b4 hop (by omega) (by omega) (by rw [Int.tmod_eq_emod_of_nonneg (by omega)]; omega) (by omega) rfl k1 k2 c0 c5 (by omega) (by omega) w h
theorem own : ownKnob Tryz.prog.godebug = none := by kernel_rfl
set_option maxRecDepth 100000 in
theorem lifted (os : Os) (started : os.Started) (H : Type) (enc : TypeId × Value → H) :
    ReturnsInHanded {} Tryz.checked os 6 .any (fun w args => (Rows.cpuOpsSpec.pre enc Tryz.prog Tryz.f6 [] false w args ∧ laidMetH Tryz.prog laidAll w) ∧ sizedMet enc Tryz.prog Tryz.f6 (OpenSpec.ofChange Rows.cpuOpsSpec) false w args)
      (Rows.cpuOpsSpec.post enc Tryz.prog Tryz.f6 false true false false) := by
  refine returnsInHanded_of_change_and (C := Tryz.checked) (X := fun w _ => laidMetH Tryz.prog laidAll w) (fun _ _ _ hh h => h.of_heap hh) own started (by kernel_rfl) Tryz.func6
    (ChangeSpec.witness_shaped (enc := enc) (C := Tryz.checked) (os := os) (X := fun w _ => laidMetH Tryz.prog laidAll w) false (World.doorLaid Tryz.prog 400 os) #[.int .u8 0, .int .u64 0, .int .u64 0, .int .u8 0, .int .i16 0] 8 rfl (World.shaped_of_RefB (by kernel_rfl) (by kernel_rfl)) (by kernel_rfl) (by kernel_rfl) (by kernel_rfl) (door_met os _)) ?_
  intro W base args ds gs before hval0 hW _ _ hL _
  have hval : ∀ (j : Nat) t v, Tryz.f6.params[j]? = some t → args[j]? = some v → Value.okWide Tryz.prog W .any base t v := hval0
  have hW' := hW
  obtain ⟨p, q, hA0, hV, rfl, hfz, hnd⟩ := hW
  have hA : DataW.TrodAll enc Tryz.prog W 0 (fun _ => true) true Tryz.f6.params.toList args.toList ds p := hA0
  rw [Tryz.params6] at hA hval
  obtain ⟨v0, vs0, d0, ds0, p0, q0, hargs, rfl, rfl, h0, r0⟩ := trodAll_cons hA
  obtain ⟨v1, vs1, d1, ds1, p1, q1, rfl, rfl, rfl, h1, r1⟩ := trodAll_cons r0
  obtain ⟨v2, vs2, d2, ds2, p2, q2, rfl, rfl, rfl, h2, r2⟩ := trodAll_cons r1
  obtain ⟨v3, vs3, d3, ds3, p3, q3, rfl, rfl, rfl, h3, r3⟩ := trodAll_cons r2
  obtain ⟨v4, vs4, d4, ds4, p4, q4, rfl, rfl, rfl, h4, r4⟩ := trodAll_cons r3
  obtain ⟨rfl, rfl, rfl⟩ := trodAll_nil r4
  obtain rfl : args = #[v0, v1, v2, v3, v4] := by cases args; simp_all
  obtain ⟨rfl, rfl⟩ := trodVars_none hV
  obtain ⟨m0, rfl, rfl, rfl, y0⟩ := open_int Tryz.underlying5 (hval 0 5 v0 rfl rfl) h0
  obtain ⟨m1, rfl, rfl, rfl, y1⟩ := open_int Tryz.underlying39 (hval 1 39 v1 rfl rfl) h1
  obtain ⟨m2, rfl, rfl, rfl, y2⟩ := open_int Tryz.underlying39 (hval 2 39 v2 rfl rfl) h2
  obtain ⟨m3, rfl, rfl, rfl, y3⟩ := open_int Tryz.underlying5 (hval 3 5 v3 rfl rfl) h3
  obtain ⟨m4, rfl, rfl, rfl, y4⟩ := open_int Tryz.underlying66 (hval 4 66 v4 rfl rfl) h4
  clear hA0 hval0
  simp only [List.append_nil] at hW'
  refine (walkI m0 y0 m1 y1 m2 y2 m3 y3 m4 y4 W (tb_of_laid hL)).mono fun e W' ⟨he, hg⟩ => ?_
  subst he
  exact ⟨_, rfl, _, _, _, [], _, [], hW', trodAll_mk1 (shut_bool Tryz.underlying4 _), (trodAll_cons_mk (shut_int Tryz.underlying5 y0) (trodAll_cons_mk (shut_int Tryz.underlying39 y1) (trodAll_cons_mk (shut_int Tryz.underlying39 y2) (trodAll_cons_mk (shut_int Tryz.underlying5 y3) (trodAll_cons_mk (shut_int Tryz.underlying66 y4) trodAll_mk0))))), rfl, hg.frame _, fun h => by cases h⟩
theorem over : Rows.CpuOpsSaid :=
  OpenClaim.holds_of_wide 6 Tryz.f6 rfl rfl rfl rfl rfl rfl rfl ⟨rfl, rfl, rfl, rfl, rfl⟩ rfl rfl rfl rfl rfl (by kernel_rfl) Tryz.func6 (by kernel_rfl)
    (of_decide_eq_true (by kernel_rfl)) (by unfold Func.isWrapper; first | (rw [if_pos (by decide +kernel)]; kernel_rfl) | (rw [if_neg (by decide +kernel)]; exact ⟨rfl, rfl⟩))
    (fun os started H enc _ => lifted os started H enc)
/-- The card: the row, its listed tables tied to the text of the program. -/
theorem proved : Rows.CpuOpsCardSaid :=
  Claim7.holds_tied_plain_at .later [] [.data, .data, .data] true Rows.cpuOpsCard.stood.harness Rows.cpuOpsCard.stood.looks
    over (fun _ h => by cases h) (by kernel_rfl) (fun _ h => by cases h) cpuOps_row_tie rfl ⟨rfl, rfl⟩ (by kernel_rfl) rfl
    (fun f fn hf hfn => by
      obtain rfl : f = 6 := Option.some.inj ((show Tryz.prog.funcNamed "sacristy/sacristylaw05.CpuOps" = some 6 by kernel_rfl).symm.trans hf) |>.symm
      obtain rfl : fn = Tryz.f6 := (Option.some.inj (Tryz.func6.symm.trans hfn)).symm
      exact ⟨by kernel_rfl, fun j t ht => by
        rw [Tryz.params6] at ht
        have hm : t ∈ [5, 39, 39, 5, 66] := by simpa using Array.mem_of_getElem? ht
        have hall : ([5, 39, 39, 5, 66].all fun u => !Tryz.prog.wantsStandIn u) = true := by kernel_rfl
        exact (show Tryz.prog.wantsStandIn t = false by simpa using List.all_eq_true.1 hall t hm)⟩)
    (by kernel_rfl)
end Go.Proofs.YtcckgfablfgknaaGreatDoor.cpuOps
