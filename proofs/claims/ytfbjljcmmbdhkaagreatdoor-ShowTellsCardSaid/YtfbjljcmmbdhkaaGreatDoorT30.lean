/- Contract of first: a statement's first line, kind by kind. -/
import Derived.Test.YtfbjljcmmbdhkaaGreatDoorT27
import Derived.Test.YtfbjljcmmbdhkaaGreatDoorT28
namespace Go.Proofs.YtfbjljcmmbdhkaaGreatDoor
set_option linter.unusedVariables false
set_option linter.unusedSimpArgs false
set_option maxRecDepth 100000
set_option maxHeartbeats 200000000
open Go.ChangeShapes Go.WideShapes Go.ChangeAt Go.RowKit
theorem first_8 (X : List Tk) (hXl : X.length ≤ 3) (nm fr : List UInt8) (sec mu : Bool) (ma mb ml : Option Addr) (cx na ca nb cb nl cl : Nat) (w0 : World) (hTb : Tb w0) (hSw : SwOk w0) (b o : Nat) (ye0 : Xp) (m0 : Option Addr) (k0 : Nat) (hk0 : KidIn w0.heap.size w0 b o ye0 m0 k0) (hm0 : mayB 40 ye0 = true) (hd0 : ye0.nodes ≤ 100000) (hl0 : (xpT ye0).length ≤ 300000) (ye1 : Xp) (m1 : Option Addr) (k1 : Nat) (hk1 : KidIn w0.heap.size w0 b (o + 5) ye1 m1 k1) (hm1 : mayB 40 ye1 = true) (hd1 : ye1.nodes ≤ 100000) (hl1 : (xpT ye1).length ≤ 300000) (hbg0 : ∀ W, SwOk W → Calls Tryz.prog 163 #[.agg #[.int .u8 8, .string (str nm), .string (str fr), .bool sec, .bool mu, .slice (some ⟨b, o, none⟩) 2 cx, .slice ma na ca, .slice mb nb cb, .slice ml nl cl]] W (BgP W X)) :
 Calls Tryz.prog 148 #[.agg #[.int .u8 8, .string (str nm), .string (str fr), .bool sec, .bool mu, .slice (some ⟨b, o, none⟩) 2 cx, .slice ma na ca, .slice mb nb cb, .slice ml nl cl]] w0 (BgP w0 ((X) ++ (([[61]] : List (List UInt8)).map sg) ++ ([nmT fr]) ++ (([[91]] : List (List UInt8)).map sg) ++ (xpT ye0) ++ (([[46, 46]] : List (List UInt8)).map sg) ++ (xpT ye1) ++ (([[93], [123]] : List (List UInt8)).map sg))) := by
 obtain ⟨W, hWe⟩ : ∃ W, w0.alloc (.cells #[.int .u8 8, .string (str nm), .string (str fr), .bool sec, .bool mu, .slice (some ⟨b, o, none⟩) 2 cx, .slice ma na ca, .slice mb nb cb, .slice ml nl cl] 52) = W := ⟨_, rfl⟩
 have hBw : Below w0.heap.size w0 W := by rw [← hWe]; exact aB (Below.refl _ _) _
 have hrW : rowG #[.int .u8 8, .string (str nm), .string (str fr), .bool sec, .bool mu, .slice (some ⟨b, o, none⟩) 2 cx, .slice ma na ca, .slice mb nb cb, .slice ml nl cl] W w0.heap.size := by rw [← hWe]; exact rowG_at _ _ _ _ rfl
 have hbg := hbg0 W (hSw.of hBw)
 go_enter Tryz.func148, Tryz.ntmps148
 go_wp2_with (first | (with_reducible refine ld9 rfl _ rfl _ rfl hrW ?_) | (go_at_call 163; ((with_reducible refine hbg.mono ?_); (rintro r v1 ⟨⟨lA, rfl, hoA⟩, hbA⟩); have hr1 := rowG_b hrW hbA; have t0 : v1.cell? ⟨w0.heap.size, 0, none⟩ = some (.int .u8 8) := hr1.1 0 (by simp); have hlv := hr1.2.2; have hoX := own_base hBw.size hoA; have hB0 : w0.heap.size ≤ v1.heap.size := Nat.le_trans hBw.size hbA.size; have hOn0 : Only (fun j => w0.heap.size ≤ j) w0 v1 := (only_below hBw).trans (only_below hbA))))
 have hnX : lA.ownBlock ≠ some w0.heap.size := own_new hoA (.inr hrW.2.2)
 have hq0 := hk0.only hOn0 (fun c hc h => by have h1 : w0.heap.size ≤ c := h; omega)
 have hq1 := hk1.only hOn0 (fun c hc h => by have h1 : w0.heap.size ≤ c := h; omega)
 have hapx : ∀ c, c < w0.heap.size → ¬ lA.ownBlock = some c := fun c hc => own_new hoA (.inr (Nat.lt_of_lt_of_le hc hBw.size))
 have hFi : ∀ w', Only (fun j => lA.ownBlock = some j) v1 w' → w'.cell? ⟨w0.heap.size, 2, none⟩ = some (.string (str fr)) ∧ w'.cell? ⟨w0.heap.size, 5, none⟩ = some (.slice (some ⟨b, o, none⟩) 2 cx) ∧ w'.cell? ⟨b, o, none⟩ = some (.int .u8 (ye0.k : Int)) ∧ w'.cell? ⟨b, o + 1, none⟩ = some (.int .u64 (ye0.n : Int)) ∧ w'.cell? ⟨b, o + 2, none⟩ = some (.string (str ye0.s)) ∧ w'.cell? ⟨b, o + 3, none⟩ = some (.int .u8 (ye0.o : Int)) ∧ w'.cell? ⟨b, o + 4, none⟩ = some (.slice m0 ye0.l.length k0) ∧ w'.cell? ⟨b, o + 5, none⟩ = some (.int .u8 (ye1.k : Int)) ∧ w'.cell? ⟨b, o + 5 + 1, none⟩ = some (.int .u64 (ye1.n : Int)) ∧ w'.cell? ⟨b, o + 5 + 2, none⟩ = some (.string (str ye1.s)) ∧ w'.cell? ⟨b, o + 5 + 3, none⟩ = some (.int .u8 (ye1.o : Int)) ∧ w'.cell? ⟨b, o + 5 + 4, none⟩ = some (.slice m1 ye1.l.length k1) ∧ b < w'.heap.size := fun w' h => ⟨(rowG_only hr1 h hnX).1 2 (by simp), (rowG_only hr1 h hnX).1 5 (by simp), (hq0.only h hapx).c0, (hq0.only h hapx).c1, (hq0.only h hapx).c2, (hq0.only h hapx).c3, (hq0.only h hapx).c4, (hq1.only h hapx).c0, (hq1.only h hapx).c1, (hq1.only h hapx).c2, (hq1.only h hapx).c3, (hq1.only h hapx).c4, (hq0.only h hapx).lt'⟩
 have hF0 : Only (fun j => lA.ownBlock = some j) v1 v1.drew := od1
 obtain ⟨T, hTe0⟩ : ∃ T, T = zs (X) := ⟨_, rfl⟩
 have hTl : T.length ≤ 3 := by rw [hTe0]; simp [zs]; omega
 rw [← hTe0] at hoX
 have hT00 := tl_drew hoX
 refine region_KN (fun w' => Only (fun j => lA.ownBlock = some j) v1 w') (by kernel_rfl) ?_
 have q : Pq [0, 3, 4, 8, 9, 10, 11, 15, 16, 17, 18] := trivial
 iterate 11
  refine tkN q rfl (by kernel_rfl) hF0 fun K hK => ?_
  replace q := q.tl
  apply Exists.intro
  refine ⟨Or.inl ⟨by kernel_rfl, fun w' hf => ?_⟩, ?_⟩
  ·obtain ⟨s2, s5, q00, q01, q02, q03, q04, q10, q11, q12, q13, q14, qlt⟩ := hFi _ hf
   go_simp
   try exact rfl
  go_simp
  refine hK _ ?_
  clear hK K
 refine wpAnyK_inv (fun fu L a w => ∃ (c0 c1 c2 c3 c4 c5 c6 s0 s1 s2 s3 : Bool) (l1 l2 l3 l4 l5 l6 l7 : Value) (K0 K1 K2 K3 : Nat), fu = 1 + (tgN c0 + tgN c1 + tgN c2 + tgN c3 + tgN c4 + tgN c5 + tgN c6 + tgN s0 + tgN s1 + tgN s2 + tgN s3) ∧ L = #[true, s0, c0, true, true, c1, s1, c2, true, true, true, true, c3, s2, c4, true, true, true, true, c5, s3, c6, false] ∧ a = ⟨#[.agg #[.int .u8 8, .string (str nm), .string (str fr), .bool sec, .bool mu, .slice (some ⟨b, o, none⟩) 2 cx, .slice ma na ca, .slice mb nb cb, .slice ml nl cl], .pointer (some ⟨w0.heap.size, 0, none⟩), .slice none 0 0, lA, .agg #[.int .u8 8, .string (str nm), .string (str fr), .bool sec, .bool mu, .slice (some ⟨b, o, none⟩) 2 cx, .slice ma na ca, .slice mb nb cb, .slice ml nl cl], lA, .pointer (some ⟨w0.heap.size, 0, none⟩), .int .u8 8, .bool false, .bool false, undef, undef, undef, undef, undef, undef, undef, undef, undef, undef, .bool false, .bool false, undef, undef, undef, undef, undef, undef, undef, undef, undef, undef, undef, undef, undef, undef, undef, undef, undef, .bool false, .bool false, .bool false, undef, undef, undef, undef, undef, undef, undef, undef, .bool false, .bool false, undef, undef, undef, undef, undef, undef, undef, undef, undef, undef, .bool true, .bool true, lA, (bif s0 then .slice (some ⟨K0, 0, none⟩) 1 1 else undef), (bif c0 then l1 else undef), .pointer (some ⟨w0.heap.size, 2, none⟩), .string (str fr), (bif c1 then l2 else undef), (bif s1 then .slice (some ⟨K1, 0, none⟩) 1 1 else undef), (bif c2 then l3 else undef), .pointer (some ⟨w0.heap.size, 5, none⟩), .slice (some ⟨b, o, none⟩) 2 cx, .pointer (some ⟨b, o, none⟩), .agg #[.int .u8 (ye0.k : Int), .int .u64 (ye0.n : Int), .string (str ye0.s), .int .u8 (ye0.o : Int), .slice m0 ye0.l.length k0], (bif c3 then l4 else undef), (bif s2 then .slice (some ⟨K2, 0, none⟩) 1 1 else undef), (bif c4 then l5 else undef), .pointer (some ⟨w0.heap.size, 5, none⟩), .slice (some ⟨b, o, none⟩) 2 cx, .pointer (some ⟨b, o + 5, none⟩), .agg #[.int .u8 (ye1.k : Int), .int .u64 (ye1.n : Int), .string (str ye1.s), .int .u8 (ye1.o : Int), .slice m1 ye1.l.length k1], (bif c5 then l6 else undef), (bif s3 then .slice (some ⟨K3, 0, none⟩) 2 2 else undef), (bif c6 then l7 else undef), undef, undef, undef, undef, undef, undef, undef, undef, undef, undef, undef, undef, undef, undef, undef, undef, undef, undef, undef, undef, undef, undef, undef, undef, undef, undef, undef, undef, undef, undef], []⟩ ∧ ((c1 = true → c0 = true) ∧ (c2 = true → c1 = true) ∧ (c3 = true → c2 = true) ∧ (c4 = true → c3 = true) ∧ (c5 = true → c4 = true) ∧ (c6 = true → c5 = true) ∧ (c0 = true → s0 = true) ∧ (c2 = true → s1 = true) ∧ (c4 = true → s2 = true) ∧ (c6 = true → s3 = true)) ∧ Tl w0.heap.size v1 w lA (bif c6 then l7 else (bif c5 then l6 else (bif c4 then l5 else (bif c3 then l4 else (bif c2 then l3 else (bif c1 then l2 else (bif c0 then l1 else lA))))))) (bif c6 then (T ++ zs (([[61]] : List (List UInt8)).map sg) ++ zs ([nmT fr]) ++ zs (([[91]] : List (List UInt8)).map sg) ++ zs (xpT ye0) ++ zs (([[46, 46]] : List (List UInt8)).map sg) ++ zs (xpT ye1) ++ zs (([[93], [123]] : List (List UInt8)).map sg)) else (bif c5 then (T ++ zs (([[61]] : List (List UInt8)).map sg) ++ zs ([nmT fr]) ++ zs (([[91]] : List (List UInt8)).map sg) ++ zs (xpT ye0) ++ zs (([[46, 46]] : List (List UInt8)).map sg) ++ zs (xpT ye1)) else (bif c4 then (T ++ zs (([[61]] : List (List UInt8)).map sg) ++ zs ([nmT fr]) ++ zs (([[91]] : List (List UInt8)).map sg) ++ zs (xpT ye0) ++ zs (([[46, 46]] : List (List UInt8)).map sg)) else (bif c3 then (T ++ zs (([[61]] : List (List UInt8)).map sg) ++ zs ([nmT fr]) ++ zs (([[91]] : List (List UInt8)).map sg) ++ zs (xpT ye0)) else (bif c2 then (T ++ zs (([[61]] : List (List UInt8)).map sg) ++ zs ([nmT fr]) ++ zs (([[91]] : List (List UInt8)).map sg)) else (bif c1 then (T ++ zs (([[61]] : List (List UInt8)).map sg) ++ zs ([nmT fr])) else (bif c0 then (T ++ zs (([[61]] : List (List UInt8)).map sg)) else (T)))))))) ∧ ((s0 = true → HasS (strC ([[61]] : List (List UInt8))).toArray 9 K0 w) ∧ (s1 = true → HasS (strC ([[91]] : List (List UInt8))).toArray 9 K1 w) ∧ (s2 = true → HasS (strC ([[46, 46]] : List (List UInt8))).toArray 9 K2 w) ∧ (s3 = true → HasS (strC ([[93], [123]] : List (List UInt8))).toArray 9 K3 w))) ?_ _ _ _ _ ⟨false, false, false, false, false, false, false, false, false, false, false, undef, undef, undef, undef, undef, undef, undef, 0, 0, 0, 0, rfl, rfl, rfl, ⟨(by simp), (by simp), (by simp), (by simp), (by simp), (by simp), (by simp), (by simp), (by simp), (by simp)⟩, hT00, ⟨(by simp), (by simp), (by simp), (by simp)⟩⟩
 intro fu L a w hI
 obtain ⟨c0, c1, c2, c3, c4, c5, c6, s0, s1, s2, s3, l1, l2, l3, l4, l5, l6, l7, K0, K1, K2, K3, rfl, rfl, rfl, ⟨e0, e1, e2, e3, e4, e5, e6, e7, e8, e9⟩, hTc, ⟨a0, a1, a2, a3⟩⟩ := hI
 by_cases hall : (c0 = true ∧ c1 = true ∧ c2 = true ∧ c3 = true ∧ c4 = true ∧ c5 = true ∧ c6 = true ∧ s0 = true ∧ s1 = true ∧ s2 = true ∧ s3 = true)
 rotate_left
 ·right
  refine ⟨0 + (tgN c0 + tgN c1 + tgN c2 + tgN c3 + tgN c4 + tgN c5 + tgN c6 + tgN s0 + tgN s1 + tgN s2 + tgN s3), by omega, ?_, ?_⟩
  ·intro hr
   have nin : ∀ j, j ∉ Region.ready _ _ _ := fun j hj => by rw [hr] at hj; cases hj
   obtain rfl := bt fun h : s0 = false => nin 1 (rd h rfl rfl)
   obtain rfl := bt fun h : s1 = false => nin 6 (rd h rfl rfl)
   obtain rfl := bt fun h : s2 = false => nin 13 (rd h rfl rfl)
   obtain rfl := bt fun h : s3 = false => nin 20 (rd h rfl rfl)
   obtain rfl := bt fun h : c0 = false => nin 2 (rd h rfl rfl)
   obtain rfl := bt fun h : c1 = false => nin 5 (rd h rfl rfl)
   obtain rfl := bt fun h : c2 = false => nin 7 (rd h rfl rfl)
   obtain rfl := bt fun h : c3 = false => nin 12 (rd h rfl rfl)
   obtain rfl := bt fun h : c4 = false => nin 14 (rd h rfl rfl)
   obtain rfl := bt fun h : c5 = false => nin 19 (rd h rfl rfl)
   obtain rfl := bt fun h : c6 = false => nin 21 (rd h rfl rfl)
   exact hall ⟨rfl, rfl, rfl, rfl, rfl, rfl, rfl, rfl, rfl, rfl, rfl⟩
  ·intro i hi
   obtain ⟨h0, o, ho, hd⟩ := mem_ready.1 hi
   have hiN : i < 23 := by simpa using (Array.getElem?_eq_some_iff.1 ho).1
   have hcN : i = 0 ∨ i = 1 ∨ i = 2 ∨ i = 3 ∨ i = 4 ∨ i = 5 ∨ i = 6 ∨ i = 7 ∨ i = 8 ∨ i = 9 ∨ i = 10 ∨ i = 11 ∨ i = 12 ∨ i = 13 ∨ i = 14 ∨ i = 15 ∨ i = 16 ∨ i = 17 ∨ i = 18 ∨ i = 19 ∨ i = 20 ∨ i = 21 ∨ i = 22 := by omega
   clear hi hiN
   rcases hcN with rfl | rfl | rfl | rfl | rfl | rfl | rfl | rfl | rfl | rfl | rfl | rfl | rfl | rfl | rfl | rfl | rfl | rfl | rfl | rfl | rfl | rfl | rfl
   ·simp at h0
   ·simp at ho h0
    subst ho
    simp [Region.binds] at hd
    subst h0
    refine wpOp_step rfl (fun K' hK => ?_)
    go_simp
    refine hK _ _ ⟨(hTc.alloc _).only, c0, c1, c2, c3, c4, c5, c6, true, s1, s2, s3, l1, l2, l3, l4, l5, l6, l7, w.heap.size, K1, K2, K3, by simp only [tgN_t, tgN_f] <;> omega, rfl, rfl, (by and_intros <;> first | assumption | exact fun _ => rfl | exact fun h => by cases h), hTc.alloc _, ⟨(fun _ => HasS.new _ _ _), (fun h => HasS.alloc (a1 h) _), (fun h => HasS.alloc (a2 h) _), (fun h => HasS.alloc (a3 h) _)⟩⟩
   ·simp at ho h0
    subst ho
    simp [Region.binds] at hd
    subst h0
    refine wpOp_step rfl (fun K' hK => ?_)
    obtain rfl : s0 = true := by simp [hd]
    clear hd
    obtain rfl := bff e0
    obtain rfl := bff e1
    obtain rfl := bff e2
    obtain rfl := bff e3
    obtain rfl := bff e4
    obtain rfl := bff e5
    simp only [cond_true, cond_false] at hTc
    have hOj := hTc.only
    have hBj := Nat.le_trans hB0 hOj.size
    go_simp
    go_at_call 117
    with_reducible refine (rsign_c 1 (a0 rfl) hTc hBj rfl (by simp [zs] <;> omega)).mono ?_
    rintro r' w' ⟨l', rfl, hTx⟩
    have hTn := hTc.trans hTx
    have hS := fun C K (h : HasS C 9 K w) => h.call (by decide) hTc.own hTx.only
    refine hK _ _ ⟨hTn.only, true, false, false, false, false, false, false, true, s1, s2, s3, l', l2, l3, l4, l5, l6, l7, K0, K1, K2, K3, by simp only [tgN_t, tgN_f] <;> omega, rfl, rfl, (by and_intros <;> first | assumption | exact fun _ => rfl | exact fun h => by cases h), hTn, ⟨(fun h => hS _ _ (a0 h)), (fun h => hS _ _ (a1 h)), (fun h => hS _ _ (a2 h)), (fun h => hS _ _ (a3 h))⟩⟩
   ·simp at h0
   ·simp at h0
   ·simp at ho h0
    subst ho
    simp [Region.binds] at hd
    subst h0
    refine wpOp_step rfl (fun K' hK => ?_)
    obtain rfl : c0 = true := by simp [hd]
    clear hd
    obtain rfl := e6 rfl
    obtain rfl := bff e1
    obtain rfl := bff e2
    obtain rfl := bff e3
    obtain rfl := bff e4
    obtain rfl := bff e5
    simp only [cond_true, cond_false] at hTc
    have hOj := hTc.only
    have hBj := Nat.le_trans hB0 hOj.size
    go_simp
    go_at_call 116
    with_reducible refine (rname_any fr w0.heap.size _ _ _ hTc.own hBj (by simp [zs] <;> omega)).mono ?_
    rintro r' w' ⟨l', rfl, hTx⟩
    have hTn := hTc.trans hTx
    have hS := fun C K (h : HasS C 9 K w) => h.call (by decide) hTc.own hTx.only
    refine hK _ _ ⟨hTn.only, true, true, false, false, false, false, false, true, s1, s2, s3, l1, l', l3, l4, l5, l6, l7, K0, K1, K2, K3, by simp only [tgN_t, tgN_f] <;> omega, rfl, rfl, (by and_intros <;> first | assumption | exact fun _ => rfl | exact fun h => by cases h), hTn, ⟨(fun h => hS _ _ (a0 h)), (fun h => hS _ _ (a1 h)), (fun h => hS _ _ (a2 h)), (fun h => hS _ _ (a3 h))⟩⟩
   ·simp at ho h0
    subst ho
    simp [Region.binds] at hd
    subst h0
    refine wpOp_step rfl (fun K' hK => ?_)
    go_simp
    refine hK _ _ ⟨(hTc.alloc _).only, c0, c1, c2, c3, c4, c5, c6, s0, true, s2, s3, l1, l2, l3, l4, l5, l6, l7, K0, w.heap.size, K2, K3, by simp only [tgN_t, tgN_f] <;> omega, rfl, rfl, (by and_intros <;> first | assumption | exact fun _ => rfl | exact fun h => by cases h), hTc.alloc _, ⟨(fun h => HasS.alloc (a0 h) _), (fun _ => HasS.new _ _ _), (fun h => HasS.alloc (a2 h) _), (fun h => HasS.alloc (a3 h) _)⟩⟩
   ·simp at ho h0
    subst ho
    simp [Region.binds] at hd
    subst h0
    refine wpOp_step rfl (fun K' hK => ?_)
    obtain rfl : c1 = true := by simp [hd]
    obtain rfl : s1 = true := by simp [hd]
    clear hd
    obtain rfl := e0 rfl
    obtain rfl := e6 rfl
    obtain rfl := bff e2
    obtain rfl := bff e3
    obtain rfl := bff e4
    obtain rfl := bff e5
    simp only [cond_true, cond_false] at hTc
    have hOj := hTc.only
    have hBj := Nat.le_trans hB0 hOj.size
    go_simp
    go_at_call 117
    with_reducible refine (rsign_c 1 (a1 rfl) hTc hBj rfl (by simp [zs] <;> omega)).mono ?_
    rintro r' w' ⟨l', rfl, hTx⟩
    have hTn := hTc.trans hTx
    have hS := fun C K (h : HasS C 9 K w) => h.call (by decide) hTc.own hTx.only
    refine hK _ _ ⟨hTn.only, true, true, true, false, false, false, false, true, true, s2, s3, l1, l2, l', l4, l5, l6, l7, K0, K1, K2, K3, by simp only [tgN_t, tgN_f] <;> omega, rfl, rfl, (by and_intros <;> first | assumption | exact fun _ => rfl | exact fun h => by cases h), hTn, ⟨(fun h => hS _ _ (a0 h)), (fun h => hS _ _ (a1 h)), (fun h => hS _ _ (a2 h)), (fun h => hS _ _ (a3 h))⟩⟩
   ·simp at h0
   ·simp at h0
   ·simp at h0
   ·simp at h0
   ·simp at ho h0
    subst ho
    simp [Region.binds] at hd
    subst h0
    refine wpOp_step rfl (fun K' hK => ?_)
    obtain rfl : c2 = true := by simp [hd]
    clear hd
    obtain rfl := e1 rfl
    obtain rfl := e7 rfl
    obtain rfl := e0 rfl
    obtain rfl := e6 rfl
    obtain rfl := bff e3
    obtain rfl := bff e4
    obtain rfl := bff e5
    simp only [cond_true, cond_false] at hTc
    have hOj := hTc.only
    have hBj := Nat.le_trans hB0 hOj.size
    go_simp
    have hOnj := hOn0.trans (hOj.mono (own_ge hoX))
    have hEj := hk0.is.only hOnj (fun b hb h => by have hb1 : b < w0.heap.size := hb; have h1 : w0.heap.size ≤ b := h; omega)
    have hWj := (wr_self hTb).only hOnj (fun _ h => h)
    go_at_call 122
    with_reducible refine (rexpr_any ye0 _ w0.heap.size _ _ _ hEj hWj hm0 hd0 hTc.own (by simp [zs] <;> omega)).mono ?_
    rintro r' w' ⟨l', rfl, hTx⟩
    have hTn := hTc.trans hTx
    have hS := fun C K (h : HasS C 9 K w) => h.call (by decide) hTc.own hTx.only
    refine hK _ _ ⟨hTn.only, true, true, true, true, false, false, false, true, true, s2, s3, l1, l2, l3, l', l5, l6, l7, K0, K1, K2, K3, by simp only [tgN_t, tgN_f] <;> omega, rfl, rfl, (by and_intros <;> first | assumption | exact fun _ => rfl | exact fun h => by cases h), hTn, ⟨(fun h => hS _ _ (a0 h)), (fun h => hS _ _ (a1 h)), (fun h => hS _ _ (a2 h)), (fun h => hS _ _ (a3 h))⟩⟩
   ·simp at ho h0
    subst ho
    simp [Region.binds] at hd
    subst h0
    refine wpOp_step rfl (fun K' hK => ?_)
    go_simp
    refine hK _ _ ⟨(hTc.alloc _).only, c0, c1, c2, c3, c4, c5, c6, s0, s1, true, s3, l1, l2, l3, l4, l5, l6, l7, K0, K1, w.heap.size, K3, by simp only [tgN_t, tgN_f] <;> omega, rfl, rfl, (by and_intros <;> first | assumption | exact fun _ => rfl | exact fun h => by cases h), hTc.alloc _, ⟨(fun h => HasS.alloc (a0 h) _), (fun h => HasS.alloc (a1 h) _), (fun _ => HasS.new _ _ _), (fun h => HasS.alloc (a3 h) _)⟩⟩
   ·simp at ho h0
    subst ho
    simp [Region.binds] at hd
    subst h0
    refine wpOp_step rfl (fun K' hK => ?_)
    obtain rfl : c3 = true := by simp [hd]
    obtain rfl : s2 = true := by simp [hd]
    clear hd
    obtain rfl := e2 rfl
    obtain rfl := e1 rfl
    obtain rfl := e7 rfl
    obtain rfl := e0 rfl
    obtain rfl := e6 rfl
    obtain rfl := bff e4
    obtain rfl := bff e5
    simp only [cond_true, cond_false] at hTc
    have hOj := hTc.only
    have hBj := Nat.le_trans hB0 hOj.size
    go_simp
    go_at_call 117
    with_reducible refine (rsign_c 1 (a2 rfl) hTc hBj rfl (by simp [zs] <;> omega)).mono ?_
    rintro r' w' ⟨l', rfl, hTx⟩
    have hTn := hTc.trans hTx
    have hS := fun C K (h : HasS C 9 K w) => h.call (by decide) hTc.own hTx.only
    refine hK _ _ ⟨hTn.only, true, true, true, true, true, false, false, true, true, true, s3, l1, l2, l3, l4, l', l6, l7, K0, K1, K2, K3, by simp only [tgN_t, tgN_f] <;> omega, rfl, rfl, (by and_intros <;> first | assumption | exact fun _ => rfl | exact fun h => by cases h), hTn, ⟨(fun h => hS _ _ (a0 h)), (fun h => hS _ _ (a1 h)), (fun h => hS _ _ (a2 h)), (fun h => hS _ _ (a3 h))⟩⟩
   ·simp at h0
   ·simp at h0
   ·simp at h0
   ·simp at h0
   ·simp at ho h0
    subst ho
    simp [Region.binds] at hd
    subst h0
    refine wpOp_step rfl (fun K' hK => ?_)
    obtain rfl : c4 = true := by simp [hd]
    clear hd
    obtain rfl := e3 rfl
    obtain rfl := e8 rfl
    obtain rfl := e2 rfl
    obtain rfl := e1 rfl
    obtain rfl := e7 rfl
    obtain rfl := e0 rfl
    obtain rfl := e6 rfl
    obtain rfl := bff e5
    simp only [cond_true, cond_false] at hTc
    have hOj := hTc.only
    have hBj := Nat.le_trans hB0 hOj.size
    go_simp
    have hOnj := hOn0.trans (hOj.mono (own_ge hoX))
    have hEj := hk1.is.only hOnj (fun b hb h => by have hb1 : b < w0.heap.size := hb; have h1 : w0.heap.size ≤ b := h; omega)
    have hWj := (wr_self hTb).only hOnj (fun _ h => h)
    go_at_call 122
    with_reducible refine (rexpr_any ye1 _ w0.heap.size _ _ _ hEj hWj hm1 hd1 hTc.own (by simp [zs] <;> omega)).mono ?_
    rintro r' w' ⟨l', rfl, hTx⟩
    have hTn := hTc.trans hTx
    have hS := fun C K (h : HasS C 9 K w) => h.call (by decide) hTc.own hTx.only
    refine hK _ _ ⟨hTn.only, true, true, true, true, true, true, false, true, true, true, s3, l1, l2, l3, l4, l5, l', l7, K0, K1, K2, K3, by simp only [tgN_t, tgN_f] <;> omega, rfl, rfl, (by and_intros <;> first | assumption | exact fun _ => rfl | exact fun h => by cases h), hTn, ⟨(fun h => hS _ _ (a0 h)), (fun h => hS _ _ (a1 h)), (fun h => hS _ _ (a2 h)), (fun h => hS _ _ (a3 h))⟩⟩
   ·simp at ho h0
    subst ho
    simp [Region.binds] at hd
    subst h0
    refine wpOp_step rfl (fun K' hK => ?_)
    go_simp
    refine hK _ _ ⟨(hTc.alloc _).only, c0, c1, c2, c3, c4, c5, c6, s0, s1, s2, true, l1, l2, l3, l4, l5, l6, l7, K0, K1, K2, w.heap.size, by simp only [tgN_t, tgN_f] <;> omega, rfl, rfl, (by and_intros <;> first | assumption | exact fun _ => rfl | exact fun h => by cases h), hTc.alloc _, ⟨(fun h => HasS.alloc (a0 h) _), (fun h => HasS.alloc (a1 h) _), (fun h => HasS.alloc (a2 h) _), (fun _ => HasS.new _ _ _)⟩⟩
   ·simp at ho h0
    subst ho
    simp [Region.binds] at hd
    subst h0
    refine wpOp_step rfl (fun K' hK => ?_)
    obtain rfl : c5 = true := by simp [hd]
    obtain rfl : s3 = true := by simp [hd]
    clear hd
    obtain rfl := e4 rfl
    obtain rfl := e3 rfl
    obtain rfl := e8 rfl
    obtain rfl := e2 rfl
    obtain rfl := e1 rfl
    obtain rfl := e7 rfl
    obtain rfl := e0 rfl
    obtain rfl := e6 rfl
    simp only [cond_true, cond_false] at hTc
    have hOj := hTc.only
    have hBj := Nat.le_trans hB0 hOj.size
    go_simp
    go_at_call 117
    with_reducible refine (rsign_c 2 (a3 rfl) hTc hBj rfl (by simp [zs] <;> omega)).mono ?_
    rintro r' w' ⟨l', rfl, hTx⟩
    have hTn := hTc.trans hTx
    have hS := fun C K (h : HasS C 9 K w) => h.call (by decide) hTc.own hTx.only
    refine hK _ _ ⟨hTn.only, true, true, true, true, true, true, true, true, true, true, true, l1, l2, l3, l4, l5, l6, l', K0, K1, K2, K3, by simp only [tgN_t, tgN_f] <;> omega, rfl, rfl, (by and_intros <;> first | assumption | exact fun _ => rfl | exact fun h => by cases h), hTn, ⟨(fun h => hS _ _ (a0 h)), (fun h => hS _ _ (a1 h)), (fun h => hS _ _ (a2 h)), (fun h => hS _ _ (a3 h))⟩⟩
   ·exact (hall (by simp at ho; subst ho; simp [Region.binds] at hd <;> simp_all)).elim
 obtain ⟨rfl, rfl, rfl, rfl, rfl, rfl, rfl, rfl, rfl, rfl, rfl⟩ := hall
 left
 simp only [cond_true, cond_false] at hTc
 have hTe := hTc
 clear hTc e0 e1 e2 e3 e4 e5 e6 e7 e8 e9 a0 a1 a2 a3
 refine wpAnyK_one (k := 22) (by kernel_rfl) ?_
 refine wpOp_step rfl (fun K hK => ?_)
 go_simp
 refine hK _ _ ⟨hTe.only, ?_⟩
 clear hK K
 refine wpAnyK_done (by kernel_rfl) ⟨rfl, ?_⟩
 clear hFi hF0 hT00
 go_wp2
 go_ret
 refine first_fin hBw hbA (fun j hj => (own_lt hoA hj).1) hTe ?_
 rw [hTe0]
 simp [zs]
end Go.Proofs.YtfbjljcmmbdhkaaGreatDoor
