/- Contract of first: a statement's first line, kind by kind. -/
import Derived.Test.YtkibkaoffgnmkaaGreatDoorL28
import Derived.Test.YtkibkaoffgnmkaaGreatDoorL29
import Derived.Test.YtkibkaoffgnmkaaGreatDoorL23
namespace Go.Proofs.YtkibkaoffgnmkaaGreatDoor
set_option linter.unusedVariables false
set_option linter.unusedSimpArgs false
set_option maxRecDepth 100000
set_option maxHeartbeats 200000000
section
open Go.ChangeShapes Go.WideShapes Go.ChangeAt Go.RowKit
theorem first_9 (nm fr : List UInt8) (sec mu : Bool) (ma mb ml : Option Addr) (cx na ca nb cb nl cl : Nat) (w0 : World) (hTb : Tb w0) (hSw : SwOk w0) (mx : Option Addr) :
  Calls Tryz.prog 148 #[.agg #[.int .u8 9, .string (str nm), .string (str fr), .bool sec, .bool mu, .slice mx 0 cx, .slice ma na ca, .slice mb nb cb, .slice ml nl cl]] w0 (BgP w0 ((wdT wMove :: (secT sec ++ nmO nm)) ++ (([[61]] : List (List UInt8)).map sg) ++ ([nmT fr]) ++ (([[59]] : List (List UInt8)).map sg))) := by
 obtain ⟨W, hWe⟩ : ∃ W, w0.alloc (.cells #[.int .u8 9, .string (str nm), .string (str fr), .bool sec, .bool mu, .slice mx 0 cx, .slice ma na ca, .slice mb nb cb, .slice ml nl cl] 52) = W := ⟨_, rfl⟩
 have hBw : Below w0.heap.size w0 W := by rw [← hWe]; exact aB (Below.refl _ _) _
 have hrW : rowG #[.int .u8 9, .string (str nm), .string (str fr), .bool sec, .bool mu, .slice mx 0 cx, .slice ma na ca, .slice mb nb cb, .slice ml nl cl] W w0.heap.size := by rw [← hWe]; exact rowG_at _ _ _ _ rfl
 have hbg := begin_w 9 9 wMove nm fr sec mu mx ma mb ml 0 cx na ca nb cb nl cl W (hSw.of hBw) (by simp)
 have hln : (nmO nm).length ≤ 1 := by unfold nmO; split <;> simp
 have hls := sec_len sec
 go_enter Tryz.func148, Tryz.ntmps148
 go_wp2_with (first | (with_reducible refine ld9 rfl _ rfl _ rfl hrW ?_) | (go_at_call 163; ((with_reducible refine hbg.mono ?_); (rintro r v1 ⟨⟨lA, rfl, hoA⟩, hbA⟩); have hr1 := rowG_b hrW hbA; have t0 : v1.cell? ⟨w0.heap.size, 0, none⟩ = some (.int .u8 9) := hr1.1 0 (by simp); have hlv := hr1.2.2; have hoX := own_base hBw.size hoA; have hB0 : w0.heap.size ≤ v1.heap.size := Nat.le_trans hBw.size hbA.size; have hOn0 : Only (fun j => w0.heap.size ≤ j) w0 v1 := (only_below hBw).trans (only_below hbA))))
 have hnX : lA.ownBlock ≠ some w0.heap.size := own_new hoA (.inr hrW.2.2)
 have hFi : ∀ w', Only (fun j => lA.ownBlock = some j) v1 w' → w'.cell? ⟨w0.heap.size, 2, none⟩ = some (.string (str fr)) ∧ True := fun w' h => ⟨(rowG_only hr1 h hnX).1 2 (by simp), trivial⟩
 have hF0 : Only (fun j => lA.ownBlock = some j) v1 v1.drew := od1
 obtain ⟨T, hTe0⟩ : ∃ T, T = zs (wdT wMove :: (secT sec ++ nmO nm)) := ⟨_, rfl⟩
 have hTl : T.length ≤ 3 := by rw [hTe0]; simp [zs]; omega
 rw [← hTe0] at hoX
 have hT00 := tl_drew hoX
 refine region_KN (fun w' => Only (fun j => lA.ownBlock = some j) v1 w') (by kernel_rfl) ?_
 have q : Pq [0, 3, 4] := trivial
 iterate 3
  refine tkN q rfl (by kernel_rfl) hF0 fun K hK => ?_
  replace q := q.tl
  apply Exists.intro
  refine ⟨Or.inl ⟨by kernel_rfl, fun w' hf => ?_⟩, ?_⟩
  ·obtain ⟨s2, -⟩ := hFi _ hf
   go_simp
   try exact rfl
  go_simp
  refine hK _ ?_
  clear hK K
 refine wpAnyK_inv (fun fu L a w => ∃ (c0 c1 c2 s0 s1 : Bool) (l1 l2 l3 : Value) (K0 K1 : Nat), fu = 1 + (tgN c0 + tgN c1 + tgN c2 + tgN s0 + tgN s1) ∧ L = #[true, s0, c0, true, true, c1, s1, c2, false] ∧ a = ⟨#[.agg #[.int .u8 9, .string (str nm), .string (str fr), .bool sec, .bool mu, .slice mx 0 cx, .slice ma na ca, .slice mb nb cb, .slice ml nl cl], .pointer (some ⟨w0.heap.size, 0, none⟩), .slice none 0 0, lA, .agg #[.int .u8 9, .string (str nm), .string (str fr), .bool sec, .bool mu, .slice mx 0 cx, .slice ma na ca, .slice mb nb cb, .slice ml nl cl], lA, .pointer (some ⟨w0.heap.size, 0, none⟩), .int .u8 9, .bool false, .bool false, undef, undef, undef, undef, undef, undef, undef, undef, undef, undef, .bool false, .bool false, undef, undef, undef, undef, undef, undef, undef, undef, undef, undef, undef, undef, undef, undef, undef, undef, undef, .bool false, .bool false, .bool false, undef, undef, undef, undef, undef, undef, undef, undef, .bool false, .bool false, undef, undef, undef, undef, undef, undef, undef, undef, undef, undef, .bool false, .bool false, undef, undef, undef, undef, undef, undef, undef, undef, undef, undef, undef, undef, undef, undef, undef, undef, undef, undef, undef, undef, undef, undef, .bool true, .bool true, lA, (bif s0 then .slice (some ⟨K0, 0, none⟩) 1 1 else undef), (bif c0 then l1 else undef), .pointer (some ⟨w0.heap.size, 2, none⟩), .string (str fr), (bif c1 then l2 else undef), (bif s1 then .slice (some ⟨K1, 0, none⟩) 1 1 else undef), (bif c2 then l3 else undef), undef, undef, undef, undef, undef, undef, undef, undef, undef, undef, undef, undef, undef, undef, undef, undef, undef, undef, undef, undef], []⟩ ∧ ((c1 = true → c0 = true) ∧ (c2 = true → c1 = true) ∧ (c0 = true → s0 = true) ∧ (c2 = true → s1 = true)) ∧ Tl w0.heap.size v1 w lA (bif c2 then l3 else (bif c1 then l2 else (bif c0 then l1 else lA))) (bif c2 then (T ++ zs (([[61]] : List (List UInt8)).map sg) ++ zs ([nmT fr]) ++ zs (([[59]] : List (List UInt8)).map sg)) else (bif c1 then (T ++ zs (([[61]] : List (List UInt8)).map sg) ++ zs ([nmT fr])) else (bif c0 then (T ++ zs (([[61]] : List (List UInt8)).map sg)) else (T)))) ∧ ((s0 = true → HasS (strC ([[61]] : List (List UInt8))).toArray 9 K0 w) ∧ (s1 = true → HasS (strC ([[59]] : List (List UInt8))).toArray 9 K1 w))) ?_ _ _ _ _ ⟨false, false, false, false, false, undef, undef, undef, 0, 0, rfl, rfl, rfl, ⟨(by simp), (by simp), (by simp), (by simp)⟩, hT00, ⟨(by simp), (by simp)⟩⟩
 intro fu L a w hI
 obtain ⟨c0, c1, c2, s0, s1, l1, l2, l3, K0, K1, rfl, rfl, rfl, ⟨e0, e1, e2, e3⟩, hTc, ⟨a0, a1⟩⟩ := hI
 by_cases hall : (c0 = true ∧ c1 = true ∧ c2 = true ∧ s0 = true ∧ s1 = true)
 rotate_left
 ·right
  refine ⟨0 + (tgN c0 + tgN c1 + tgN c2 + tgN s0 + tgN s1), by omega, ?_, ?_⟩
  ·intro hr
   have nin : ∀ j, j ∉ Region.ready _ _ _ := fun j hj => by rw [hr] at hj; cases hj
   obtain rfl := bt fun h : s0 = false => nin 1 (rd h rfl rfl)
   obtain rfl := bt fun h : s1 = false => nin 6 (rd h rfl rfl)
   obtain rfl := bt fun h : c0 = false => nin 2 (rd h rfl rfl)
   obtain rfl := bt fun h : c1 = false => nin 5 (rd h rfl rfl)
   obtain rfl := bt fun h : c2 = false => nin 7 (rd h rfl rfl)
   exact hall ⟨rfl, rfl, rfl, rfl, rfl⟩
  ·intro i hi
   obtain ⟨h0, o, ho, hd⟩ := mem_ready.1 hi
   have hiN : i < 9 := by simpa using (Array.getElem?_eq_some_iff.1 ho).1
   have hcN : i = 0 ∨ i = 1 ∨ i = 2 ∨ i = 3 ∨ i = 4 ∨ i = 5 ∨ i = 6 ∨ i = 7 ∨ i = 8 := by omega
   clear hi hiN
   rcases hcN with rfl | rfl | rfl | rfl | rfl | rfl | rfl | rfl | rfl
   ·simp at h0
   ·simp at ho h0
    subst ho
    simp [Region.binds] at hd
    subst h0
    refine wpOp_step rfl (fun K' hK => ?_)
    go_simp
    refine hK _ _ ⟨(hTc.alloc _).only, c0, c1, c2, true, s1, l1, l2, l3, w.heap.size, K1, by simp only [tgN_t, tgN_f] <;> omega, rfl, rfl, (by and_intros <;> first | assumption | exact fun _ => rfl | exact fun h => by cases h), hTc.alloc _, ⟨(fun _ => HasS.new _ _ _), (fun h => HasS.alloc (a1 h) _)⟩⟩
   ·simp at ho h0
    subst ho
    simp [Region.binds] at hd
    subst h0
    refine wpOp_step rfl (fun K' hK => ?_)
    obtain rfl : s0 = true := by simp [hd]
    clear hd
    obtain rfl := bff e0
    obtain rfl := bff e1
    simp only [cond_true, cond_false] at hTc
    have hOj := hTc.only
    have hBj := Nat.le_trans hB0 hOj.size
    go_simp
    go_at_call 117
    with_reducible refine (rsign_c 1 (a0 rfl) hTc hBj rfl (by simp [zs] <;> omega)).mono ?_
    rintro r' w' ⟨l', rfl, hTx⟩
    have hTn := hTc.trans hTx
    have hS := fun C K (h : HasS C 9 K w) => h.call (by decide) hTc.own hTx.only
    refine hK _ _ ⟨hTn.only, true, false, false, true, s1, l', l2, l3, K0, K1, by simp only [tgN_t, tgN_f] <;> omega, rfl, rfl, (by and_intros <;> first | assumption | exact fun _ => rfl | exact fun h => by cases h), hTn, ⟨(fun h => hS _ _ (a0 h)), (fun h => hS _ _ (a1 h))⟩⟩
   ·simp at h0
   ·simp at h0
   ·simp at ho h0
    subst ho
    simp [Region.binds] at hd
    subst h0
    refine wpOp_step rfl (fun K' hK => ?_)
    obtain rfl : c0 = true := by simp [hd]
    clear hd
    obtain rfl := e2 rfl
    obtain rfl := bff e1
    simp only [cond_true, cond_false] at hTc
    have hOj := hTc.only
    have hBj := Nat.le_trans hB0 hOj.size
    go_simp
    go_at_call 116
    with_reducible refine (rname_any fr w0.heap.size _ _ _ hTc.own hBj (by simp [zs] <;> omega)).mono ?_
    rintro r' w' ⟨l', rfl, hTx⟩
    have hTn := hTc.trans hTx
    have hS := fun C K (h : HasS C 9 K w) => h.call (by decide) hTc.own hTx.only
    refine hK _ _ ⟨hTn.only, true, true, false, true, s1, l1, l', l3, K0, K1, by simp only [tgN_t, tgN_f] <;> omega, rfl, rfl, (by and_intros <;> first | assumption | exact fun _ => rfl | exact fun h => by cases h), hTn, ⟨(fun h => hS _ _ (a0 h)), (fun h => hS _ _ (a1 h))⟩⟩
   ·simp at ho h0
    subst ho
    simp [Region.binds] at hd
    subst h0
    refine wpOp_step rfl (fun K' hK => ?_)
    go_simp
    refine hK _ _ ⟨(hTc.alloc _).only, c0, c1, c2, s0, true, l1, l2, l3, K0, w.heap.size, by simp only [tgN_t, tgN_f] <;> omega, rfl, rfl, (by and_intros <;> first | assumption | exact fun _ => rfl | exact fun h => by cases h), hTc.alloc _, ⟨(fun h => HasS.alloc (a0 h) _), (fun _ => HasS.new _ _ _)⟩⟩
   ·simp at ho h0
    subst ho
    simp [Region.binds] at hd
    subst h0
    refine wpOp_step rfl (fun K' hK => ?_)
    obtain rfl : c1 = true := by simp [hd]
    obtain rfl : s1 = true := by simp [hd]
    clear hd
    obtain rfl := e0 rfl
    obtain rfl := e2 rfl
    simp only [cond_true, cond_false] at hTc
    have hOj := hTc.only
    have hBj := Nat.le_trans hB0 hOj.size
    go_simp
    go_at_call 117
    with_reducible refine (rsign_c 1 (a1 rfl) hTc hBj rfl (by simp [zs] <;> omega)).mono ?_
    rintro r' w' ⟨l', rfl, hTx⟩
    have hTn := hTc.trans hTx
    have hS := fun C K (h : HasS C 9 K w) => h.call (by decide) hTc.own hTx.only
    refine hK _ _ ⟨hTn.only, true, true, true, true, true, l1, l2, l', K0, K1, by simp only [tgN_t, tgN_f] <;> omega, rfl, rfl, (by and_intros <;> first | assumption | exact fun _ => rfl | exact fun h => by cases h), hTn, ⟨(fun h => hS _ _ (a0 h)), (fun h => hS _ _ (a1 h))⟩⟩
   ·exact (hall (by simp at ho; subst ho; simp [Region.binds] at hd <;> simp_all)).elim
 obtain ⟨rfl, rfl, rfl, rfl, rfl⟩ := hall
 left
 simp only [cond_true, cond_false] at hTc
 have hTe := hTc
 clear hTc e0 e1 e2 e3 a0 a1
 refine wpAnyK_one (k := 8) (by kernel_rfl) ?_
 refine wpOp_step rfl (fun K hK => ?_)
 go_simp
 refine hK _ _ ⟨hTe.only, ?_⟩
 clear hK K
 refine wpAnyK_done (by kernel_rfl) ⟨rfl, ?_⟩
 clear hFi hF0 hT00
 go_wp2
 go_ret
 refine first_fin hBw hbA (fun j hj => (own_lt hoA hj).1) hTe ?_
 rw [hTe0]
 simp [zs]
theorem first_12 (nm fr : List UInt8) (sec mu : Bool) (ma mb ml : Option Addr) (cx na ca nb cb nl cl : Nat) (w0 : World) (hTb : Tb w0) (hSw : SwOk w0) (mx : Option Addr) :
  Calls Tryz.prog 148 #[.agg #[.int .u8 12, .string (str nm), .string (str fr), .bool sec, .bool mu, .slice mx 0 cx, .slice ma na ca, .slice mb nb cb, .slice ml nl cl]] w0 (BgP w0 ((wdT wSeal :: (secT sec ++ nmO nm)) ++ (([[59]] : List (List UInt8)).map sg))) := by
 obtain ⟨W, hWe⟩ : ∃ W, w0.alloc (.cells #[.int .u8 12, .string (str nm), .string (str fr), .bool sec, .bool mu, .slice mx 0 cx, .slice ma na ca, .slice mb nb cb, .slice ml nl cl] 52) = W := ⟨_, rfl⟩
 have hBw : Below w0.heap.size w0 W := by rw [← hWe]; exact aB (Below.refl _ _) _
 have hrW : rowG #[.int .u8 12, .string (str nm), .string (str fr), .bool sec, .bool mu, .slice mx 0 cx, .slice ma na ca, .slice mb nb cb, .slice ml nl cl] W w0.heap.size := by rw [← hWe]; exact rowG_at _ _ _ _ rfl
 have hbg := begin_w 12 12 wSeal nm fr sec mu mx ma mb ml 0 cx na ca nb cb nl cl W (hSw.of hBw) (by simp)
 have hln : (nmO nm).length ≤ 1 := by unfold nmO; split <;> simp
 have hls := sec_len sec
 go_enter Tryz.func148, Tryz.ntmps148
 go_wp2_with (first | (with_reducible refine ld9 rfl _ rfl _ rfl hrW ?_) | (go_at_call 163; ((with_reducible refine hbg.mono ?_); (rintro r v1 ⟨⟨lA, rfl, hoA⟩, hbA⟩); have hr1 := rowG_b hrW hbA; have t0 : v1.cell? ⟨w0.heap.size, 0, none⟩ = some (.int .u8 12) := hr1.1 0 (by simp); have hlv := hr1.2.2; have hoX := own_base hBw.size hoA; have hB0 : w0.heap.size ≤ v1.heap.size := Nat.le_trans hBw.size hbA.size; have hOn0 : Only (fun j => w0.heap.size ≤ j) w0 v1 := (only_below hBw).trans (only_below hbA); have hsg := rsign_any [[59]] v1.heap.size 1 w0.heap.size lA _ (v1.alloc (.cells #[.string { data := #[59] }] 9)) rfl (hasS_strs (ss := [[59]]) (HasS.new (strC [[59]]).toArray 9 v1)) (by simp) (own_new hoX (.inl (Nat.le_refl _))) (hoX.alloc _) (Nat.le_trans hB0 (by simp)) (by simp [zs]; omega))) | (go_at_call 117; ((with_reducible refine hsg.mono ?_); (rintro r v3 ⟨l3, rfl, hT3⟩))))
 go_ret
 exact first_fin hBw hbA (fun j hj => (own_lt hoA hj).1) (hT3.pre (aB (Below.refl _ _) _)) (by simp [zs])
end
section
theorem metA0 {s : List UInt8} (h : metA 0 s = true) : s = [] := by
 unfold metA at h
 by_cases c : s = []
 ·exact c
 ·rw [if_neg c] at h; simp at h
theorem metA1 {s : List UInt8} (h : metA 1 s = true) : s = [] ∨ nmdB s = true := by
 unfold metA at h
 by_cases c : s = []
 ·exact .inl c
 ·rw [if_neg c] at h; simp at h; exact .inr h
theorem metA2 {s : List UInt8} (h : metA 2 s = true) : nmdB s = true := by
 unfold metA at h
 by_cases c : s = []
 ·rw [if_pos c] at h; simp at h
 ·rw [if_neg c] at h; simpa using h
theorem fits_parts {k : Nat} {nm fr : List UInt8} {sec mu : Bool} {ex : List Xp} {ar : List (List UInt8)} {bd el : List St} (h : fitsB (.mk k nm fr sec mu ex ar bd el) = true) :
  (k ≠ 0 ∧ k < 13) ∧ metB (nds k) nm fr sec mu ex.length ar.length bd.length el.length = true ∧ (∀ a ∈ ar, nmdB a = true) ∧ ∀ e ∈ ex, mayB 40 e = true := by
 simp only [fitsB, St.k, St.nm, St.fr, St.sec, St.mu, St.ex, St.ar, St.bd, St.el, Bool.and_eq_true, List.all_eq_true] at h
 exact ⟨⟨of_decide_eq_true h.1.1.1.1, of_decide_eq_true h.1.1.1.2⟩, h.1.1.2, h.1.2, h.2⟩
theorem met_parts {a0 a1 : Nat} {sc mx : Bool} {lo hi ar : Int} {b l : Bool} {nm fr : List UInt8} {sec mu : Bool} {ne na nb nl : Nat} (h : metB (a0, a1, sc, mx, lo, hi, ar, b, l) nm fr sec mu ne na nb nl = true) :
  metA a0 nm = true ∧ metA a1 fr = true ∧ (sc = true ∨ sec = false) ∧ (mx = true ∨ mu = false) ∧ lo ≤ (ne : Int) ∧ (ne : Int) ≤ hi ∧ (na : Int) ≤ ar ∧ (b = true ∨ nb = 0) ∧ (l = true ∨ nl = 0) := by
 simp only [metB, Bool.and_eq_true, Bool.or_eq_true, decide_eq_true_eq, Bool.not_eq_true'] at h
 obtain ⟨⟨⟨⟨⟨⟨⟨⟨h1, h2⟩, h3⟩, h4⟩, h5⟩, h6⟩, h7⟩, h8⟩, h9⟩ := h
 exact ⟨h1, h2, h3, h4, h5, h6, h7, h8, h9⟩
theorem one_of {ex : List Xp} (h1 : (1 : Int) ≤ (ex.length : Int)) (h2 : (ex.length : Int) ≤ 1) : ∃ e, ex = [e] := List.length_eq_one_iff.1 (by omega)
theorem two_of {ex : List Xp} (h1 : (2 : Int) ≤ (ex.length : Int)) (h2 : (ex.length : Int) ≤ 2) : ∃ e f, ex = [e, f] := by
 match ex, h1, h2 with
 | [e, f], _, _ => exact ⟨e, f, rfl⟩
 | [], h, _ => simp at h
 | [_], h, _ => simp at h
 | _ :: _ :: _ :: _, _, h => simp only [List.length_cons] at h; omega
def BkAt (T : List Tk) (d : Nat) (blk : Nat → Nat → Rz (List St)) : Prop := ∀ (l : List St) (n m p : Nat) (L : List Tk), n ≤ 400 → m ≤ 400 → blkC d l (400 - n) = some (400 - m) → T.drop p = sg [123] :: (stsT l ++ sg [125] :: L) → ∃ q, blk p n = .ok l q m ∧ T.drop q = L
end
end Go.Proofs.YtkibkaoffgnmkaaGreatDoor
