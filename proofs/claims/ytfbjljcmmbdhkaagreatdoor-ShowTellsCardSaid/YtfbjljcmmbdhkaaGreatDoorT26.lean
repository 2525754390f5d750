/- Contract of call: the rest of a call's line. -/
import Derived.Test.YtfbjljcmmbdhkaaGreatDoorT14
namespace Go.Proofs.YtfbjljcmmbdhkaaGreatDoor
set_option linter.unusedVariables false
set_option linter.unusedSimpArgs false
set_option maxRecDepth 100000
set_option maxHeartbeats 200000000
open Go.ChangeShapes Go.WideShapes Go.ChangeAt Go.RowKit
theorem tl_drew {B : Nat} {w : World} {l : Value} {T : List (Tk × Int)} (h : w.ownsRow B 95 4 l T.length (cellsZ T)) : Tl B w w.drew l l T := ⟨own_only h (od1 (S := fun _ => False)) (fun _ _ h => h), od1, fun j hj => .inl hj⟩
theorem strs_on {B : Nat} {w w' : World} {l : List (List UInt8)} {ma : Option Addr} (h : StrsAt (fun b => b < B) w l ma) (ho : Only (fun j => B ≤ j) w w') : StrsAt (fun b => b < B) w' l ma := fun i hi => by
 obtain ⟨b, o, e, hb, hc⟩ := h i hi
 exact ⟨b, o, e, hb, ho.cell (a := ⟨b, o + i, none⟩) (fun h' => by have h1 : b < B := hb; have h2 : B ≤ b := h'; omega) hc⟩
theorem kids_on {B : Nat} {w w' : World} {l : List Xp} {ma : Option Addr} (h : KidsAt (fun b => b < B) w l ma) (ho : Only (fun j => B ≤ j) w w') : KidsAt (fun b => b < B) w' l ma :=
 h.mv (fun _ h => h) (fun b o v hb hc => ho.cell (a := ⟨b, o, none⟩) (fun h' => by have h1 : b < B := hb; have h2 : B ≤ b := h'; omega) hc)
def eqT (s : List UInt8) : List Tk := if s = [] then [] else [sg [61]]
theorem str_nil_ne9 {s : List UInt8} (h : s ≠ []) : (str s).toList.isEmpty = false := by rw [strE]; simpa using h
theorem scall_any (nm fr : List UInt8) (sec mu : Bool) (ex : List Xp) (ar : List (List UInt8)) (mx ma mb ml : Option Addr) (nx cx na ca nb cb nl cl : Nat) (B : Nat) (l : Value) (T : List (Tk × Int)) (w0 : World) (hX : KidsAt (fun b => b < B) w0 ex mx) (hA : StrsAt (fun b => b < B) w0 ar ma) (hnx : ex.length = nx) (hna : ar.length = na) (hxl : ex.length ≤ 140737488355328) (hal : ar.length ≤ 140737488355328) (hmy : ∀ x ∈ ex, mayB 40 x = true) (hnd : ∀ x ∈ ex, x.nodes ≤ 100000)
 (hW : Wr B w0) (ho : w0.ownsRow B 95 4 l T.length (cellsZ T)) (hb : T.length + (comT xpT ex).length + (comT (fun s => [nmT s]) ar).length ≤ 900000) :
 Calls Tryz.prog 164 #[l, .agg #[.int .u8 11, .string (str nm), .string (str fr), .bool sec, .bool mu, .slice mx nx cx, .slice ma na ca, .slice mb nb cb, .slice ml nl cl]] w0 fun r w' => ∃ l', r = .returned l' ∧ Tl B w0 w' l l' (T ++ zs (eqT nm ++ (nmT fr :: sg [40] :: (comT xpT ex ++ sg [59] :: (comT (fun s => [nmT s]) ar ++ [sg [41], sg [59]]))))) := by
 obtain ⟨sn, hsn⟩ : ∃ sn, sn = str nm := ⟨_, rfl⟩
 rw [← hsn]
 obtain ⟨W0, hWe⟩ : ∃ W0, w0.alloc (.cells #[.int .u8 11, .string sn, .string (str fr), .bool sec, .bool mu, .slice mx nx cx, .slice ma na ca, .slice mb nb cb, .slice ml nl cl] 52) = W0 := ⟨_, rfl⟩
 have hBw : Below w0.heap.size w0 W0 := by rw [← hWe]; exact aB (Below.refl _ _) _
 have hr0 : rowG #[.int .u8 11, .string sn, .string (str fr), .bool sec, .bool mu, .slice mx nx cx, .slice ma na ca, .slice mb nb cb, .slice ml nl cl] W0 w0.heap.size := by rw [← hWe]; exact rowG_at _ _ _ _ rfl
 have ho0 := own_of ho hBw
 have hB00 : B ≤ W0.heap.size := Nat.le_trans hW.le hBw.size
 have hn0 : l.ownBlock ≠ some w0.heap.size := own_new ho (.inl (Nat.le_refl _))
 have t1 : W0.cell? ⟨w0.heap.size, 1, none⟩ = some (.string sn) := hr0.1 1 (by simp)
 have hl0 := hr0.2.2
 have hEl : (eqT nm).length ≤ 1 := by unfold eqT; split <;> simp
 by_cases hnm : nm = []
 case' pos =>
  have hne : sn.toList.isEmpty = true := by rw [hsn, strE]; simpa using hnm
  have hT1 : Tl B w0 W0 l l (T ++ zs (eqT nm)) := by
   rw [show T ++ zs (eqT nm) = T from by simp [eqT, hnm, zs]]
   exact ⟨ho0, only_below hBw, fun j hj => .inl hj⟩
  generalize eqT nm = E at hT1 hEl ⊢
  clear hsn hnm
  go_enter Tryz.func164, Tryz.ntmps164
  go_wp2
  obtain ⟨u7, u8, u9, u10, hu⟩ : ∃ u7 u8 u9 u10 : Value, u7 = .bool false ∧ u8 = undef ∧ u9 = undef ∧ u10 = undef := ⟨_, _, _, _, rfl, rfl, rfl, rfl⟩
  have hr1 := hr0
  have hn1 := hn0
  have hB0 := hB00
  obtain ⟨lA, rfl⟩ : ∃ lA, lA = l := ⟨_, rfl⟩
  obtain ⟨Wn, rfl⟩ : ∃ Wn, Wn = W0 := ⟨_, rfl⟩
 case' neg =>
  have hne : sn.toList.isEmpty = false := by rw [hsn]; exact str_nil_ne9 hnm
  have hE : zs ([[61]].map sg) = zs (eqT nm) := by simp [eqT, hnm]
  have hsg := rsign_any [[61]] W0.heap.size 1 B l T (W0.alloc (.cells #[.string { data := #[61] }] 9)) rfl (hasS_strs (ss := [[61]]) (HasS.new (strC [[61]]).toArray 9 W0)) (by simp) (own_new ho0 (.inl (Nat.le_refl _))) (ho0.alloc _) (Nat.le_trans hB00 (by simp)) (by simp only [List.length_cons, List.length_nil]; omega)
  rw [hE] at hsg
  generalize eqT nm = E at hsg hEl ⊢
  clear hsn hnm hE
  go_enter Tryz.func164, Tryz.ntmps164
  go_wp2_with (go_at_call 117; ((with_reducible refine hsg.mono ?_); (rintro e Wn ⟨lA, rfl, hT0⟩)))
  clear hsg
  have hT1w := hT0.pre (aB (Below.refl W0.heap.size W0) _)
  have hr1 := rowG_only hr0 hT1w.only hn0
  have hn1 := hT1w.apart hl0 hn0
  have hB0 := Nat.le_trans hB00 hT1w.only.size
  have hT1 := hT1w.pre hBw
  obtain ⟨u7, u8, u9, u10, hu⟩ : ∃ u7 u8 u9 u10 : Value, u7 = .bool true ∧ u8 = l ∧ u9 = .slice (some ⟨W0.heap.size, 0, none⟩) 1 1 ∧ u10 = lA := ⟨_, _, _, _, rfl, rfl, rfl, rfl⟩
 all_goals
  have HU := Lib.hid hu
  clear hu t1 hl0 hne hWe hr0 hn0 hB00 ho0
  have hoX := hT1.own
  have hOn0 : Only (fun j => B ≤ j) w0 Wn := hT1.only.mono (own_ge ho)
  have hFi : ∀ w', Only (fun j => lA.ownBlock = some j) Wn w' → w'.cell? ⟨w0.heap.size, 2, none⟩ = some (.string (str fr)) ∧ w'.cell? ⟨w0.heap.size, 5, none⟩ = some (.slice mx nx cx) := fun w' h => ⟨(rowG_only hr1 h hn1).1 2 (by simp), (rowG_only hr1 h hn1).1 5 (by simp)⟩
  have hF0 : Only (fun j => lA.ownBlock = some j) Wn Wn.drew := od1
  have hT00 := tl_drew hoX
  refine region_KN (fun w' => Only (fun j => lA.ownBlock = some j) Wn w') (by kernel_rfl) ?_
  have q : Pq [0, 1, 2, 6, 7] := trivial
  iterate 5
   refine tkN q rfl (by kernel_rfl) hF0 fun K hK => ?_
   replace q := q.tl
   apply Exists.intro
   refine ⟨Or.inl ⟨by kernel_rfl, fun w' hf => ?_⟩, ?_⟩
   ·obtain ⟨s2, s5⟩ := hFi _ hf
    go_simp
    try exact rfl
   go_simp
   refine hK _ ?_
   clear hK K
  refine wpAnyK_inv (fun fu L a w => ∃ (c0 c1 c2 c3 s0 s1 : Bool) (l1 l2 l3 l4 : Value) (K0 K1 : Nat), fu = 1 + (tgN c0 + tgN c1 + tgN c2 + tgN c3 + tgN s0 + tgN s1) ∧ L = #[true, true, true, c0, s0, c1, true, true, c2, s1, c3, false] ∧ a = ⟨#[lA, .agg #[.int .u8 11, .string sn, .string (str fr), .bool sec, .bool mu, .slice mx nx cx, .slice ma na ca, .slice mb nb cb, .slice ml nl cl], undef, .pointer (some ⟨w0.heap.size, 0, none⟩), .slice none 0 0, .pointer (some ⟨w0.heap.size, 1, none⟩), .string sn, u7, u8, u9, u10, lA, .pointer (some ⟨w0.heap.size, 2, none⟩), .string (str fr), (bif c0 then l1 else undef), (bif s0 then .slice (some ⟨K0, 0, none⟩) 1 1 else undef), (bif c1 then l2 else undef), .pointer (some ⟨w0.heap.size, 5, none⟩), .slice mx nx cx, (bif c2 then l3 else undef), (bif s1 then .slice (some ⟨K1, 0, none⟩) 1 1 else undef), (bif c3 then l4 else undef), undef, undef, undef, undef, undef, undef], []⟩ ∧ ((c1 = true → c0 = true) ∧ (c2 = true → c1 = true) ∧ (c3 = true → c2 = true) ∧ (c1 = true → s0 = true) ∧ (c3 = true → s1 = true)) ∧ Tl B Wn w lA (bif c3 then l4 else (bif c2 then l3 else (bif c1 then l2 else (bif c0 then l1 else lA)))) (bif c3 then ((T ++ zs E) ++ zs ([nmT fr]) ++ zs ([[40]].map sg) ++ zs (comT xpT ex) ++ zs ([[59]].map sg)) else (bif c2 then ((T ++ zs E) ++ zs ([nmT fr]) ++ zs ([[40]].map sg) ++ zs (comT xpT ex)) else (bif c1 then ((T ++ zs E) ++ zs ([nmT fr]) ++ zs ([[40]].map sg)) else (bif c0 then ((T ++ zs E) ++ zs ([nmT fr])) else ((T ++ zs E)))))) ∧ ((s0 = true → HasS (strC [[40]]).toArray 9 K0 w) ∧ (s1 = true → HasS (strC [[59]]).toArray 9 K1 w))) ?_ _ _ _ _ ⟨false, false, false, false, false, false, undef, undef, undef, undef, 0, 0, rfl, rfl, (by obtain ⟨rfl, rfl, rfl, rfl⟩ := HU.out; rfl), ⟨(by simp), (by simp), (by simp), (by simp), (by simp)⟩, hT00, ⟨(by simp), (by simp)⟩⟩
  intro fu L a w hI
  obtain ⟨c0, c1, c2, c3, s0, s1, l1, l2, l3, l4, K0, K1, rfl, rfl, rfl, ⟨e0, e1, e2, e3, e4⟩, hTc, ⟨a0, a1⟩⟩ := hI
  by_cases hall : (c0 = true ∧ c1 = true ∧ c2 = true ∧ c3 = true ∧ s0 = true ∧ s1 = true)
  rotate_left
  ·right
   refine ⟨0 + (tgN c0 + tgN c1 + tgN c2 + tgN c3 + tgN s0 + tgN s1), by omega, ?_, ?_⟩
   ·intro hr
    have nin : ∀ j, j ∉ Region.ready _ _ _ := fun j hj => by rw [hr] at hj; cases hj
    obtain rfl := bt fun h : s0 = false => nin 4 (rd h rfl rfl)
    obtain rfl := bt fun h : s1 = false => nin 9 (rd h rfl rfl)
    obtain rfl := bt fun h : c0 = false => nin 3 (rd h rfl rfl)
    obtain rfl := bt fun h : c1 = false => nin 5 (rd h rfl rfl)
    obtain rfl := bt fun h : c2 = false => nin 8 (rd h rfl rfl)
    obtain rfl := bt fun h : c3 = false => nin 10 (rd h rfl rfl)
    exact hall ⟨rfl, rfl, rfl, rfl, rfl, rfl⟩
   ·intro i hi
    obtain ⟨h0, o, ho, hd⟩ := mem_ready.1 hi
    have hiN : i < 12 := by simpa using (Array.getElem?_eq_some_iff.1 ho).1
    have hcN : i = 0 ∨ i = 1 ∨ i = 2 ∨ i = 3 ∨ i = 4 ∨ i = 5 ∨ i = 6 ∨ i = 7 ∨ i = 8 ∨ i = 9 ∨ i = 10 ∨ i = 11 := by omega
    clear hi hiN
    rcases hcN with rfl | rfl | rfl | rfl | rfl | rfl | rfl | rfl | rfl | rfl | rfl | rfl
    ·simp at h0
    ·simp at h0
    ·simp at h0
    ·simp at ho h0
     subst ho
     simp [Region.binds] at hd
     subst h0
     refine wpOp_step rfl (fun K' hK => ?_)
     clear hd
     obtain rfl := bff e0
     obtain rfl := bff e1
     obtain rfl := bff e2
     simp only [cond_true, cond_false] at hTc
     have hOj := hTc.only
     have hBj := Nat.le_trans hB0 hOj.size
     go_simp
     go_at_call 116
     with_reducible refine (rname_any fr B _ _ _ hTc.own hBj (by simp [zs] <;> omega)).mono ?_
     rintro r' w' ⟨l', rfl, hTx⟩
     have hTn := hTc.trans hTx
     have hS := fun C K (h : HasS C 9 K w) => h.call (by decide) hTc.own hTx.only
     refine hK _ _ ⟨hTn.only, true, false, false, false, s0, s1, l', l2, l3, l4, K0, K1, by simp only [tgN_t, tgN_f] <;> omega, rfl, rfl, (by and_intros <;> first | assumption | exact fun _ => rfl | exact fun h => by cases h), hTn, ⟨(fun h => hS _ _ (a0 h)), (fun h => hS _ _ (a1 h))⟩⟩
    ·simp at ho h0
     subst ho
     simp [Region.binds] at hd
     subst h0
     refine wpOp_step rfl (fun K' hK => ?_)
     go_simp
     refine hK _ _ ⟨(hTc.alloc _).only, c0, c1, c2, c3, true, s1, l1, l2, l3, l4, w.heap.size, K1, by simp only [tgN_t, tgN_f] <;> omega, rfl, rfl, (by and_intros <;> first | assumption | exact fun _ => rfl | exact fun h => by cases h), hTc.alloc _, ⟨(fun _ => HasS.new _ _ _), (fun h => HasS.alloc (a1 h) _)⟩⟩
    ·simp at ho h0
     subst ho
     simp [Region.binds] at hd
     subst h0
     refine wpOp_step rfl (fun K' hK => ?_)
     obtain rfl : c0 = true := by simp [hd]
     obtain rfl : s0 = true := by simp [hd]
     clear hd
     obtain rfl := bff e1
     obtain rfl := bff e2
     simp only [cond_true, cond_false] at hTc
     have hOj := hTc.only
     have hBj := Nat.le_trans hB0 hOj.size
     go_simp
     go_at_call 117
     with_reducible refine (rsign_c 1 (a0 rfl) hTc hBj rfl (by simp [zs] <;> omega)).mono ?_
     rintro r' w' ⟨l', rfl, hTx⟩
     have hTn := hTc.trans hTx
     have hS := fun C K (h : HasS C 9 K w) => h.call (by decide) hTc.own hTx.only
     refine hK _ _ ⟨hTn.only, true, true, false, false, true, s1, l1, l', l3, l4, K0, K1, by simp only [tgN_t, tgN_f] <;> omega, rfl, rfl, (by and_intros <;> first | assumption | exact fun _ => rfl | exact fun h => by cases h), hTn, ⟨(fun h => hS _ _ (a0 h)), (fun h => hS _ _ (a1 h))⟩⟩
    ·simp at h0
    ·simp at h0
    ·simp at ho h0
     subst ho
     simp [Region.binds] at hd
     subst h0
     refine wpOp_step rfl (fun K' hK => ?_)
     obtain rfl : c1 = true := by simp [hd]
     clear hd
     obtain rfl := e0 rfl
     obtain rfl := e3 rfl
     obtain rfl := bff e2
     simp only [cond_true, cond_false] at hTc
     have hOj := hTc.only
     have hBj := Nat.le_trans hB0 hOj.size
     go_simp
     have hOnj := hOn0.trans (hOj.mono (own_ge hoX))
     go_at_call 182
     with_reducible refine (rlist_m.2.1 ex mx nx cx B _ _ _ hnx (kids_on hX hOnj) hmy hnd (hW.only hOnj (fun _ h => h)) hxl hTc.own (by simp [zs] <;> omega)).mono ?_
     rintro r' w' ⟨l', rfl, hTx⟩
     have hTn := hTc.trans hTx
     have hS := fun C K (h : HasS C 9 K w) => h.call (by decide) hTc.own hTx.only
     refine hK _ _ ⟨hTn.only, true, true, true, false, true, s1, l1, l2, l', l4, K0, K1, by simp only [tgN_t, tgN_f] <;> omega, rfl, rfl, (by and_intros <;> first | assumption | exact fun _ => rfl | exact fun h => by cases h), hTn, ⟨(fun h => hS _ _ (a0 h)), (fun h => hS _ _ (a1 h))⟩⟩
    ·simp at ho h0
     subst ho
     simp [Region.binds] at hd
     subst h0
     refine wpOp_step rfl (fun K' hK => ?_)
     go_simp
     refine hK _ _ ⟨(hTc.alloc _).only, c0, c1, c2, c3, s0, true, l1, l2, l3, l4, K0, w.heap.size, by simp only [tgN_t, tgN_f] <;> omega, rfl, rfl, (by and_intros <;> first | assumption | exact fun _ => rfl | exact fun h => by cases h), hTc.alloc _, ⟨(fun h => HasS.alloc (a0 h) _), (fun _ => HasS.new _ _ _)⟩⟩
    ·simp at ho h0
     subst ho
     simp [Region.binds] at hd
     subst h0
     refine wpOp_step rfl (fun K' hK => ?_)
     obtain rfl : c2 = true := by simp [hd]
     obtain rfl : s1 = true := by simp [hd]
     clear hd
     obtain rfl := e1 rfl
     obtain rfl := e0 rfl
     obtain rfl := e3 rfl
     simp only [cond_true, cond_false] at hTc
     have hOj := hTc.only
     have hBj := Nat.le_trans hB0 hOj.size
     go_simp
     go_at_call 117
     with_reducible refine (rsign_c 1 (a1 rfl) hTc hBj rfl (by simp [zs] <;> omega)).mono ?_
     rintro r' w' ⟨l', rfl, hTx⟩
     have hTn := hTc.trans hTx
     have hS := fun C K (h : HasS C 9 K w) => h.call (by decide) hTc.own hTx.only
     refine hK _ _ ⟨hTn.only, true, true, true, true, true, true, l1, l2, l3, l', K0, K1, by simp only [tgN_t, tgN_f] <;> omega, rfl, rfl, (by and_intros <;> first | assumption | exact fun _ => rfl | exact fun h => by cases h), hTn, ⟨(fun h => hS _ _ (a0 h)), (fun h => hS _ _ (a1 h))⟩⟩
    ·exact (hall (by simp at ho; subst ho; simp [Region.binds] at hd <;> simp_all)).elim
  obtain ⟨rfl, rfl, rfl, rfl, rfl, rfl⟩ := hall
  left
  simp only [cond_true, cond_false] at hTc
  have hTe := hTc
  clear hTc e0 e1 e2 e3 e4 a0 a1
  refine wpAnyK_one (k := 11) (by kernel_rfl) ?_
  refine wpOp_step rfl (fun K hK => ?_)
  go_simp
  refine hK _ _ ⟨hTe.only, ?_⟩
  clear hK K
  refine wpAnyK_done (by kernel_rfl) ⟨rfl, ?_⟩
  clear hFi hF0 hT00
  have hr := rowG_only hr1 hTe.only hn1
  have hOn : Only (fun j => B ≤ j) w0 w := hOn0.trans (hTe.only.mono (own_ge hoX))
  have t6 : w.cell? ⟨w0.heap.size, 6, none⟩ = some (.slice ma na ca) := hr.1 6 (by simp)
  have hlw := hr.2.2
  have hBe : B ≤ w.heap.size := Nat.le_trans hB0 hTe.only.size
  have hls := rlist_m.2.2 ar ma na ca B l4 _ w hna (strs_on hA hOn) (hW.only hOn (fun _ h => h)) hal hTe.own (by simp [zs] <;> omega)
  go_wp2_with (first | (go_at_call 183; ((with_reducible refine hls.mono ?_); (rintro e v3 ⟨q1, rfl, hT3⟩); have hsg2 := rsign_any [[41], [59]] v3.heap.size 2 B q1 _ (v3.alloc (.cells #[.string { data := #[41] }, .string { data := #[59] }] 9)) rfl (hasS_strs (ss := [[41], [59]]) (HasS.new (strC [[41], [59]]).toArray 9 v3)) (by simp) (own_new hT3.own (.inl (Nat.le_refl _))) (hT3.own.alloc _) (Nat.le_trans (Nat.le_trans hBe hT3.only.size) (by simp)) (by simp [zs] <;> omega))) | (go_at_call 117; ((with_reducible refine hsg2.mono ?_); (rintro e v4 ⟨q2, rfl, hT4⟩))))
  go_ret
  have hz := hT1.trans ((hTe.trans hT3).trans (hT4.pre (aB (Below.refl _ _) _)))
  rw [show T ++ zs E ++ zs [nmT fr] ++ zs ([[40]].map sg) ++ zs (comT xpT ex) ++ zs ([[59]].map sg) ++ zs (comT (fun s => [nmT s]) ar) ++ zs ([[41], [59]].map sg) = T ++ zs (E ++ (nmT fr :: sg [40] :: (comT xpT ex ++ sg [59] :: (comT (fun s => [nmT s]) ar ++ [sg [41], sg [59]])))) from by simp [zs]] at hz
  exact ⟨_, rfl, hz⟩
def tlJ (sec : Bool) (rt : List Xp) (j : Nat) : List Tk := (rt.take j).flatMap fun e => sg [61] :: (secT sec ++ xpT e)
theorem tlJ_succ (sec : Bool) (rt : List Xp) (j : Nat) (h : j < rt.length) : tlJ sec rt (j + 1) = tlJ sec rt j ++ (sg [61] :: (secT sec ++ xpT rt[j])) := by
 unfold tlJ
 rw [List.take_succ_eq_append_getElem h, List.flatMap_append]
 simp
theorem tlJ_le (sec : Bool) (rt : List Xp) (j : Nat) : (tlJ sec rt j).length ≤ (tlJ sec rt rt.length).length := by
 unfold tlJ
 rw [List.take_length]
 exact flat_take_le _ rt j
theorem tail_any (nm : List UInt8) (rt : List Xp) (mp mb mr : Option Addr) (np cp nb cb nr cr : Nat) (sec : Bool) (B : Nat) (w0 : World) (hR : KidsAt (fun b => b < B) w0 rt mr) (hn : rt.length = nr) (hrl : rt.length ≤ 140737488355328) (hmy : ∀ x ∈ rt, mayB 40 x = true) (hnd : ∀ x ∈ rt, x.nodes ≤ 100000) (hW : Wr B w0) (hb : (tlJ sec rt rt.length).length ≤ 900000) :
 Calls Tryz.prog 67 #[.agg #[.string (str nm), .slice mp np cp, .slice mb nb cb, .bool sec, .slice mr nr cr]] w0 fun r w' => ∃ l', r = .returned l' ∧ Tl B w0 w' (.slice none 0 0) l' (zs (sg [125] :: (tlJ sec rt rt.length ++ [sg [59]]))) := by
 obtain ⟨W, hWe⟩ : ∃ W, w0.alloc (.cells #[.string (str nm), .slice mp np cp, .slice mb nb cb, .bool sec, .slice mr nr cr] 43) = W := ⟨_, rfl⟩
 have hBw : Below w0.heap.size w0 W := by rw [← hWe]; exact aB (Below.refl _ _) _
 have hrW : rowG #[.string (str nm), .slice mp np cp, .slice mb nb cb, .bool sec, .slice mr nr cr] W w0.heap.size := by rw [← hWe]; exact rowG_at _ _ _ _ rfl
 have hB00 : B ≤ W.heap.size := Nat.le_trans hW.le hBw.size
 have hn47 : nr ≤ 140737488355328 := by omega
 have HN := Lib.hid hn
 have HB := Lib.hid hb
 have HR := Lib.hid hR
 have HMY := Lib.hid hmy
 have HND := Lib.hid hnd
 have HW := Lib.hid hW
 clear hn hb hR hmy hnd hW hrl
 have hob := own_built W B hB00
 have hsg := rsign_any [[125]] (W.heap.size + 1) 1 B (.slice (some ⟨W.heap.size, 0, none⟩) 0 0) [] ((W.alloc (.cells #[] 95)).alloc (.cells #[.string { data := #[125] }] 9)) rfl (hasS_strs (ss := [[125]]) (by have := HasS.new (strC [[125]]).toArray 9 (W.alloc (.cells #[] 95)); rw [World.size_alloc] at this; exact this)) (by simp) (fun e => by simp [Value.ownBlock] at e) (hob.alloc _) (Nat.le_trans hB00 (by simp; omega)) (by simp)
 go_enter Tryz.func67, Tryz.ntmps67
 go_wp2_with (go_at_call 117; ((with_reducible refine hsg.mono ?_); (rintro e v1 ⟨lA, rfl, hT1⟩); have hT1w : Tl B W v1 (.slice none 0 0) lA ([] ++ zs ([[125]].map sg)) := ⟨hT1.own, (only_below (aB (aB (Below.refl _ _) _) _)).old hT1.only (fun j hj => .inr (by cases hj; exact Nat.le_refl _)), fun j hj => .inr ((hT1.blk j hj).elim (fun h => by cases h; exact Nat.le_refl _) (fun h => by simp at h; omega))⟩; have hrv := rowG_only hrW hT1w.only (nil_own _); have u4 : v1.cell? ⟨w0.heap.size, 4, none⟩ = some (.slice mr nr cr) := hrv.1 4 (by simp); have hlv := hrv.2.2))
 clear hsg hob hT1
 go_loopw [3, 12] (fun l1 i wr => ∃ j : Nat, j ≤ nr ∧ i = .int .i64 j ∧ Tl B W wr (.slice none 0 0) l1 (zs (sg [125] :: tlJ sec rt j))) (fun _ i _ => nr - (intOf i).toNat)
 case atStart => exact ⟨0, by omega, rfl, by simpa [zs, tlJ] using hT1w⟩
 case round =>
  obtain ⟨j, hj, rfl, hT⟩ := hrel
  by_cases hlt : j < nr
  ·have hlt' : j < rt.length := by rw [HN.out]; exact hlt
   have hOw : Only (fun j => B ≤ j) w0 wr := ((only_below hBw).trans (hT.only.mono (fun j h => (nil_own _ h).elim)))
   obtain ⟨b, o, hma⟩ := kids_some HR.out (by omega)
   subst hma
   obtain ⟨ka, kc, hkid⟩ := kidIn (kids_on HR.out hOw) j hlt'
   obtain ⟨hbB, g0, g1, g2, g3, g4, hEx⟩ := hkid
   have hmx := HMY.out _ (List.getElem_mem hlt')
   have hnx := HND.out _ (List.getElem_mem hlt')
   have hsu := tlJ_succ sec rt j hlt'
   have hle := tlJ_le sec rt (j + 1)
   have hHB := HB.out
   obtain ⟨x, hx⟩ : ∃ x, x = rt[j] := ⟨_, rfl⟩
   rw [← hx] at hEx hmx hnx hsu g0 g1 g2 g3 g4
   have hlen : (tlJ sec rt j).length + (secT sec).length + (xpT x).length ≤ 900000 := by
    rw [hsu] at hle
    simp only [List.length_append, List.length_cons] at hle
    omega
   have HSU := Lib.hid hsu
   have HX := Lib.hid hx
   clear hsu hle hHB hx
   have hbl : b < wr.heap.size := World.block_lt_of_cell? wr _ g0
   obtain ⟨W1, hW1⟩ : ∃ W1, wr.alloc (.cells #[.int .u8 (x.k : Int), .int .u64 (x.n : Int), .string (str x.s), .int .u8 (x.o : Int), .slice ka x.l.length kc] 47) = W1 := ⟨_, rfl⟩
   have hB1 : Below wr.heap.size wr W1 := by rw [← hW1]; exact aB (Below.refl _ _) _
   have hr1 : rowG #[.int .u8 (x.k : Int), .int .u64 (x.n : Int), .string (str x.s), .int .u8 (x.o : Int), .slice ka x.l.length kc] W1 wr.heap.size := by rw [← hW1]; exact rowG_at _ _ _ _ rfl
   have hr5 := rowG_b (rowG_only hrW hT.only (nil_own _)) hB1
   have hoX := own_of hT.own hB1
   have hnb1 : u3.ownBlock ≠ some wr.heap.size := own_new hT.own (.inl (Nat.le_refl _))
   have hnb0 : u3.ownBlock ≠ some w0.heap.size := fun e => (hT.blk _ e).elim (nil_own _) (fun h => by have := hrW.2.2; omega)
   have hB0 : B ≤ W1.heap.size := Nat.le_trans hB00 (Nat.le_trans hT.only.size hB1.size)
   obtain ⟨T1, hT1e⟩ : ∃ T1, T1 = zs (sg [125] :: tlJ sec rt j) := ⟨_, rfl⟩
   have hT1l : T1.length = 1 + (tlJ sec rt j).length := by rw [hT1e, zs_len, List.length_cons]; omega
   rw [← hT1e] at hoX
   have hT00 := tl_drew hoX
   have HT := Lib.hid hT
   have HT1 := Lib.hid hT1e
   have c0 := hr1.1 0 (by simp); have c1 := hr1.1 1 (by simp); have c2 := hr1.1 2 (by simp); have c3 := hr1.1 3 (by simp); have c4 := hr1.1 4 (by simp)
   have hFi : ∀ w', Only (fun j => u3.ownBlock = some j) W1 w' → w'.cell? ⟨w0.heap.size, 3, none⟩ = some (.bool sec) ∧ w'.cell? ⟨wr.heap.size, 0, none⟩ = some (.int .u8 (x.k : Int)) ∧ w'.cell? ⟨wr.heap.size, 1, none⟩ = some (.int .u64 (x.n : Int)) ∧ w'.cell? ⟨wr.heap.size, 2, none⟩ = some (.string (str x.s)) ∧ w'.cell? ⟨wr.heap.size, 3, none⟩ = some (.int .u8 (x.o : Int)) ∧ w'.cell? ⟨wr.heap.size, 4, none⟩ = some (.slice ka x.l.length kc) := fun w' h => ⟨(rowG_only hr5 h hnb0).1 3 (by simp), h.cell hnb1 c0, h.cell hnb1 c1, h.cell hnb1 c2, h.cell hnb1 c3, h.cell hnb1 c4⟩
   have hF0 : Only (fun j => u3.ownBlock = some j) W1 W1.drew := od1
   clear hT hT1e c0 c1 c2 c3 c4
   go_wp2
   refine region_KN (fun w' => Only (fun j => u3.ownBlock = some j) W1 w') (by kernel_rfl) ?_
   have q : Pq [0, 3, 4, 6] := trivial
   iterate 4
    refine tkN q rfl (by kernel_rfl) hF0 fun K hK => ?_
    replace q := q.tl
    apply Exists.intro
    refine ⟨Or.inl ⟨by kernel_rfl, fun w' hf => ?_⟩, ?_⟩
    ·obtain ⟨s3, k0, k1, k2, k3, k4⟩ := hFi _ hf
     go_simp
     try exact rfl
    go_simp
    refine hK _ ?_
    clear hK K
   refine wpAnyK_inv (fun fu L a w => ∃ (c0 c1 c2 s0 : Bool) (l1 l2 l3 : Value) (K0 : Nat), fu = 1 + (tgN c0 + tgN c1 + tgN c2 + tgN s0) ∧ L = #[true, s0, c0, true, true, c1, true, c2, false] ∧ a = ⟨#[.agg #[.string (str nm), .slice mp np cp, .slice mb nb cb, .bool sec, .slice (some ⟨b, o, none⟩) nr cr], .pointer (some ⟨w0.heap.size, 0, none⟩), .slice none 0 0, u3, undef, .pointer (some ⟨wr.heap.size, 0, none⟩), .slice (some ⟨W.heap.size, 0, none⟩) 0 0, .slice (some ⟨W.heap.size + 1, 0, none⟩) 1 1, lA, .pointer (some ⟨w0.heap.size, 4, none⟩), .slice (some ⟨b, o, none⟩) nr cr, .int .i64 nr, .int .i64 j, .bool true, .pointer (some ⟨b, o + j * 5, none⟩), .agg #[.int .u8 (x.k : Int), .int .u64 (x.n : Int), .string (str x.s), .int .u8 (x.o : Int), .slice ka x.l.length kc], u3, (bif s0 then .slice (some ⟨K0, 0, none⟩) 1 1 else u17), (bif c0 then l1 else u18), .pointer (some ⟨w0.heap.size, 3, none⟩), .bool sec, (bif c1 then l2 else u21), .agg #[.int .u8 (x.k : Int), .int .u64 (x.n : Int), .string (str x.s), .int .u8 (x.o : Int), .slice ka x.l.length kc], (bif c2 then l3 else u23), u24, undef, undef, undef], []⟩ ∧ ((c1 = true → c0 = true) ∧ (c2 = true → c1 = true) ∧ (c0 = true → s0 = true)) ∧ Tl B W1 w u3 (bif c2 then l3 else (bif c1 then l2 else (bif c0 then l1 else u3))) (bif c2 then (T1 ++ zs ([[61]].map sg) ++ zs (secT sec) ++ zs (xpT x)) else (bif c1 then (T1 ++ zs ([[61]].map sg) ++ zs (secT sec)) else (bif c0 then (T1 ++ zs ([[61]].map sg)) else (T1)))) ∧ ((s0 = true → HasS (strC [[61]]).toArray 9 K0 w))) ?_ _ _ _ _ ⟨false, false, false, false, undef, undef, undef, 0, rfl, rfl, rfl, ⟨(by simp), (by simp), (by simp)⟩, hT00, (by simp)⟩
   intro fu L a w hI
   obtain ⟨c0, c1, c2, s0, l1, l2, l3, K0, rfl, rfl, rfl, ⟨e0, e1, e2⟩, hTc, a0⟩ := hI
   by_cases hall : (c0 = true ∧ c1 = true ∧ c2 = true ∧ s0 = true)
   rotate_left
   ·right
    refine ⟨0 + (tgN c0 + tgN c1 + tgN c2 + tgN s0), by omega, ?_, ?_⟩
    ·intro hr
     have nin : ∀ j, j ∉ Region.ready _ _ _ := fun j hj => by rw [hr] at hj; cases hj
     obtain rfl := bt fun h : s0 = false => nin 1 (rd h rfl rfl)
     obtain rfl := bt fun h : c0 = false => nin 2 (rd h rfl rfl)
     obtain rfl := bt fun h : c1 = false => nin 5 (rd h rfl rfl)
     obtain rfl := bt fun h : c2 = false => nin 7 (rd h rfl rfl)
     exact hall ⟨rfl, rfl, rfl, rfl⟩
    ·intro i hi
     obtain ⟨h0, o, ho, hd⟩ := mem_ready.1 hi
     have hiN : i < 9 := by simpa using (Array.getElem?_eq_some_iff.1 ho).1
     have hcN : i = 0 ∨ i = 1 ∨ i = 2 ∨ i = 3 ∨ i = 4 ∨ i = 5 ∨ i = 6 ∨ i = 7 ∨ i = 8 := by omega
     clear hi hiN
     rcases hcN with rfl | rfl | rfl | rfl | rfl | rfl | rfl | rfl | rfl
     ·simp at h0
     ·simp at ho h0
      subst ho
      simp [Region.binds] at hd
      subst h0
      refine wpOp_step rfl (fun K' hK => ?_)
      go_simp
      refine hK _ _ ⟨(hTc.alloc _).only, c0, c1, c2, true, l1, l2, l3, w.heap.size, by simp only [tgN_t, tgN_f] <;> omega, rfl, rfl, (by and_intros <;> first | assumption | exact fun _ => rfl | exact fun h => by cases h), hTc.alloc _, (fun _ => HasS.new _ _ _)⟩
     ·simp at ho h0
      subst ho
      simp [Region.binds] at hd
      subst h0
      refine wpOp_step rfl (fun K' hK => ?_)
      obtain rfl : s0 = true := by simp [hd]
      clear hd
      obtain rfl := bff e0
      obtain rfl := bff e1
      simp only [cond_true, cond_false] at hTc
      have hOj := hTc.only
      have hBj := Nat.le_trans hB0 hOj.size
      go_simp
      go_at_call 117
      with_reducible refine (rsign_c 1 (a0 rfl) hTc hBj rfl (by first | omega | (simp; omega) | (simp [zs]; omega))).mono ?_
      rintro r' w' ⟨l', rfl, hTx⟩
      have hTn := hTc.trans hTx
      refine hK _ _ ⟨hTn.only, true, false, false, true, l', l2, l3, K0, by simp only [tgN_t, tgN_f] <;> omega, rfl, rfl, (by and_intros <;> first | assumption | exact fun _ => rfl | exact fun h => by cases h), hTn, (fun h => HasS.call (a0 h) (by decide) hTc.own hTx.only)⟩
     ·simp at h0
     ·simp at h0
     ·simp at ho h0
      subst ho
      simp [Region.binds] at hd
      subst h0
      refine wpOp_step rfl (fun K' hK => ?_)
      obtain rfl : c0 = true := by simp [hd]
      clear hd
      obtain rfl := e2 rfl
      obtain rfl := bff e1
      simp only [cond_true, cond_false] at hTc
      have hOj := hTc.only
      have hBj := Nat.le_trans hB0 hOj.size
      go_simp
      go_at_call 121
      with_reducible refine (rsecret_any sec B _ _ _ hTc.own hBj (by first | omega | (simp; omega) | (simp [zs]; omega))).mono ?_
      rintro r' w' ⟨l', rfl, hTx⟩
      have hTn := hTc.trans hTx
      refine hK _ _ ⟨hTn.only, true, true, false, true, l1, l', l3, K0, by simp only [tgN_t, tgN_f] <;> omega, rfl, rfl, (by and_intros <;> first | assumption | exact fun _ => rfl | exact fun h => by cases h), hTn, (fun h => HasS.call (a0 h) (by decide) hTc.own hTx.only)⟩
     ·simp at h0
     ·simp at ho h0
      subst ho
      simp [Region.binds] at hd
      subst h0
      refine wpOp_step rfl (fun K' hK => ?_)
      obtain rfl : c1 = true := by simp [hd]
      clear hd
      obtain rfl := e0 rfl
      obtain rfl := e2 rfl
      simp only [cond_true, cond_false] at hTc
      have hOj := hTc.only
      have hBj := Nat.le_trans hB0 hOj.size
      go_simp
      have hOnj := (only_below (S := fun j => B ≤ j) hB1).trans (hOj.mono (own_ge hoX))
      have hEj := hEx.only hOnj (fun b hb h => by have hb1 : b < B := hb; have h1 : B ≤ b := h; omega)
      have hWj := HW.out.only (hOw.trans hOnj) (fun _ h => h)
      go_at_call 122
      with_reducible refine (rexpr_any x _ B _ _ _ hEj hWj hmx hnx hTc.own (by first | omega | (simp; omega) | (simp [zs]; omega))).mono ?_
      rintro r' w' ⟨l', rfl, hTx⟩
      have hTn := hTc.trans hTx
      refine hK _ _ ⟨hTn.only, true, true, true, true, l1, l2, l', K0, by simp only [tgN_t, tgN_f] <;> omega, rfl, rfl, (by and_intros <;> first | assumption | exact fun _ => rfl | exact fun h => by cases h), hTn, (fun h => HasS.call (a0 h) (by decide) hTc.own hTx.only)⟩
     ·exact (hall (by simp at ho; subst ho; simp [Region.binds] at hd <;> simp_all)).elim
   obtain ⟨rfl, rfl, rfl, rfl⟩ := hall
   left
   simp only [cond_true, cond_false] at hTc
   have hTe := hTc
   clear hTc e0 e1 e2 a0
   refine wpAnyK_one (k := 8) (by kernel_rfl) ?_
   refine wpOp_step rfl (fun K hK => ?_)
   go_simp
   refine hK _ _ ⟨hTe.only, ?_⟩
   clear hK K
   refine wpAnyK_done (by kernel_rfl) ⟨rfl, ?_⟩
   clear hFi hF0 hT00
   have hz := HT.out.trans (hTe.pre hB1)
   rw [HT1.out] at hz
   rw [show zs (sg [125] :: tlJ sec rt j) ++ zs ([[61]].map sg) ++ zs (secT sec) ++ zs (xpT x) = zs (sg [125] :: (tlJ sec rt j ++ (sg [61] :: (secT sec ++ xpT x)))) from by simp [zs]] at hz
   go_wp2
   go_roundw
   case rel => exact ⟨j + 1, by omega, by go_num, by rw [HSU.out]; exact hz⟩
   case measure => simp [intOf]; omega
  ·obtain rfl : j = nr := by omega
   have e : tlJ sec rt j = tlJ sec rt rt.length := by rw [HN.out]
   rw [e] at hT
   have hBr : B ≤ wr.heap.size := Nat.le_trans hB00 hT.only.size
   have hHB := HB.out
   have hsg := rsign_any [[59]] wr.heap.size 1 B u3 _ (wr.alloc (.cells #[.string { data := #[59] }] 9)) rfl (hasS_strs (ss := [[59]]) (HasS.new (strC [[59]]).toArray 9 wr)) (by simp) (own_new hT.own (.inl (Nat.le_refl _))) (hT.own.alloc _) (Nat.le_trans hBr (by simp)) (by simp [zs]; omega)
   go_wp2_with (go_at_call 117; ((with_reducible refine hsg.mono ?_); (rintro e v5 ⟨l5, rfl, hT5⟩)))
   go_ret
   have hz := (hT.trans (hT5.pre (aB (Below.refl _ _) _))).pre hBw
   rw [show zs (sg [125] :: tlJ sec rt rt.length) ++ zs ([[59]].map sg) = zs (sg [125] :: (tlJ sec rt rt.length ++ [sg [59]])) from by simp [zs]] at hz
   exact ⟨_, rfl, hz⟩
end Go.Proofs.YtfbjljcmmbdhkaaGreatDoor
