/- Contract of tail: a function's last line. -/
import Derived.Test.YtkibkaoffgnmkaaGreatDoorL29
import Derived.Test.YtkibkaoffgnmkaaGreatDoorL34
namespace Go.Proofs.YtkibkaoffgnmkaaGreatDoor
set_option linter.unusedVariables false
set_option linter.unusedSimpArgs false
set_option maxRecDepth 100000
set_option maxHeartbeats 200000000
section
open Go.ChangeShapes Go.WideShapes Go.ChangeAt Go.RowKit
def tlJ (sec : Bool) (rt : List Xp) (j : Nat) : List Tk := (rt.take j).flatMap fun e => sg [61] :: (secT sec ++ xpT e)
theorem tlJ_succ (sec : Bool) (rt : List Xp) (j : Nat) (h : j < rt.length) : tlJ sec rt (j + 1) = tlJ sec rt j ++ (sg [61] :: (secT sec ++ xpT rt[j])) := by
 unfold tlJ
 rw [List.take_succ_eq_append_getElem h, List.flatMap_append]
 simp
theorem tlJ_le (sec : Bool) (rt : List Xp) (j : Nat) : (tlJ sec rt j).length ≤ (tlJ sec rt rt.length).length := by
 unfold tlJ
 rw [List.take_length]
 exact flat_take_le _ rt j
theorem tail_any (nm : List UInt8) (rt : List Xp) (mp mb mr : Option Addr) (np cp nb cb nr cr : Nat) (sec : Bool) (B : Nat) (w0 : World) (hR : KidsAt (fun b => b < B) w0 rt mr) (hn : rt.length = nr) (hrl : rt.length ≤ 140737488355328) (hmy : ∀ x ∈ rt, mayB 40 x = true) (hnd : ∀ x ∈ rt, x.nodes ≤ 100000) (hW : Wr B w0) (hb : (tlJ sec rt rt.length).length ≤ 900000) :
  Calls Tryz.prog 67 #[.agg #[.string (str nm), .slice mp np cp, .slice mb nb cb, .bool sec, .slice mr nr cr]] w0 fun r w' => ∃ l', r = .returned l' ∧ Tl B w0 w' (.slice none 0 0) l' (zs (sg [125] :: (tlJ sec rt rt.length ++ [sg [59]]))) := by
 obtain ⟨W, hWe⟩ : ∃ W, w0.alloc (.cells #[.string (str nm), .slice mp np cp, .slice mb nb cb, .bool sec, .slice mr nr cr] 43) = W := ⟨_, rfl⟩
 have hBw : Below w0.heap.size w0 W := by rw [← hWe]; exact aB (Below.refl _ _) _
 have hrW : rowG #[.string (str nm), .slice mp np cp, .slice mb nb cb, .bool sec, .slice mr nr cr] W w0.heap.size := by rw [← hWe]; exact rowG_at _ _ _ _ rfl
 have hB00 : B ≤ W.heap.size := Nat.le_trans hW.le hBw.size
 have hn47 : nr ≤ 140737488355328 := by omega
 have HN := Lib.hid hn
 have HB := Lib.hid hb
 have HR := Lib.hid hR
 have HMY := Lib.hid hmy
 have HND := Lib.hid hnd
 have HW := Lib.hid hW
 clear hn hb hR hmy hnd hW hrl
 have hob := own_built W B hB00
 have hsg := rsign_any [[125]] (W.heap.size + 1) 1 B (.slice (some ⟨W.heap.size, 0, none⟩) 0 0) [] ((W.alloc (.cells #[] 95)).alloc (.cells #[.string { data := #[125] }] 9)) rfl (hasS_strs (ss := [[125]]) (by have := HasS.new (strC [[125]]).toArray 9 (W.alloc (.cells #[] 95)); rw [World.size_alloc] at this; exact this)) (by simp) (fun e => by simp [Value.ownBlock] at e) (hob.alloc _) (Nat.le_trans hB00 (by simp; omega)) (by simp)
 go_enter Tryz.func67, Tryz.ntmps67
 go_wp2_with (go_at_call 117; ((with_reducible refine hsg.mono ?_); (rintro e v1 ⟨lA, rfl, hT1⟩); have hT1w : Tl B W v1 (.slice none 0 0) lA ([] ++ zs ([[125]].map sg)) := ⟨hT1.own, (only_below (aB (aB (Below.refl _ _) _) _)).old hT1.only (fun j hj => .inr (by cases hj; exact Nat.le_refl _)), fun j hj => .inr ((hT1.blk j hj).elim (fun h => by cases h; exact Nat.le_refl _) (fun h => by simp at h; omega))⟩; have hrv := rowG_only hrW hT1w.only (nil_own _); have u4 : v1.cell? ⟨w0.heap.size, 4, none⟩ = some (.slice mr nr cr) := hrv.1 4 (by simp); have hlv := hrv.2.2))
 clear hsg hob hT1
 go_loopw [3, 12] (fun l1 i wr => ∃ j : Nat, j ≤ nr ∧ i = .int .i64 j ∧ Tl B W wr (.slice none 0 0) l1 (zs (sg [125] :: tlJ sec rt j))) (fun _ i _ => nr - (intOf i).toNat)
 case atStart => exact ⟨0, by omega, rfl, by simpa [zs, tlJ] using hT1w⟩
 case round =>
  obtain ⟨j, hj, rfl, hT⟩ := hrel
  by_cases hlt : j < nr
  ·have hlt' : j < rt.length := by rw [HN.out]; exact hlt
   have hOw : Only (fun j => B ≤ j) w0 wr := ((only_below hBw).trans (hT.only.mono (fun j h => (nil_own _ h).elim)))
   obtain ⟨b, o, hma⟩ := kids_some HR.out (by omega)
   subst hma
   obtain ⟨ka, kc, hkid⟩ := kidIn (kids_on HR.out hOw) j hlt'
   obtain ⟨hbB, g0, g1, g2, g3, g4, hEx⟩ := hkid
   have hmx := HMY.out _ (List.getElem_mem hlt')
   have hnx := HND.out _ (List.getElem_mem hlt')
   have hsu := tlJ_succ sec rt j hlt'
   have hle := tlJ_le sec rt (j + 1)
   have hHB := HB.out
   obtain ⟨x, hx⟩ : ∃ x, x = rt[j] := ⟨_, rfl⟩
   rw [← hx] at hEx hmx hnx hsu g0 g1 g2 g3 g4
   have hlen : (tlJ sec rt j).length + (secT sec).length + (xpT x).length ≤ 900000 := by
    rw [hsu] at hle
    simp only [List.length_append, List.length_cons] at hle
    omega
   have HSU := Lib.hid hsu
   have HX := Lib.hid hx
   clear hsu hle hHB hx
   have hbl : b < wr.heap.size := World.block_lt_of_cell? wr _ g0
   obtain ⟨W1, hW1⟩ : ∃ W1, wr.alloc (.cells #[.int .u8 (x.k : Int), .int .u64 (x.n : Int), .string (str x.s), .int .u8 (x.o : Int), .slice ka x.l.length kc] 47) = W1 := ⟨_, rfl⟩
   have hB1 : Below wr.heap.size wr W1 := by rw [← hW1]; exact aB (Below.refl _ _) _
   have hr1 : rowG #[.int .u8 (x.k : Int), .int .u64 (x.n : Int), .string (str x.s), .int .u8 (x.o : Int), .slice ka x.l.length kc] W1 wr.heap.size := by rw [← hW1]; exact rowG_at _ _ _ _ rfl
   have hr5 := rowG_b (rowG_only hrW hT.only (nil_own _)) hB1
   have hoX := own_of hT.own hB1
   have hnb1 : u3.ownBlock ≠ some wr.heap.size := own_new hT.own (.inl (Nat.le_refl _))
   have hnb0 : u3.ownBlock ≠ some w0.heap.size := fun e => (hT.blk _ e).elim (nil_own _) (fun h => by have := hrW.2.2; omega)
   have hB0 : B ≤ W1.heap.size := Nat.le_trans hB00 (Nat.le_trans hT.only.size hB1.size)
   obtain ⟨T1, hT1e⟩ : ∃ T1, T1 = zs (sg [125] :: tlJ sec rt j) := ⟨_, rfl⟩
   have hT1l : T1.length = 1 + (tlJ sec rt j).length := by rw [hT1e, zs_len, List.length_cons]; omega
   rw [← hT1e] at hoX
   have hT00 := tl_drew hoX
   have HT := Lib.hid hT
   have HT1 := Lib.hid hT1e
   have c0 := hr1.1 0 (by simp); have c1 := hr1.1 1 (by simp); have c2 := hr1.1 2 (by simp); have c3 := hr1.1 3 (by simp); have c4 := hr1.1 4 (by simp)
   have hFi : ∀ w', Only (fun j => u3.ownBlock = some j) W1 w' → w'.cell? ⟨w0.heap.size, 3, none⟩ = some (.bool sec) ∧ w'.cell? ⟨wr.heap.size, 0, none⟩ = some (.int .u8 (x.k : Int)) ∧ w'.cell? ⟨wr.heap.size, 1, none⟩ = some (.int .u64 (x.n : Int)) ∧ w'.cell? ⟨wr.heap.size, 2, none⟩ = some (.string (str x.s)) ∧ w'.cell? ⟨wr.heap.size, 3, none⟩ = some (.int .u8 (x.o : Int)) ∧ w'.cell? ⟨wr.heap.size, 4, none⟩ = some (.slice ka x.l.length kc) := fun w' h => ⟨(rowG_only hr5 h hnb0).1 3 (by simp), h.cell hnb1 c0, h.cell hnb1 c1, h.cell hnb1 c2, h.cell hnb1 c3, h.cell hnb1 c4⟩
   have hF0 : Only (fun j => u3.ownBlock = some j) W1 W1.drew := od1
   clear hT hT1e c0 c1 c2 c3 c4
   go_wp2
   refine region_KN (fun w' => Only (fun j => u3.ownBlock = some j) W1 w') (by kernel_rfl) ?_
   have q : Pq [0, 3, 4, 6] := trivial
   iterate 4
    refine tkN q rfl (by kernel_rfl) hF0 fun K hK => ?_
    replace q := q.tl
    apply Exists.intro
    refine ⟨Or.inl ⟨by kernel_rfl, fun w' hf => ?_⟩, ?_⟩
    ·obtain ⟨s3, k0, k1, k2, k3, k4⟩ := hFi _ hf
     go_simp
     try exact rfl
    go_simp
    refine hK _ ?_
    clear hK K
   refine wpAnyK_inv (fun fu L a w => ∃ (c0 c1 c2 s0 : Bool) (l1 l2 l3 : Value) (K0 : Nat), fu = 1 + (tgN c0 + tgN c1 + tgN c2 + tgN s0) ∧ L = #[true, s0, c0, true, true, c1, true, c2, false] ∧ a = ⟨#[.agg #[.string (str nm), .slice mp np cp, .slice mb nb cb, .bool sec, .slice (some ⟨b, o, none⟩) nr cr], .pointer (some ⟨w0.heap.size, 0, none⟩), .slice none 0 0, u3, undef, .pointer (some ⟨wr.heap.size, 0, none⟩), .slice (some ⟨W.heap.size, 0, none⟩) 0 0, .slice (some ⟨W.heap.size + 1, 0, none⟩) 1 1, lA, .pointer (some ⟨w0.heap.size, 4, none⟩), .slice (some ⟨b, o, none⟩) nr cr, .int .i64 nr, .int .i64 j, .bool true, .pointer (some ⟨b, o + j * 5, none⟩), .agg #[.int .u8 (x.k : Int), .int .u64 (x.n : Int), .string (str x.s), .int .u8 (x.o : Int), .slice ka x.l.length kc], u3, (bif s0 then .slice (some ⟨K0, 0, none⟩) 1 1 else u17), (bif c0 then l1 else u18), .pointer (some ⟨w0.heap.size, 3, none⟩), .bool sec, (bif c1 then l2 else u21), .agg #[.int .u8 (x.k : Int), .int .u64 (x.n : Int), .string (str x.s), .int .u8 (x.o : Int), .slice ka x.l.length kc], (bif c2 then l3 else u23), u24, undef, undef, undef], []⟩ ∧ ((c1 = true → c0 = true) ∧ (c2 = true → c1 = true) ∧ (c0 = true → s0 = true)) ∧ Tl B W1 w u3 (bif c2 then l3 else (bif c1 then l2 else (bif c0 then l1 else u3))) (bif c2 then (T1 ++ zs ([[61]].map sg) ++ zs (secT sec) ++ zs (xpT x)) else (bif c1 then (T1 ++ zs ([[61]].map sg) ++ zs (secT sec)) else (bif c0 then (T1 ++ zs ([[61]].map sg)) else (T1)))) ∧ ((s0 = true → HasS (strC [[61]]).toArray 9 K0 w))) ?_ _ _ _ _ ⟨false, false, false, false, undef, undef, undef, 0, rfl, rfl, rfl, ⟨(by simp), (by simp), (by simp)⟩, hT00, (by simp)⟩
   intro fu L a w hI
   obtain ⟨c0, c1, c2, s0, l1, l2, l3, K0, rfl, rfl, rfl, ⟨e0, e1, e2⟩, hTc, a0⟩ := hI
   by_cases hall : (c0 = true ∧ c1 = true ∧ c2 = true ∧ s0 = true)
   rotate_left
   ·right
    refine ⟨0 + (tgN c0 + tgN c1 + tgN c2 + tgN s0), by omega, ?_, ?_⟩
    ·intro hr
     have nin : ∀ j, j ∉ Region.ready _ _ _ := fun j hj => by rw [hr] at hj; cases hj
     obtain rfl := bt fun h : s0 = false => nin 1 (rd h rfl rfl)
     obtain rfl := bt fun h : c0 = false => nin 2 (rd h rfl rfl)
     obtain rfl := bt fun h : c1 = false => nin 5 (rd h rfl rfl)
     obtain rfl := bt fun h : c2 = false => nin 7 (rd h rfl rfl)
     exact hall ⟨rfl, rfl, rfl, rfl⟩
    ·intro i hi
     obtain ⟨h0, o, ho, hd⟩ := mem_ready.1 hi
     have hiN : i < 9 := by simpa using (Array.getElem?_eq_some_iff.1 ho).1
     have hcN : i = 0 ∨ i = 1 ∨ i = 2 ∨ i = 3 ∨ i = 4 ∨ i = 5 ∨ i = 6 ∨ i = 7 ∨ i = 8 := by omega
     clear hi hiN
     rcases hcN with rfl | rfl | rfl | rfl | rfl | rfl | rfl | rfl | rfl
     ·simp at h0
     ·simp at ho h0
      subst ho
      simp [Region.binds] at hd
      subst h0
      refine wpOp_step rfl (fun K' hK => ?_)
      go_simp
      refine hK _ _ ⟨(hTc.alloc _).only, c0, c1, c2, true, l1, l2, l3, w.heap.size, by simp only [tgN_t, tgN_f] <;> omega, rfl, rfl, (by and_intros <;> first | assumption | exact fun _ => rfl | exact fun h => by cases h), hTc.alloc _, (fun _ => HasS.new _ _ _)⟩
     ·simp at ho h0
      subst ho
      simp [Region.binds] at hd
      subst h0
      refine wpOp_step rfl (fun K' hK => ?_)
      obtain rfl : s0 = true := by simp [hd]
      clear hd
      obtain rfl := bff e0
      obtain rfl := bff e1
      simp only [cond_true, cond_false] at hTc
      have hOj := hTc.only
      have hBj := Nat.le_trans hB0 hOj.size
      go_simp
      go_at_call 117
      with_reducible refine (rsign_c 1 (a0 rfl) hTc hBj rfl (by first | omega | (simp; omega) | (simp [zs]; omega))).mono ?_
      rintro r' w' ⟨l', rfl, hTx⟩
      have hTn := hTc.trans hTx
      refine hK _ _ ⟨hTn.only, true, false, false, true, l', l2, l3, K0, by simp only [tgN_t, tgN_f] <;> omega, rfl, rfl, (by and_intros <;> first | assumption | exact fun _ => rfl | exact fun h => by cases h), hTn, (fun h => HasS.call (a0 h) (by decide) hTc.own hTx.only)⟩
     ·simp at h0
     ·simp at h0
     ·simp at ho h0
      subst ho
      simp [Region.binds] at hd
      subst h0
      refine wpOp_step rfl (fun K' hK => ?_)
      obtain rfl : c0 = true := by simp [hd]
      clear hd
      obtain rfl := e2 rfl
      obtain rfl := bff e1
      simp only [cond_true, cond_false] at hTc
      have hOj := hTc.only
      have hBj := Nat.le_trans hB0 hOj.size
      go_simp
      go_at_call 121
      with_reducible refine (rsecret_any sec B _ _ _ hTc.own hBj (by first | omega | (simp; omega) | (simp [zs]; omega))).mono ?_
      rintro r' w' ⟨l', rfl, hTx⟩
      have hTn := hTc.trans hTx
      refine hK _ _ ⟨hTn.only, true, true, false, true, l1, l', l3, K0, by simp only [tgN_t, tgN_f] <;> omega, rfl, rfl, (by and_intros <;> first | assumption | exact fun _ => rfl | exact fun h => by cases h), hTn, (fun h => HasS.call (a0 h) (by decide) hTc.own hTx.only)⟩
     ·simp at h0
     ·simp at ho h0
      subst ho
      simp [Region.binds] at hd
      subst h0
      refine wpOp_step rfl (fun K' hK => ?_)
      obtain rfl : c1 = true := by simp [hd]
      clear hd
      obtain rfl := e0 rfl
      obtain rfl := e2 rfl
      simp only [cond_true, cond_false] at hTc
      have hOj := hTc.only
      have hBj := Nat.le_trans hB0 hOj.size
      go_simp
      have hOnj := (only_below (S := fun j => B ≤ j) hB1).trans (hOj.mono (own_ge hoX))
      have hEj := hEx.only hOnj (fun b hb h => by have hb1 : b < B := hb; have h1 : B ≤ b := h; omega)
      have hWj := HW.out.only (hOw.trans hOnj) (fun _ h => h)
      go_at_call 122
      with_reducible refine (rexpr_any x _ B _ _ _ hEj hWj hmx hnx hTc.own (by first | omega | (simp; omega) | (simp [zs]; omega))).mono ?_
      rintro r' w' ⟨l', rfl, hTx⟩
      have hTn := hTc.trans hTx
      refine hK _ _ ⟨hTn.only, true, true, true, true, l1, l2, l', K0, by simp only [tgN_t, tgN_f] <;> omega, rfl, rfl, (by and_intros <;> first | assumption | exact fun _ => rfl | exact fun h => by cases h), hTn, (fun h => HasS.call (a0 h) (by decide) hTc.own hTx.only)⟩
     ·exact (hall (by simp at ho; subst ho; simp [Region.binds] at hd <;> simp_all)).elim
   obtain ⟨rfl, rfl, rfl, rfl⟩ := hall
   left
   simp only [cond_true, cond_false] at hTc
   have hTe := hTc
   clear hTc e0 e1 e2 a0
   refine wpAnyK_one (k := 8) (by kernel_rfl) ?_
   refine wpOp_step rfl (fun K hK => ?_)
   go_simp
   refine hK _ _ ⟨hTe.only, ?_⟩
   clear hK K
   refine wpAnyK_done (by kernel_rfl) ⟨rfl, ?_⟩
   clear hFi hF0 hT00
   have hz := HT.out.trans (hTe.pre hB1)
   rw [HT1.out] at hz
   rw [show zs (sg [125] :: tlJ sec rt j) ++ zs ([[61]].map sg) ++ zs (secT sec) ++ zs (xpT x) = zs (sg [125] :: (tlJ sec rt j ++ (sg [61] :: (secT sec ++ xpT x)))) from by simp [zs]] at hz
   go_wp2
   go_roundw
   case rel => exact ⟨j + 1, by omega, by go_num, by rw [HSU.out]; exact hz⟩
   case measure => simp [intOf]; omega
  ·obtain rfl : j = nr := by omega
   have e : tlJ sec rt j = tlJ sec rt rt.length := by rw [HN.out]
   rw [e] at hT
   have hBr : B ≤ wr.heap.size := Nat.le_trans hB00 hT.only.size
   have hHB := HB.out
   have hsg := rsign_any [[59]] wr.heap.size 1 B u3 _ (wr.alloc (.cells #[.string { data := #[59] }] 9)) rfl (hasS_strs (ss := [[59]]) (HasS.new (strC [[59]]).toArray 9 wr)) (by simp) (own_new hT.own (.inl (Nat.le_refl _))) (hT.own.alloc _) (Nat.le_trans hBr (by simp)) (by simp [zs]; omega)
   go_wp2_with (go_at_call 117; ((with_reducible refine hsg.mono ?_); (rintro e v5 ⟨l5, rfl, hT5⟩)))
   go_ret
   have hz := (hT.trans (hT5.pre (aB (Below.refl _ _) _))).pre hBw
   rw [show zs (sg [125] :: tlJ sec rt rt.length) ++ zs ([[59]].map sg) = zs (sg [125] :: (tlJ sec rt rt.length ++ [sg [59]])) from by simp [zs]] at hz
   exact ⟨_, rfl, hz⟩
end
section
section
variable {T : List Tk} {d p n m : Nat} {blk : Nat → Nat → Rz (List St)} {nm fr : List UInt8} {sec mu : Bool} {ex : List Xp} {ar : List (List UInt8)} {bd el : List St} {c : Tk} {L : List Tk}
end
end
section
theorem bind_parts {α β : Type} {x : Option α} {f : α → Option β} {y : β} (h : x.bind f = some y) : ∃ a, x = some a ∧ f a = some y := Option.bind_eq_some_iff.1 h
theorem oneC_parts {d : Nat} {s : St} {a b : Nat} (h : oneC d s a = some b) : a ≠ 0 ∧ fitsB s = true ∧ (blkC d s.bd (a - 1)).bind (blkC d s.el) = some b := by
 unfold oneC at h
 by_cases c : a = 0 ∨ fitsB s = false
 ·rw [if_pos c] at h; cases h
 ·rw [if_neg c] at h
  exact ⟨fun e => c (.inl e), by cases hf : fitsB s; exact absurd (.inr hf) c; rfl, h⟩
inductive LexTo : List UInt8 → List Tk → Prop
 | nil {b : List UInt8} (hb : ∀ c ∈ b, isB c = true) : LexTo b []
 | cons {b m rest : List UInt8} {t : Tk} {L : List Tk} (hb : ∀ c ∈ b, isB c = true) (ht : TkOk t m) (hr : ∀ c r', rest = c :: r' → stop t c) (h : LexTo rest L) : LexTo (b ++ (m ++ rest)) (t :: L)
theorem LexTo.lex {s : List UInt8} {L : List Tk} (h : LexTo s L) : ∀ (g a : Nat), s.length < g → ∃ T, lexN g s a = .ok T ∧ T.map (·.1) = L ++ [⟨5, [], 0⟩] := by
 induction h with
 | nil hb =>
  intro g a hg
  obtain ⟨g, rfl⟩ : ∃ g', g = g' + 1 := ⟨g - 1, by omega⟩
  exact ⟨_, lex_end g _ hb a, rfl⟩
 | @cons b m rest t L hb ht hr h ih =>
  intro g a hg
  obtain ⟨g, rfl⟩ : ∃ g', g = g' + 1 := ⟨g - 1, by omega⟩
  have hm : 0 < m.length := List.length_pos_iff.2 ht.ne
  simp only [List.length_append] at hg
  obtain ⟨T, h1, h2⟩ := ih g (a + b.length + m.length) (by omega)
  exact ⟨_, by rw [lex_tok g b hb ht rest hr a, h1]; rfl, by simp [h2]⟩
theorem LexTo.blank {b s : List UInt8} {L : List Tk} (hb : ∀ c ∈ b, isB c = true) (h : LexTo s L) : LexTo (b ++ s) L := by
 cases h with
 | nil h => exact .nil (fun c hc => (List.mem_append.1 hc).elim (hb c) (h c))
 | cons h1 ht hr h =>
  rw [← List.append_assoc]
  exact .cons (fun c hc => (List.mem_append.1 hc).elim (hb c) (h1 c)) ht hr h
theorem LexTo.row {s : List UInt8} {L : List Tk} {c : UInt8} (hc : isB c = true) (h : LexTo s L) : ∀ (r : List Tk), (∀ t ∈ r, ∃ m, TkOk t m) → LexTo (joinT r ++ c :: s) (r ++ L)
 | [], _ => LexTo.blank (b := [c]) (fun x hx => by rw [List.mem_singleton.1 hx]; exact hc) h
 | [t], hr => by
  obtain ⟨m, ht⟩ := hr t (List.mem_cons_self ..)
  have e : joinT [t] = m := by unfold joinT; rw [pcs_tok ht]; simp [pcs, Lib.join]
  rw [e]
  exact LexTo.cons (b := []) (by simp) ht (fun c' r' e => by cases e; exact stop_blank ht hc) (LexTo.blank (b := [c]) (fun x hx => by rw [List.mem_singleton.1 hx]; exact hc) h)
 | t :: t' :: r, hr => by
  obtain ⟨m, ht⟩ := hr t (List.mem_cons_self ..)
  obtain ⟨m', ht'⟩ := hr t' (List.mem_cons_of_mem _ (List.mem_cons_self ..))
  have ih := LexTo.row hc h (t' :: r) (fun x hx => hr x (List.mem_cons_of_mem _ hx))
  have e : joinT (t :: t' :: r) = m ++ 32 :: joinT (t' :: r) := by unfold joinT; rw [pcs_tok ht, pcs_tok ht', join_two]
  rw [e, List.append_assoc]
  exact LexTo.cons (b := []) (by simp) ht (fun c' r' e => by cases e; exact stop_blank ht (by decide)) (LexTo.blank (b := [32]) (fun x hx => by rw [List.mem_singleton.1 hx]; decide) ih)
def lnT (d : Nat) (r : List Tk) : List UInt8 := List.replicate (2 * d) 32 ++ (joinT r ++ [10])
def lnsT (l : List (Nat × List Tk)) : List UInt8 := l.flatMap fun x => lnT x.1 x.2
mutual
def stL : Nat → St → List (Nat × List Tk)
 | d, .mk k nm fr sec mu ex ar bd el => (d, stH k nm fr sec mu ex ar) :: (if 5 ≤ k ∧ k ≤ 8 then stsL (d + 1) bd ++ ((if el.isEmpty = true then [] else (d, [sg [125], wdT wElse, sg [123]]) :: stsL (d + 1) el) ++ [(d, [sg [125]])]) else [])
def stsL : Nat → List St → List (Nat × List Tk)
 | _, [] => []
 | d, s :: r => stL d s ++ stsL d r
end
def fdL (f : Fd) : List (Nat × List Tk) := (0, hdT f) :: (stsL 1 f.bd ++ [(0, tlT f)])
def pgL (l : List Fd) : List (Nat × List Tk) := l.flatMap fdL
def shoT (l : List Fd) : List UInt8 := lnsT (pgL l)
mutual
theorem stL_flat : ∀ (d : Nat) (s : St), (stL d s).flatMap (·.2) = stT s
 | d, .mk k nm fr sec mu ex ar bd el => by
  rw [stL, stT, List.flatMap_cons]
  congr 1
  by_cases c : 5 ≤ k ∧ k ≤ 8
  ·rw [if_pos c, if_pos c, List.flatMap_append, List.flatMap_append, stsL_flat (d + 1) bd]
   congr 1
   by_cases c2 : el.isEmpty = true
   ·rw [if_pos c2, if_pos c2]; rfl
   ·rw [if_neg c2, if_neg c2, List.flatMap_cons, stsL_flat (d + 1) el]; rfl
  ·rw [if_neg c, if_neg c]; rfl
theorem stsL_flat : ∀ (d : Nat) (l : List St), (stsL d l).flatMap (·.2) = stsT l
 | d, [] => by rw [stsL, stsT]; rfl
 | d, s :: r => by rw [stsL, stsT, List.flatMap_append, stL_flat d s, stsL_flat d r]
end
theorem pgL_flat : ∀ (l : List Fd), (pgL l).flatMap (·.2) = pgT l
 | [] => rfl
 | f :: r => by
  have ih := pgL_flat r
  have e : pgL (f :: r) = fdL f ++ pgL r := rfl
  have e2 : pgT (f :: r) = fdT f ++ pgT r := rfl
  rw [e, e2, List.flatMap_append, ih]
  congr 1
  unfold fdL fdT
  rw [List.flatMap_cons, List.flatMap_append, stsL_flat]
  simp
end
end Go.Proofs.YtkibkaoffgnmkaaGreatDoor
