/- The document's Show: the line with which a statement begins, kind by kind. -/
import Derived.Test.YtfbjljcmmbdhkaaGreatDoorT35
namespace Go.Proofs.YtfbjljcmmbdhkaaGreatDoor
set_option linter.unusedVariables false
set_option linter.unusedSimpArgs false
set_option maxRecDepth 100000
set_option maxHeartbeats 200000000
open Go.ChangeShapes Go.WideShapes Go.ChangeAt Go.RowKit
def HdP (w0 : World) (L : List (List UInt8)) (r : Ending) (w' : World) : Prop := (∃ ma cap, r = .returned (.slice ma L.length cap) ∧ StrsAt (fun b => w0.heap.size ≤ b ∧ b < w'.heap.size) w' L ma) ∧ Below w0.heap.size w0 w'
theorem strs_new (w0 w : World) (L : List (List UInt8)) (h : w0.heap.size ≤ w.heap.size) : StrsAt (fun b => w0.heap.size ≤ b ∧ b < (w.alloc (.cells (strC L).toArray 9)).heap.size) (w.alloc (.cells (strC L).toArray 9)) L (some ⟨w.heap.size, 0, none⟩) := fun i hi =>
 ⟨w.heap.size, 0, rfl, ⟨h, by simp⟩, by rw [Nat.zero_add]; exact hasS_strs (HasS.new _ _ _) i hi⟩
theorem hd_new {w0 w : World} (L : List (List UInt8)) (n : Nat) (hn : L.length = n) (hb : Below w0.heap.size w0 w) : HdP w0 L (.returned (.slice (some ⟨w.heap.size, 0, none⟩) n n)) (w.alloc (.cells (strC L).toArray 9)) := by
 subst hn
 exact ⟨⟨_, _, rfl, strs_new w0 w L hb.size⟩, aB hb _⟩
theorem hd_own {w0 v w' : World} {l0 : Value} {g M cap : Nat} {L L' : List (List UInt8)} (hb : Below w0.heap.size w0 v) (h : Sl w0.heap.size v w' l0 (.slice (some ⟨g, 0, none⟩) M cap) L) (hM : M = L.length) (hn : ∀ j, l0.ownBlock = some j → w0.heap.size ≤ j) (hL : L = L') : HdP w0 L' (.returned (.slice (some ⟨g, 0, none⟩) M cap)) w' := by
 subst hL hM
 exact ⟨⟨_, _, rfl, strs_own h.own rfl⟩, hb.trans (h.only.below hn hb.size)⟩
theorem own_strs (w : World) (B : Nat) (hB : B ≤ w.heap.size) (L : List (List UInt8)) (n : Nat) (hn : L.length = n) (hl : n ≤ 1000) : (w.alloc (.cells (strC L).toArray 9)).ownsRow B 9 1 (.slice (some ⟨w.heap.size, 0, none⟩) n n) n (strC L) :=
 ⟨by simp [strC, hn], .inr ⟨w.heap.size, n, (strC L).toArray, rfl, hB, World.alloc_heap_new w _, Nat.le_refl _, by unfold maxLen; omega, by simp [strC, hn], by simp [strC, ← hn, List.take_of_length_le]⟩⟩
theorem stSl {ops : Array Oper} {o : Oper} {a : Act} {w : World} {K : Act → World → Prop} {Q : Exit → Act → World → Prop} {E : Prop} (hgd : o.guard = none) (s x : Operand)
 (ho : o.op = .call { callee := .builtin .append, args := #[s, x], argTypes := #[50, 50] }) (B : Nat) (v : Value) (T N : List (List UInt8)) (M m c g0 : Nat)
 (hs : a.eval s = v) (hx : a.eval x = .slice (some ⟨g0, 0, none⟩) m c) (hown : w.ownsRow B 9 1 v M (strC T)) (hM : M = T.length) (hm : m = N.length)
 (hnews : ∀ (j : Nat) (u : Value), (strC N)[j]? = some u → w.cell? ((⟨g0, 0, none⟩ : Addr).add j) = some u) (hm0 : 0 < m) (hl : M + m ≤ 1000000) (hB : B ≤ w.heap.size)
 (h : ∀ g cap w', Sl B w w' v (.slice (some ⟨g, 0, none⟩) (M + m) cap) (T ++ N) → g < w'.heap.size → K (a.put o.dst (.slice (some ⟨g, 0, none⟩) (M + m) cap)) w') :
 if Region.wanted o (yielded ops a.tmps) = true then Oper.wp Tryz.prog o a w K Q else E := by
 obtain ⟨i0, hi, hz0, hz1, hz2⟩ := info_parts infoSl
 exact step_append_lies w hgd s x 50 ho B 9 i0 _ 1 16 Tryz.underlying50 hi hz0 hz1 hz2 rfl (by decide) v M (strC T) hs hown ⟨g0, 0, none⟩ m c (strC N) hx (by simp [strC, hm]) hnews (strC_one _) hm0 (by unfold maxLen; omega) (by omega) hB _ rfl fun g cap w' h1 h2 h3 h4 => h g cap w' (sl_append h1 hM hm h2 h3 rfl) h4
def RxP (w0 : World) (x : Xp) (v : Value) : Prop := ∀ w, Below w0.heap.size w0 w → Calls Tryz.prog 33 #[v] w fun r w' => r = .returned (.string (str (exR x))) ∧ Below w.heap.size w w'
theorem RxP.go {w0 : World} {x : Xp} {v : Value} (h : RxP w0 x v) (w : World) (hB : Below w0.heap.size w0 w) : Calls Tryz.prog 33 #[v] w fun r w' => r = .returned (.string (str (exR x))) ∧ Below w.heap.size w w' := by
 unfold RxP at h
 exact h w hB
theorem secR_len (b : Bool) : (secR b).length ≤ 1 := by cases b <;> simp [secR]
theorem rhd_1 (nm fr : List UInt8) (sec mu : Bool) (ma mb ml : Option Addr) (cx na ca nb cb nl cl : Nat) (w0 : World) (b o : Nat) (ye0 : Xp) (m0 : Option Addr) (k0 : Nat) (hk0 : KidIn w0.heap.size w0 b o ye0 m0 k0) (hx0 : RxP w0 ye0 (.agg #[.int .u8 (ye0.k : Int), .int .u64 (ye0.n : Int), .string (str ye0.s), .int .u8 (ye0.o : Int), .slice m0 ye0.l.length k0])) :
 Calls Tryz.prog 52 #[.agg #[.int .u8 1, .string (str nm), .string (str fr), .bool sec, .bool mu, .slice (some ⟨b, o, none⟩) 1 cx, .slice ma na ca, .slice mb nb cb, .slice ml nl cl]] w0 (HdP w0 ([wLet] ++ secR sec ++ [nm, [61], exR ye0, [59]])) := by
 obtain ⟨W, hWe⟩ : ∃ W, w0.alloc (.cells #[.int .u8 1, .string (str nm), .string (str fr), .bool sec, .bool mu, .slice (some ⟨b, o, none⟩) 1 cx, .slice ma na ca, .slice mb nb cb, .slice ml nl cl] 52) = W := ⟨_, rfl⟩
 have hBw : Below w0.heap.size w0 W := by rw [← hWe]; exact aB (Below.refl _ _) _
 have hrW : rowG #[.int .u8 1, .string (str nm), .string (str fr), .bool sec, .bool mu, .slice (some ⟨b, o, none⟩) 1 cx, .slice ma na ca, .slice mb nb cb, .slice ml nl cl] W w0.heap.size := by rw [← hWe]; exact rowG_at _ _ _ _ rfl
 have t0 : W.cell? ⟨w0.heap.size, 0, none⟩ = some (.int .u8 1) := hrW.1 0 (by simp)
 have hlv := hrW.2.2
 have hq0 := hk0.of hBw
 have hFi : ∀ w', Below W.heap.size W w' → w'.cell? ⟨w0.heap.size, 1, none⟩ = some (.string (str nm)) ∧ w'.cell? ⟨w0.heap.size, 3, none⟩ = some (.bool sec) ∧ w'.cell? ⟨w0.heap.size, 5, none⟩ = some (.slice (some ⟨b, o, none⟩) 1 cx) ∧ w'.cell? ⟨b, o, none⟩ = some (.int .u8 (ye0.k : Int)) ∧ w'.cell? ⟨b, o + 1, none⟩ = some (.int .u64 (ye0.n : Int)) ∧ w'.cell? ⟨b, o + 2, none⟩ = some (.string (str ye0.s)) ∧ w'.cell? ⟨b, o + 3, none⟩ = some (.int .u8 (ye0.o : Int)) ∧ w'.cell? ⟨b, o + 4, none⟩ = some (.slice m0 ye0.l.length k0) ∧ b < w'.heap.size := fun w' h => ⟨(rowG_b hrW h).1 1 (by simp), (rowG_b hrW h).1 3 (by simp), (rowG_b hrW h).1 5 (by simp), (hq0.of h).c0, (hq0.of h).c1, (hq0.of h).c2, (hq0.of h).c3, (hq0.of h).c4, (hq0.of h).lt'⟩
 have hv0 : Below W.heap.size W W.drew := ⟨rfl, rfl, rfl, Nat.le_refl _, fun _ _ => rfl⟩
 go_enter Tryz.func52, Tryz.ntmps52
 go_wp2
 refine region_KN (fun w' => Below W.heap.size W w') (by kernel_rfl) ?_
 have q : Pq [1, 2, 4, 5, 6, 7, 8, 9] := trivial
 iterate 8
  refine tkN q rfl (by kernel_rfl) hv0 fun K hK => ?_
  replace q := q.tl
  apply Exists.intro
  refine ⟨Or.inl ⟨by kernel_rfl, fun w' hf => ?_⟩, ?_⟩
  ·obtain ⟨s1, s3, s5, q00, q01, q02, q03, q04, qlt⟩ := hFi _ hf
   go_simp
   try exact rfl
  go_simp
  refine hK _ ?_
  clear hK K
 clear hFi q
 refine wpAnyK_one (k := 0) (by kernel_rfl) ?_
 refine wpOp_step rfl (fun K hK => ?_)
 have ho := own_strs W.drew w0.heap.size (Nat.le_trans hBw.size hv0.size) [wLet] 1 rfl (by decide)
 have hb0 := hBw.size
 go_simp
 refine hK _ _ ⟨aB hv0 _, ?_⟩
 clear hK K
 have hv1 := aB hv0 (.cells (strC [wLet]).toArray 9)
 refine wpAnyK_one (k := 3) (by kernel_rfl) ?_
 refine wpOp_step rfl (fun K hK => ?_)
 have hcs := rsecret9 sec w0.heap.size (.slice (some ⟨W.heap.size, 0, none⟩) 1 1) [wLet] _ ho (Nat.le_trans hBw.size hv1.size) (by simp)
 go_simp
 go_at_call 32
 refine hcs.mono ?_
 rintro r v2 ⟨l2, rfl, hS2⟩
 have hv2 : Below W.heap.size W v2 := hv1.trans (hS2.only.below (fun j hj => by cases hj; exact Nat.le_refl _) hv1.size)
 refine hK _ _ ⟨hv2, ?_⟩
 clear hK K hcs ho
 refine wpAnyK_one (k := 10) (by kernel_rfl) ?_
 refine wpOp_step rfl (fun K hK => ?_)
 go_simp
 go_at_call 33
 with_reducible refine (hx0.go _ (tr hBw hv2)).mono ?_
 rintro r v3 ⟨rfl, hb3⟩
 have hv3 := tr hv2 hb3
 refine hK _ _ ⟨hv3, ?_⟩
 clear hK K
 refine wpAnyK_one (k := 11) (by kernel_rfl) ?_
 refine wpOp_step rfl (fun K hK => ?_)
 go_simp
 refine hK _ _ ⟨aB hv3 _, ?_⟩
 clear hK K
 refine wpAnyK_one (k := 12) (by kernel_rfl) ?_
 refine wpOp_step rfl (fun K hK => ?_)
 have ho3 := (own_of hS2.own hb3).alloc (.cells (strC [nm, [61], exR ye0, [59]]).toArray 9)
 refine stSl rfl _ _ rfl w0.heap.size l2 ([wLet] ++ secR sec) [nm, [61], exR ye0, [59]] _ 4 4 v3.heap.size rfl rfl ho3 rfl rfl (news_ok (strC [nm, [61], exR ye0, [59]]) 9 v3) (by decide) (by have := secR_len sec; simp; omega) (Nat.le_trans hBw.size (Nat.le_trans hv3.size (by simp))) ?_
 intro g cap v5 hS5 hg5
 have hS6 := hS5.pre (aB (Below.refl _ _) _)
 have hl2 : ∀ j, l2.ownBlock = some j → W.heap.size ≤ j := fun j hj => (hS2.blk j hj).elim (fun h => by cases h; exact Nat.le_refl _) (fun h => Nat.le_trans hv1.size h)
 have hv5 : Below W.heap.size W v5 := hv3.trans (hS6.only.below hl2 hv3.size)
 refine hK _ _ ⟨hv5, ?_⟩
 clear hK K
 refine wpAnyK_one (k := 13) (by kernel_rfl) ?_
 refine wpOp_step rfl (fun K hK => ?_)
 go_simp
 refine hK _ _ ⟨hv5, ?_⟩
 clear hK K
 refine wpAnyK_done (by kernel_rfl) ⟨rfl, ?_⟩
 go_wp2
 go_ret
 exact hd_own (tr hBw hv3) hS6 (by simp) (fun j hj => Nat.le_trans hBw.size (hl2 j hj)) (by simp)
theorem rhd_2 (nm fr : List UInt8) (sec mu : Bool) (ma mb ml : Option Addr) (cx na ca nb cb nl cl : Nat) (w0 : World) (b o : Nat) (ye0 : Xp) (m0 : Option Addr) (k0 : Nat) (hk0 : KidIn w0.heap.size w0 b o ye0 m0 k0) (hx0 : RxP w0 ye0 (.agg #[.int .u8 (ye0.k : Int), .int .u64 (ye0.n : Int), .string (str ye0.s), .int .u8 (ye0.o : Int), .slice m0 ye0.l.length k0])) :
 Calls Tryz.prog 52 #[.agg #[.int .u8 2, .string (str nm), .string (str fr), .bool sec, .bool mu, .slice (some ⟨b, o, none⟩) 1 cx, .slice ma na ca, .slice mb nb cb, .slice ml nl cl]] w0 (HdP w0 ([nm, [61], exR ye0, [59]])) := by
 obtain ⟨W, hWe⟩ : ∃ W, w0.alloc (.cells #[.int .u8 2, .string (str nm), .string (str fr), .bool sec, .bool mu, .slice (some ⟨b, o, none⟩) 1 cx, .slice ma na ca, .slice mb nb cb, .slice ml nl cl] 52) = W := ⟨_, rfl⟩
 have hBw : Below w0.heap.size w0 W := by rw [← hWe]; exact aB (Below.refl _ _) _
 have hrW : rowG #[.int .u8 2, .string (str nm), .string (str fr), .bool sec, .bool mu, .slice (some ⟨b, o, none⟩) 1 cx, .slice ma na ca, .slice mb nb cb, .slice ml nl cl] W w0.heap.size := by rw [← hWe]; exact rowG_at _ _ _ _ rfl
 have t0 : W.cell? ⟨w0.heap.size, 0, none⟩ = some (.int .u8 2) := hrW.1 0 (by simp)
 have hlv := hrW.2.2
 have hq0 := hk0.of hBw
 have hFi : ∀ w', Below W.heap.size W w' → w'.cell? ⟨w0.heap.size, 1, none⟩ = some (.string (str nm)) ∧ w'.cell? ⟨w0.heap.size, 5, none⟩ = some (.slice (some ⟨b, o, none⟩) 1 cx) ∧ w'.cell? ⟨b, o, none⟩ = some (.int .u8 (ye0.k : Int)) ∧ w'.cell? ⟨b, o + 1, none⟩ = some (.int .u64 (ye0.n : Int)) ∧ w'.cell? ⟨b, o + 2, none⟩ = some (.string (str ye0.s)) ∧ w'.cell? ⟨b, o + 3, none⟩ = some (.int .u8 (ye0.o : Int)) ∧ w'.cell? ⟨b, o + 4, none⟩ = some (.slice m0 ye0.l.length k0) ∧ b < w'.heap.size := fun w' h => ⟨(rowG_b hrW h).1 1 (by simp), (rowG_b hrW h).1 5 (by simp), (hq0.of h).c0, (hq0.of h).c1, (hq0.of h).c2, (hq0.of h).c3, (hq0.of h).c4, (hq0.of h).lt'⟩
 have hv0 : Below W.heap.size W W.drew := ⟨rfl, rfl, rfl, Nat.le_refl _, fun _ _ => rfl⟩
 go_enter Tryz.func52, Tryz.ntmps52
 go_wp2
 refine region_KN (fun w' => Below W.heap.size W w') (by kernel_rfl) ?_
 have q : Pq [0, 1, 2, 3, 4, 5] := trivial
 iterate 6
  refine tkN q rfl (by kernel_rfl) hv0 fun K hK => ?_
  replace q := q.tl
  apply Exists.intro
  refine ⟨Or.inl ⟨by kernel_rfl, fun w' hf => ?_⟩, ?_⟩
  ·obtain ⟨s1, s5, q00, q01, q02, q03, q04, qlt⟩ := hFi _ hf
   go_simp
   try exact rfl
  go_simp
  refine hK _ ?_
  clear hK K
 clear hFi q
 refine wpAnyK_one (k := 6) (by kernel_rfl) ?_
 refine wpOp_step rfl (fun K hK => ?_)
 go_simp
 go_at_call 33
 with_reducible refine (hx0.go _ (tr hBw hv0)).mono ?_
 rintro r v1 ⟨rfl, hb1⟩
 have hv1 := tr hv0 hb1
 refine hK _ _ ⟨hv1, ?_⟩
 clear hK K
 refine wpAnyK_one (k := 7) (by kernel_rfl) ?_
 refine wpOp_step rfl (fun K hK => ?_)
 go_simp
 refine hK _ _ ⟨aB hv1 _, ?_⟩
 clear hK K
 refine wpAnyK_one (k := 8) (by kernel_rfl) ?_
 refine wpOp_step rfl (fun K hK => ?_)
 go_simp
 refine hK _ _ ⟨(aB hv1 _), ?_⟩
 clear hK K
 refine wpAnyK_done (by kernel_rfl) ⟨rfl, ?_⟩
 go_wp2
 go_ret
 exact hd_new [nm, [61], exR ye0, [59]] 4 rfl (tr hBw hv1)
theorem rhd_3 (nm fr : List UInt8) (sec mu : Bool) (ma mb ml : Option Addr) (cx na ca nb cb nl cl : Nat) (w0 : World) (b o : Nat) (ye0 : Xp) (m0 : Option Addr) (k0 : Nat) (hk0 : KidIn w0.heap.size w0 b o ye0 m0 k0) (hx0 : RxP w0 ye0 (.agg #[.int .u8 (ye0.k : Int), .int .u64 (ye0.n : Int), .string (str ye0.s), .int .u8 (ye0.o : Int), .slice m0 ye0.l.length k0])) :
 Calls Tryz.prog 52 #[.agg #[.int .u8 3, .string (str nm), .string (str fr), .bool sec, .bool mu, .slice (some ⟨b, o, none⟩) 1 cx, .slice ma na ca, .slice mb nb cb, .slice ml nl cl]] w0 (HdP w0 ([wBuf] ++ secR sec ++ [nm, [91], exR ye0, [93], [59]])) := by
 obtain ⟨W, hWe⟩ : ∃ W, w0.alloc (.cells #[.int .u8 3, .string (str nm), .string (str fr), .bool sec, .bool mu, .slice (some ⟨b, o, none⟩) 1 cx, .slice ma na ca, .slice mb nb cb, .slice ml nl cl] 52) = W := ⟨_, rfl⟩
 have hBw : Below w0.heap.size w0 W := by rw [← hWe]; exact aB (Below.refl _ _) _
 have hrW : rowG #[.int .u8 3, .string (str nm), .string (str fr), .bool sec, .bool mu, .slice (some ⟨b, o, none⟩) 1 cx, .slice ma na ca, .slice mb nb cb, .slice ml nl cl] W w0.heap.size := by rw [← hWe]; exact rowG_at _ _ _ _ rfl
 have t0 : W.cell? ⟨w0.heap.size, 0, none⟩ = some (.int .u8 3) := hrW.1 0 (by simp)
 have hlv := hrW.2.2
 have hq0 := hk0.of hBw
 have hFi : ∀ w', Below W.heap.size W w' → w'.cell? ⟨w0.heap.size, 1, none⟩ = some (.string (str nm)) ∧ w'.cell? ⟨w0.heap.size, 3, none⟩ = some (.bool sec) ∧ w'.cell? ⟨w0.heap.size, 5, none⟩ = some (.slice (some ⟨b, o, none⟩) 1 cx) ∧ w'.cell? ⟨b, o, none⟩ = some (.int .u8 (ye0.k : Int)) ∧ w'.cell? ⟨b, o + 1, none⟩ = some (.int .u64 (ye0.n : Int)) ∧ w'.cell? ⟨b, o + 2, none⟩ = some (.string (str ye0.s)) ∧ w'.cell? ⟨b, o + 3, none⟩ = some (.int .u8 (ye0.o : Int)) ∧ w'.cell? ⟨b, o + 4, none⟩ = some (.slice m0 ye0.l.length k0) ∧ b < w'.heap.size := fun w' h => ⟨(rowG_b hrW h).1 1 (by simp), (rowG_b hrW h).1 3 (by simp), (rowG_b hrW h).1 5 (by simp), (hq0.of h).c0, (hq0.of h).c1, (hq0.of h).c2, (hq0.of h).c3, (hq0.of h).c4, (hq0.of h).lt'⟩
 have hv0 : Below W.heap.size W W.drew := ⟨rfl, rfl, rfl, Nat.le_refl _, fun _ _ => rfl⟩
 go_enter Tryz.func52, Tryz.ntmps52
 go_wp2
 refine region_KN (fun w' => Below W.heap.size W w') (by kernel_rfl) ?_
 have q : Pq [1, 2, 4, 5, 6, 7, 8, 9] := trivial
 iterate 8
  refine tkN q rfl (by kernel_rfl) hv0 fun K hK => ?_
  replace q := q.tl
  apply Exists.intro
  refine ⟨Or.inl ⟨by kernel_rfl, fun w' hf => ?_⟩, ?_⟩
  ·obtain ⟨s1, s3, s5, q00, q01, q02, q03, q04, qlt⟩ := hFi _ hf
   go_simp
   try exact rfl
  go_simp
  refine hK _ ?_
  clear hK K
 clear hFi q
 refine wpAnyK_one (k := 0) (by kernel_rfl) ?_
 refine wpOp_step rfl (fun K hK => ?_)
 have ho := own_strs W.drew w0.heap.size (Nat.le_trans hBw.size hv0.size) [wBuf] 1 rfl (by decide)
 have hb0 := hBw.size
 go_simp
 refine hK _ _ ⟨aB hv0 _, ?_⟩
 clear hK K
 have hv1 := aB hv0 (.cells (strC [wBuf]).toArray 9)
 refine wpAnyK_one (k := 3) (by kernel_rfl) ?_
 refine wpOp_step rfl (fun K hK => ?_)
 have hcs := rsecret9 sec w0.heap.size (.slice (some ⟨W.heap.size, 0, none⟩) 1 1) [wBuf] _ ho (Nat.le_trans hBw.size hv1.size) (by simp)
 go_simp
 go_at_call 32
 refine hcs.mono ?_
 rintro r v2 ⟨l2, rfl, hS2⟩
 have hv2 : Below W.heap.size W v2 := hv1.trans (hS2.only.below (fun j hj => by cases hj; exact Nat.le_refl _) hv1.size)
 refine hK _ _ ⟨hv2, ?_⟩
 clear hK K hcs ho
 refine wpAnyK_one (k := 10) (by kernel_rfl) ?_
 refine wpOp_step rfl (fun K hK => ?_)
 go_simp
 go_at_call 33
 with_reducible refine (hx0.go _ (tr hBw hv2)).mono ?_
 rintro r v3 ⟨rfl, hb3⟩
 have hv3 := tr hv2 hb3
 refine hK _ _ ⟨hv3, ?_⟩
 clear hK K
 refine wpAnyK_one (k := 11) (by kernel_rfl) ?_
 refine wpOp_step rfl (fun K hK => ?_)
 go_simp
 refine hK _ _ ⟨aB hv3 _, ?_⟩
 clear hK K
 refine wpAnyK_one (k := 12) (by kernel_rfl) ?_
 refine wpOp_step rfl (fun K hK => ?_)
 have ho3 := (own_of hS2.own hb3).alloc (.cells (strC [nm, [91], exR ye0, [93], [59]]).toArray 9)
 refine stSl rfl _ _ rfl w0.heap.size l2 ([wBuf] ++ secR sec) [nm, [91], exR ye0, [93], [59]] _ 5 5 v3.heap.size rfl rfl ho3 rfl rfl (news_ok (strC [nm, [91], exR ye0, [93], [59]]) 9 v3) (by decide) (by have := secR_len sec; simp; omega) (Nat.le_trans hBw.size (Nat.le_trans hv3.size (by simp))) ?_
 intro g cap v5 hS5 hg5
 have hS6 := hS5.pre (aB (Below.refl _ _) _)
 have hl2 : ∀ j, l2.ownBlock = some j → W.heap.size ≤ j := fun j hj => (hS2.blk j hj).elim (fun h => by cases h; exact Nat.le_refl _) (fun h => Nat.le_trans hv1.size h)
 have hv5 : Below W.heap.size W v5 := hv3.trans (hS6.only.below hl2 hv3.size)
 refine hK _ _ ⟨hv5, ?_⟩
 clear hK K
 refine wpAnyK_one (k := 13) (by kernel_rfl) ?_
 refine wpOp_step rfl (fun K hK => ?_)
 go_simp
 refine hK _ _ ⟨hv5, ?_⟩
 clear hK K
 refine wpAnyK_done (by kernel_rfl) ⟨rfl, ?_⟩
 go_wp2
 go_ret
 exact hd_own (tr hBw hv3) hS6 (by simp) (fun j hj => Nat.le_trans hBw.size (hl2 j hj)) (by simp)
theorem rhd_4 (nm fr : List UInt8) (sec mu : Bool) (ma mb ml : Option Addr) (cx na ca nb cb nl cl : Nat) (w0 : World) (b o : Nat) (ye0 : Xp) (m0 : Option Addr) (k0 : Nat) (hk0 : KidIn w0.heap.size w0 b o ye0 m0 k0) (hx0 : RxP w0 ye0 (.agg #[.int .u8 (ye0.k : Int), .int .u64 (ye0.n : Int), .string (str ye0.s), .int .u8 (ye0.o : Int), .slice m0 ye0.l.length k0])) (ye1 : Xp) (m1 : Option Addr) (k1 : Nat) (hk1 : KidIn w0.heap.size w0 b (o + 5) ye1 m1 k1) (hx1 : RxP w0 ye1 (.agg #[.int .u8 (ye1.k : Int), .int .u64 (ye1.n : Int), .string (str ye1.s), .int .u8 (ye1.o : Int), .slice m1 ye1.l.length k1])) :
 Calls Tryz.prog 52 #[.agg #[.int .u8 4, .string (str nm), .string (str fr), .bool sec, .bool mu, .slice (some ⟨b, o, none⟩) 2 cx, .slice ma na ca, .slice mb nb cb, .slice ml nl cl]] w0 (HdP w0 ([nm, [91], exR ye0, [93], [61], exR ye1, [59]])) := by
 obtain ⟨W, hWe⟩ : ∃ W, w0.alloc (.cells #[.int .u8 4, .string (str nm), .string (str fr), .bool sec, .bool mu, .slice (some ⟨b, o, none⟩) 2 cx, .slice ma na ca, .slice mb nb cb, .slice ml nl cl] 52) = W := ⟨_, rfl⟩
 have hBw : Below w0.heap.size w0 W := by rw [← hWe]; exact aB (Below.refl _ _) _
 have hrW : rowG #[.int .u8 4, .string (str nm), .string (str fr), .bool sec, .bool mu, .slice (some ⟨b, o, none⟩) 2 cx, .slice ma na ca, .slice mb nb cb, .slice ml nl cl] W w0.heap.size := by rw [← hWe]; exact rowG_at _ _ _ _ rfl
 have t0 : W.cell? ⟨w0.heap.size, 0, none⟩ = some (.int .u8 4) := hrW.1 0 (by simp)
 have hlv := hrW.2.2
 have hq0 := hk0.of hBw
 have hq1 := hk1.of hBw
 have hFi : ∀ w', Below W.heap.size W w' → w'.cell? ⟨w0.heap.size, 1, none⟩ = some (.string (str nm)) ∧ w'.cell? ⟨w0.heap.size, 5, none⟩ = some (.slice (some ⟨b, o, none⟩) 2 cx) ∧ w'.cell? ⟨b, o, none⟩ = some (.int .u8 (ye0.k : Int)) ∧ w'.cell? ⟨b, o + 1, none⟩ = some (.int .u64 (ye0.n : Int)) ∧ w'.cell? ⟨b, o + 2, none⟩ = some (.string (str ye0.s)) ∧ w'.cell? ⟨b, o + 3, none⟩ = some (.int .u8 (ye0.o : Int)) ∧ w'.cell? ⟨b, o + 4, none⟩ = some (.slice m0 ye0.l.length k0) ∧ w'.cell? ⟨b, o + 5, none⟩ = some (.int .u8 (ye1.k : Int)) ∧ w'.cell? ⟨b, o + 5 + 1, none⟩ = some (.int .u64 (ye1.n : Int)) ∧ w'.cell? ⟨b, o + 5 + 2, none⟩ = some (.string (str ye1.s)) ∧ w'.cell? ⟨b, o + 5 + 3, none⟩ = some (.int .u8 (ye1.o : Int)) ∧ w'.cell? ⟨b, o + 5 + 4, none⟩ = some (.slice m1 ye1.l.length k1) ∧ b < w'.heap.size := fun w' h => ⟨(rowG_b hrW h).1 1 (by simp), (rowG_b hrW h).1 5 (by simp), (hq0.of h).c0, (hq0.of h).c1, (hq0.of h).c2, (hq0.of h).c3, (hq0.of h).c4, (hq1.of h).c0, (hq1.of h).c1, (hq1.of h).c2, (hq1.of h).c3, (hq1.of h).c4, (hq0.of h).lt'⟩
 have hv0 : Below W.heap.size W W.drew := ⟨rfl, rfl, rfl, Nat.le_refl _, fun _ _ => rfl⟩
 go_enter Tryz.func52, Tryz.ntmps52
 go_wp2
 refine region_KN (fun w' => Below W.heap.size W w') (by kernel_rfl) ?_
 have q : Pq [0, 1, 2, 3, 4, 5, 7, 8, 9, 10] := trivial
 iterate 10
  refine tkN q rfl (by kernel_rfl) hv0 fun K hK => ?_
  replace q := q.tl
  apply Exists.intro
  refine ⟨Or.inl ⟨by kernel_rfl, fun w' hf => ?_⟩, ?_⟩
  ·obtain ⟨s1, s5, q00, q01, q02, q03, q04, q10, q11, q12, q13, q14, qlt⟩ := hFi _ hf
   go_simp
   try exact rfl
  go_simp
  refine hK _ ?_
  clear hK K
 clear hFi q
 refine wpAnyK_one (k := 6) (by kernel_rfl) ?_
 refine wpOp_step rfl (fun K hK => ?_)
 go_simp
 go_at_call 33
 with_reducible refine (hx0.go _ (tr hBw hv0)).mono ?_
 rintro r v1 ⟨rfl, hb1⟩
 have hv1 := tr hv0 hb1
 refine hK _ _ ⟨hv1, ?_⟩
 clear hK K
 refine wpAnyK_one (k := 11) (by kernel_rfl) ?_
 refine wpOp_step rfl (fun K hK => ?_)
 go_simp
 go_at_call 33
 with_reducible refine (hx1.go _ (tr hBw hv1)).mono ?_
 rintro r v2 ⟨rfl, hb2⟩
 have hv2 := tr hv1 hb2
 refine hK _ _ ⟨hv2, ?_⟩
 clear hK K
 refine wpAnyK_one (k := 12) (by kernel_rfl) ?_
 refine wpOp_step rfl (fun K hK => ?_)
 go_simp
 refine hK _ _ ⟨aB hv2 _, ?_⟩
 clear hK K
 refine wpAnyK_one (k := 13) (by kernel_rfl) ?_
 refine wpOp_step rfl (fun K hK => ?_)
 go_simp
 refine hK _ _ ⟨(aB hv2 _), ?_⟩
 clear hK K
 refine wpAnyK_done (by kernel_rfl) ⟨rfl, ?_⟩
 go_wp2
 go_ret
 exact hd_new [nm, [91], exR ye0, [93], [61], exR ye1, [59]] 7 rfl (tr hBw hv2)
theorem rhd_5 (nm fr : List UInt8) (sec mu : Bool) (ma mb ml : Option Addr) (cx na ca nb cb nl cl : Nat) (w0 : World) (b o : Nat) (ye0 : Xp) (m0 : Option Addr) (k0 : Nat) (hk0 : KidIn w0.heap.size w0 b o ye0 m0 k0) (hx0 : RxP w0 ye0 (.agg #[.int .u8 (ye0.k : Int), .int .u64 (ye0.n : Int), .string (str ye0.s), .int .u8 (ye0.o : Int), .slice m0 ye0.l.length k0])) :
 Calls Tryz.prog 52 #[.agg #[.int .u8 5, .string (str nm), .string (str fr), .bool sec, .bool mu, .slice (some ⟨b, o, none⟩) 1 cx, .slice ma na ca, .slice mb nb cb, .slice ml nl cl]] w0 (HdP w0 ([wIf, exR ye0, [123]])) := by
 obtain ⟨W, hWe⟩ : ∃ W, w0.alloc (.cells #[.int .u8 5, .string (str nm), .string (str fr), .bool sec, .bool mu, .slice (some ⟨b, o, none⟩) 1 cx, .slice ma na ca, .slice mb nb cb, .slice ml nl cl] 52) = W := ⟨_, rfl⟩
 have hBw : Below w0.heap.size w0 W := by rw [← hWe]; exact aB (Below.refl _ _) _
 have hrW : rowG #[.int .u8 5, .string (str nm), .string (str fr), .bool sec, .bool mu, .slice (some ⟨b, o, none⟩) 1 cx, .slice ma na ca, .slice mb nb cb, .slice ml nl cl] W w0.heap.size := by rw [← hWe]; exact rowG_at _ _ _ _ rfl
 have t0 : W.cell? ⟨w0.heap.size, 0, none⟩ = some (.int .u8 5) := hrW.1 0 (by simp)
 have hlv := hrW.2.2
 have hq0 := hk0.of hBw
 have t5 : W.cell? ⟨w0.heap.size, 5, none⟩ = some (.slice (some ⟨b, o, none⟩) 1 cx) := hrW.1 5 (by simp)
 obtain ⟨y0, y1, y2, y3, y4, yl⟩ := (⟨hq0.c0, hq0.c1, hq0.c2, hq0.c3, hq0.c4, hq0.lt'⟩ : _ ∧ _ ∧ _ ∧ _ ∧ _ ∧ _)
 have hex := hx0.go W hBw
 go_enter Tryz.func52, Tryz.ntmps52
 go_wp2_with (go_at_call 33; ((with_reducible refine hex.mono ?_); (rintro r v1 ⟨rfl, hb1⟩)))
 go_ret
 exact hd_new [wIf, exR ye0, [123]] 3 rfl (tr hBw hb1)
theorem rhd_6 (nm fr : List UInt8) (sec mu : Bool) (ma mb ml : Option Addr) (cx na ca nb cb nl cl : Nat) (w0 : World) (b o : Nat) (ye0 : Xp) (m0 : Option Addr) (k0 : Nat) (hk0 : KidIn w0.heap.size w0 b o ye0 m0 k0) (hx0 : RxP w0 ye0 (.agg #[.int .u8 (ye0.k : Int), .int .u64 (ye0.n : Int), .string (str ye0.s), .int .u8 (ye0.o : Int), .slice m0 ye0.l.length k0])) :
 Calls Tryz.prog 52 #[.agg #[.int .u8 6, .string (str nm), .string (str fr), .bool sec, .bool mu, .slice (some ⟨b, o, none⟩) 1 cx, .slice ma na ca, .slice mb nb cb, .slice ml nl cl]] w0 (HdP w0 ([wWhile, exR ye0, [123]])) := by
 obtain ⟨W, hWe⟩ : ∃ W, w0.alloc (.cells #[.int .u8 6, .string (str nm), .string (str fr), .bool sec, .bool mu, .slice (some ⟨b, o, none⟩) 1 cx, .slice ma na ca, .slice mb nb cb, .slice ml nl cl] 52) = W := ⟨_, rfl⟩
 have hBw : Below w0.heap.size w0 W := by rw [← hWe]; exact aB (Below.refl _ _) _
 have hrW : rowG #[.int .u8 6, .string (str nm), .string (str fr), .bool sec, .bool mu, .slice (some ⟨b, o, none⟩) 1 cx, .slice ma na ca, .slice mb nb cb, .slice ml nl cl] W w0.heap.size := by rw [← hWe]; exact rowG_at _ _ _ _ rfl
 have t0 : W.cell? ⟨w0.heap.size, 0, none⟩ = some (.int .u8 6) := hrW.1 0 (by simp)
 have hlv := hrW.2.2
 have hq0 := hk0.of hBw
 have t5 : W.cell? ⟨w0.heap.size, 5, none⟩ = some (.slice (some ⟨b, o, none⟩) 1 cx) := hrW.1 5 (by simp)
 obtain ⟨y0, y1, y2, y3, y4, yl⟩ := (⟨hq0.c0, hq0.c1, hq0.c2, hq0.c3, hq0.c4, hq0.lt'⟩ : _ ∧ _ ∧ _ ∧ _ ∧ _ ∧ _)
 have hex := hx0.go W hBw
 go_enter Tryz.func52, Tryz.ntmps52
 go_wp2_with (go_at_call 33; ((with_reducible refine hex.mono ?_); (rintro r v1 ⟨rfl, hb1⟩)))
 go_ret
 exact hd_new [wWhile, exR ye0, [123]] 3 rfl (tr hBw hb1)
theorem rhd_7 (nm fr : List UInt8) (sec mu : Bool) (ma mb ml : Option Addr) (cx na ca nb cb nl cl : Nat) (w0 : World) (b o : Nat) (ye0 : Xp) (m0 : Option Addr) (k0 : Nat) (hk0 : KidIn w0.heap.size w0 b o ye0 m0 k0) (hx0 : RxP w0 ye0 (.agg #[.int .u8 (ye0.k : Int), .int .u64 (ye0.n : Int), .string (str ye0.s), .int .u8 (ye0.o : Int), .slice m0 ye0.l.length k0])) :
 Calls Tryz.prog 52 #[.agg #[.int .u8 7, .string (str nm), .string (str fr), .bool sec, .bool mu, .slice (some ⟨b, o, none⟩) 1 cx, .slice ma na ca, .slice mb nb cb, .slice ml nl cl]] w0 (HdP w0 ([wFor, nm, [60], exR ye0, [123]])) := by
 obtain ⟨W, hWe⟩ : ∃ W, w0.alloc (.cells #[.int .u8 7, .string (str nm), .string (str fr), .bool sec, .bool mu, .slice (some ⟨b, o, none⟩) 1 cx, .slice ma na ca, .slice mb nb cb, .slice ml nl cl] 52) = W := ⟨_, rfl⟩
 have hBw : Below w0.heap.size w0 W := by rw [← hWe]; exact aB (Below.refl _ _) _
 have hrW : rowG #[.int .u8 7, .string (str nm), .string (str fr), .bool sec, .bool mu, .slice (some ⟨b, o, none⟩) 1 cx, .slice ma na ca, .slice mb nb cb, .slice ml nl cl] W w0.heap.size := by rw [← hWe]; exact rowG_at _ _ _ _ rfl
 have t0 : W.cell? ⟨w0.heap.size, 0, none⟩ = some (.int .u8 7) := hrW.1 0 (by simp)
 have hlv := hrW.2.2
 have hq0 := hk0.of hBw
 have hFi : ∀ w', Below W.heap.size W w' → w'.cell? ⟨w0.heap.size, 1, none⟩ = some (.string (str nm)) ∧ w'.cell? ⟨w0.heap.size, 5, none⟩ = some (.slice (some ⟨b, o, none⟩) 1 cx) ∧ w'.cell? ⟨b, o, none⟩ = some (.int .u8 (ye0.k : Int)) ∧ w'.cell? ⟨b, o + 1, none⟩ = some (.int .u64 (ye0.n : Int)) ∧ w'.cell? ⟨b, o + 2, none⟩ = some (.string (str ye0.s)) ∧ w'.cell? ⟨b, o + 3, none⟩ = some (.int .u8 (ye0.o : Int)) ∧ w'.cell? ⟨b, o + 4, none⟩ = some (.slice m0 ye0.l.length k0) ∧ b < w'.heap.size := fun w' h => ⟨(rowG_b hrW h).1 1 (by simp), (rowG_b hrW h).1 5 (by simp), (hq0.of h).c0, (hq0.of h).c1, (hq0.of h).c2, (hq0.of h).c3, (hq0.of h).c4, (hq0.of h).lt'⟩
 have hv0 : Below W.heap.size W W.drew := ⟨rfl, rfl, rfl, Nat.le_refl _, fun _ _ => rfl⟩
 go_enter Tryz.func52, Tryz.ntmps52
 go_wp2
 refine region_KN (fun w' => Below W.heap.size W w') (by kernel_rfl) ?_
 have q : Pq [0, 1, 2, 3, 4, 5] := trivial
 iterate 6
  refine tkN q rfl (by kernel_rfl) hv0 fun K hK => ?_
  replace q := q.tl
  apply Exists.intro
  refine ⟨Or.inl ⟨by kernel_rfl, fun w' hf => ?_⟩, ?_⟩
  ·obtain ⟨s1, s5, q00, q01, q02, q03, q04, qlt⟩ := hFi _ hf
   go_simp
   try exact rfl
  go_simp
  refine hK _ ?_
  clear hK K
 clear hFi q
 refine wpAnyK_one (k := 6) (by kernel_rfl) ?_
 refine wpOp_step rfl (fun K hK => ?_)
 go_simp
 go_at_call 33
 with_reducible refine (hx0.go _ (tr hBw hv0)).mono ?_
 rintro r v1 ⟨rfl, hb1⟩
 have hv1 := tr hv0 hb1
 refine hK _ _ ⟨hv1, ?_⟩
 clear hK K
 refine wpAnyK_one (k := 7) (by kernel_rfl) ?_
 refine wpOp_step rfl (fun K hK => ?_)
 go_simp
 refine hK _ _ ⟨aB hv1 _, ?_⟩
 clear hK K
 refine wpAnyK_one (k := 8) (by kernel_rfl) ?_
 refine wpOp_step rfl (fun K hK => ?_)
 go_simp
 refine hK _ _ ⟨(aB hv1 _), ?_⟩
 clear hK K
 refine wpAnyK_done (by kernel_rfl) ⟨rfl, ?_⟩
 go_wp2
 go_ret
 exact hd_new [wFor, nm, [60], exR ye0, [123]] 5 rfl (tr hBw hv1)
theorem rhd_8 (nm fr : List UInt8) (sec mu : Bool) (ma mb ml : Option Addr) (cx na ca nb cb nl cl : Nat) (w0 : World) (b o : Nat) (ye0 : Xp) (m0 : Option Addr) (k0 : Nat) (hk0 : KidIn w0.heap.size w0 b o ye0 m0 k0) (hx0 : RxP w0 ye0 (.agg #[.int .u8 (ye0.k : Int), .int .u64 (ye0.n : Int), .string (str ye0.s), .int .u8 (ye0.o : Int), .slice m0 ye0.l.length k0])) (ye1 : Xp) (m1 : Option Addr) (k1 : Nat) (hk1 : KidIn w0.heap.size w0 b (o + 5) ye1 m1 k1) (hx1 : RxP w0 ye1 (.agg #[.int .u8 (ye1.k : Int), .int .u64 (ye1.n : Int), .string (str ye1.s), .int .u8 (ye1.o : Int), .slice m1 ye1.l.length k1])) :
 Calls Tryz.prog 52 #[.agg #[.int .u8 8, .string (str nm), .string (str fr), .bool sec, .bool mu, .slice (some ⟨b, o, none⟩) 2 cx, .slice ma na ca, .slice mb nb cb, .slice ml nl cl]] w0 (HdP w0 ([if mu = true then wEdit else wView, nm, [61], fr, [91], exR ye0, [46, 46], exR ye1, [93], [123]])) := by
 obtain ⟨W, hWe⟩ : ∃ W, w0.alloc (.cells #[.int .u8 8, .string (str nm), .string (str fr), .bool sec, .bool mu, .slice (some ⟨b, o, none⟩) 2 cx, .slice ma na ca, .slice mb nb cb, .slice ml nl cl] 52) = W := ⟨_, rfl⟩
 have hBw : Below w0.heap.size w0 W := by rw [← hWe]; exact aB (Below.refl _ _) _
 have hrW : rowG #[.int .u8 8, .string (str nm), .string (str fr), .bool sec, .bool mu, .slice (some ⟨b, o, none⟩) 2 cx, .slice ma na ca, .slice mb nb cb, .slice ml nl cl] W w0.heap.size := by rw [← hWe]; exact rowG_at _ _ _ _ rfl
 have t0 : W.cell? ⟨w0.heap.size, 0, none⟩ = some (.int .u8 8) := hrW.1 0 (by simp)
 have hlv := hrW.2.2
 have hq0 := hk0.of hBw
 have hq1 := hk1.of hBw
 have t4 : W.cell? ⟨w0.heap.size, 4, none⟩ = some (.bool mu) := hrW.1 4 (by simp)
 have hFi : ∀ w', Below W.heap.size W w' → w'.cell? ⟨w0.heap.size, 1, none⟩ = some (.string (str nm)) ∧ w'.cell? ⟨w0.heap.size, 2, none⟩ = some (.string (str fr)) ∧ w'.cell? ⟨w0.heap.size, 5, none⟩ = some (.slice (some ⟨b, o, none⟩) 2 cx) ∧ w'.cell? ⟨b, o, none⟩ = some (.int .u8 (ye0.k : Int)) ∧ w'.cell? ⟨b, o + 1, none⟩ = some (.int .u64 (ye0.n : Int)) ∧ w'.cell? ⟨b, o + 2, none⟩ = some (.string (str ye0.s)) ∧ w'.cell? ⟨b, o + 3, none⟩ = some (.int .u8 (ye0.o : Int)) ∧ w'.cell? ⟨b, o + 4, none⟩ = some (.slice m0 ye0.l.length k0) ∧ w'.cell? ⟨b, o + 5, none⟩ = some (.int .u8 (ye1.k : Int)) ∧ w'.cell? ⟨b, o + 5 + 1, none⟩ = some (.int .u64 (ye1.n : Int)) ∧ w'.cell? ⟨b, o + 5 + 2, none⟩ = some (.string (str ye1.s)) ∧ w'.cell? ⟨b, o + 5 + 3, none⟩ = some (.int .u8 (ye1.o : Int)) ∧ w'.cell? ⟨b, o + 5 + 4, none⟩ = some (.slice m1 ye1.l.length k1) ∧ b < w'.heap.size := fun w' h => ⟨(rowG_b hrW h).1 1 (by simp), (rowG_b hrW h).1 2 (by simp), (rowG_b hrW h).1 5 (by simp), (hq0.of h).c0, (hq0.of h).c1, (hq0.of h).c2, (hq0.of h).c3, (hq0.of h).c4, (hq1.of h).c0, (hq1.of h).c1, (hq1.of h).c2, (hq1.of h).c3, (hq1.of h).c4, (hq0.of h).lt'⟩
 have hv0 : Below W.heap.size W W.drew := ⟨rfl, rfl, rfl, Nat.le_refl _, fun _ _ => rfl⟩
 obtain ⟨wd, hwd⟩ : ∃ wd, wd = (if mu = true then wEdit else wView) := ⟨_, rfl⟩
 rw [← hwd]
 go_enter Tryz.func52, Tryz.ntmps52
 cases mu
 all_goals
  first | (obtain rfl : wd = wView := hwd) | (obtain rfl : wd = wEdit := hwd)
  go_wp2
  refine region_KN (fun w' => Below W.heap.size W w') (by kernel_rfl) ?_
  have q : Pq [0, 1, 2, 3, 4, 5, 6, 7, 8, 10, 11, 12, 13] := trivial
  iterate 13
   refine tkN q rfl (by kernel_rfl) hv0 fun K hK => ?_
   replace q := q.tl
   apply Exists.intro
   refine ⟨Or.inl ⟨by kernel_rfl, fun w' hf => ?_⟩, ?_⟩
   ·obtain ⟨s1, s2, s5, q00, q01, q02, q03, q04, q10, q11, q12, q13, q14, qlt⟩ := hFi _ hf
    go_simp
    try exact rfl
   go_simp
   refine hK _ ?_
   clear hK K
  clear hFi q
  refine wpAnyK_one (k := 9) (by kernel_rfl) ?_
  refine wpOp_step rfl (fun K hK => ?_)
  go_simp
  go_at_call 33
  with_reducible refine (hx0.go _ (tr hBw hv0)).mono ?_
  rintro r v1 ⟨rfl, hb1⟩
  have hv1 := tr hv0 hb1
  refine hK _ _ ⟨hv1, ?_⟩
  clear hK K
  refine wpAnyK_one (k := 14) (by kernel_rfl) ?_
  refine wpOp_step rfl (fun K hK => ?_)
  go_simp
  go_at_call 33
  with_reducible refine (hx1.go _ (tr hBw hv1)).mono ?_
  rintro r v2 ⟨rfl, hb2⟩
  have hv2 := tr hv1 hb2
  refine hK _ _ ⟨hv2, ?_⟩
  clear hK K
  refine wpAnyK_one (k := 15) (by kernel_rfl) ?_
  refine wpOp_step rfl (fun K hK => ?_)
  go_simp
  refine hK _ _ ⟨aB hv2 _, ?_⟩
  clear hK K
  refine wpAnyK_one (k := 16) (by kernel_rfl) ?_
  refine wpOp_step rfl (fun K hK => ?_)
  go_simp
  refine hK _ _ ⟨(aB hv2 _), ?_⟩
  clear hK K
  refine wpAnyK_done (by kernel_rfl) ⟨rfl, ?_⟩
  go_wp2
  go_ret
  exact hd_new [_, nm, [61], fr, [91], exR ye0, [46, 46], exR ye1, [93], [123]] 10 rfl (tr hBw hv2)
theorem rhd_9 (nm fr : List UInt8) (sec mu : Bool) (ma mb ml : Option Addr) (cx na ca nb cb nl cl : Nat) (w0 : World) (mx : Option Addr) :
 Calls Tryz.prog 52 #[.agg #[.int .u8 9, .string (str nm), .string (str fr), .bool sec, .bool mu, .slice mx 0 cx, .slice ma na ca, .slice mb nb cb, .slice ml nl cl]] w0 (HdP w0 ([wMove, nm, [61], fr, [59]])) := by
 obtain ⟨W, hWe⟩ : ∃ W, w0.alloc (.cells #[.int .u8 9, .string (str nm), .string (str fr), .bool sec, .bool mu, .slice mx 0 cx, .slice ma na ca, .slice mb nb cb, .slice ml nl cl] 52) = W := ⟨_, rfl⟩
 have hBw : Below w0.heap.size w0 W := by rw [← hWe]; exact aB (Below.refl _ _) _
 have hrW : rowG #[.int .u8 9, .string (str nm), .string (str fr), .bool sec, .bool mu, .slice mx 0 cx, .slice ma na ca, .slice mb nb cb, .slice ml nl cl] W w0.heap.size := by rw [← hWe]; exact rowG_at _ _ _ _ rfl
 have t0 : W.cell? ⟨w0.heap.size, 0, none⟩ = some (.int .u8 9) := hrW.1 0 (by simp)
 have hlv := hrW.2.2
 have t1 : W.cell? ⟨w0.heap.size, 1, none⟩ = some (.string (str nm)) := hrW.1 1 (by simp)
 have t2 : W.cell? ⟨w0.heap.size, 2, none⟩ = some (.string (str fr)) := hrW.1 2 (by simp)
 go_enter Tryz.func52, Tryz.ntmps52
 go_wp2
 go_ret
 exact hd_new [wMove, nm, [61], fr, [59]] 5 rfl hBw
theorem rhd_10 (nm fr : List UInt8) (sec mu : Bool) (ma mb ml : Option Addr) (cx na ca nb cb nl cl : Nat) (w0 : World) (b o : Nat) (ye0 : Xp) (m0 : Option Addr) (k0 : Nat) (hk0 : KidIn w0.heap.size w0 b o ye0 m0 k0) (hx0 : RxP w0 ye0 (.agg #[.int .u8 (ye0.k : Int), .int .u64 (ye0.n : Int), .string (str ye0.s), .int .u8 (ye0.o : Int), .slice m0 ye0.l.length k0])) :
 Calls Tryz.prog 52 #[.agg #[.int .u8 10, .string (str nm), .string (str fr), .bool sec, .bool mu, .slice (some ⟨b, o, none⟩) 1 cx, .slice ma na ca, .slice mb nb cb, .slice ml nl cl]] w0 (HdP w0 ([wOpen, nm, [61], exR ye0, [59]])) := by
 obtain ⟨W, hWe⟩ : ∃ W, w0.alloc (.cells #[.int .u8 10, .string (str nm), .string (str fr), .bool sec, .bool mu, .slice (some ⟨b, o, none⟩) 1 cx, .slice ma na ca, .slice mb nb cb, .slice ml nl cl] 52) = W := ⟨_, rfl⟩
 have hBw : Below w0.heap.size w0 W := by rw [← hWe]; exact aB (Below.refl _ _) _
 have hrW : rowG #[.int .u8 10, .string (str nm), .string (str fr), .bool sec, .bool mu, .slice (some ⟨b, o, none⟩) 1 cx, .slice ma na ca, .slice mb nb cb, .slice ml nl cl] W w0.heap.size := by rw [← hWe]; exact rowG_at _ _ _ _ rfl
 have t0 : W.cell? ⟨w0.heap.size, 0, none⟩ = some (.int .u8 10) := hrW.1 0 (by simp)
 have hlv := hrW.2.2
 have hq0 := hk0.of hBw
 have hFi : ∀ w', Below W.heap.size W w' → w'.cell? ⟨w0.heap.size, 1, none⟩ = some (.string (str nm)) ∧ w'.cell? ⟨w0.heap.size, 5, none⟩ = some (.slice (some ⟨b, o, none⟩) 1 cx) ∧ w'.cell? ⟨b, o, none⟩ = some (.int .u8 (ye0.k : Int)) ∧ w'.cell? ⟨b, o + 1, none⟩ = some (.int .u64 (ye0.n : Int)) ∧ w'.cell? ⟨b, o + 2, none⟩ = some (.string (str ye0.s)) ∧ w'.cell? ⟨b, o + 3, none⟩ = some (.int .u8 (ye0.o : Int)) ∧ w'.cell? ⟨b, o + 4, none⟩ = some (.slice m0 ye0.l.length k0) ∧ b < w'.heap.size := fun w' h => ⟨(rowG_b hrW h).1 1 (by simp), (rowG_b hrW h).1 5 (by simp), (hq0.of h).c0, (hq0.of h).c1, (hq0.of h).c2, (hq0.of h).c3, (hq0.of h).c4, (hq0.of h).lt'⟩
 have hv0 : Below W.heap.size W W.drew := ⟨rfl, rfl, rfl, Nat.le_refl _, fun _ _ => rfl⟩
 go_enter Tryz.func52, Tryz.ntmps52
 go_wp2
 refine region_KN (fun w' => Below W.heap.size W w') (by kernel_rfl) ?_
 have q : Pq [0, 1, 2, 3, 4, 5] := trivial
 iterate 6
  refine tkN q rfl (by kernel_rfl) hv0 fun K hK => ?_
  replace q := q.tl
  apply Exists.intro
  refine ⟨Or.inl ⟨by kernel_rfl, fun w' hf => ?_⟩, ?_⟩
  ·obtain ⟨s1, s5, q00, q01, q02, q03, q04, qlt⟩ := hFi _ hf
   go_simp
   try exact rfl
  go_simp
  refine hK _ ?_
  clear hK K
 clear hFi q
 refine wpAnyK_one (k := 6) (by kernel_rfl) ?_
 refine wpOp_step rfl (fun K hK => ?_)
 go_simp
 go_at_call 33
 with_reducible refine (hx0.go _ (tr hBw hv0)).mono ?_
 rintro r v1 ⟨rfl, hb1⟩
 have hv1 := tr hv0 hb1
 refine hK _ _ ⟨hv1, ?_⟩
 clear hK K
 refine wpAnyK_one (k := 7) (by kernel_rfl) ?_
 refine wpOp_step rfl (fun K hK => ?_)
 go_simp
 refine hK _ _ ⟨aB hv1 _, ?_⟩
 clear hK K
 refine wpAnyK_one (k := 8) (by kernel_rfl) ?_
 refine wpOp_step rfl (fun K hK => ?_)
 go_simp
 refine hK _ _ ⟨(aB hv1 _), ?_⟩
 clear hK K
 refine wpAnyK_done (by kernel_rfl) ⟨rfl, ?_⟩
 go_wp2
 go_ret
 exact hd_new [wOpen, nm, [61], exR ye0, [59]] 5 rfl (tr hBw hv1)
theorem rhd_12 (nm fr : List UInt8) (sec mu : Bool) (ma mb ml : Option Addr) (cx na ca nb cb nl cl : Nat) (w0 : World) (mx : Option Addr) :
 Calls Tryz.prog 52 #[.agg #[.int .u8 12, .string (str nm), .string (str fr), .bool sec, .bool mu, .slice mx 0 cx, .slice ma na ca, .slice mb nb cb, .slice ml nl cl]] w0 (HdP w0 ([wSeal, [59]])) := by
 obtain ⟨W, hWe⟩ : ∃ W, w0.alloc (.cells #[.int .u8 12, .string (str nm), .string (str fr), .bool sec, .bool mu, .slice mx 0 cx, .slice ma na ca, .slice mb nb cb, .slice ml nl cl] 52) = W := ⟨_, rfl⟩
 have hBw : Below w0.heap.size w0 W := by rw [← hWe]; exact aB (Below.refl _ _) _
 have hrW : rowG #[.int .u8 12, .string (str nm), .string (str fr), .bool sec, .bool mu, .slice mx 0 cx, .slice ma na ca, .slice mb nb cb, .slice ml nl cl] W w0.heap.size := by rw [← hWe]; exact rowG_at _ _ _ _ rfl
 have t0 : W.cell? ⟨w0.heap.size, 0, none⟩ = some (.int .u8 12) := hrW.1 0 (by simp)
 have hlv := hrW.2.2
 go_enter Tryz.func52, Tryz.ntmps52
 go_wp2
 go_ret
 exact hd_new [wSeal, [59]] 2 rfl hBw
end Go.Proofs.YtfbjljcmmbdhkaaGreatDoor
