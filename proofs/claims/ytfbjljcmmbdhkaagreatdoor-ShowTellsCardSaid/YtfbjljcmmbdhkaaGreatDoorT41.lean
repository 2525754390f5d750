/- Contract of SameStmts: two rows of the same statements are the same. -/
import Derived.Test.YtfbjljcmmbdhkaaGreatDoorT19
import Derived.Test.YtfbjljcmmbdhkaaGreatDoorT39
import Derived.Test.YtfbjljcmmbdhkaaGreatDoorT34
import Derived.Deep.CutRange
import Derived.Deep.DeepAppendWide
namespace Go.Proofs.YtfbjljcmmbdhkaaGreatDoor
set_option linter.unusedVariables false
set_option linter.unusedSimpArgs false
set_option maxRecDepth 100000
set_option maxHeartbeats 200000000
section
open Go.ChangeShapes Go.WideShapes Go.ChangeAt Go.RowKit
mutual
def St.sz : St → Nat
 | .mk _ _ _ _ _ _ _ bd el => 1 + szL bd + szL el
def szL : List St → Nat
 | [] => 0
 | s :: r => s.sz + szL r
end
theorem szL_mem {x : St} : ∀ {l : List St}, x ∈ l → x.sz ≤ szL l
 | s :: r, h => by
   rw [szL]
   rcases List.mem_cons.1 h with rfl | h
   ·omega
   ·have := szL_mem h; omega
theorem sz_s (x : St) : x.sz = 1 + szL x.bd + szL x.el := by cases x; rw [St.sz]; rfl
theorem sts_row {G : Nat → Prop} {w : World} : ∀ (l : List St) (ma : Option Addr), StsAt G w l ma → ∀ i (h : i < l.length), ∃ (b o : Nat) (mx mA mb ml : Option Addr) (cx ca cb cl : Nat), ma = some ⟨b, o, none⟩ ∧ G b ∧ b < w.heap.size ∧ KidsAt G w l[i].ex mx ∧ StrsAt G w l[i].ar mA ∧ StsAt G w l[i].bd mb ∧ StsAt G w l[i].el ml ∧ l[i].ex.length ≤ 140737488355328 ∧ l[i].ar.length ≤ 140737488355328 ∧ l[i].bd.length ≤ 140737488355328 ∧ l[i].el.length ≤ 140737488355328 ∧ l[i].k < 256 ∧ w.rangeAt b (o + i * 9) [.int .u8 (l[i].k : Int), .string (str l[i].nm), .string (str l[i].fr), .bool l[i].sec, .bool l[i].mu, .slice mx l[i].ex.length cx, .slice mA l[i].ar.length ca, .slice mb l[i].bd.length cb, .slice ml l[i].el.length cl] := by
 intro l
 induction l with
 | nil => intro ma _ i h; simp at h
 | cons x l ih =>
  intro ma h i hi
  cases h with
  | @cons k nm fr sec mu ex ar bd el r b off mx ma mb ml cx ca cb cl hg c0 c1 c2 c3 c4 c5 c6 c7 c8 hk hx ha hb hl hX hA hB hL hr =>
   cases i with
   | zero =>
    refine ⟨b, off, mx, ma, mb, ml, cx, ca, cb, cl, rfl, hg, World.block_lt_of_cell? w _ c0, hX, hA, hB, hL, hx, ha, hb, hl, hk, ?_⟩
    intro r u hu
    rw [show off + 0 * 9 + r = off + r by omega]
    obtain rfl | rfl | rfl | rfl | rfl | rfl | rfl | rfl | rfl | hr9 : r = 0 ∨ r = 1 ∨ r = 2 ∨ r = 3 ∨ r = 4 ∨ r = 5 ∨ r = 6 ∨ r = 7 ∨ r = 8 ∨ 9 ≤ r := by omega
    ·cases hu; exact c0
    ·cases hu; exact c1
    ·cases hu; exact c2
    ·cases hu; exact c3
    ·cases hu; exact c4
    ·cases hu; exact c5
    ·cases hu; exact c6
    ·cases hu; exact c7
    ·cases hu; exact c8
    ·rw [List.getElem?_eq_none (by simpa using hr9)] at hu; cases hu
   | succ i =>
    obtain ⟨b', o', mx', mA', mb', ml', cx', ca', cb', cl', e, h1, h2, h3, h4, h5, h6, h7, h8, h9, h10, h11, h12⟩ := ih _ hr i (by simpa using hi)
    cases e
    refine ⟨b, off, mx', mA', mb', ml', cx', ca', cb', cl', rfl, h1, h2, h3, h4, h5, h6, h7, h8, h9, h10, h11, fun r u hu => ?_⟩
    rw [show off + (i + 1) * 9 + r = off + 9 + i * 9 + r by omega]
    exact h12 r u hu
theorem range_stay {w w' : World} {b o : Nat} {cs : List Value} (h : w.rangeAt b o cs) (hb : Below w.heap.size w w') : w'.rangeAt b o cs := fun j v hv => stay hb (h j v hv)
theorem nineR {c0 c1 c2 c3 c4 c5 c6 c7 c8 : Value} {w : World} {g o : Nat} (h : w.rangeAt g o [c0, c1, c2, c3, c4, c5, c6, c7, c8]) : w.cell? ⟨g, o, none⟩ = some c0 ∧ w.cell? ⟨g, o + 1, none⟩ = some c1 ∧ w.cell? ⟨g, o + 2, none⟩ = some c2 ∧ w.cell? ⟨g, o + 3, none⟩ = some c3 ∧ w.cell? ⟨g, o + 4, none⟩ = some c4 ∧ w.cell? ⟨g, o + 5, none⟩ = some c5 ∧ w.cell? ⟨g, o + 6, none⟩ = some c6 ∧ w.cell? ⟨g, o + 7, none⟩ = some c7 ∧ w.cell? ⟨g, o + 8, none⟩ = some c8 :=
 ⟨h 0 _ rfl, h 1 _ rfl, h 2 _ rfl, h 3 _ rfl, h 4 _ rfl, h 5 _ rfl, h 6 _ rfl, h 7 _ rfl, h 8 _ rfl⟩
section
variable {op : Oper} {a : Act} {w : World} {K : Act → World → Prop} {Q : Exit → Act → World → Prop}
theorem stK9 (x y : Operand) (ho : op.op = .store 52 x y) (g : Nat) (hx : a.eval x = .pointer (some ⟨g, 0, none⟩)) {k : Int} {s1 s2 : ByteArray} {b1 b2 : Bool} {m1 m2 m3 m4 : Option Addr} {n1 n2 n3 n4 p1 p2 p3 p4 : Nat} (hy : a.eval y = .agg #[.int .u8 k, .string s1, .string s2, .bool b1, .bool b2, .slice m1 n1 p1, .slice m2 n2 p2, .slice m3 n3 p3, .slice m4 n4 p4]) {d0 d1 d2 d3 d4 d5 d6 d7 d8 : Value} (hr : rowG #[d0, d1, d2, d3, d4, d5, d6, d7, d8] w g)
 (h : ∀ w', rowG #[.int .u8 k, .string s1, .string s2, .bool b1, .bool b2, .slice m1 n1 p1, .slice m2 n2 p2, .slice m3 n3 p3, .slice m4 n4 p4] w' g → Only (fun j => j = g) w w' → K (a.put op.dst undef) w') : op.wp Tryz.prog a w K Q :=
 wp_store_mid 52 x y ho g 0 #[.int .u8 k, .string s1, .string s2, .bool b1, .bool b2, .slice m1 n1 p1, .slice m2 n2 p2, .slice m3 n3 p3, .slice m4 n4 p4] hx hy (row_there (C := #[d0, d1, d2, d3, d4, d5, d6, d7, d8]) rfl hr) infoSt (by simp [Value.oneCell']) (h _ (rowG_sets (C := #[d0, d1, d2, d3, d4, d5, d6, d7, d8]) [.int .u8 k, .string s1, .string s2, .bool b1, .bool b2, .slice m1 n1 p1, .slice m2 n2 p2, .slice m3 n3 p3, .slice m4 n4 p4] rfl hr) (only_sets _ _ _))
end
def SmIH (M : Nat) : Prop := ∀ (l : List St), szL l < M → ∀ (w : World) (G1 G2 : Nat → Prop) (m1 m2 : Option Addr) (c1 c2 : Nat), StsAt G1 w l m1 → StsAt G2 w l m2 → l.length ≤ 140737488355328 →
 Calls Tryz.prog 26 #[.slice m1 l.length c1, .slice m2 l.length c2] w fun r w' => r = .returned (.bool true) ∧ Below w.heap.size w w'
theorem smS_step (M : Nat) (ih : SmIH M) (l : List St) (hM : szL l ≤ M) (w : World) (G1 G2 : Nat → Prop) (m1 m2 : Option Addr) (c1 c2 : Nat) (h1 : StsAt G1 w l m1) (h2 : StsAt G2 w l m2) (hl : l.length ≤ 140737488355328) :
 Calls Tryz.prog 26 #[.slice m1 l.length c1, .slice m2 l.length c2] w fun r w' => r = .returned (.bool true) ∧ Below w.heap.size w w' := by
 have H1 := Lib.hid h1
 have H2 := Lib.hid h2
 have HIH := Lib.hid ih
 have HM := Lib.hid hM
 obtain ⟨N, hN⟩ : ∃ N, N = l.length := ⟨_, rfl⟩
 rw [← hN] at hl ⊢
 have HL := Lib.hid hN
 clear h1 h2 hN ih hM
 go_enter Tryz.func26, Tryz.ntmps26
 go_wp2
 go_loopw [5] (fun i wr => ∃ j : Nat, j ≤ N ∧ i = .int .i64 (j : Int) ∧ Below w.heap.size w wr) (fun i _ => N - (intOf i).toNat)
 case atStart => exact ⟨0, Nat.zero_le _, rfl, Below.refl _ _⟩
 case round =>
  obtain ⟨j, hj, rfl, hB⟩ := hrel
  by_cases hlt : j < N
  ·have hlt' : j < l.length := by rw [← HL.out]; exact hlt
   obtain ⟨g1, o1, xx, xa, xb, xl, xc, xd, xe, xf, rfl, -, hw1, hX1, hA1, hB1, hL1, hx, ha, hb, hle, hk, hr1⟩ := sts_row l m1 H1.out j hlt'
   obtain ⟨g2, o2, yx, ya, yb, yl, yc, yd, ye, yf, rfl, -, hw2, hX2, hA2, hB2, hL2, -, -, -, -, -, hr2⟩ := sts_row l m2 H2.out j hlt'
   have hsz : (l[j]).sz ≤ M := Nat.le_trans (szL_mem (List.getElem_mem hlt')) HM.out
   rw [sz_s] at hsz
   have hr1 := range_stay hr1 hB
   have hr2 := range_stay hr2 hB
   have hw1 : g1 < wr.heap.size := Nat.lt_of_lt_of_le hw1 hB.size
   have hw2 : g2 < wr.heap.size := Nat.lt_of_lt_of_le hw2 hB.size
   have hX := fun w' (hb : Below wr.heap.size wr w') => sme_any l[j].ex G1 G2 xx yx xc yc w' ((hX1.of hB).of hb) ((hX2.of hB).of hb) hx
   have hA := fun w' (hb : Below wr.heap.size wr w') => smt_any l[j].ar G1 G2 xa ya xd yd w' ((hA1.of hB).of hb) ((hA2.of hB).of hb) ha
   have hBd := fun w' (hb' : Below wr.heap.size wr w') => HIH.out l[j].bd (by omega) w' G1 G2 xb yb xe ye ((hB1.of hB).of hb') ((hB2.of hB).of hb') hb
   have hEl := fun w' (hb : Below wr.heap.size wr w') => HIH.out l[j].el (by omega) w' G1 G2 xl yl xf yf ((hL1.of hB).of hb) ((hL2.of hB).of hb) hle
   clear hX1 hX2 hA1 hA2 hB1 hB2 hL1 hL2 hsz hx ha hb hle
   generalize l[j].k = k at *
   generalize l[j].nm = nm at *
   generalize l[j].fr = fr at *
   generalize l[j].sec = sec at *
   generalize l[j].mu = mu at *
   generalize l[j].ex.length = nx at *
   generalize l[j].ar.length = na at *
   generalize l[j].bd.length = nb at *
   generalize l[j].el.length = nl at *
   have hLd1 := fun w' (hb : Below wr.heap.size wr w') => range_stay hr1 hb
   have hLd2 := fun w' (hb : Below wr.heap.size wr w') => range_stay hr2 hb
   clear hr1 hr2
   go_wp2
   have hF0 : Below wr.heap.size wr wr.drew := bdd (Below.refl _ _)
   refine region_K (fun w' => Below wr.heap.size wr w') (by kernel_rfl) ?_
   have q : Pq [0, 1, 2] := trivial
   iterate 3
    refine tkK q rfl (by kernel_rfl) (fun _ _ _ _ h => h) hF0 fun K hK => ?_
    replace q := q.tl
    apply Exists.intro
    refine ⟨Or.inl ⟨by kernel_rfl, fun w' hf => ?_⟩, ?_⟩
    ·skip
     go_simp
     try exact rfl
    go_simp
    refine hK _ ?_
    clear hK K
   refine wpAnyK_take (i := 3) rfl (by kernel_rfl) (by kernel_rfl) (by kernel_rfl) (fun _ _ _ _ h => h) hF0 (fun K hK => ?_)
   apply Exists.intro
   refine ⟨Or.inl ⟨by kernel_rfl, fun w' hf => ?_⟩, ?_⟩
   ·obtain ⟨z0, z1, z2, z3, z4, z5, z6, z7, z8⟩ := nineR (hLd1 w' hf)
    have ql1 : g1 < w'.heap.size := Nat.lt_of_lt_of_le hw1 hf.size
    have ql2 : g2 < w'.heap.size := Nat.lt_of_lt_of_le hw2 hf.size
    go_simp
    try exact rfl
   go_simp
   refine hK _ ?_
   clear hK K
   have q : Pq [4, 5, 6] := trivial
   iterate 3
    refine tkK q rfl (by kernel_rfl) (fun _ _ _ _ h => h) hF0 fun K hK => ?_
    replace q := q.tl
    apply Exists.intro
    refine ⟨Or.inl ⟨by kernel_rfl, fun w' hf => ?_⟩, ?_⟩
    ·skip
     go_simp
     try exact rfl
    go_simp
    refine hK _ ?_
    clear hK K
   refine wpAnyK_take (i := 7) rfl (by kernel_rfl) (by kernel_rfl) (by kernel_rfl) (fun _ _ _ _ h => h) hF0 (fun K hK => ?_)
   apply Exists.intro
   refine ⟨Or.inl ⟨by kernel_rfl, fun w' hf => ?_⟩, ?_⟩
   ·obtain ⟨z0, z1, z2, z3, z4, z5, z6, z7, z8⟩ := nineR (hLd2 w' hf)
    have ql1 : g1 < w'.heap.size := Nat.lt_of_lt_of_le hw1 hf.size
    have ql2 : g2 < w'.heap.size := Nat.lt_of_lt_of_le hw2 hf.size
    go_simp
    try exact rfl
   go_simp
   refine hK _ ?_
   clear hK K
   refine wpAnyK_two (k1 := 8) (k2 := 9) (by kernel_rfl) ?_ ?_
   ·refine wpOp_step rfl (fun K hK => ?_)
    go_simp
    refine hK _ _ ⟨(aB hF0 _), ?_⟩
    clear hK K
    refine wpAnyK_one (k := 9) (by kernel_rfl) ?_
    refine wpOp_step rfl (fun K hK => ?_)
    go_simp
    refine hK _ _ ⟨(aB (aB hF0 _) _), ?_⟩
    clear hK K
    refine wpAnyK_one (k := 10) (by kernel_rfl) ?_
    refine wpOp_step rfl (fun K hK => ?_)
    refine stK9 _ _ rfl (wr.heap.size) rfl rfl (show rowG #[.int .u8 0, .string ⟨#[]⟩, .string ⟨#[]⟩, .bool false, .bool false, .slice none 0 0, .slice none 0 0, .slice none 0 0, .slice none 0 0] _ _ by exact rowG_alloc (rowG_at _ _ _ _ rfl) _) (fun wF rF oF => ?_)
    have hFF : Below wr.heap.size wr wF := (aB (aB hF0 _) _).trans (oF.below (B := wr.heap.size) (fun j hj => by omega) (by simp <;> omega))
    have rB : rowG #[.int .u8 0, .string ⟨#[]⟩, .string ⟨#[]⟩, .bool false, .bool false, .slice none 0 0, .slice none 0 0, .slice none 0 0, .slice none 0 0] wF (wr.heap.size + 1) := rowG_only (by exact rowG_at _ _ _ _ (by simp)) oF (by omega)
    refine hK _ _ ⟨hFF, ?_⟩
    clear hK K
    refine wpAnyK_one (k := 11) (by kernel_rfl) ?_
    refine wpOp_step rfl (fun K hK => ?_)
    refine stK9 _ _ rfl (wr.heap.size + 1) rfl rfl rB (fun wH r2 oH => ?_)
    have hFB : Below wr.heap.size wr wH := hFF.trans (oH.below (B := wr.heap.size) (fun j hj => by omega) hFF.size)
    have r1 := rowG_only rF oH (by omega)
    refine hK _ _ ⟨hFB, ?_⟩
    clear hK K oF oH rF rB hLd1 hLd2
    refine wpAnyK_done (by kernel_rfl) ?_
    obtain ⟨p0, p1, p2, p3, p4, p5, p6, p7, p8, pf, pl⟩ := nine r1
    obtain ⟨q0, q1, q2, q3, q4, q5, q6, q7, q8, qf, ql⟩ := nine r2
    go_wp2_with first
     | (go_at_call 25; ((with_reducible refine (hX _ hFB).mono ?_); (rintro e v1 ⟨rfl, hb1⟩); (have hG1 := tr hFB hb1); (have s1 := rowG_b r1 hb1); (have s2 := rowG_b r2 hb1); (clear p0 p1 p2 p3 p4 p5 p6 p7 p8 pf pl q0 q1 q2 q3 q4 q5 q6 q7 q8 qf ql); (obtain ⟨p0, p1, p2, p3, p4, p5, p6, p7, p8, pf, pl⟩ := nine s1); (obtain ⟨q0, q1, q2, q3, q4, q5, q6, q7, q8, qf, ql⟩ := nine s2)))
     | (go_at_call 48; ((with_reducible refine (hA _ hG1).mono ?_); (rintro e v2 ⟨rfl, hb2⟩); (have hG2 := tr hG1 hb2); (have t1 := rowG_b s1 hb2); (have t2 := rowG_b s2 hb2); (clear p0 p1 p2 p3 p4 p5 p6 p7 p8 pf pl q0 q1 q2 q3 q4 q5 q6 q7 q8 qf ql); (obtain ⟨p0, p1, p2, p3, p4, p5, p6, p7, p8, pf, pl⟩ := nine t1); (obtain ⟨q0, q1, q2, q3, q4, q5, q6, q7, q8, qf, ql⟩ := nine t2)))
     | (go_at_call 26; ((with_reducible refine (hBd _ hG2).mono ?_); (rintro e v3 ⟨rfl, hb3⟩); (have hG3 := tr hG2 hb3); (have u1 := rowG_b t1 hb3); (have u2 := rowG_b t2 hb3); (clear hBd p0 p1 p2 p3 p4 p5 p6 p7 p8 pf pl q0 q1 q2 q3 q4 q5 q6 q7 q8 qf ql); (obtain ⟨p0, p1, p2, p3, p4, p5, p6, p7, p8, pf, pl⟩ := nine u1); (obtain ⟨q0, q1, q2, q3, q4, q5, q6, q7, q8, qf, ql⟩ := nine u2)))
     | (go_at_call 26; ((with_reducible refine (hEl _ hG3).mono ?_); (rintro e v4 ⟨rfl, hb4⟩)))
    go_roundw
    case rel => first | exact ⟨j + 1, by omega, by go_num, hB.trans ((tr hG3 hb4).mono hB.size)⟩ | ((repeat apply Exists.intro); exact ⟨⟨j + 1, by omega, by go_num, hB.trans ((tr hG3 hb4).mono hB.size)⟩, rfl⟩)
    case measure => first | (simp [intOf]; done) | (simp [intOf]; omega)
   ·refine wpOp_step rfl (fun K hK => ?_)
    go_simp
    refine hK _ _ ⟨(aB hF0 _), ?_⟩
    clear hK K
    refine wpAnyK_one (k := 8) (by kernel_rfl) ?_
    refine wpOp_step rfl (fun K hK => ?_)
    go_simp
    refine hK _ _ ⟨(aB (aB hF0 _) _), ?_⟩
    clear hK K
    refine wpAnyK_one (k := 10) (by kernel_rfl) ?_
    refine wpOp_step rfl (fun K hK => ?_)
    refine stK9 _ _ rfl (wr.heap.size + 1) rfl rfl (show rowG #[.int .u8 0, .string ⟨#[]⟩, .string ⟨#[]⟩, .bool false, .bool false, .slice none 0 0, .slice none 0 0, .slice none 0 0, .slice none 0 0] _ _ by exact rowG_at _ _ _ _ (by simp)) (fun wF rF oF => ?_)
    have hFF : Below wr.heap.size wr wF := (aB (aB hF0 _) _).trans (oF.below (B := wr.heap.size) (fun j hj => by omega) (by simp <;> omega))
    have rB : rowG #[.int .u8 0, .string ⟨#[]⟩, .string ⟨#[]⟩, .bool false, .bool false, .slice none 0 0, .slice none 0 0, .slice none 0 0, .slice none 0 0] wF (wr.heap.size) := rowG_only (by exact rowG_alloc (rowG_at _ _ _ _ rfl) _) oF (by omega)
    refine hK _ _ ⟨hFF, ?_⟩
    clear hK K
    refine wpAnyK_one (k := 11) (by kernel_rfl) ?_
    refine wpOp_step rfl (fun K hK => ?_)
    refine stK9 _ _ rfl (wr.heap.size) rfl rfl rB (fun wH r2 oH => ?_)
    have hFB : Below wr.heap.size wr wH := hFF.trans (oH.below (B := wr.heap.size) (fun j hj => by omega) hFF.size)
    have r1 := rowG_only rF oH (by omega)
    refine hK _ _ ⟨hFB, ?_⟩
    clear hK K oF oH rF rB hLd1 hLd2
    refine wpAnyK_done (by kernel_rfl) ?_
    obtain ⟨p0, p1, p2, p3, p4, p5, p6, p7, p8, pf, pl⟩ := nine r1
    obtain ⟨q0, q1, q2, q3, q4, q5, q6, q7, q8, qf, ql⟩ := nine r2
    go_wp2_with first
     | (go_at_call 25; ((with_reducible refine (hX _ hFB).mono ?_); (rintro e v1 ⟨rfl, hb1⟩); (have hG1 := tr hFB hb1); (have s1 := rowG_b r1 hb1); (have s2 := rowG_b r2 hb1); (clear p0 p1 p2 p3 p4 p5 p6 p7 p8 pf pl q0 q1 q2 q3 q4 q5 q6 q7 q8 qf ql); (obtain ⟨p0, p1, p2, p3, p4, p5, p6, p7, p8, pf, pl⟩ := nine s1); (obtain ⟨q0, q1, q2, q3, q4, q5, q6, q7, q8, qf, ql⟩ := nine s2)))
     | (go_at_call 48; ((with_reducible refine (hA _ hG1).mono ?_); (rintro e v2 ⟨rfl, hb2⟩); (have hG2 := tr hG1 hb2); (have t1 := rowG_b s1 hb2); (have t2 := rowG_b s2 hb2); (clear p0 p1 p2 p3 p4 p5 p6 p7 p8 pf pl q0 q1 q2 q3 q4 q5 q6 q7 q8 qf ql); (obtain ⟨p0, p1, p2, p3, p4, p5, p6, p7, p8, pf, pl⟩ := nine t1); (obtain ⟨q0, q1, q2, q3, q4, q5, q6, q7, q8, qf, ql⟩ := nine t2)))
     | (go_at_call 26; ((with_reducible refine (hBd _ hG2).mono ?_); (rintro e v3 ⟨rfl, hb3⟩); (have hG3 := tr hG2 hb3); (have u1 := rowG_b t1 hb3); (have u2 := rowG_b t2 hb3); (clear hBd p0 p1 p2 p3 p4 p5 p6 p7 p8 pf pl q0 q1 q2 q3 q4 q5 q6 q7 q8 qf ql); (obtain ⟨p0, p1, p2, p3, p4, p5, p6, p7, p8, pf, pl⟩ := nine u1); (obtain ⟨q0, q1, q2, q3, q4, q5, q6, q7, q8, qf, ql⟩ := nine u2)))
     | (go_at_call 26; ((with_reducible refine (hEl _ hG3).mono ?_); (rintro e v4 ⟨rfl, hb4⟩)))
    go_roundw
    case rel => first | exact ⟨j + 1, by omega, by go_num, hB.trans ((tr hG3 hb4).mono hB.size)⟩ | ((repeat apply Exists.intro); exact ⟨⟨j + 1, by omega, by go_num, hB.trans ((tr hG3 hb4).mono hB.size)⟩, rfl⟩)
    case measure => first | (simp [intOf]; done) | (simp [intOf]; omega)
  ·obtain rfl : j = N := by omega
   go_wp2
   go_ret
   exact ⟨rfl, hB⟩
theorem smS_any : ∀ (M : Nat), SmIH M := by
 intro M
 induction M with
 | zero => intro l hl; omega
 | succ M ih => intro l hl w G1 G2 m1 m2 c1 c2 h1 h2 hn; exact smS_step M ih l (by omega) w G1 G2 m1 m2 c1 c2 h1 h2 hn
theorem sts_same (l : List St) (w : World) (G1 G2 : Nat → Prop) (m1 m2 : Option Addr) (c1 c2 : Nat) (h1 : StsAt G1 w l m1) (h2 : StsAt G2 w l m2) (hl : l.length ≤ 140737488355328) :
 Calls Tryz.prog 26 #[.slice m1 l.length c1, .slice m2 l.length c2] w fun r w' => r = .returned (.bool true) ∧ Below w.heap.size w w' := smS_any (szL l + 1) l (by omega) w G1 G2 m1 m2 c1 c2 h1 h2 hl
end
section
open Go.ChangeShapes Go.WideShapes Go.ChangeAt Go.RowKit
mutual
def St.lb : St → Prop
 | .mk _ _ _ _ _ ex ar bd el => ex.length ≤ 2199023255488 ∧ lbL ex ∧ ar.length ≤ 8796093021952 ∧ (bd.length ≤ 977343669105 ∧ lbS bd) ∧ (el.length ≤ 977343669105 ∧ lbS el)
def lbS : List St → Prop
 | [] => True
 | x :: r => x.lb ∧ lbS r
end
theorem lbS_iff : ∀ {l : List St}, lbS l ↔ ∀ x ∈ l, x.lb
 | [] => by rw [lbS]; simp
 | x :: r => by rw [lbS, lbS_iff (l := r)]; simp
theorem lb_s {s : St} (h : s.lb) : s.ex.length ≤ 2199023255488 ∧ lbL s.ex ∧ s.ar.length ≤ 8796093021952 ∧ (s.bd.length ≤ 977343669105 ∧ lbS s.bd) ∧ (s.el.length ≤ 977343669105 ∧ lbS s.el) := by cases s; rw [St.lb] at h; exact h
def CpIH (M : Nat) : Prop := ∀ (l : List St), szL l < M → lbS l → l.length ≤ 977343669105 → ∀ (G : Nat → Prop) (ma : Option Addr) (cap : Nat) (w : World), StsAt G w l ma →
 Calls Tryz.prog 17 #[.slice ma l.length cap] w fun r w' => (∃ (mk : Option Addr) (ck : Nat), r = .returned (.slice mk l.length ck) ∧ StsAt (fun b => w.heap.size ≤ b ∧ b < w'.heap.size) w' l mk) ∧ Below w.heap.size w w'
theorem cps_step (M0 : Nat) (ih : CpIH M0) (l : List St) (hM0 : szL l ≤ M0) (hlb : lbS l) (hl : l.length ≤ 977343669105) (G : Nat → Prop) (ma : Option Addr) (cap : Nat) (w : World) (hS : StsAt G w l ma) :
 Calls Tryz.prog 17 #[.slice ma l.length cap] w fun r w' => (∃ (mk : Option Addr) (ck : Nat), r = .returned (.slice mk l.length ck) ∧ StsAt (fun b => w.heap.size ≤ b ∧ b < w'.heap.size) w' l mk) ∧ Below w.heap.size w w' := by
 obtain ⟨i0, hi, hz0, hz1, hz2⟩ := info_parts infoS9
 obtain ⟨j0, ji, jz0, jz1, jz2⟩ := info_parts infoSl
 have HS := Lib.hid hS
 have HIH := Lib.hid ih
 have HLB := Lib.hid (lbS_iff.1 hlb)
 have HM0 := Lib.hid hM0
 obtain ⟨N, hN⟩ : ∃ N, N = l.length := ⟨_, rfl⟩
 rw [← hN] at hl ⊢
 have HL := Lib.hid hN
 clear hS hlb hN ih hM0
 go_enter Tryz.func17, Tryz.ntmps17
 go_wp2
 go_loopw [3, 4] (fun lv iv wr => ∃ (L : List Sx) (M : Nat), M = L.length ∧ M ≤ N ∧ iv = .int .i64 (M : Int) ∧ wr.ownsRow w.heap.size 52 9 lv M (sxs L) ∧ Below w.heap.size w wr ∧ Hid (L.map (·.x) = l.take M) ∧ Hid (∀ K ∈ L, K.is (fun b => w.heap.size ≤ b ∧ b < wr.heap.size ∧ ¬ lv.ownBlock = some b) wr)) (fun _ iv _ => N - (intOf iv).toNat)
 case atStart => exact ⟨[], 0, rfl, Nat.zero_le _, rfl, World.ownsRow_nil _ _ _ _, Below.refl _ _, Lib.hid (by simp), Lib.hid (fun K hK => by simp at hK)⟩
 case round =>
  obtain ⟨L, M, hM, hMN, rfl, hown, hB, hLx, hLi⟩ := hrel
  have HM := Lib.hid hM
  clear hM
  by_cases hlt : M < N
  ·have hlt' : M < l.length := by rw [← HL.out]; exact hlt
   obtain ⟨g1, o1, xx, xa, xb, xl, xc, xd, xe, xf, rfl, -, hw1, hX1, hA1, hB1, hL1, hx, ha, hb, hle, hk, hr1⟩ := sts_row l ma HS.out M hlt'
   have hsz : (l[M]).sz ≤ M0 := Nat.le_trans (szL_mem (List.getElem_mem hlt')) HM0.out
   rw [sz_s] at hsz
   obtain ⟨lx, lxx, la, ⟨lbd, lbb⟩, ⟨lel, lbe⟩⟩ := lb_s (HLB.out _ (List.getElem_mem hlt'))
   have hrg := range_stay hr1 hB
   have hw1 : g1 < wr.heap.size := Nat.lt_of_lt_of_le hw1 hB.size
   have hX := fun w' (hb : Below wr.heap.size wr w') => cpx_any l[M].ex lxx lx G xx xc w' ((hX1.of hB).of hb)
   have hAA := fun w' (hb : Below wr.heap.size wr w') => strs_lie ((hA1.of hB).of hb)
   have hBd := fun w' (hb' : Below wr.heap.size wr w') => HIH.out l[M].bd (by omega) lbb lbd G xb xe w' ((hB1.of hB).of hb')
   have hEl := fun w' (hb : Below wr.heap.size wr w') => HIH.out l[M].el (by omega) lbe lel G xl xf w' ((hL1.of hB).of hb)
   have hst : l[M] = .mk l[M].k l[M].nm l[M].fr l[M].sec l[M].mu l[M].ex l[M].ar l[M].bd l[M].el := by cases l[M]; rfl
   have HST := Lib.hid hst
   clear hX1 hA1 hB1 hL1 hsz hr1 lxx lbb lbe hst
   generalize l[M].k = k at *
   generalize l[M].nm = nm at *
   generalize l[M].fr = fr at *
   generalize l[M].sec = sec at *
   generalize l[M].mu = mu at *
   obtain ⟨nx, hnx⟩ : ∃ nx, nx = l[M].ex.length := ⟨_, rfl⟩
   obtain ⟨na, hna⟩ : ∃ na, na = l[M].ar.length := ⟨_, rfl⟩
   obtain ⟨nb, hnb⟩ : ∃ nb, nb = l[M].bd.length := ⟨_, rfl⟩
   obtain ⟨nl, hnl⟩ : ∃ nl, nl = l[M].el.length := ⟨_, rfl⟩
   simp only [← hnx, ← hna, ← hnb, ← hnl] at hx ha hb hle hrg lx la lbd lel hX hAA hBd hEl
   have HNX := Lib.hid hnx
   have HNA := Lib.hid hna
   have HNB := Lib.hid hnb
   have HNL := Lib.hid hnl
   clear hnx hna hnb hnl
   go_wp2_with first
    | (with_reducible refine ld9o rfl _ rfl g1 (o1 + M * 9) rfl hrg ?_)
    | (with_reducible refine st9 rfl _ _ rfl (wr.heap.size) rfl rfl (rowG_at _ _ _ _ rfl) ?_; (intro wF hF hOF); (have hBF : Below wr.heap.size wr wF := (aB (Below.refl _ _) _).trans (hOF.below (B := wr.heap.size) (fun j hj => by omega) (by simp))); (obtain ⟨z0, z1, z2, z3, z4, z5, z6, z7, z8, zf, zl⟩ := nine hF); (have hXc := hX wF hBF))
    | (go_at_call 18; ((with_reducible refine hXc.mono ?_); (rintro e w2 ⟨⟨mk, ck, rfl, kX⟩, hb2⟩); (have hB2 := tr hBF hb2); (have r2 := rowG_b hF hb2); (clear z0 z1 z2 z3 z4 z5 z6 z7 z8 zf zl hXc); (obtain ⟨z0, z1, z2, z3, z4, z5, z6, z7, z8, zf, zl⟩ := nine r2); (obtain ⟨W2, hW2⟩ : ∃ W2, w2.setCell ⟨wr.heap.size, 5, none⟩ (.slice mk nx ck) = W2 := ⟨_, rfl⟩); (have s2 : rowG #[.int .u8 (k : Int), .string (str nm), .string (str fr), .bool sec, .bool mu, .slice mk nx ck, .slice xa na xd, .slice xb nb xe, .slice xl nl xf] W2 wr.heap.size := by rw [← hW2]; exact r9s5 _ r2); (have hO2 : Only (fun j => j = wr.heap.size) w2 W2 := by rw [← hW2]; exact only_one _ _ _ _); (have hBW2 : Below wr.heap.size wr W2 := hB2.trans (hO2.below (B := wr.heap.size) (fun j hj => by omega) hB2.size)); (obtain ⟨y0, y1, y2, y3, y4, y5, y6, y7, y8, yf, yl⟩ := nine s2); (have zl0 : wr.heap.size < wF.heap.size := hF.2.2); (have kX2 := kX.only hO2 (fun b hb e => by have := hb.1; have e2 : b = wr.heap.size := e; have := zl0; omega))))
    | (at_builtin; refine wpList_append_row _ rfl _ _ 50 rfl (wr.heap.size + 1) 9 j0 _ 1 16 Tryz.underlying50 ji jz0 jz1 jz2 rfl (by decide) (.slice none 0 0) 0 [] rfl (World.ownsRow_nil _ _ _ _) xa na xd (strC l[M].ar) rfl (by rw [strC_len, HNA.out, Nat.mul_one]) (hAA W2 hBW2) (strC_one _) (by unfold maxLen; omega) (by omega) (by omega) ?_; (intro a3 c3 w3 hown3 hgrow3 hat3); (simp only [Nat.zero_add, List.nil_append] at hown3 ⊢); (have hb3 : Below W2.heap.size W2 w3 := (only_grown hgrow3).below (B := W2.heap.size) (fun j hj => by simp [Value.ownBlock] at hj) (Nat.le_refl _)); (have hB3 := tr hBW2 hb3); (have r3 := rowG_b s2 hb3); (clear z0 z1 z2 z3 z4 z5 z6 z7 z8 zf zl y0 y1 y2 y3 y4 y5 y6 y7 y8 yf yl hW2); (obtain ⟨z0, z1, z2, z3, z4, z5, z6, z7, z8, zf, zl⟩ := nine r3); (have kA := strs_own hown3 HNA.out); (obtain ⟨W3, hW3⟩ : ∃ W3, w3.setCell ⟨wr.heap.size, 6, none⟩ (.slice a3 na c3) = W3 := ⟨_, rfl⟩); (have s3 : rowG #[.int .u8 (k : Int), .string (str nm), .string (str fr), .bool sec, .bool mu, .slice mk nx ck, .slice a3 na c3, .slice xb nb xe, .slice xl nl xf] W3 wr.heap.size := by rw [← hW3]; exact r9s6 _ r3); (have hO3 : Only (fun j => j = wr.heap.size) w3 W3 := by rw [← hW3]; exact only_one _ _ _ _); (have hBW3 : Below wr.heap.size wr W3 := hB3.trans (hO3.below (B := wr.heap.size) (fun j hj => by omega) hB3.size)); (obtain ⟨y0, y1, y2, y3, y4, y5, y6, y7, y8, yf, yl⟩ := nine s3); (have kA3 := kA.only hO3 (fun b hb e => by have := hb.1; have e2 : b = wr.heap.size := e; omega)); (have kX3 := (kX2.of hb3).only hO3 (fun b hb e => by have := hb.1; have e2 : b = wr.heap.size := e; omega)); (have hBc := hBd W3 hBW3))
    | (go_at_call 17; ((with_reducible refine hBc.mono ?_); (rintro e w4 ⟨⟨m4, c4, rfl, kB⟩, hb4⟩); (have hB4 := tr hBW3 hb4); (have r4 := rowG_b s3 hb4); (have l3 := s3.2.2); (clear z0 z1 z2 z3 z4 z5 z6 z7 z8 zf zl y0 y1 y2 y3 y4 y5 y6 y7 y8 yf yl hW3 hBc); (obtain ⟨z0, z1, z2, z3, z4, z5, z6, z7, z8, zf, zl⟩ := nine r4); (obtain ⟨W4, hW4⟩ : ∃ W4, w4.setCell ⟨wr.heap.size, 7, none⟩ (.slice m4 nb c4) = W4 := ⟨_, rfl⟩); (have s4 : rowG #[.int .u8 (k : Int), .string (str nm), .string (str fr), .bool sec, .bool mu, .slice mk nx ck, .slice a3 na c3, .slice m4 nb c4, .slice xl nl xf] W4 wr.heap.size := by rw [← hW4]; exact r9s7 _ r4); (have hO4 : Only (fun j => j = wr.heap.size) w4 W4 := by rw [← hW4]; exact only_one _ _ _ _); (have hBW4 : Below wr.heap.size wr W4 := hB4.trans (hO4.below (B := wr.heap.size) (fun j hj => by omega) hB4.size)); (obtain ⟨y0, y1, y2, y3, y4, y5, y6, y7, y8, yf, yl⟩ := nine s4); (have kB4 := kB.only hO4 (fun b hb e => by have := hb.1; have e2 : b = wr.heap.size := e; omega)); (have kX4 := (kX3.of hb4).only hO4 (fun b hb e => by have := hb.1; have e2 : b = wr.heap.size := e; omega)); (have kA4 := (kA3.of hb4).only hO4 (fun b hb e => by have := hb.1; have e2 : b = wr.heap.size := e; omega)); (have hEc := hEl W4 hBW4)))
    | (go_at_call 17; ((with_reducible refine hEc.mono ?_); (rintro e w5 ⟨⟨m5, c5, rfl, kE⟩, hb5⟩); (have hB5 := tr hBW4 hb5); (have r5 := rowG_b s4 hb5); (have l4 := s4.2.2); (clear z0 z1 z2 z3 z4 z5 z6 z7 z8 zf zl y0 y1 y2 y3 y4 y5 y6 y7 y8 yf yl hW4 hEc); (obtain ⟨z0, z1, z2, z3, z4, z5, z6, z7, z8, zf, zl⟩ := nine r5); (obtain ⟨W5, hW5⟩ : ∃ W5, w5.setCell ⟨wr.heap.size, 8, none⟩ (.slice m5 nl c5) = W5 := ⟨_, rfl⟩); (have s5 : rowG #[.int .u8 (k : Int), .string (str nm), .string (str fr), .bool sec, .bool mu, .slice mk nx ck, .slice a3 na c3, .slice m4 nb c4, .slice m5 nl c5] W5 wr.heap.size := by rw [← hW5]; exact r9s8 _ r5); (have hO5 : Only (fun j => j = wr.heap.size) w5 W5 := by rw [← hW5]; exact only_one _ _ _ _); (have hBW5 : Below wr.heap.size wr W5 := hB5.trans (hO5.below (B := wr.heap.size) (fun j hj => by omega) hB5.size)); (clear hAA); (have kE5 := kE.only hO5 (fun b hb e => by have := hb.1; have e2 : b = wr.heap.size := e; omega)); (have kX5 := (kX4.of hb5).only hO5 (fun b hb e => by have := hb.1; have e2 : b = wr.heap.size := e; omega)); (have kA5 := (kA4.of hb5).only hO5 (fun b hb e => by have := hb.1; have e2 : b = wr.heap.size := e; omega)); (have kB5 := (kB4.of hb5).only hO5 (fun b hb e => by have := hb.1; have e2 : b = wr.heap.size := e; omega)); (have ho5 := own_of hown hBW5)))
    | (with_reducible refine ld9 rfl _ rfl (wr.heap.size) rfl s5 ?_)
    | (at_builtin; refine wpList_append_lies _ rfl _ _ 39 rfl w.heap.size 52 i0 _ 9 144 Tryz.underlying39 hi hz0 hz1 hz2 rfl (by decide) _ M (sxs L) rfl (ho5.alloc _) ⟨W5.heap.size, 0, none⟩ 1 1 (sxs [⟨k, nm, fr, sec, mu, mk, nx, ck, a3, na, c3, m4, nb, c4, m5, nl, c5, l[M]⟩]) rfl rfl ?cN ?c0 (by decide) ?c1 ?c2 ?c3 _ rfl ?_)
   case cN => first | exact news_ok (sxs [⟨k, nm, fr, sec, mu, mk, nx, ck, a3, na, c3, m4, nb, c4, m5, nl, c5, l[M]⟩]) 52 W5 | exact fun j u h => h
   case c0 => exact sxs_one _
   case c1 => unfold maxLen; omega
   case c2 => omega
   case c3 => have h1 := hB.size; have h2 := hBW5.size; first | omega | (simp; omega)
   have l5 := s5.2.2
   obtain ⟨wa, hwa⟩ : ∃ wa, W5.alloc (.cells #[.int .u8 (k : Int), .string (str nm), .string (str fr), .bool sec, .bool mu, .slice mk nx ck, .slice a3 na c3, .slice m4 nb c4, .slice m5 nl c5] 52) = wa := ⟨_, rfl⟩
   have hba : Below W5.heap.size W5 wa := by rw [← hwa]; exact aB (Below.refl _ _) _
   intro g cap' w6 hown6 hgrow hat hlt6
   rw [hwa] at hgrow
   have hszw : wa.heap.size = W5.heap.size + 1 := by rw [← hwa]; simp
   have hBr := hB.size
   have hlo := fun (b : Nat) (hj : Value.ownBlock u3 = some b) => (own_lt hown hj).2
   go_wp2
   have z1 := hBF.size
   have z2 := hb2.size
   have z3 := hO2.size
   have z4 := hb3.size
   have z5 := hO3.size
   have z6 := hb4.size
   have z7 := hO4.size
   have z8 := hb5.size
   have z9 := hO5.size
   have z10 := hba.size
   have hKK : (⟨k, nm, fr, sec, mu, mk, nx, ck, a3, na, c3, m4, nb, c4, m5, nl, c5, l[M]⟩ : Sx).is (fun b => w.heap.size ≤ b ∧ b < wa.heap.size ∧ ¬ u3.ownBlock = some b) wa := by
    unfold Sx.is
    simp only
    rw [HST.out, HNX.out, HNA.out, HNB.out, HNL.out]
    have e1 := HNX.out
    have e2 := HNA.out
    have e3 := HNB.out
    have e4 := HNL.out
    exact IsSt.mk hk (e1 ▸ hx) (e2 ▸ ha) (e3 ▸ hb) (e4 ▸ hle) ((kX5.of hba).mono fun b h => ⟨by omega, by omega, fun e => by have := hlo b e; omega⟩) ((kA5.of hba).mono fun b h => ⟨by omega, by omega, fun e => by have := hlo b e; omega⟩) ((kB5.of hba).mono fun b h => ⟨by omega, by omega, fun e => by have := hlo b e; omega⟩) ((kE5.of hba).mono fun b h => ⟨by omega, by omega, fun e => by have := hlo b e; omega⟩)
   have hall : ∀ K ∈ L ++ [⟨k, nm, fr, sec, mu, mk, nx, ck, a3, na, c3, m4, nb, c4, m5, nl, c5, l[M]⟩], K.is (fun b => w.heap.size ≤ b ∧ b < wa.heap.size ∧ ¬ u3.ownBlock = some b) wa := fun K hK => by
    rcases List.mem_append.1 hK with h1 | h1
    ·exact IsSt.mono (IsSt.of (hLi.out K h1) (tr hBW5 hba)) (fun b hb' => ⟨hb'.1, by have := hb'.2.1; have := hBW5.size; omega, hb'.2.2⟩)
    ·obtain rfl := List.mem_singleton.1 h1
     exact hKK
   have hall6 := sx_append hgrow hat hszw _ hall (M + 1) cap'
   have hB6 : Below w.heap.size w w6 := (tr (tr hB hBW5) hba).grown hgrow (Nat.le_trans (Nat.le_trans hB.size hBW5.size) hba.size) (fun j hj => (own_lt hown hj).1)
   go_roundw
   case rel => first | exact ⟨L ++ [⟨k, nm, fr, sec, mu, mk, nx, ck, a3, na, c3, m4, nb, c4, m5, nl, c5, l[M]⟩], M + 1, by simp [HM.out], by omega, by go_num, by rw [sxs_app]; exact hown6, hB6, Lib.hid (by rw [List.map_append, hLx.out, List.take_succ_eq_append_getElem hlt']; rfl), Lib.hid hall6⟩ | ((repeat apply Exists.intro); exact ⟨⟨L ++ [⟨k, nm, fr, sec, mu, mk, nx, ck, a3, na, c3, m4, nb, c4, m5, nl, c5, l[M]⟩], M + 1, by simp [HM.out], by omega, by go_num, by rw [sxs_app]; exact hown6, hB6, Lib.hid (by rw [List.map_append, hLx.out, List.take_succ_eq_append_getElem hlt']; rfl), Lib.hid hall6⟩, rfl⟩)
   case measure => simp [intOf]; omega
  ·obtain rfl : M = N := by omega
   obtain ⟨mk, ck, rfl, hkk⟩ := row_sts hown HM.out hLi.out
   rw [hLx.out, List.take_of_length_le (by rw [HL.out]; exact Nat.le_refl _)] at hkk
   go_wp2
   go_ret
   exact ⟨⟨mk, ck, rfl, hkk⟩, hB⟩
theorem cps_all : ∀ (M : Nat), CpIH M := by
 intro M
 induction M with
 | zero => intro l hl; omega
 | succ M ih => intro l hl h1 h2 G ma cap w h3; exact cps_step M ih l (by omega) h1 h2 G ma cap w h3
theorem cps_any (l : List St) (hlb : lbS l) (hl : l.length ≤ 977343669105) (G : Nat → Prop) (ma : Option Addr) (cap : Nat) (w : World) (hS : StsAt G w l ma) :
 Calls Tryz.prog 17 #[.slice ma l.length cap] w fun r w' => (∃ (mk : Option Addr) (ck : Nat), r = .returned (.slice mk l.length ck) ∧ StsAt (fun b => w.heap.size ≤ b ∧ b < w'.heap.size) w' l mk) ∧ Below w.heap.size w w' := cps_all (szL l + 1) l (by omega) hlb hl G ma cap w hS
end
section
open Go.ChangeShapes Go.WideShapes Go.ChangeAt Go.RowKit
theorem fds_row {G : Nat → Prop} {w : World} {l : List Fd} {ma : Option Addr} (h : FdsAt G w l ma) (i : Nat) (hi : i < l.length) : ∃ (b o : Nat) (mp mb mr : Option Addr) (cp cb cr : Nat), ma = some ⟨b, o, none⟩ ∧ G b ∧ b < w.heap.size ∧ PmsAt G w l[i].ps mp ∧ StsAt G w l[i].bd mb ∧ KidsAt G w l[i].rt mr ∧ l[i].ps.length ≤ 140737488355328 ∧ l[i].bd.length ≤ 140737488355328 ∧ l[i].rt.length ≤ 140737488355328 ∧ w.rangeAt b (o + i * 5) [.string (str l[i].nm), .slice mp l[i].ps.length cp, .slice mb l[i].bd.length cb, .bool l[i].sec, .slice mr l[i].rt.length cr] := by
 obtain ⟨b, o, K, rfl, hG, hx, hK, hc⟩ := h i hi
 obtain ⟨ps, bd, rt, hx2, enp, enb, enr, h1, h2, h3, hP, hB, hR⟩ := fx_all hK
 rw [← hx, hx2]
 have hc' := hc
 unfold Fx.cells at hc'
 rw [enp, enb, enr] at hc'
 exact ⟨b, o, K.mp, K.mb, K.mr, K.cp, K.cb, K.cr, rfl, hG, World.block_lt_of_cell? w _ (hc 0 _ rfl), hP, hB, hR, enp ▸ h1, enb ▸ h2, enr ▸ h3, fun j v hv => hc' j v hv⟩
theorem fiveR {c0 c1 c2 c3 c4 : Value} {w : World} {g o : Nat} (h : w.rangeAt g o [c0, c1, c2, c3, c4]) : w.cell? ⟨g, o, none⟩ = some c0 ∧ w.cell? ⟨g, o + 1, none⟩ = some c1 ∧ w.cell? ⟨g, o + 2, none⟩ = some c2 ∧ w.cell? ⟨g, o + 3, none⟩ = some c3 ∧ w.cell? ⟨g, o + 4, none⟩ = some c4 :=
 ⟨h 0 _ rfl, h 1 _ rfl, h 2 _ rfl, h 3 _ rfl, h 4 _ rfl⟩
section
variable {op : Oper} {a : Act} {w : World} {K : Act → World → Prop} {Q : Exit → Act → World → Prop}
theorem stK5 (x y : Operand) (ho : op.op = .store 43 x y) (g : Nat) (hx : a.eval x = .pointer (some ⟨g, 0, none⟩)) {s1 : ByteArray} {b1 : Bool} {m1 m2 m3 : Option Addr} {n1 n2 n3 p1 p2 p3 : Nat} (hy : a.eval y = .agg #[.string s1, .slice m1 n1 p1, .slice m2 n2 p2, .bool b1, .slice m3 n3 p3]) {d0 d1 d2 d3 d4 : Value} (hr : rowG #[d0, d1, d2, d3, d4] w g)
 (h : ∀ w', rowG #[.string s1, .slice m1 n1 p1, .slice m2 n2 p2, .bool b1, .slice m3 n3 p3] w' g → Only (fun j => j = g) w w' → K (a.put op.dst undef) w') : op.wp Tryz.prog a w K Q :=
 wp_store_mid 43 x y ho g 0 #[.string s1, .slice m1 n1 p1, .slice m2 n2 p2, .bool b1, .slice m3 n3 p3] hx hy (row_there (C := #[d0, d1, d2, d3, d4]) rfl hr) info5f (by simp [Value.oneCell']) (h _ (rowG_sets (C := #[d0, d1, d2, d3, d4]) [.string s1, .slice m1 n1 p1, .slice m2 n2 p2, .bool b1, .slice m3 n3 p3] rfl hr) (only_sets _ _ _))
end
theorem sm_any (l : List Fd) (G1 G2 : Nat → Prop) (m1 m2 : Option Addr) (c1 c2 : Nat) (w : World) (h1 : FdsAt G1 w l m1) (h2 : FdsAt G2 w l m2) (hl : l.length ≤ 140737488355328) :
 Calls Tryz.prog 11 #[.agg #[.slice m1 l.length c1], .agg #[.slice m2 l.length c2]] w fun r w' => r = .returned (.bool true) ∧ Below w.heap.size w w' := by
 have H1 := Lib.hid h1
 have H2 := Lib.hid h2
 obtain ⟨N, hN⟩ : ∃ N, N = l.length := ⟨_, rfl⟩
 rw [← hN] at hl ⊢
 have HL := Lib.hid hN
 clear h1 h2 hN
 go_enter Tryz.func11, Tryz.ntmps11
 go_wp2
 obtain ⟨W, hW⟩ : ∃ W, (w.alloc (.cells #[.slice m1 N c1] 24)).alloc (.cells #[.slice m2 N c2] 24) = W := ⟨_, rfl⟩
 have hBw : Below w.heap.size w W := by rw [← hW]; exact aB (aB (Below.refl _ _) _) _
 have ra : rowG #[.slice m1 N c1] W w.heap.size := by rw [← hW]; exact rowG_alloc (rowG_at _ _ _ _ rfl) _
 have rb : rowG #[.slice m2 N c2] W (w.heap.size + 1) := by rw [← hW]; exact rowG_at _ _ _ _ (by simp)
 rw [hW]
 clear hW
 go_loopw [5] (fun i wr => ∃ j : Nat, j ≤ N ∧ i = .int .i64 (j : Int) ∧ Below W.heap.size W wr) (fun i _ => N - (intOf i).toNat)
 case atStart => exact ⟨0, Nat.zero_le _, rfl, Below.refl _ _⟩
 case round =>
  obtain ⟨j, hj, rfl, hB0⟩ := hrel
  have hB : Below w.heap.size w wr := tr hBw hB0
  have hra := rowG_b ra hB0
  have hrb := rowG_b rb hB0
  have a0 := hra.1 0 (by simp)
  have al := hra.2.2
  have b0 := hrb.1 0 (by simp)
  have bl := hrb.2.2
  by_cases hlt : j < N
  ·have hlt' : j < l.length := by rw [← HL.out]; exact hlt
   obtain ⟨g1, o1, xp, xb, xr, xc, xd, xe, rfl, -, hw1, hP1, hB1, hR1, hp, hb, hr, hr1⟩ := fds_row H1.out j hlt'
   obtain ⟨g2, o2, yp, yb, yr, yc, yd, ye, rfl, -, hw2, hP2, hB2, hR2, -, -, -, hr2⟩ := fds_row H2.out j hlt'
   have hr1 := range_stay hr1 hB
   have hr2 := range_stay hr2 hB
   have hw1 : g1 < wr.heap.size := Nat.lt_of_lt_of_le hw1 hB.size
   have hw2 : g2 < wr.heap.size := Nat.lt_of_lt_of_le hw2 hB.size
   have hX := fun w' (hb : Below wr.heap.size wr w') => sme_any l[j].rt G1 G2 xr yr xe ye w' ((hR1.of hB).of hb) ((hR2.of hB).of hb) hr
   have hBd := fun w' (hb' : Below wr.heap.size wr w') => sts_same l[j].bd w' G1 G2 xb yb xd yd ((hB1.of hB).of hb') ((hB2.of hB).of hb') hb
   have HP1 := Lib.hid (hP1.of hB)
   have HP2 := Lib.hid (hP2.of hB)
   clear hP1 hP2 hB1 hB2 hR1 hR2
   generalize l[j].nm = nm at *
   generalize l[j].sec = sec at *
   generalize l[j].ps = ps at *
   generalize l[j].bd.length = nb at *
   generalize l[j].rt.length = nr at *
   obtain ⟨np, hnp⟩ : ∃ np, np = ps.length := ⟨_, rfl⟩
   rw [← hnp] at hr1 hr2 hp
   have HNP := Lib.hid hnp
   clear hnp
   have hLd1 := fun w' (hb : Below wr.heap.size wr w') => fiveR (range_stay hr1 hb)
   have hLd2 := fun w' (hb : Below wr.heap.size wr w') => fiveR (range_stay hr2 hb)
   have hAd := fun w' (hb : Below wr.heap.size wr w') => show w'.cell? ⟨w.heap.size, 0, none⟩ = some (.slice (some ⟨g1, o1, none⟩) N c1) ∧ w'.cell? ⟨w.heap.size + 1, 0, none⟩ = some (.slice (some ⟨g2, o2, none⟩) N c2) ∧ w.heap.size < w'.heap.size ∧ w.heap.size + 1 < w'.heap.size from ⟨stay hb a0, stay hb b0, Nat.lt_of_lt_of_le al hb.size, Nat.lt_of_lt_of_le bl hb.size⟩
   clear hr1 hr2
   go_wp2
   have hF0 : Below wr.heap.size wr wr.drew := bdd (Below.refl _ _)
   refine region_K (fun w' => Below wr.heap.size wr w') (by kernel_rfl) ?_
   have q : Pq [0, 1, 2, 3] := trivial
   iterate 4
    refine tkK q rfl (by kernel_rfl) (fun _ _ _ _ h => h) hF0 fun K hK => ?_
    replace q := q.tl
    apply Exists.intro
    refine ⟨Or.inl ⟨by kernel_rfl, fun w' hf => ?_⟩, ?_⟩
    ·obtain ⟨z0, z1, zl, zm⟩ := hAd w' hf
     go_simp
     try exact rfl
    go_simp
    refine hK _ ?_
    clear hK K
   refine wpAnyK_take (i := 4) rfl (by kernel_rfl) (by kernel_rfl) (by kernel_rfl) (fun _ _ _ _ h => h) hF0 (fun K hK => ?_)
   apply Exists.intro
   refine ⟨Or.inl ⟨by kernel_rfl, fun w' hf => ?_⟩, ?_⟩
   ·obtain ⟨z0, z1, z2, z3, z4⟩ := hLd1 w' hf
    have ql1 : g1 < w'.heap.size := Nat.lt_of_lt_of_le hw1 hf.size
    have ql2 : g2 < w'.heap.size := Nat.lt_of_lt_of_le hw2 hf.size
    go_simp
    try exact rfl
   go_simp
   refine hK _ ?_
   clear hK K
   have q : Pq [5, 6, 7, 8] := trivial
   iterate 4
    refine tkK q rfl (by kernel_rfl) (fun _ _ _ _ h => h) hF0 fun K hK => ?_
    replace q := q.tl
    apply Exists.intro
    refine ⟨Or.inl ⟨by kernel_rfl, fun w' hf => ?_⟩, ?_⟩
    ·obtain ⟨z0, z1, zl, zm⟩ := hAd w' hf
     go_simp
     try exact rfl
    go_simp
    refine hK _ ?_
    clear hK K
   refine wpAnyK_take (i := 9) rfl (by kernel_rfl) (by kernel_rfl) (by kernel_rfl) (fun _ _ _ _ h => h) hF0 (fun K hK => ?_)
   apply Exists.intro
   refine ⟨Or.inl ⟨by kernel_rfl, fun w' hf => ?_⟩, ?_⟩
   ·obtain ⟨z0, z1, z2, z3, z4⟩ := hLd2 w' hf
    have ql1 : g1 < w'.heap.size := Nat.lt_of_lt_of_le hw1 hf.size
    have ql2 : g2 < w'.heap.size := Nat.lt_of_lt_of_le hw2 hf.size
    go_simp
    try exact rfl
   go_simp
   refine hK _ ?_
   clear hK K
   refine wpAnyK_two (k1 := 10) (k2 := 11) (by kernel_rfl) ?_ ?_
   ·refine wpOp_step rfl (fun K hK => ?_)
    go_simp
    refine hK _ _ ⟨(aB hF0 _), ?_⟩
    clear hK K
    refine wpAnyK_one (k := 11) (by kernel_rfl) ?_
    refine wpOp_step rfl (fun K hK => ?_)
    go_simp
    refine hK _ _ ⟨(aB (aB hF0 _) _), ?_⟩
    clear hK K
    refine wpAnyK_one (k := 12) (by kernel_rfl) ?_
    refine wpOp_step rfl (fun K hK => ?_)
    refine stK5 _ _ rfl (wr.heap.size) rfl rfl (show rowG #[.string ⟨#[]⟩, .slice none 0 0, .slice none 0 0, .bool false, .slice none 0 0] _ _ by exact rowG_alloc (rowG_at _ _ _ _ rfl) _) (fun wF rF oF => ?_)
    have hFF : Below wr.heap.size wr wF := (aB (aB hF0 _) _).trans (oF.below (B := wr.heap.size) (fun j hj => by omega) (by simp <;> omega))
    have rB : rowG #[.string ⟨#[]⟩, .slice none 0 0, .slice none 0 0, .bool false, .slice none 0 0] wF (wr.heap.size + 1) := rowG_only (by exact rowG_at _ _ _ _ (by simp)) oF (by omega)
    refine hK _ _ ⟨hFF, ?_⟩
    clear hK K
    refine wpAnyK_one (k := 13) (by kernel_rfl) ?_
    refine wpOp_step rfl (fun K hK => ?_)
    refine stK5 _ _ rfl (wr.heap.size + 1) rfl rfl rB (fun wH r2 oH => ?_)
    have hFB : Below wr.heap.size wr wH := hFF.trans (oH.below (B := wr.heap.size) (fun j hj => by omega) hFF.size)
    have r1 := rowG_only rF oH (by omega)
    refine hK _ _ ⟨hFB, ?_⟩
    clear hK K oF oH rF rB hLd1 hLd2 hAd a0 b0 al bl hra hrb
    refine wpAnyK_done (by kernel_rfl) ?_
    obtain ⟨p0, p1, p2, p3, p4, pf, pl⟩ := fiveF r1
    obtain ⟨q0, q1, q2, q3, q4, qf, ql⟩ := fiveF r2
    go_wp2_with first
     | (go_at_call 25; ((with_reducible refine (hX _ hFB).mono ?_); (rintro e v1 ⟨rfl, hb1⟩); (have hG1 := tr hFB hb1); (have s1 := rowG_b r1 hb1); (have s2 := rowG_b r2 hb1); (clear p0 p1 p2 p3 p4 pf pl q0 q1 q2 q3 q4 qf ql); (obtain ⟨p0, p1, p2, p3, p4, pf, pl⟩ := fiveF s1); (obtain ⟨q0, q1, q2, q3, q4, qf, ql⟩ := fiveF s2)))
     | (go_at_call 26; ((with_reducible refine (hBd _ hG1).mono ?_); (rintro e v3 ⟨rfl, hb3⟩); (have hG3 := tr hG1 hb3); (have u1 := rowG_b s1 hb3); (have u2 := rowG_b s2 hb3); (clear p0 p1 p2 p3 p4 pf pl q0 q1 q2 q3 q4 qf ql); (obtain ⟨p0, p1, p2, p3, p4, pf, pl⟩ := fiveF u1); (obtain ⟨q0, q1, q2, q3, q4, qf, ql⟩ := fiveF u2)))
    clear p0 p1 p2 p3 p4 pf pl q0 q1 q2 q3 q4 qf ql
    go_loopw [8] (fun i wq => ∃ k : Nat, k ≤ np ∧ i = .int .i64 (k : Int) ∧ Below v3.heap.size v3 wq) (fun i _ => np - (intOf i).toNat)
    case atStart => exact ⟨0, Nat.zero_le _, rfl, Below.refl _ _⟩
    case round =>
     obtain ⟨k, hk, rfl, hBk⟩ := hrel
     have hGk := tr hG3 hBk
     have x1 := rowG_b u1 hBk
     have x2 := rowG_b u2 hBk
     obtain ⟨p0, p1, p2, p3, p4, pf, pl⟩ := fiveF x1
     obtain ⟨q0, q1, q2, q3, q4, qf, ql⟩ := fiveF x2
     clear p0 p2 p3 p4 q0 q2 q3 q4
     by_cases hlk : k < np
     ·have hlk' : k < ps.length := by rw [← HNP.out]; exact hlk
      obtain ⟨h1b, h1o, rfl, -, d0, d1, d2, d3⟩ := HP1.out k hlk'
      obtain ⟨h2b, h2o, rfl, -, f0, f1, f2, f3⟩ := HP2.out k hlk'
      have hl1 := Nat.lt_of_lt_of_le (World.block_lt_of_cell? _ _ d0) hGk.size
      have hl2 := Nat.lt_of_lt_of_le (World.block_lt_of_cell? _ _ f0) hGk.size
      have d0 := stay hGk d0
      have d1 := stay hGk d1
      have d2 := stay hGk d2
      have d3 := stay hGk d3
      have f0 := stay hGk f0
      have f1 := stay hGk f1
      have f2 := stay hGk f2
      have f3 := stay hGk f3
      generalize ps[k].nm = pn at *
      generalize ps[k].buf = pb at *
      generalize ps[k].sec = psc at *
      generalize ps[k].mu = pm at *
      go_wp2
      go_quiet (fail)
      go_wp2
      go_roundw
      case rel => exact ⟨k + 1, by omega, by go_num, bdN hBk _⟩
      case measure => first | (simp [intOf]; done) | (simp [intOf]; omega)
     ·obtain rfl : k = np := by omega
      go_wp2
      go_roundw
      case rel => first | exact ⟨j + 1, by omega, by go_num, tr hB0 hGk⟩ | ((repeat apply Exists.intro); exact ⟨⟨j + 1, by omega, by go_num, tr hB0 hGk⟩, rfl⟩)
      case measure => first | (simp [intOf]; done) | (simp [intOf]; omega)
   ·refine wpOp_step rfl (fun K hK => ?_)
    go_simp
    refine hK _ _ ⟨(aB hF0 _), ?_⟩
    clear hK K
    refine wpAnyK_one (k := 10) (by kernel_rfl) ?_
    refine wpOp_step rfl (fun K hK => ?_)
    go_simp
    refine hK _ _ ⟨(aB (aB hF0 _) _), ?_⟩
    clear hK K
    refine wpAnyK_one (k := 12) (by kernel_rfl) ?_
    refine wpOp_step rfl (fun K hK => ?_)
    refine stK5 _ _ rfl (wr.heap.size + 1) rfl rfl (show rowG #[.string ⟨#[]⟩, .slice none 0 0, .slice none 0 0, .bool false, .slice none 0 0] _ _ by exact rowG_at _ _ _ _ (by simp)) (fun wF rF oF => ?_)
    have hFF : Below wr.heap.size wr wF := (aB (aB hF0 _) _).trans (oF.below (B := wr.heap.size) (fun j hj => by omega) (by simp <;> omega))
    have rB : rowG #[.string ⟨#[]⟩, .slice none 0 0, .slice none 0 0, .bool false, .slice none 0 0] wF (wr.heap.size) := rowG_only (by exact rowG_alloc (rowG_at _ _ _ _ rfl) _) oF (by omega)
    refine hK _ _ ⟨hFF, ?_⟩
    clear hK K
    refine wpAnyK_one (k := 13) (by kernel_rfl) ?_
    refine wpOp_step rfl (fun K hK => ?_)
    refine stK5 _ _ rfl (wr.heap.size) rfl rfl rB (fun wH r2 oH => ?_)
    have hFB : Below wr.heap.size wr wH := hFF.trans (oH.below (B := wr.heap.size) (fun j hj => by omega) hFF.size)
    have r1 := rowG_only rF oH (by omega)
    refine hK _ _ ⟨hFB, ?_⟩
    clear hK K oF oH rF rB hLd1 hLd2 hAd a0 b0 al bl hra hrb
    refine wpAnyK_done (by kernel_rfl) ?_
    obtain ⟨p0, p1, p2, p3, p4, pf, pl⟩ := fiveF r1
    obtain ⟨q0, q1, q2, q3, q4, qf, ql⟩ := fiveF r2
    go_wp2_with first
     | (go_at_call 25; ((with_reducible refine (hX _ hFB).mono ?_); (rintro e v1 ⟨rfl, hb1⟩); (have hG1 := tr hFB hb1); (have s1 := rowG_b r1 hb1); (have s2 := rowG_b r2 hb1); (clear p0 p1 p2 p3 p4 pf pl q0 q1 q2 q3 q4 qf ql); (obtain ⟨p0, p1, p2, p3, p4, pf, pl⟩ := fiveF s1); (obtain ⟨q0, q1, q2, q3, q4, qf, ql⟩ := fiveF s2)))
     | (go_at_call 26; ((with_reducible refine (hBd _ hG1).mono ?_); (rintro e v3 ⟨rfl, hb3⟩); (have hG3 := tr hG1 hb3); (have u1 := rowG_b s1 hb3); (have u2 := rowG_b s2 hb3); (clear p0 p1 p2 p3 p4 pf pl q0 q1 q2 q3 q4 qf ql); (obtain ⟨p0, p1, p2, p3, p4, pf, pl⟩ := fiveF u1); (obtain ⟨q0, q1, q2, q3, q4, qf, ql⟩ := fiveF u2)))
    clear p0 p1 p2 p3 p4 pf pl q0 q1 q2 q3 q4 qf ql
    go_loopw [8] (fun i wq => ∃ k : Nat, k ≤ np ∧ i = .int .i64 (k : Int) ∧ Below v3.heap.size v3 wq) (fun i _ => np - (intOf i).toNat)
    case atStart => exact ⟨0, Nat.zero_le _, rfl, Below.refl _ _⟩
    case round =>
     obtain ⟨k, hk, rfl, hBk⟩ := hrel
     have hGk := tr hG3 hBk
     have x1 := rowG_b u1 hBk
     have x2 := rowG_b u2 hBk
     obtain ⟨p0, p1, p2, p3, p4, pf, pl⟩ := fiveF x1
     obtain ⟨q0, q1, q2, q3, q4, qf, ql⟩ := fiveF x2
     clear p0 p2 p3 p4 q0 q2 q3 q4
     by_cases hlk : k < np
     ·have hlk' : k < ps.length := by rw [← HNP.out]; exact hlk
      obtain ⟨h1b, h1o, rfl, -, d0, d1, d2, d3⟩ := HP1.out k hlk'
      obtain ⟨h2b, h2o, rfl, -, f0, f1, f2, f3⟩ := HP2.out k hlk'
      have hl1 := Nat.lt_of_lt_of_le (World.block_lt_of_cell? _ _ d0) hGk.size
      have hl2 := Nat.lt_of_lt_of_le (World.block_lt_of_cell? _ _ f0) hGk.size
      have d0 := stay hGk d0
      have d1 := stay hGk d1
      have d2 := stay hGk d2
      have d3 := stay hGk d3
      have f0 := stay hGk f0
      have f1 := stay hGk f1
      have f2 := stay hGk f2
      have f3 := stay hGk f3
      generalize ps[k].nm = pn at *
      generalize ps[k].buf = pb at *
      generalize ps[k].sec = psc at *
      generalize ps[k].mu = pm at *
      go_wp2
      go_quiet (fail)
      go_wp2
      go_roundw
      case rel => exact ⟨k + 1, by omega, by go_num, bdN hBk _⟩
      case measure => first | (simp [intOf]; done) | (simp [intOf]; omega)
     ·obtain rfl : k = np := by omega
      go_wp2
      go_roundw
      case rel => first | exact ⟨j + 1, by omega, by go_num, tr hB0 hGk⟩ | ((repeat apply Exists.intro); exact ⟨⟨j + 1, by omega, by go_num, tr hB0 hGk⟩, rfl⟩)
      case measure => first | (simp [intOf]; done) | (simp [intOf]; omega)
  ·obtain rfl : j = N := by omega
   go_wp2
   go_ret
   exact ⟨rfl, hB⟩
end
section
open Go Go.ChangeShapes Go.WideShapes Go.ChangeAt Go.RowKit
theorem wp_append_row {P : Program} (w : World) {o : Oper} {a : Act} {K : Act → World → Prop} {Q : Exit → Act → World → Prop} (s x : Operand) (t : TypeId)
 (ho : o.op = .call { callee := .builtin .append, args := #[s, x], argTypes := #[t, t] })
 (base : Nat) (e : TypeId) (i : TypeInfo) (z : Value) (size bytes : Nat) (ht : P.underlying t = some (.slice e)) (hi : P.info? e = some i) (hz : i.zero = some z)
 (hsize : i.size = size) (hby : i.bytes = bytes) (hzs : z.cells.size = size) (hsz : 0 < size)
 (v : Value) (n : Nat) (xs : List Value) (hs : a.eval s = v) (hown : w.ownsRow base e size v n xs)
 (mx : Option Addr) (m c : Nat) (news : List Value) (hx : a.eval x = .slice mx m c) (hl : news.length = m * size) (hnews : 0 < m → ∃ ad, mx = some ad ∧ ∀ j u, news[j]? = some u → w.cell? (ad.add j) = some u) (h1 : ∀ u ∈ news, u.oneCell' = true)
 (h63 : n + m ≤ maxLen) (hbytes : (n + m) * bytes ≤ 140737488355328) (hbase : base ≤ w.heap.size)
 (h : ∀ (a' : Option Addr) (c' : Nat) w', w'.ownsRow base e size (.slice a' (n + m) c') (n + m) (xs ++ news) → w.grownBy w' v.ownBlock → (∀ j, (Value.slice a' (n + m) c').ownBlock = some j → v.ownBlock = some j ∨ j = w.heap.size) → K (a.put o.dst (.slice a' (n + m) c')) w') : Oper.wp P o a w K Q := by
 by_cases hm : m = 0
 ·subst hm
  obtain rfl : news = [] := List.length_eq_zero_iff.1 (by omega)
  obtain ⟨b, cc, rfl⟩ := row_form hown
  have hrun := run_append_zero (P := P) (w := w) base t o.type e i size ht hi _ n xs hown mx c
  have hk := h b cc w (by rw [List.append_nil]; exact hown) grown_none (fun j hj => .inl hj)
  unfold Oper.wp
  simp [execOp, ho, resolve, invoke, builtin, hs, hx, hrun, Result.andThen]
  exact hk
 ·obtain ⟨ad, rfl, hc⟩ := hnews (by omega)
  refine wp_append_lies w s x t ho base e i z size bytes ht hi hz hsize hby hzs hsz v n xs hs hown ad m c news hx hl hc h1 (by omega) h63 hbytes hbase _ rfl ?_
  intro g cap w' h2 h3 h4 h5
  exact h _ _ w' h2 h3 (fun j hj => by
   simp only [Value.ownBlock, Option.some.injEq] at hj
   subst hj
   exact h4)
theorem wpList_append_rowW {P : Program} (w : World) {ops : Array Oper} {rest : List Oper} {o : Oper} {a : Act} {Q : Exit → Act → World → Prop} (hgd : o.guard = none) (s x : Operand) (t : TypeId)
 (ho : o.op = .call { callee := .builtin .append, args := #[s, x], argTypes := #[t, t] })
 (base : Nat) (e : TypeId) (i : TypeInfo) (z : Value) (size bytes : Nat) (ht : P.underlying t = some (.slice e)) (hi : P.info? e = some i) (hz : i.zero = some z)
 (hsize : i.size = size) (hby : i.bytes = bytes) (hzs : z.cells.size = size) (hsz : 0 < size)
 (v : Value) (n : Nat) (xs : List Value) (hs : a.eval s = v) (hown : w.ownsRow base e size v n xs)
 (mx : Option Addr) (m c : Nat) (news : List Value) (hx : a.eval x = .slice mx m c) (hl : news.length = m * size) (hnews : 0 < m → ∃ ad, mx = some ad ∧ ∀ j u, news[j]? = some u → w.cell? (ad.add j) = some u) (h1 : ∀ u ∈ news, u.oneCell' = true)
 (h63 : n + m ≤ maxLen) (hbytes : ((n + m) + (n + m) / 4 + 192) * bytes ≤ 281474976710656) (hbase : base ≤ w.heap.size)
 (h : ∀ (a' : Option Addr) (c' : Nat) w', w'.ownsRow base e size (.slice a' (n + m) c') (n + m) (xs ++ news) → w.grownBy w' v.ownBlock → wpList P ops Q rest (a.put o.dst (.slice a' (n + m) c')) w') : wpList P ops Q (o :: rest) a w := by
 by_cases hm : m = 0
 ·subst hm
  obtain rfl : news = [] := List.length_eq_zero_iff.1 (by omega)
  obtain ⟨b, cc, rfl⟩ := row_form hown
  refine wpList_append_zero hgd s x t ho base e i size ht hi _ n xs hs hown mx c hx ?_
  exact h b cc w (by rw [List.append_nil]; exact hown) grown_none
 ·obtain ⟨ad, rfl, hc⟩ := hnews (by omega)
  refine wpList_append_own_wide w hgd s x t ho base e i z size bytes ht hi hz hsize hby hzs hsz v n xs hs hown ad m c news hx hl hc h1 h63 hbytes hbase ?_
  intro v' w' h2 h3 _
  obtain ⟨a', c', rfl⟩ := row_form h2
  exact h a' c' w' h2 h3
theorem sts_lie {G : Nat → Prop} {w : World} : ∀ (l : List St) (ma : Option Addr), StsAt G w l ma → ∃ Ls : List Sx, Ls.map (·.x) = l ∧ (∀ K ∈ Ls, K.is G w) ∧ (0 < l.length → ∃ b o, ma = some ⟨b, o, none⟩ ∧ G b ∧ ∀ j u, (sxs Ls)[j]? = some u → w.cell? ⟨b, o + j, none⟩ = some u) := by
 intro l
 induction l with
 | nil => intro ma h; exact ⟨[], rfl, fun K hK => by simp at hK, fun h => by simp at h⟩
 | cons x l ih =>
  intro ma h
  cases h with
  | @cons k nm fr sec mu ex ar bd el r b off mx ma mb ml cx ca cb cl hg c0 c1 c2 c3 c4 c5 c6 c7 c8 hk hx ha hb hl hX hA hB hL hr =>
   obtain ⟨Ls, h1, h2, h3⟩ := ih _ hr
   refine ⟨⟨k, nm, fr, sec, mu, mx, ex.length, cx, ma, ar.length, ca, mb, bd.length, cb, ml, el.length, cl, .mk k nm fr sec mu ex ar bd el⟩ :: Ls, by simp [h1], ?_, fun _ => ⟨b, off, rfl, hg, ?_⟩⟩
   ·intro K hK
    rcases List.mem_cons.1 hK with rfl | hK
    ·exact .mk hk hx ha hb hl hX hA hB hL
    ·exact h2 K hK
   ·intro j u hu
    have e : sxs (⟨k, nm, fr, sec, mu, mx, ex.length, cx, ma, ar.length, ca, mb, bd.length, cb, ml, el.length, cl, .mk k nm fr sec mu ex ar bd el⟩ :: Ls) = [.int .u8 (k : Int), .string (str nm), .string (str fr), .bool sec, .bool mu, .slice mx ex.length cx, .slice ma ar.length ca, .slice mb bd.length cb, .slice ml el.length cl] ++ sxs Ls := rfl
    rw [e] at hu
    by_cases hj : j < 9
    ·obtain rfl | rfl | rfl | rfl | rfl | rfl | rfl | rfl | rfl : j = 0 ∨ j = 1 ∨ j = 2 ∨ j = 3 ∨ j = 4 ∨ j = 5 ∨ j = 6 ∨ j = 7 ∨ j = 8 := by omega
     ·cases hu; exact c0
     ·cases hu; exact c1
     ·cases hu; exact c2
     ·cases hu; exact c3
     ·cases hu; exact c4
     ·cases hu; exact c5
     ·cases hu; exact c6
     ·cases hu; exact c7
     ·cases hu; exact c8
    ·obtain ⟨i, rfl⟩ : ∃ i, j = i + 9 := ⟨j - 9, by omega⟩
     have hu' : (sxs Ls)[i]? = some u := by simpa using hu
     have hpos : 0 < l.length := by
      have := (List.getElem?_eq_some_iff.1 hu').1
      rw [sxs_len] at this
      have h4 : Ls.length = l.length := by rw [← h1]; simp
      omega
     obtain ⟨b', o', e', -, hc⟩ := h3 hpos
     cases e'
     rw [show off + (i + 9) = off + 9 + i by omega]
     exact hc i u hu'
theorem szL_app : ∀ (a b : List St), szL (a ++ b) = szL a + szL b := by
 intro a
 induction a with
 | nil => intro b; rw [List.nil_append, szL, Nat.zero_add]
 | cons x a ih => intro b; rw [List.cons_append, szL, szL, ih]; omega
def totS : List Fd → Nat
 | [] => 0
 | f :: r => szL f.bd + totS r
theorem totS_app : ∀ (a b : List Fd), totS (a ++ b) = totS a + totS b := by
 intro a
 induction a with
 | nil => intro b; rw [List.nil_append, totS, Nat.zero_add]
 | cons x a ih => intro b; rw [List.cons_append, totS, totS, ih]; omega
def LgP (w : World) (l : List Fd) (r : Ending) (w' : World) : Prop := (∃ b, r = .returned (.bool b) ∧ (b = false → l.length ≤ 30 ∧ totS l ≤ 900)) ∧ Below w.heap.size w w'
theorem bfs_step {T0 j : Nat} {L Lb Le : List Sx} {bd el : List St} (hj : j < L.length) (hb : Lb.map (·.x) = bd) (he : Le.map (·.x) = el) (hbd : bd = (L[j]).x.bd) (hel : el = (L[j]).x.el) (h : j + szL ((L.drop j).map (·.x)) = T0) : (j + 1) + szL ((((L ++ Lb) ++ Le).drop (j + 1)).map (·.x)) = T0 := by
 rw [List.append_assoc, List.drop_append_of_le_length (by omega), List.map_append, List.map_append, szL_app, szL_app, hb, he]
 rw [List.drop_eq_getElem_cons hj, List.map_cons, szL, sz_s, ← hbd, ← hel] at h
 omega
end
end Go.Proofs.YtfbjljcmmbdhkaaGreatDoor
