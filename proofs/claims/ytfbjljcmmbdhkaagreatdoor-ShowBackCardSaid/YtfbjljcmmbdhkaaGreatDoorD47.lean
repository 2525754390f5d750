/- Contract of SameStmts: two rows of the same statements are the same. -/
import Derived.Test.YtfbjljcmmbdhkaaGreatDoorD28
import Derived.Test.YtfbjljcmmbdhkaaGreatDoorD45
namespace Go.Proofs.YtfbjljcmmbdhkaaGreatDoor
set_option linter.unusedVariables false
set_option linter.unusedSimpArgs false
set_option maxRecDepth 100000
set_option maxHeartbeats 200000000
section
open Go.ChangeShapes Go.WideShapes Go.ChangeAt Go.RowKit
mutual
def St.sz : St → Nat
 | .mk _ _ _ _ _ _ _ bd el => 1 + szL bd + szL el
def szL : List St → Nat
 | [] => 0
 | s :: r => s.sz + szL r
end
theorem xZd {x : St} : ∀ {l : List St}, x ∈ l → x.sz ≤ szL l
 | s :: r, h => by
   rw [szL]
   rcases List.mem_cons.1 h with rfl | h
   ·omega
   ·have := xZd h; omega
theorem sz_s (x : St) : x.sz = 1 + szL x.bd + szL x.el := by cases x; rw [St.sz]; rfl
theorem xZf {G : Nat → Prop} {w : World} : ∀ (l : List St) (ma : Option Addr), StsAt G w l ma → ∀ i (h : i < l.length), ∃ (b o : Nat) (mx mA mb ml : Option Addr) (cx ca cb cl : Nat), ma = some ⟨b, o, none⟩ ∧ G b ∧ b < w.heap.size ∧ KidsAt G w l[i].ex mx ∧ StrsAt G w l[i].ar mA ∧ StsAt G w l[i].bd mb ∧ StsAt G w l[i].el ml ∧ l[i].ex.length ≤ 140737488355328 ∧ l[i].ar.length ≤ 140737488355328 ∧ l[i].bd.length ≤ 140737488355328 ∧ l[i].el.length ≤ 140737488355328 ∧ l[i].k < 256 ∧ w.rangeAt b (o + i * 9) [.int .u8 (l[i].k : Int), .string (str l[i].nm), .string (str l[i].fr), .bool l[i].sec, .bool l[i].mu, .slice mx l[i].ex.length cx, .slice mA l[i].ar.length ca, .slice mb l[i].bd.length cb, .slice ml l[i].el.length cl] := by
 intro l
 induction l with
 | nil => intro ma _ i h; simp at h
 | cons x l ih =>
  intro ma h i hi
  cases h with
  | @cons k nm fr sec mu ex ar bd el r b off mx ma mb ml cx ca cb cl hg c0 c1 c2 c3 c4 c5 c6 c7 c8 hk hx ha hb hl hX hA hB hL hr =>
   cases i with
   | zero =>
    refine ⟨b, off, mx, ma, mb, ml, cx, ca, cb, cl, rfl, hg, World.block_lt_of_cell? w _ c0, hX, hA, hB, hL, hx, ha, hb, hl, hk, ?_⟩
    intro r u hu
    rw [show off + 0 * 9 + r = off + r by omega]
    obtain rfl | rfl | rfl | rfl | rfl | rfl | rfl | rfl | rfl | hr9 : r = 0 ∨ r = 1 ∨ r = 2 ∨ r = 3 ∨ r = 4 ∨ r = 5 ∨ r = 6 ∨ r = 7 ∨ r = 8 ∨ 9 ≤ r := by omega
    ·cases hu; exact c0
    ·cases hu; exact c1
    ·cases hu; exact c2
    ·cases hu; exact c3
    ·cases hu; exact c4
    ·cases hu; exact c5
    ·cases hu; exact c6
    ·cases hu; exact c7
    ·cases hu; exact c8
    ·rw [List.getElem?_eq_none (by simpa using hr9)] at hu; cases hu
   | succ i =>
    obtain ⟨b', o', mx', mA', mb', ml', cx', ca', cb', cl', e, h1, h2, h3, h4, h5, h6, h7, h8, h9, h10, h11, h12⟩ := ih _ hr i (by simpa using hi)
    cases e
    refine ⟨b, off, mx', mA', mb', ml', cx', ca', cb', cl', rfl, h1, h2, h3, h4, h5, h6, h7, h8, h9, h10, h11, fun r u hu => ?_⟩
    rw [show off + (i + 1) * 9 + r = off + 9 + i * 9 + r by omega]
    exact h12 r u hu
theorem zZj {w w' : World} {b o : Nat} {cs : List Value} (h : w.rangeAt b o cs) (hb : Below w.heap.size w w') : w'.rangeAt b o cs := fun j v hv => stay hb (h j v hv)
theorem qQa {c0 c1 c2 c3 c4 c5 c6 c7 c8 : Value} {w : World} {g o : Nat} (h : w.rangeAt g o [c0, c1, c2, c3, c4, c5, c6, c7, c8]) : w.cell? ⟨g, o, none⟩ = some c0 ∧ w.cell? ⟨g, o + 1, none⟩ = some c1 ∧ w.cell? ⟨g, o + 2, none⟩ = some c2 ∧ w.cell? ⟨g, o + 3, none⟩ = some c3 ∧ w.cell? ⟨g, o + 4, none⟩ = some c4 ∧ w.cell? ⟨g, o + 5, none⟩ = some c5 ∧ w.cell? ⟨g, o + 6, none⟩ = some c6 ∧ w.cell? ⟨g, o + 7, none⟩ = some c7 ∧ w.cell? ⟨g, o + 8, none⟩ = some c8 :=
 ⟨h 0 _ rfl, h 1 _ rfl, h 2 _ rfl, h 3 _ rfl, h 4 _ rfl, h 5 _ rfl, h 6 _ rfl, h 7 _ rfl, h 8 _ rfl⟩
section
variable {op : Oper} {a : Act} {w : World} {K : Act → World → Prop} {Q : Exit → Act → World → Prop}
theorem stK9 (x y : Operand) (ho : op.op = .store 52 x y) (g : Nat) (hx : a.eval x = .pointer (some ⟨g, 0, none⟩)) {k : Int} {s1 s2 : ByteArray} {b1 b2 : Bool} {m1 m2 m3 m4 : Option Addr} {n1 n2 n3 n4 p1 p2 p3 p4 : Nat} (hy : a.eval y = .agg #[.int .u8 k, .string s1, .string s2, .bool b1, .bool b2, .slice m1 n1 p1, .slice m2 n2 p2, .slice m3 n3 p3, .slice m4 n4 p4]) {d0 d1 d2 d3 d4 d5 d6 d7 d8 : Value} (hr : rowG #[d0, d1, d2, d3, d4, d5, d6, d7, d8] w g)
 (h : ∀ w', rowG #[.int .u8 k, .string s1, .string s2, .bool b1, .bool b2, .slice m1 n1 p1, .slice m2 n2 p2, .slice m3 n3 p3, .slice m4 n4 p4] w' g → Only (fun j => j = g) w w' → K (a.put op.dst undef) w') : op.wp Tryz.prog a w K Q :=
 wp_store_mid 52 x y ho g 0 #[.int .u8 k, .string s1, .string s2, .bool b1, .bool b2, .slice m1 n1 p1, .slice m2 n2 p2, .slice m3 n3 p3, .slice m4 n4 p4] hx hy (zKh (C := #[d0, d1, d2, d3, d4, d5, d6, d7, d8]) rfl hr) xKg (by simp [Value.oneCell']) (h _ (zKz (C := #[d0, d1, d2, d3, d4, d5, d6, d7, d8]) [.int .u8 k, .string s1, .string s2, .bool b1, .bool b2, .slice m1 n1 p1, .slice m2 n2 p2, .slice m3 n3 p3, .slice m4 n4 p4] rfl hr) (zJs _ _ _))
end
def SmIH (M : Nat) : Prop := ∀ (l : List St), szL l < M → ∀ (w : World) (G1 G2 : Nat → Prop) (m1 m2 : Option Addr) (c1 c2 : Nat), StsAt G1 w l m1 → StsAt G2 w l m2 → l.length ≤ 140737488355328 →
 Calls Tryz.prog 26 #[.slice m1 l.length c1, .slice m2 l.length c2] w fun r w' => r = .returned (.bool true) ∧ Below w.heap.size w w'
theorem smS_step (M : Nat) (ih : SmIH M) (l : List St) (hM : szL l ≤ M) (w : World) (G1 G2 : Nat → Prop) (m1 m2 : Option Addr) (c1 c2 : Nat) (h1 : StsAt G1 w l m1) (h2 : StsAt G2 w l m2) (hl : l.length ≤ 140737488355328) :
 Calls Tryz.prog 26 #[.slice m1 l.length c1, .slice m2 l.length c2] w fun r w' => r = .returned (.bool true) ∧ Below w.heap.size w w' := by
 have H1 := Lib.hid h1
 have H2 := Lib.hid h2
 have HIH := Lib.hid ih
 have HM := Lib.hid hM
 obtain ⟨N, hN⟩ : ∃ N, N = l.length := ⟨_, rfl⟩
 rw [← hN] at hl ⊢
 have HL := Lib.hid hN
 clear h1 h2 hN ih hM
 go_enter Tryz.func26, Tryz.ntmps26
 go_wp2
 go_loopw [5] (fun i wr => ∃ j : Nat, j ≤ N ∧ i = .int .i64 (j : Int) ∧ Below w.heap.size w wr) (fun i _ => N - (intOf i).toNat)
 case atStart => exact ⟨0, Nat.zero_le _, rfl, Below.refl _ _⟩
 case round =>
  obtain ⟨j, hj, rfl, hB⟩ := hrel
  by_cases hlt : j < N
  ·have hlt' : j < l.length := by rw [← HL.out]; exact hlt
   obtain ⟨g1, o1, xx, xa, xb, xl, xc, xd, xe, xf, rfl, -, hw1, hX1, hA1, hB1, hL1, hx, ha, hb, hle, hk, hr1⟩ := xZf l m1 H1.out j hlt'
   obtain ⟨g2, o2, yx, ya, yb, yl, yc, yd, ye, yf, rfl, -, hw2, hX2, hA2, hB2, hL2, -, -, -, -, -, hr2⟩ := xZf l m2 H2.out j hlt'
   have hsz : (l[j]).sz ≤ M := Nat.le_trans (xZd (List.getElem_mem hlt')) HM.out
   rw [sz_s] at hsz
   have hr1 := zZj hr1 hB
   have hr2 := zZj hr2 hB
   have hw1 : g1 < wr.heap.size := Nat.lt_of_lt_of_le hw1 hB.size
   have hw2 : g2 < wr.heap.size := Nat.lt_of_lt_of_le hw2 hB.size
   have hX := fun w' (hb : Below wr.heap.size wr w') => xKv l[j].ex G1 G2 xx yx xc yc w' ((hX1.of hB).of hb) ((hX2.of hB).of hb) hx
   have hA := fun w' (hb : Below wr.heap.size wr w') => smt_any l[j].ar G1 G2 xa ya xd yd w' ((hA1.of hB).of hb) ((hA2.of hB).of hb) ha
   have hBd := fun w' (hb' : Below wr.heap.size wr w') => HIH.out l[j].bd (by omega) w' G1 G2 xb yb xe ye ((hB1.of hB).of hb') ((hB2.of hB).of hb') hb
   have hEl := fun w' (hb : Below wr.heap.size wr w') => HIH.out l[j].el (by omega) w' G1 G2 xl yl xf yf ((hL1.of hB).of hb) ((hL2.of hB).of hb) hle
   clear hX1 hX2 hA1 hA2 hB1 hB2 hL1 hL2 hsz hx ha hb hle
   generalize l[j].k = k at *
   generalize l[j].nm = nm at *
   generalize l[j].fr = fr at *
   generalize l[j].sec = sec at *
   generalize l[j].mu = mu at *
   generalize l[j].ex.length = nx at *
   generalize l[j].ar.length = na at *
   generalize l[j].bd.length = nb at *
   generalize l[j].el.length = nl at *
   have hLd1 := fun w' (hb : Below wr.heap.size wr w') => zZj hr1 hb
   have hLd2 := fun w' (hb : Below wr.heap.size wr w') => zZj hr2 hb
   clear hr1 hr2
   go_wp2
   have hF0 : Below wr.heap.size wr wr.drew := bdd (Below.refl _ _)
   refine zKp (fun w' => Below wr.heap.size wr w') (by kernel_rfl) ?_
   have q : Pq [0, 1, 2] := trivial
   iterate 3
    refine tkK q rfl (by kernel_rfl) (fun _ _ _ _ h => h) hF0 fun K hK => ?_
    replace q := q.tl
    apply Exists.intro
    refine ⟨Or.inl ⟨by kernel_rfl, fun w' hf => ?_⟩, ?_⟩
    ·skip
     go_simp
     try exact rfl
    go_simp
    refine hK _ ?_
    clear hK K
   refine zQs (i := 3) rfl (by kernel_rfl) (by kernel_rfl) (by kernel_rfl) (fun _ _ _ _ h => h) hF0 (fun K hK => ?_)
   apply Exists.intro
   refine ⟨Or.inl ⟨by kernel_rfl, fun w' hf => ?_⟩, ?_⟩
   ·obtain ⟨z0, z1, z2, z3, z4, z5, z6, z7, z8⟩ := qQa (hLd1 w' hf)
    have ql1 : g1 < w'.heap.size := Nat.lt_of_lt_of_le hw1 hf.size
    have ql2 : g2 < w'.heap.size := Nat.lt_of_lt_of_le hw2 hf.size
    go_simp
    try exact rfl
   go_simp
   refine hK _ ?_
   clear hK K
   have q : Pq [4, 5, 6] := trivial
   iterate 3
    refine tkK q rfl (by kernel_rfl) (fun _ _ _ _ h => h) hF0 fun K hK => ?_
    replace q := q.tl
    apply Exists.intro
    refine ⟨Or.inl ⟨by kernel_rfl, fun w' hf => ?_⟩, ?_⟩
    ·skip
     go_simp
     try exact rfl
    go_simp
    refine hK _ ?_
    clear hK K
   refine zQs (i := 7) rfl (by kernel_rfl) (by kernel_rfl) (by kernel_rfl) (fun _ _ _ _ h => h) hF0 (fun K hK => ?_)
   apply Exists.intro
   refine ⟨Or.inl ⟨by kernel_rfl, fun w' hf => ?_⟩, ?_⟩
   ·obtain ⟨z0, z1, z2, z3, z4, z5, z6, z7, z8⟩ := qQa (hLd2 w' hf)
    have ql1 : g1 < w'.heap.size := Nat.lt_of_lt_of_le hw1 hf.size
    have ql2 : g2 < w'.heap.size := Nat.lt_of_lt_of_le hw2 hf.size
    go_simp
    try exact rfl
   go_simp
   refine hK _ ?_
   clear hK K
   refine zKv (k1 := 8) (k2 := 9) (by kernel_rfl) ?_ ?_
   ·refine wpOp_step rfl (fun K hK => ?_)
    go_simp
    refine hK _ _ ⟨(aB hF0 _), ?_⟩
    clear hK K
    refine zQe (k := 9) (by kernel_rfl) ?_
    refine wpOp_step rfl (fun K hK => ?_)
    go_simp
    refine hK _ _ ⟨(aB (aB hF0 _) _), ?_⟩
    clear hK K
    refine zQe (k := 10) (by kernel_rfl) ?_
    refine wpOp_step rfl (fun K hK => ?_)
    refine stK9 _ _ rfl (wr.heap.size) rfl rfl (show rowG #[.int .u8 0, .string ⟨#[]⟩, .string ⟨#[]⟩, .bool false, .bool false, .slice none 0 0, .slice none 0 0, .slice none 0 0, .slice none 0 0] _ _ by exact zQj (zQf _ _ _ _ rfl) _) (fun wF rF oF => ?_)
    have hFF : Below wr.heap.size wr wF := (aB (aB hF0 _) _).trans (oF.below (B := wr.heap.size) (fun j hj => by omega) (by simp <;> omega))
    have rB : rowG #[.int .u8 0, .string ⟨#[]⟩, .string ⟨#[]⟩, .bool false, .bool false, .slice none 0 0, .slice none 0 0, .slice none 0 0, .slice none 0 0] wF (wr.heap.size + 1) := zQa (by exact zQf _ _ _ _ (by simp)) oF (by omega)
    refine hK _ _ ⟨hFF, ?_⟩
    clear hK K
    refine zQe (k := 11) (by kernel_rfl) ?_
    refine wpOp_step rfl (fun K hK => ?_)
    refine stK9 _ _ rfl (wr.heap.size + 1) rfl rfl rB (fun wH r2 oH => ?_)
    have hFB : Below wr.heap.size wr wH := hFF.trans (oH.below (B := wr.heap.size) (fun j hj => by omega) hFF.size)
    have r1 := zQa rF oH (by omega)
    refine hK _ _ ⟨hFB, ?_⟩
    clear hK K oF oH rF rB hLd1 hLd2
    refine zQq (by kernel_rfl) ?_
    obtain ⟨p0, p1, p2, p3, p4, p5, p6, p7, p8, pf, pl⟩ := nine r1
    obtain ⟨q0, q1, q2, q3, q4, q5, q6, q7, q8, qf, ql⟩ := nine r2
    go_wp2_with first
     | (go_at_call 25; ((with_reducible refine (hX _ hFB).mono ?_); (rintro e v1 ⟨rfl, hb1⟩); (have hG1 := tr hFB hb1); (have s1 := zQh r1 hb1); (have s2 := zQh r2 hb1); (clear p0 p1 p2 p3 p4 p5 p6 p7 p8 pf pl q0 q1 q2 q3 q4 q5 q6 q7 q8 qf ql); (obtain ⟨p0, p1, p2, p3, p4, p5, p6, p7, p8, pf, pl⟩ := nine s1); (obtain ⟨q0, q1, q2, q3, q4, q5, q6, q7, q8, qf, ql⟩ := nine s2)))
     | (go_at_call 48; ((with_reducible refine (hA _ hG1).mono ?_); (rintro e v2 ⟨rfl, hb2⟩); (have hG2 := tr hG1 hb2); (have t1 := zQh s1 hb2); (have t2 := zQh s2 hb2); (clear p0 p1 p2 p3 p4 p5 p6 p7 p8 pf pl q0 q1 q2 q3 q4 q5 q6 q7 q8 qf ql); (obtain ⟨p0, p1, p2, p3, p4, p5, p6, p7, p8, pf, pl⟩ := nine t1); (obtain ⟨q0, q1, q2, q3, q4, q5, q6, q7, q8, qf, ql⟩ := nine t2)))
     | (go_at_call 26; ((with_reducible refine (hBd _ hG2).mono ?_); (rintro e v3 ⟨rfl, hb3⟩); (have hG3 := tr hG2 hb3); (have u1 := zQh t1 hb3); (have u2 := zQh t2 hb3); (clear hBd p0 p1 p2 p3 p4 p5 p6 p7 p8 pf pl q0 q1 q2 q3 q4 q5 q6 q7 q8 qf ql); (obtain ⟨p0, p1, p2, p3, p4, p5, p6, p7, p8, pf, pl⟩ := nine u1); (obtain ⟨q0, q1, q2, q3, q4, q5, q6, q7, q8, qf, ql⟩ := nine u2)))
     | (go_at_call 26; ((with_reducible refine (hEl _ hG3).mono ?_); (rintro e v4 ⟨rfl, hb4⟩)))
    go_roundw
    case rel => first | exact ⟨j + 1, by omega, by go_num, hB.trans ((tr hG3 hb4).mono hB.size)⟩ | ((repeat apply Exists.intro); exact ⟨⟨j + 1, by omega, by go_num, hB.trans ((tr hG3 hb4).mono hB.size)⟩, rfl⟩)
    case measure => first | (simp [intOf]; done) | (simp [intOf]; omega)
   ·refine wpOp_step rfl (fun K hK => ?_)
    go_simp
    refine hK _ _ ⟨(aB hF0 _), ?_⟩
    clear hK K
    refine zQe (k := 8) (by kernel_rfl) ?_
    refine wpOp_step rfl (fun K hK => ?_)
    go_simp
    refine hK _ _ ⟨(aB (aB hF0 _) _), ?_⟩
    clear hK K
    refine zQe (k := 10) (by kernel_rfl) ?_
    refine wpOp_step rfl (fun K hK => ?_)
    refine stK9 _ _ rfl (wr.heap.size + 1) rfl rfl (show rowG #[.int .u8 0, .string ⟨#[]⟩, .string ⟨#[]⟩, .bool false, .bool false, .slice none 0 0, .slice none 0 0, .slice none 0 0, .slice none 0 0] _ _ by exact zQf _ _ _ _ (by simp)) (fun wF rF oF => ?_)
    have hFF : Below wr.heap.size wr wF := (aB (aB hF0 _) _).trans (oF.below (B := wr.heap.size) (fun j hj => by omega) (by simp <;> omega))
    have rB : rowG #[.int .u8 0, .string ⟨#[]⟩, .string ⟨#[]⟩, .bool false, .bool false, .slice none 0 0, .slice none 0 0, .slice none 0 0, .slice none 0 0] wF (wr.heap.size) := zQa (by exact zQj (zQf _ _ _ _ rfl) _) oF (by omega)
    refine hK _ _ ⟨hFF, ?_⟩
    clear hK K
    refine zQe (k := 11) (by kernel_rfl) ?_
    refine wpOp_step rfl (fun K hK => ?_)
    refine stK9 _ _ rfl (wr.heap.size) rfl rfl rB (fun wH r2 oH => ?_)
    have hFB : Below wr.heap.size wr wH := hFF.trans (oH.below (B := wr.heap.size) (fun j hj => by omega) hFF.size)
    have r1 := zQa rF oH (by omega)
    refine hK _ _ ⟨hFB, ?_⟩
    clear hK K oF oH rF rB hLd1 hLd2
    refine zQq (by kernel_rfl) ?_
    obtain ⟨p0, p1, p2, p3, p4, p5, p6, p7, p8, pf, pl⟩ := nine r1
    obtain ⟨q0, q1, q2, q3, q4, q5, q6, q7, q8, qf, ql⟩ := nine r2
    go_wp2_with first
     | (go_at_call 25; ((with_reducible refine (hX _ hFB).mono ?_); (rintro e v1 ⟨rfl, hb1⟩); (have hG1 := tr hFB hb1); (have s1 := zQh r1 hb1); (have s2 := zQh r2 hb1); (clear p0 p1 p2 p3 p4 p5 p6 p7 p8 pf pl q0 q1 q2 q3 q4 q5 q6 q7 q8 qf ql); (obtain ⟨p0, p1, p2, p3, p4, p5, p6, p7, p8, pf, pl⟩ := nine s1); (obtain ⟨q0, q1, q2, q3, q4, q5, q6, q7, q8, qf, ql⟩ := nine s2)))
     | (go_at_call 48; ((with_reducible refine (hA _ hG1).mono ?_); (rintro e v2 ⟨rfl, hb2⟩); (have hG2 := tr hG1 hb2); (have t1 := zQh s1 hb2); (have t2 := zQh s2 hb2); (clear p0 p1 p2 p3 p4 p5 p6 p7 p8 pf pl q0 q1 q2 q3 q4 q5 q6 q7 q8 qf ql); (obtain ⟨p0, p1, p2, p3, p4, p5, p6, p7, p8, pf, pl⟩ := nine t1); (obtain ⟨q0, q1, q2, q3, q4, q5, q6, q7, q8, qf, ql⟩ := nine t2)))
     | (go_at_call 26; ((with_reducible refine (hBd _ hG2).mono ?_); (rintro e v3 ⟨rfl, hb3⟩); (have hG3 := tr hG2 hb3); (have u1 := zQh t1 hb3); (have u2 := zQh t2 hb3); (clear hBd p0 p1 p2 p3 p4 p5 p6 p7 p8 pf pl q0 q1 q2 q3 q4 q5 q6 q7 q8 qf ql); (obtain ⟨p0, p1, p2, p3, p4, p5, p6, p7, p8, pf, pl⟩ := nine u1); (obtain ⟨q0, q1, q2, q3, q4, q5, q6, q7, q8, qf, ql⟩ := nine u2)))
     | (go_at_call 26; ((with_reducible refine (hEl _ hG3).mono ?_); (rintro e v4 ⟨rfl, hb4⟩)))
    go_roundw
    case rel => first | exact ⟨j + 1, by omega, by go_num, hB.trans ((tr hG3 hb4).mono hB.size)⟩ | ((repeat apply Exists.intro); exact ⟨⟨j + 1, by omega, by go_num, hB.trans ((tr hG3 hb4).mono hB.size)⟩, rfl⟩)
    case measure => first | (simp [intOf]; done) | (simp [intOf]; omega)
  ·obtain rfl : j = N := by omega
   go_wp2
   go_ret
   exact ⟨rfl, hB⟩
theorem smS_any : ∀ (M : Nat), SmIH M := by
 intro M
 induction M with
 | zero => intro l hl; omega
 | succ M ih => intro l hl w G1 G2 m1 m2 c1 c2 h1 h2 hn; exact smS_step M ih l (by omega) w G1 G2 m1 m2 c1 c2 h1 h2 hn
theorem sts_same (l : List St) (w : World) (G1 G2 : Nat → Prop) (m1 m2 : Option Addr) (c1 c2 : Nat) (h1 : StsAt G1 w l m1) (h2 : StsAt G2 w l m2) (hl : l.length ≤ 140737488355328) :
 Calls Tryz.prog 26 #[.slice m1 l.length c1, .slice m2 l.length c2] w fun r w' => r = .returned (.bool true) ∧ Below w.heap.size w w' := smS_any (szL l + 1) l (by omega) w G1 G2 m1 m2 c1 c2 h1 h2 hl
end
section
open Go.ChangeShapes Go.WideShapes Go.ChangeAt Go.RowKit
theorem xQw {G : Nat → Prop} {w : World} {l : List Fd} {ma : Option Addr} (h : FdsAt G w l ma) (i : Nat) (hi : i < l.length) : ∃ (b o : Nat) (mp mb mr : Option Addr) (cp cb cr : Nat), ma = some ⟨b, o, none⟩ ∧ G b ∧ b < w.heap.size ∧ PmsAt G w l[i].ps mp ∧ StsAt G w l[i].bd mb ∧ KidsAt G w l[i].rt mr ∧ l[i].ps.length ≤ 140737488355328 ∧ l[i].bd.length ≤ 140737488355328 ∧ l[i].rt.length ≤ 140737488355328 ∧ w.rangeAt b (o + i * 5) [.string (str l[i].nm), .slice mp l[i].ps.length cp, .slice mb l[i].bd.length cb, .bool l[i].sec, .slice mr l[i].rt.length cr] := by
 obtain ⟨b, o, K, rfl, hG, hx, hK, hc⟩ := h i hi
 obtain ⟨ps, bd, rt, hx2, enp, enb, enr, h1, h2, h3, hP, hB, hR⟩ := jXo hK
 rw [← hx, hx2]
 have hc' := hc
 unfold Fx.cells at hc'
 rw [enp, enb, enr] at hc'
 exact ⟨b, o, K.mp, K.mb, K.mr, K.cp, K.cb, K.cr, rfl, hG, World.block_lt_of_cell? w _ (hc 0 _ rfl), hP, hB, hR, enp ▸ h1, enb ▸ h2, enr ▸ h3, fun j v hv => hc' j v hv⟩
theorem jZm {c0 c1 c2 c3 c4 : Value} {w : World} {g o : Nat} (h : w.rangeAt g o [c0, c1, c2, c3, c4]) : w.cell? ⟨g, o, none⟩ = some c0 ∧ w.cell? ⟨g, o + 1, none⟩ = some c1 ∧ w.cell? ⟨g, o + 2, none⟩ = some c2 ∧ w.cell? ⟨g, o + 3, none⟩ = some c3 ∧ w.cell? ⟨g, o + 4, none⟩ = some c4 :=
 ⟨h 0 _ rfl, h 1 _ rfl, h 2 _ rfl, h 3 _ rfl, h 4 _ rfl⟩
section
variable {op : Oper} {a : Act} {w : World} {K : Act → World → Prop} {Q : Exit → Act → World → Prop}
theorem stK5 (x y : Operand) (ho : op.op = .store 43 x y) (g : Nat) (hx : a.eval x = .pointer (some ⟨g, 0, none⟩)) {s1 : ByteArray} {b1 : Bool} {m1 m2 m3 : Option Addr} {n1 n2 n3 p1 p2 p3 : Nat} (hy : a.eval y = .agg #[.string s1, .slice m1 n1 p1, .slice m2 n2 p2, .bool b1, .slice m3 n3 p3]) {d0 d1 d2 d3 d4 : Value} (hr : rowG #[d0, d1, d2, d3, d4] w g)
 (h : ∀ w', rowG #[.string s1, .slice m1 n1 p1, .slice m2 n2 p2, .bool b1, .slice m3 n3 p3] w' g → Only (fun j => j = g) w w' → K (a.put op.dst undef) w') : op.wp Tryz.prog a w K Q :=
 wp_store_mid 43 x y ho g 0 #[.string s1, .slice m1 n1 p1, .slice m2 n2 p2, .bool b1, .slice m3 n3 p3] hx hy (zKh (C := #[d0, d1, d2, d3, d4]) rfl hr) jXl (by simp [Value.oneCell']) (h _ (zKz (C := #[d0, d1, d2, d3, d4]) [.string s1, .slice m1 n1 p1, .slice m2 n2 p2, .bool b1, .slice m3 n3 p3] rfl hr) (zJs _ _ _))
end
theorem jJa (l : List Fd) (G1 G2 : Nat → Prop) (m1 m2 : Option Addr) (c1 c2 : Nat) (w : World) (h1 : FdsAt G1 w l m1) (h2 : FdsAt G2 w l m2) (hl : l.length ≤ 140737488355328) :
 Calls Tryz.prog 11 #[.agg #[.slice m1 l.length c1], .agg #[.slice m2 l.length c2]] w fun r w' => r = .returned (.bool true) ∧ Below w.heap.size w w' := by
 have H1 := Lib.hid h1
 have H2 := Lib.hid h2
 obtain ⟨N, hN⟩ : ∃ N, N = l.length := ⟨_, rfl⟩
 rw [← hN] at hl ⊢
 have HL := Lib.hid hN
 clear h1 h2 hN
 go_enter Tryz.func11, Tryz.ntmps11
 go_wp2
 obtain ⟨W, hW⟩ : ∃ W, (w.alloc (.cells #[.slice m1 N c1] 24)).alloc (.cells #[.slice m2 N c2] 24) = W := ⟨_, rfl⟩
 have hBw : Below w.heap.size w W := by rw [← hW]; exact aB (aB (Below.refl _ _) _) _
 have ra : rowG #[.slice m1 N c1] W w.heap.size := by rw [← hW]; exact zQj (zQf _ _ _ _ rfl) _
 have rb : rowG #[.slice m2 N c2] W (w.heap.size + 1) := by rw [← hW]; exact zQf _ _ _ _ (by simp)
 rw [hW]
 clear hW
 go_loopw [5] (fun i wr => ∃ j : Nat, j ≤ N ∧ i = .int .i64 (j : Int) ∧ Below W.heap.size W wr) (fun i _ => N - (intOf i).toNat)
 case atStart => exact ⟨0, Nat.zero_le _, rfl, Below.refl _ _⟩
 case round =>
  obtain ⟨j, hj, rfl, hB0⟩ := hrel
  have hB : Below w.heap.size w wr := tr hBw hB0
  have hra := zQh ra hB0
  have hrb := zQh rb hB0
  have a0 := hra.1 0 (by simp)
  have al := hra.2.2
  have b0 := hrb.1 0 (by simp)
  have bl := hrb.2.2
  by_cases hlt : j < N
  ·have hlt' : j < l.length := by rw [← HL.out]; exact hlt
   obtain ⟨g1, o1, xp, xb, xr, xc, xd, xe, rfl, -, hw1, hP1, hB1, hR1, hp, hb, hr, hr1⟩ := xQw H1.out j hlt'
   obtain ⟨g2, o2, yp, yb, yr, yc, yd, ye, rfl, -, hw2, hP2, hB2, hR2, -, -, -, hr2⟩ := xQw H2.out j hlt'
   have hr1 := zZj hr1 hB
   have hr2 := zZj hr2 hB
   have hw1 : g1 < wr.heap.size := Nat.lt_of_lt_of_le hw1 hB.size
   have hw2 : g2 < wr.heap.size := Nat.lt_of_lt_of_le hw2 hB.size
   have hX := fun w' (hb : Below wr.heap.size wr w') => xKv l[j].rt G1 G2 xr yr xe ye w' ((hR1.of hB).of hb) ((hR2.of hB).of hb) hr
   have hBd := fun w' (hb' : Below wr.heap.size wr w') => sts_same l[j].bd w' G1 G2 xb yb xd yd ((hB1.of hB).of hb') ((hB2.of hB).of hb') hb
   have HP1 := Lib.hid (hP1.of hB)
   have HP2 := Lib.hid (hP2.of hB)
   clear hP1 hP2 hB1 hB2 hR1 hR2
   generalize l[j].nm = nm at *
   generalize l[j].sec = sec at *
   generalize l[j].ps = ps at *
   generalize l[j].bd.length = nb at *
   generalize l[j].rt.length = nr at *
   obtain ⟨np, hnp⟩ : ∃ np, np = ps.length := ⟨_, rfl⟩
   rw [← hnp] at hr1 hr2 hp
   have HNP := Lib.hid hnp
   clear hnp
   have hLd1 := fun w' (hb : Below wr.heap.size wr w') => jZm (zZj hr1 hb)
   have hLd2 := fun w' (hb : Below wr.heap.size wr w') => jZm (zZj hr2 hb)
   have hAd := fun w' (hb : Below wr.heap.size wr w') => show w'.cell? ⟨w.heap.size, 0, none⟩ = some (.slice (some ⟨g1, o1, none⟩) N c1) ∧ w'.cell? ⟨w.heap.size + 1, 0, none⟩ = some (.slice (some ⟨g2, o2, none⟩) N c2) ∧ w.heap.size < w'.heap.size ∧ w.heap.size + 1 < w'.heap.size from ⟨stay hb a0, stay hb b0, Nat.lt_of_lt_of_le al hb.size, Nat.lt_of_lt_of_le bl hb.size⟩
   clear hr1 hr2
   go_wp2
   have hF0 : Below wr.heap.size wr wr.drew := bdd (Below.refl _ _)
   refine zKp (fun w' => Below wr.heap.size wr w') (by kernel_rfl) ?_
   have q : Pq [0, 1, 2, 3] := trivial
   iterate 4
    refine tkK q rfl (by kernel_rfl) (fun _ _ _ _ h => h) hF0 fun K hK => ?_
    replace q := q.tl
    apply Exists.intro
    refine ⟨Or.inl ⟨by kernel_rfl, fun w' hf => ?_⟩, ?_⟩
    ·obtain ⟨z0, z1, zl, zm⟩ := hAd w' hf
     go_simp
     try exact rfl
    go_simp
    refine hK _ ?_
    clear hK K
   refine zQs (i := 4) rfl (by kernel_rfl) (by kernel_rfl) (by kernel_rfl) (fun _ _ _ _ h => h) hF0 (fun K hK => ?_)
   apply Exists.intro
   refine ⟨Or.inl ⟨by kernel_rfl, fun w' hf => ?_⟩, ?_⟩
   ·obtain ⟨z0, z1, z2, z3, z4⟩ := hLd1 w' hf
    have ql1 : g1 < w'.heap.size := Nat.lt_of_lt_of_le hw1 hf.size
    have ql2 : g2 < w'.heap.size := Nat.lt_of_lt_of_le hw2 hf.size
    go_simp
    try exact rfl
   go_simp
   refine hK _ ?_
   clear hK K
   have q : Pq [5, 6, 7, 8] := trivial
   iterate 4
    refine tkK q rfl (by kernel_rfl) (fun _ _ _ _ h => h) hF0 fun K hK => ?_
    replace q := q.tl
    apply Exists.intro
    refine ⟨Or.inl ⟨by kernel_rfl, fun w' hf => ?_⟩, ?_⟩
    ·obtain ⟨z0, z1, zl, zm⟩ := hAd w' hf
     go_simp
     try exact rfl
    go_simp
    refine hK _ ?_
    clear hK K
   refine zQs (i := 9) rfl (by kernel_rfl) (by kernel_rfl) (by kernel_rfl) (fun _ _ _ _ h => h) hF0 (fun K hK => ?_)
   apply Exists.intro
   refine ⟨Or.inl ⟨by kernel_rfl, fun w' hf => ?_⟩, ?_⟩
   ·obtain ⟨z0, z1, z2, z3, z4⟩ := hLd2 w' hf
    have ql1 : g1 < w'.heap.size := Nat.lt_of_lt_of_le hw1 hf.size
    have ql2 : g2 < w'.heap.size := Nat.lt_of_lt_of_le hw2 hf.size
    go_simp
    try exact rfl
   go_simp
   refine hK _ ?_
   clear hK K
   refine zKv (k1 := 10) (k2 := 11) (by kernel_rfl) ?_ ?_
   ·refine wpOp_step rfl (fun K hK => ?_)
    go_simp
    refine hK _ _ ⟨(aB hF0 _), ?_⟩
    clear hK K
    refine zQe (k := 11) (by kernel_rfl) ?_
    refine wpOp_step rfl (fun K hK => ?_)
    go_simp
    refine hK _ _ ⟨(aB (aB hF0 _) _), ?_⟩
    clear hK K
    refine zQe (k := 12) (by kernel_rfl) ?_
    refine wpOp_step rfl (fun K hK => ?_)
    refine stK5 _ _ rfl (wr.heap.size) rfl rfl (show rowG #[.string ⟨#[]⟩, .slice none 0 0, .slice none 0 0, .bool false, .slice none 0 0] _ _ by exact zQj (zQf _ _ _ _ rfl) _) (fun wF rF oF => ?_)
    have hFF : Below wr.heap.size wr wF := (aB (aB hF0 _) _).trans (oF.below (B := wr.heap.size) (fun j hj => by omega) (by simp <;> omega))
    have rB : rowG #[.string ⟨#[]⟩, .slice none 0 0, .slice none 0 0, .bool false, .slice none 0 0] wF (wr.heap.size + 1) := zQa (by exact zQf _ _ _ _ (by simp)) oF (by omega)
    refine hK _ _ ⟨hFF, ?_⟩
    clear hK K
    refine zQe (k := 13) (by kernel_rfl) ?_
    refine wpOp_step rfl (fun K hK => ?_)
    refine stK5 _ _ rfl (wr.heap.size + 1) rfl rfl rB (fun wH r2 oH => ?_)
    have hFB : Below wr.heap.size wr wH := hFF.trans (oH.below (B := wr.heap.size) (fun j hj => by omega) hFF.size)
    have r1 := zQa rF oH (by omega)
    refine hK _ _ ⟨hFB, ?_⟩
    clear hK K oF oH rF rB hLd1 hLd2 hAd a0 b0 al bl hra hrb
    refine zQq (by kernel_rfl) ?_
    obtain ⟨p0, p1, p2, p3, p4, pf, pl⟩ := zZk r1
    obtain ⟨q0, q1, q2, q3, q4, qf, ql⟩ := zZk r2
    go_wp2_with first
     | (go_at_call 25; ((with_reducible refine (hX _ hFB).mono ?_); (rintro e v1 ⟨rfl, hb1⟩); (have hG1 := tr hFB hb1); (have s1 := zQh r1 hb1); (have s2 := zQh r2 hb1); (clear p0 p1 p2 p3 p4 pf pl q0 q1 q2 q3 q4 qf ql); (obtain ⟨p0, p1, p2, p3, p4, pf, pl⟩ := zZk s1); (obtain ⟨q0, q1, q2, q3, q4, qf, ql⟩ := zZk s2)))
     | (go_at_call 26; ((with_reducible refine (hBd _ hG1).mono ?_); (rintro e v3 ⟨rfl, hb3⟩); (have hG3 := tr hG1 hb3); (have u1 := zQh s1 hb3); (have u2 := zQh s2 hb3); (clear p0 p1 p2 p3 p4 pf pl q0 q1 q2 q3 q4 qf ql); (obtain ⟨p0, p1, p2, p3, p4, pf, pl⟩ := zZk u1); (obtain ⟨q0, q1, q2, q3, q4, qf, ql⟩ := zZk u2)))
    clear p0 p1 p2 p3 p4 pf pl q0 q1 q2 q3 q4 qf ql
    go_loopw [8] (fun i wq => ∃ k : Nat, k ≤ np ∧ i = .int .i64 (k : Int) ∧ Below v3.heap.size v3 wq) (fun i _ => np - (intOf i).toNat)
    case atStart => exact ⟨0, Nat.zero_le _, rfl, Below.refl _ _⟩
    case round =>
     obtain ⟨k, hk, rfl, hBk⟩ := hrel
     have hGk := tr hG3 hBk
     have x1 := zQh u1 hBk
     have x2 := zQh u2 hBk
     obtain ⟨p0, p1, p2, p3, p4, pf, pl⟩ := zZk x1
     obtain ⟨q0, q1, q2, q3, q4, qf, ql⟩ := zZk x2
     clear p0 p2 p3 p4 q0 q2 q3 q4
     by_cases hlk : k < np
     ·have hlk' : k < ps.length := by rw [← HNP.out]; exact hlk
      obtain ⟨h1b, h1o, rfl, -, d0, d1, d2, d3⟩ := HP1.out k hlk'
      obtain ⟨h2b, h2o, rfl, -, f0, f1, f2, f3⟩ := HP2.out k hlk'
      have hl1 := Nat.lt_of_lt_of_le (World.block_lt_of_cell? _ _ d0) hGk.size
      have hl2 := Nat.lt_of_lt_of_le (World.block_lt_of_cell? _ _ f0) hGk.size
      have d0 := stay hGk d0
      have d1 := stay hGk d1
      have d2 := stay hGk d2
      have d3 := stay hGk d3
      have f0 := stay hGk f0
      have f1 := stay hGk f1
      have f2 := stay hGk f2
      have f3 := stay hGk f3
      generalize ps[k].nm = pn at *
      generalize ps[k].buf = pb at *
      generalize ps[k].sec = psc at *
      generalize ps[k].mu = pm at *
      go_wp2
      go_quiet (fail)
      go_wp2
      go_roundw
      case rel => exact ⟨k + 1, by omega, by go_num, bdN hBk _⟩
      case measure => first | (simp [intOf]; done) | (simp [intOf]; omega)
     ·obtain rfl : k = np := by omega
      go_wp2
      go_roundw
      case rel => first | exact ⟨j + 1, by omega, by go_num, tr hB0 hGk⟩ | ((repeat apply Exists.intro); exact ⟨⟨j + 1, by omega, by go_num, tr hB0 hGk⟩, rfl⟩)
      case measure => first | (simp [intOf]; done) | (simp [intOf]; omega)
   ·refine wpOp_step rfl (fun K hK => ?_)
    go_simp
    refine hK _ _ ⟨(aB hF0 _), ?_⟩
    clear hK K
    refine zQe (k := 10) (by kernel_rfl) ?_
    refine wpOp_step rfl (fun K hK => ?_)
    go_simp
    refine hK _ _ ⟨(aB (aB hF0 _) _), ?_⟩
    clear hK K
    refine zQe (k := 12) (by kernel_rfl) ?_
    refine wpOp_step rfl (fun K hK => ?_)
    refine stK5 _ _ rfl (wr.heap.size + 1) rfl rfl (show rowG #[.string ⟨#[]⟩, .slice none 0 0, .slice none 0 0, .bool false, .slice none 0 0] _ _ by exact zQf _ _ _ _ (by simp)) (fun wF rF oF => ?_)
    have hFF : Below wr.heap.size wr wF := (aB (aB hF0 _) _).trans (oF.below (B := wr.heap.size) (fun j hj => by omega) (by simp <;> omega))
    have rB : rowG #[.string ⟨#[]⟩, .slice none 0 0, .slice none 0 0, .bool false, .slice none 0 0] wF (wr.heap.size) := zQa (by exact zQj (zQf _ _ _ _ rfl) _) oF (by omega)
    refine hK _ _ ⟨hFF, ?_⟩
    clear hK K
    refine zQe (k := 13) (by kernel_rfl) ?_
    refine wpOp_step rfl (fun K hK => ?_)
    refine stK5 _ _ rfl (wr.heap.size) rfl rfl rB (fun wH r2 oH => ?_)
    have hFB : Below wr.heap.size wr wH := hFF.trans (oH.below (B := wr.heap.size) (fun j hj => by omega) hFF.size)
    have r1 := zQa rF oH (by omega)
    refine hK _ _ ⟨hFB, ?_⟩
    clear hK K oF oH rF rB hLd1 hLd2 hAd a0 b0 al bl hra hrb
    refine zQq (by kernel_rfl) ?_
    obtain ⟨p0, p1, p2, p3, p4, pf, pl⟩ := zZk r1
    obtain ⟨q0, q1, q2, q3, q4, qf, ql⟩ := zZk r2
    go_wp2_with first
     | (go_at_call 25; ((with_reducible refine (hX _ hFB).mono ?_); (rintro e v1 ⟨rfl, hb1⟩); (have hG1 := tr hFB hb1); (have s1 := zQh r1 hb1); (have s2 := zQh r2 hb1); (clear p0 p1 p2 p3 p4 pf pl q0 q1 q2 q3 q4 qf ql); (obtain ⟨p0, p1, p2, p3, p4, pf, pl⟩ := zZk s1); (obtain ⟨q0, q1, q2, q3, q4, qf, ql⟩ := zZk s2)))
     | (go_at_call 26; ((with_reducible refine (hBd _ hG1).mono ?_); (rintro e v3 ⟨rfl, hb3⟩); (have hG3 := tr hG1 hb3); (have u1 := zQh s1 hb3); (have u2 := zQh s2 hb3); (clear p0 p1 p2 p3 p4 pf pl q0 q1 q2 q3 q4 qf ql); (obtain ⟨p0, p1, p2, p3, p4, pf, pl⟩ := zZk u1); (obtain ⟨q0, q1, q2, q3, q4, qf, ql⟩ := zZk u2)))
    clear p0 p1 p2 p3 p4 pf pl q0 q1 q2 q3 q4 qf ql
    go_loopw [8] (fun i wq => ∃ k : Nat, k ≤ np ∧ i = .int .i64 (k : Int) ∧ Below v3.heap.size v3 wq) (fun i _ => np - (intOf i).toNat)
    case atStart => exact ⟨0, Nat.zero_le _, rfl, Below.refl _ _⟩
    case round =>
     obtain ⟨k, hk, rfl, hBk⟩ := hrel
     have hGk := tr hG3 hBk
     have x1 := zQh u1 hBk
     have x2 := zQh u2 hBk
     obtain ⟨p0, p1, p2, p3, p4, pf, pl⟩ := zZk x1
     obtain ⟨q0, q1, q2, q3, q4, qf, ql⟩ := zZk x2
     clear p0 p2 p3 p4 q0 q2 q3 q4
     by_cases hlk : k < np
     ·have hlk' : k < ps.length := by rw [← HNP.out]; exact hlk
      obtain ⟨h1b, h1o, rfl, -, d0, d1, d2, d3⟩ := HP1.out k hlk'
      obtain ⟨h2b, h2o, rfl, -, f0, f1, f2, f3⟩ := HP2.out k hlk'
      have hl1 := Nat.lt_of_lt_of_le (World.block_lt_of_cell? _ _ d0) hGk.size
      have hl2 := Nat.lt_of_lt_of_le (World.block_lt_of_cell? _ _ f0) hGk.size
      have d0 := stay hGk d0
      have d1 := stay hGk d1
      have d2 := stay hGk d2
      have d3 := stay hGk d3
      have f0 := stay hGk f0
      have f1 := stay hGk f1
      have f2 := stay hGk f2
      have f3 := stay hGk f3
      generalize ps[k].nm = pn at *
      generalize ps[k].buf = pb at *
      generalize ps[k].sec = psc at *
      generalize ps[k].mu = pm at *
      go_wp2
      go_quiet (fail)
      go_wp2
      go_roundw
      case rel => exact ⟨k + 1, by omega, by go_num, bdN hBk _⟩
      case measure => first | (simp [intOf]; done) | (simp [intOf]; omega)
     ·obtain rfl : k = np := by omega
      go_wp2
      go_roundw
      case rel => first | exact ⟨j + 1, by omega, by go_num, tr hB0 hGk⟩ | ((repeat apply Exists.intro); exact ⟨⟨j + 1, by omega, by go_num, tr hB0 hGk⟩, rfl⟩)
      case measure => first | (simp [intOf]; done) | (simp [intOf]; omega)
  ·obtain rfl : j = N := by omega
   go_wp2
   go_ret
   exact ⟨rfl, hB⟩
end
end Go.Proofs.YtfbjljcmmbdhkaaGreatDoor
