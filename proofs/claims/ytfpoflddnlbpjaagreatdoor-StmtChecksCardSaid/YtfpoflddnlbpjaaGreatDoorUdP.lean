/- A row is appended, of nothing or of something. -/
import Derived.Test.YtfpoflddnlbpjaaGreatDoorFeP
import Derived.Test.YtfpoflddnlbpjaaGreatDoorZmP
import Derived.Test.YtfpoflddnlbpjaaGreatDoorUcP
import Derived.Test.YtfpoflddnlbpjaaGreatDoorYbP
import Derived.Test.YtfpoflddnlbpjaaGreatDoorZtP
namespace Go.Proofs.YtfpoflddnlbpjaaGreatDoor
open Go Go.ChangeShapes Go.WideShapes Go.ChangeAt Go.RowKit
set_option linter.unusedVariables false
theorem grown_none {w : World} {r : Option Nat} : w.grownBy w r := ⟨rfl, rfl, rfl, Nat.le_refl _, fun _ _ _ => rfl⟩
theorem wpList_append_row {P : Program} (w : World) {ops : Array Oper} {rest : List Oper} {o : Oper} {a : Act} {Q : Exit → Act → World → Prop} (hgd : o.guard = none) (s x : Operand) (t : TypeId)
    (ho : o.op = .call { callee := .builtin .append, args := #[s, x], argTypes := #[t, t] })
    (base : Nat) (e : TypeId) (i : TypeInfo) (z : Value) (size bytes : Nat) (ht : P.underlying t = some (.slice e)) (hi : P.info? e = some i) (hz : i.zero = some z)
    (hsize : i.size = size) (hby : i.bytes = bytes) (hzs : z.cells.size = size) (hsz : 0 < size)
    (v : Value) (n : Nat) (xs : List Value) (hs : a.eval s = v) (hown : w.ownsRow base e size v n xs)
    (mx : Option Addr) (m c : Nat) (news : List Value) (hx : a.eval x = .slice mx m c) (hl : news.length = m * size) (hnews : 0 < m → ∃ ad, mx = some ad ∧ ∀ j u, news[j]? = some u → w.cell? (ad.add j) = some u) (h1 : ∀ u ∈ news, u.oneCell' = true)
    (h63 : n + m ≤ maxLen) (hbytes : (n + m) * bytes ≤ 140737488355328) (hbase : base ≤ w.heap.size)
    (h : ∀ (a' : Option Addr) (c' : Nat) w', w'.ownsRow base e size (.slice a' (n + m) c') (n + m) (xs ++ news) → w.grownBy w' v.ownBlock → (∀ j, (Value.slice a' (n + m) c').ownBlock = some j → v.ownBlock = some j ∨ j = w.heap.size) → wpList P ops Q rest (a.put o.dst (.slice a' (n + m) c')) w') : wpList P ops Q (o :: rest) a w := by
  by_cases hm : m = 0
  · subst hm
    obtain rfl : news = [] := List.length_eq_zero_iff.1 (by omega)
    obtain ⟨b, cc, rfl⟩ := row_form hown
    refine wpList_append_zero hgd s x t ho base e i size ht hi _ n xs hs hown mx c hx ?_
    exact h b cc w (by rw [List.append_nil]; exact hown) grown_none (fun j hj => .inl hj)
  · obtain ⟨ad, rfl, hc⟩ := hnews (by omega)
    refine wpList_append_lies w hgd s x t ho base e i z size bytes ht hi hz hsize hby hzs hsz v n xs hs hown ad m c news hx hl hc h1 (by omega) h63 hbytes hbase _ rfl ?_
    intro g cap w' h2 h3 h4 h5
    exact h _ _ w' h2 h3 (fun j hj => by
      simp only [Value.ownBlock, Option.some.injEq] at hj
      subst hj
      exact h4)
theorem strs_lie {G : Nat → Prop} {w : World} {l : List (List UInt8)} {ma : Option Addr} (h : StrsAt G w l ma) (hl : 0 < l.length) : ∃ ad, ma = some ad ∧ ∀ j u, (strC l)[j]? = some u → w.cell? (ad.add j) = some u := by
  obtain ⟨b, o, rfl, -, -⟩ := h 0 hl
  refine ⟨_, rfl, fun j u hu => ?_⟩
  unfold strC at hu
  rw [List.getElem?_map] at hu
  cases hx : l[j]? with
  | none => rw [hx] at hu; cases hu
  | some s =>
    rw [hx] at hu
    cases hu
    obtain ⟨hj, hs⟩ := List.getElem?_eq_some_iff.1 hx
    obtain ⟨b', o', e, -, hc⟩ := h j hj
    cases e
    rw [addp, hc, hs]
theorem strC_len (l : List (List UInt8)) : (strC l).length = l.length := by simp [strC]
theorem pmC_len (l : List Pm) : (pmC l).length = l.length * 4 := by
  induction l with
  | nil => rfl
  | cons p l ih => show (_ :: _ :: _ :: _ :: pmC l).length = _; simp only [List.length_cons, ih]; omega
theorem pms_lie {G : Nat → Prop} {w : World} {l : List Pm} {ma : Option Addr} (h : PmsAt G w l ma) (hl : 0 < l.length) : ∃ ad, ma = some ad ∧ ∀ j u, (pmC l)[j]? = some u → w.cell? (ad.add j) = some u := by
  obtain ⟨b, o, rfl, -, -⟩ := h 0 hl
  refine ⟨_, rfl, fun j u hu => ?_⟩
  have hj : j < l.length * 4 := by
    have := (List.getElem?_eq_some_iff.1 hu).1
    rwa [pmC_len] at this
  obtain ⟨i, r, rfl, hr⟩ : ∃ i r, j = i * 4 + r ∧ r < 4 := ⟨j / 4, j % 4, by omega, by omega⟩
  have hi : i < l.length := by omega
  obtain ⟨b', o', e, -, c0, c1, c2, c3⟩ := h i hi
  cases e
  obtain ⟨p0, p1, p2, p3⟩ := pmC_at l i hi
  rw [addp, ← Nat.add_assoc]
  obtain rfl | rfl | rfl | rfl : r = 0 ∨ r = 1 ∨ r = 2 ∨ r = 3 := by omega
  · rw [Nat.add_zero, p0] at hu; cases hu; exact c0
  · rw [p1] at hu; cases hu; exact c1
  · rw [p2] at hu; cases hu; exact c2
  · rw [p3] at hu; cases hu; exact c3
end Go.Proofs.YtfpoflddnlbpjaaGreatDoor

/- Contract of CopyStmts. -/
namespace Go.Proofs.YtfpoflddnlbpjaaGreatDoor
open Go.ChangeShapes Go.WideShapes Go.ChangeAt Go.RowKit
set_option linter.unusedVariables false
mutual
def St.lb : St → Prop
  | .mk _ _ _ _ _ ex ar bd el => ex.length ≤ 2199023255488 ∧ lbL ex ∧ ar.length ≤ 8796093021952 ∧ (bd.length ≤ 977343669105 ∧ lbS bd) ∧ (el.length ≤ 977343669105 ∧ lbS el)
def lbS : List St → Prop
  | [] => True
  | x :: r => x.lb ∧ lbS r
end
theorem lbS_iff : ∀ {l : List St}, lbS l ↔ ∀ x ∈ l, x.lb
  | [] => by rw [lbS]; simp
  | x :: r => by rw [lbS, lbS_iff (l := r)]; simp
theorem lb_s {s : St} (h : s.lb) : s.ex.length ≤ 2199023255488 ∧ lbL s.ex ∧ s.ar.length ≤ 8796093021952 ∧ (s.bd.length ≤ 977343669105 ∧ lbS s.bd) ∧ (s.el.length ≤ 977343669105 ∧ lbS s.el) := by cases s; rw [St.lb] at h; exact h
def CpIH (M : Nat) : Prop := ∀ (l : List St), szL l < M → lbS l → l.length ≤ 977343669105 → ∀ (G : Nat → Prop) (ma : Option Addr) (cap : Nat) (w : World), StsAt G w l ma →
    Calls Tryz.prog 24 #[.slice ma l.length cap] w fun r w' => (∃ (mk : Option Addr) (ck : Nat), r = .returned (.slice mk l.length ck) ∧ StsAt (fun b => w.heap.size ≤ b ∧ b < w'.heap.size) w' l mk) ∧ Below w.heap.size w w'
set_option maxRecDepth 100000 in
set_option maxHeartbeats 8000000 in
theorem cps_step (M0 : Nat) (ih : CpIH M0) (l : List St) (hM0 : szL l ≤ M0) (hlb : lbS l) (hl : l.length ≤ 977343669105) (G : Nat → Prop) (ma : Option Addr) (cap : Nat) (w : World) (hS : StsAt G w l ma) :
    Calls Tryz.prog 24 #[.slice ma l.length cap] w fun r w' => (∃ (mk : Option Addr) (ck : Nat), r = .returned (.slice mk l.length ck) ∧ StsAt (fun b => w.heap.size ≤ b ∧ b < w'.heap.size) w' l mk) ∧ Below w.heap.size w w' := by
  obtain ⟨i0, hi, hz0, hz1, hz2⟩ := info_parts infoS9
  obtain ⟨j0, ji, jz0, jz1, jz2⟩ := info_parts infoSl
  have HS := Lib.hid hS
  have HIH := Lib.hid ih
  have HLB := Lib.hid (lbS_iff.1 hlb)
  have HM0 := Lib.hid hM0
  obtain ⟨N, hN⟩ : ∃ N, N = l.length := ⟨_, rfl⟩
  rw [← hN] at hl ⊢
  have HL := Lib.hid hN
  clear hS hlb hN ih hM0
  go_enter Tryz.func24, Tryz.ntmps24
  go_wp2
  go_loopw [3, 4] (fun lv iv wr => ∃ (L : List Sx) (M : Nat), M = L.length ∧ M ≤ N ∧ iv = .int .i64 (M : Int) ∧ wr.ownsRow w.heap.size 44 9 lv M (sxs L) ∧ Below w.heap.size w wr ∧ Hid (L.map (·.x) = l.take M) ∧ Hid (∀ K ∈ L, K.is (fun b => w.heap.size ≤ b ∧ b < wr.heap.size ∧ ¬ lv.ownBlock = some b) wr)) (fun _ iv _ => N - (intOf iv).toNat)
  case atStart => exact ⟨[], 0, rfl, Nat.zero_le _, rfl, World.ownsRow_nil _ _ _ _, Below.refl _ _, Lib.hid (by simp), Lib.hid (fun K hK => by simp at hK)⟩
  case round =>
    obtain ⟨L, M, hM, hMN, rfl, hown, hB, hLx, hLi⟩ := hrel
    have HM := Lib.hid hM
    clear hM
    by_cases hlt : M < N
    · have hlt' : M < l.length := by rw [← HL.out]; exact hlt
      obtain ⟨g1, o1, xx, xa, xb, xl, xc, xd, xe, xf, rfl, -, hw1, hX1, hA1, hB1, hL1, hx, ha, hb, hle, hk, hr1⟩ := sts_row l ma HS.out M hlt'
      have hsz : (l[M]).sz ≤ M0 := Nat.le_trans (szL_mem (List.getElem_mem hlt')) HM0.out
      rw [sz_s] at hsz
      obtain ⟨lx, lxx, la, ⟨lbd, lbb⟩, ⟨lel, lbe⟩⟩ := lb_s (HLB.out _ (List.getElem_mem hlt'))
      have hrg := range_stay hr1 hB
      have hw1 : g1 < wr.heap.size := Nat.lt_of_lt_of_le hw1 hB.size
      have hX := fun w' (hb : Below wr.heap.size wr w') => cpx_any l[M].ex lxx lx G xx xc w' ((hX1.of hB).of hb)
      have hAA := fun w' (hb : Below wr.heap.size wr w') => strs_lie ((hA1.of hB).of hb)
      have hBd := fun w' (hb' : Below wr.heap.size wr w') => HIH.out l[M].bd (by omega) lbb lbd G xb xe w' ((hB1.of hB).of hb')
      have hEl := fun w' (hb : Below wr.heap.size wr w') => HIH.out l[M].el (by omega) lbe lel G xl xf w' ((hL1.of hB).of hb)
      have hst : l[M] = .mk l[M].k l[M].nm l[M].fr l[M].sec l[M].mu l[M].ex l[M].ar l[M].bd l[M].el := by cases l[M]; rfl
      have HST := Lib.hid hst
      clear hX1 hA1 hB1 hL1 hsz hr1 lxx lbb lbe hst
      generalize l[M].k = k at *
      generalize l[M].nm = nm at *
      generalize l[M].fr = fr at *
      generalize l[M].sec = sec at *
      generalize l[M].mu = mu at *
      obtain ⟨nx, hnx⟩ : ∃ nx, nx = l[M].ex.length := ⟨_, rfl⟩
      obtain ⟨na, hna⟩ : ∃ na, na = l[M].ar.length := ⟨_, rfl⟩
      obtain ⟨nb, hnb⟩ : ∃ nb, nb = l[M].bd.length := ⟨_, rfl⟩
      obtain ⟨nl, hnl⟩ : ∃ nl, nl = l[M].el.length := ⟨_, rfl⟩
      simp only [← hnx, ← hna, ← hnb, ← hnl] at hx ha hb hle hrg lx la lbd lel hX hAA hBd hEl
      have HNX := Lib.hid hnx
      have HNA := Lib.hid hna
      have HNB := Lib.hid hnb
      have HNL := Lib.hid hnl
      clear hnx hna hnb hnl
      go_wp2_with first
        | (with_reducible refine ld9o rfl _ rfl g1 (o1 + M * 9) rfl hrg ?_)
        | (with_reducible refine st9 rfl _ _ rfl (wr.heap.size) rfl rfl (rowG_at _ _ _ _ rfl) ?_; (intro wF hF hOF); (have hBF : Below wr.heap.size wr wF := (aB (Below.refl _ _) _).trans (hOF.below (B := wr.heap.size) (fun j hj => by omega) (by simp))); (obtain ⟨z0, z1, z2, z3, z4, z5, z6, z7, z8, zf, zl⟩ := nine hF); (have hXc := hX wF hBF))
        | (go_at_call 25; ((with_reducible refine hXc.mono ?_); (rintro e w2 ⟨⟨mk, ck, rfl, kX⟩, hb2⟩); (have hB2 := tr hBF hb2); (have r2 := rowG_b hF hb2); (clear z0 z1 z2 z3 z4 z5 z6 z7 z8 zf zl hXc); (obtain ⟨z0, z1, z2, z3, z4, z5, z6, z7, z8, zf, zl⟩ := nine r2); (obtain ⟨W2, hW2⟩ : ∃ W2, w2.setCell ⟨wr.heap.size, 5, none⟩ (.slice mk nx ck) = W2 := ⟨_, rfl⟩); (have s2 : rowG #[.int .u8 (k : Int), .string (str nm), .string (str fr), .bool sec, .bool mu, .slice mk nx ck, .slice xa na xd, .slice xb nb xe, .slice xl nl xf] W2 wr.heap.size := by rw [← hW2]; exact r9s5 _ r2); (have hO2 : Only (fun j => j = wr.heap.size) w2 W2 := by rw [← hW2]; exact only_one _ _ _ _); (have hBW2 : Below wr.heap.size wr W2 := hB2.trans (hO2.below (B := wr.heap.size) (fun j hj => by omega) hB2.size)); (obtain ⟨y0, y1, y2, y3, y4, y5, y6, y7, y8, yf, yl⟩ := nine s2); (have zl0 : wr.heap.size < wF.heap.size := hF.2.2); (have kX2 := kX.only hO2 (fun b hb e => by have := hb.1; have e2 : b = wr.heap.size := e; have := zl0; omega))))
        | (at_builtin; refine wpList_append_row _ rfl _ _ 41 rfl (wr.heap.size + 1) 9 j0 _ 1 16 Tryz.underlying41 ji jz0 jz1 jz2 rfl (by decide) (.slice none 0 0) 0 [] rfl (World.ownsRow_nil _ _ _ _) xa na xd (strC l[M].ar) rfl (by rw [strC_len, HNA.out, Nat.mul_one]) (hAA W2 hBW2) (strC_one _) (by unfold maxLen; omega) (by omega) (by omega) ?_; (intro a3 c3 w3 hown3 hgrow3 hat3); (simp only [Nat.zero_add, List.nil_append] at hown3 ⊢); (have hb3 : Below W2.heap.size W2 w3 := (only_grown hgrow3).below (B := W2.heap.size) (fun j hj => by simp [Value.ownBlock] at hj) (Nat.le_refl _)); (have hB3 := tr hBW2 hb3); (have r3 := rowG_b s2 hb3); (clear z0 z1 z2 z3 z4 z5 z6 z7 z8 zf zl y0 y1 y2 y3 y4 y5 y6 y7 y8 yf yl hW2); (obtain ⟨z0, z1, z2, z3, z4, z5, z6, z7, z8, zf, zl⟩ := nine r3); (have kA := strs_own hown3 HNA.out); (obtain ⟨W3, hW3⟩ : ∃ W3, w3.setCell ⟨wr.heap.size, 6, none⟩ (.slice a3 na c3) = W3 := ⟨_, rfl⟩); (have s3 : rowG #[.int .u8 (k : Int), .string (str nm), .string (str fr), .bool sec, .bool mu, .slice mk nx ck, .slice a3 na c3, .slice xb nb xe, .slice xl nl xf] W3 wr.heap.size := by rw [← hW3]; exact r9s6 _ r3); (have hO3 : Only (fun j => j = wr.heap.size) w3 W3 := by rw [← hW3]; exact only_one _ _ _ _); (have hBW3 : Below wr.heap.size wr W3 := hB3.trans (hO3.below (B := wr.heap.size) (fun j hj => by omega) hB3.size)); (obtain ⟨y0, y1, y2, y3, y4, y5, y6, y7, y8, yf, yl⟩ := nine s3); (have kA3 := kA.only hO3 (fun b hb e => by have := hb.1; have e2 : b = wr.heap.size := e; omega)); (have kX3 := (kX2.of hb3).only hO3 (fun b hb e => by have := hb.1; have e2 : b = wr.heap.size := e; omega)); (have hBc := hBd W3 hBW3))
        | (go_at_call 24; ((with_reducible refine hBc.mono ?_); (rintro e w4 ⟨⟨m4, c4, rfl, kB⟩, hb4⟩); (have hB4 := tr hBW3 hb4); (have r4 := rowG_b s3 hb4); (have l3 := s3.2.2); (clear z0 z1 z2 z3 z4 z5 z6 z7 z8 zf zl y0 y1 y2 y3 y4 y5 y6 y7 y8 yf yl hW3 hBc); (obtain ⟨z0, z1, z2, z3, z4, z5, z6, z7, z8, zf, zl⟩ := nine r4); (obtain ⟨W4, hW4⟩ : ∃ W4, w4.setCell ⟨wr.heap.size, 7, none⟩ (.slice m4 nb c4) = W4 := ⟨_, rfl⟩); (have s4 : rowG #[.int .u8 (k : Int), .string (str nm), .string (str fr), .bool sec, .bool mu, .slice mk nx ck, .slice a3 na c3, .slice m4 nb c4, .slice xl nl xf] W4 wr.heap.size := by rw [← hW4]; exact r9s7 _ r4); (have hO4 : Only (fun j => j = wr.heap.size) w4 W4 := by rw [← hW4]; exact only_one _ _ _ _); (have hBW4 : Below wr.heap.size wr W4 := hB4.trans (hO4.below (B := wr.heap.size) (fun j hj => by omega) hB4.size)); (obtain ⟨y0, y1, y2, y3, y4, y5, y6, y7, y8, yf, yl⟩ := nine s4); (have kB4 := kB.only hO4 (fun b hb e => by have := hb.1; have e2 : b = wr.heap.size := e; omega)); (have kX4 := (kX3.of hb4).only hO4 (fun b hb e => by have := hb.1; have e2 : b = wr.heap.size := e; omega)); (have kA4 := (kA3.of hb4).only hO4 (fun b hb e => by have := hb.1; have e2 : b = wr.heap.size := e; omega)); (have hEc := hEl W4 hBW4)))
        | (go_at_call 24; ((with_reducible refine hEc.mono ?_); (rintro e w5 ⟨⟨m5, c5, rfl, kE⟩, hb5⟩); (have hB5 := tr hBW4 hb5); (have r5 := rowG_b s4 hb5); (have l4 := s4.2.2); (clear z0 z1 z2 z3 z4 z5 z6 z7 z8 zf zl y0 y1 y2 y3 y4 y5 y6 y7 y8 yf yl hW4 hEc); (obtain ⟨z0, z1, z2, z3, z4, z5, z6, z7, z8, zf, zl⟩ := nine r5); (obtain ⟨W5, hW5⟩ : ∃ W5, w5.setCell ⟨wr.heap.size, 8, none⟩ (.slice m5 nl c5) = W5 := ⟨_, rfl⟩); (have s5 : rowG #[.int .u8 (k : Int), .string (str nm), .string (str fr), .bool sec, .bool mu, .slice mk nx ck, .slice a3 na c3, .slice m4 nb c4, .slice m5 nl c5] W5 wr.heap.size := by rw [← hW5]; exact r9s8 _ r5); (have hO5 : Only (fun j => j = wr.heap.size) w5 W5 := by rw [← hW5]; exact only_one _ _ _ _); (have hBW5 : Below wr.heap.size wr W5 := hB5.trans (hO5.below (B := wr.heap.size) (fun j hj => by omega) hB5.size)); (clear hAA); (have kE5 := kE.only hO5 (fun b hb e => by have := hb.1; have e2 : b = wr.heap.size := e; omega)); (have kX5 := (kX4.of hb5).only hO5 (fun b hb e => by have := hb.1; have e2 : b = wr.heap.size := e; omega)); (have kA5 := (kA4.of hb5).only hO5 (fun b hb e => by have := hb.1; have e2 : b = wr.heap.size := e; omega)); (have kB5 := (kB4.of hb5).only hO5 (fun b hb e => by have := hb.1; have e2 : b = wr.heap.size := e; omega)); (have ho5 := own_of hown hBW5)))
        | (with_reducible refine ld9 rfl _ rfl (wr.heap.size) rfl s5 ?_)
        | (at_builtin; refine wpList_append_lies _ rfl _ _ 42 rfl w.heap.size 44 i0 _ 9 144 Tryz.underlying42 hi hz0 hz1 hz2 rfl (by decide) _ M (sxs L) rfl (ho5.alloc _) ⟨W5.heap.size, 0, none⟩ 1 1 (sxs [⟨k, nm, fr, sec, mu, mk, nx, ck, a3, na, c3, m4, nb, c4, m5, nl, c5, l[M]⟩]) rfl rfl ?cN ?c0 (by decide) ?c1 ?c2 ?c3 _ rfl ?_)
      case cN => first | exact news_ok (sxs [⟨k, nm, fr, sec, mu, mk, nx, ck, a3, na, c3, m4, nb, c4, m5, nl, c5, l[M]⟩]) 44 W5 | exact fun j u h => h
      case c0 => exact sxs_one _
      case c1 => unfold maxLen; omega
      case c2 => omega
      case c3 => have h1 := hB.size; have h2 := hBW5.size; first | omega | (simp; omega)
      have l5 := s5.2.2
      obtain ⟨wa, hwa⟩ : ∃ wa, W5.alloc (.cells #[.int .u8 (k : Int), .string (str nm), .string (str fr), .bool sec, .bool mu, .slice mk nx ck, .slice a3 na c3, .slice m4 nb c4, .slice m5 nl c5] 44) = wa := ⟨_, rfl⟩
      have hba : Below W5.heap.size W5 wa := by rw [← hwa]; exact aB (Below.refl _ _) _
      intro g cap' w6 hown6 hgrow hat hlt6
      rw [hwa] at hgrow
      have hszw : wa.heap.size = W5.heap.size + 1 := by rw [← hwa]; simp
      have hBr := hB.size
      have hlo := fun (b : Nat) (hj : Value.ownBlock u3 = some b) => (own_lt hown hj).2
      go_wp2
      have z1 := hBF.size
      have z2 := hb2.size
      have z3 := hO2.size
      have z4 := hb3.size
      have z5 := hO3.size
      have z6 := hb4.size
      have z7 := hO4.size
      have z8 := hb5.size
      have z9 := hO5.size
      have z10 := hba.size
      have hKK : (⟨k, nm, fr, sec, mu, mk, nx, ck, a3, na, c3, m4, nb, c4, m5, nl, c5, l[M]⟩ : Sx).is (fun b => w.heap.size ≤ b ∧ b < wa.heap.size ∧ ¬ u3.ownBlock = some b) wa := by
        unfold Sx.is
        simp only
        rw [HST.out, HNX.out, HNA.out, HNB.out, HNL.out]
        have e1 := HNX.out
        have e2 := HNA.out
        have e3 := HNB.out
        have e4 := HNL.out
        exact IsSt.mk hk (e1 ▸ hx) (e2 ▸ ha) (e3 ▸ hb) (e4 ▸ hle) ((kX5.of hba).mono fun b h => ⟨by omega, by omega, fun e => by have := hlo b e; omega⟩) ((kA5.of hba).mono fun b h => ⟨by omega, by omega, fun e => by have := hlo b e; omega⟩) ((kB5.of hba).mono fun b h => ⟨by omega, by omega, fun e => by have := hlo b e; omega⟩) ((kE5.of hba).mono fun b h => ⟨by omega, by omega, fun e => by have := hlo b e; omega⟩)
      have hall : ∀ K ∈ L ++ [⟨k, nm, fr, sec, mu, mk, nx, ck, a3, na, c3, m4, nb, c4, m5, nl, c5, l[M]⟩], K.is (fun b => w.heap.size ≤ b ∧ b < wa.heap.size ∧ ¬ u3.ownBlock = some b) wa := fun K hK => by
        rcases List.mem_append.1 hK with h1 | h1
        · exact IsSt.mono (IsSt.of (hLi.out K h1) (tr hBW5 hba)) (fun b hb' => ⟨hb'.1, by have := hb'.2.1; have := hBW5.size; omega, hb'.2.2⟩)
        · obtain rfl := List.mem_singleton.1 h1
          exact hKK
      have hall6 := sx_append hgrow hat hszw _ hall (M + 1) cap'
      have hB6 : Below w.heap.size w w6 := (tr (tr hB hBW5) hba).grown hgrow (Nat.le_trans (Nat.le_trans hB.size hBW5.size) hba.size) (fun j hj => (own_lt hown hj).1)
      go_roundw
      case rel => first | exact ⟨L ++ [⟨k, nm, fr, sec, mu, mk, nx, ck, a3, na, c3, m4, nb, c4, m5, nl, c5, l[M]⟩], M + 1, by simp [HM.out], by omega, by go_num, by rw [sxs_app]; exact hown6, hB6, Lib.hid (by rw [List.map_append, hLx.out, List.take_succ_eq_append_getElem hlt']; rfl), Lib.hid hall6⟩ | ((repeat apply Exists.intro); exact ⟨⟨L ++ [⟨k, nm, fr, sec, mu, mk, nx, ck, a3, na, c3, m4, nb, c4, m5, nl, c5, l[M]⟩], M + 1, by simp [HM.out], by omega, by go_num, by rw [sxs_app]; exact hown6, hB6, Lib.hid (by rw [List.map_append, hLx.out, List.take_succ_eq_append_getElem hlt']; rfl), Lib.hid hall6⟩, rfl⟩)
      case measure => simp [intOf]; omega
    · obtain rfl : M = N := by omega
      obtain ⟨mk, ck, rfl, hkk⟩ := row_sts hown HM.out hLi.out
      rw [hLx.out, List.take_of_length_le (by rw [HL.out]; exact Nat.le_refl _)] at hkk
      go_wp2
      go_ret
      exact ⟨⟨mk, ck, rfl, hkk⟩, hB⟩
theorem cps_all : ∀ (M : Nat), CpIH M := by
  intro M
  induction M with
  | zero => intro l hl; omega
  | succ M ih => intro l hl h1 h2 G ma cap w h3; exact cps_step M ih l (by omega) h1 h2 G ma cap w h3
theorem cps_any (l : List St) (hlb : lbS l) (hl : l.length ≤ 977343669105) (G : Nat → Prop) (ma : Option Addr) (cap : Nat) (w : World) (hS : StsAt G w l ma) :
    Calls Tryz.prog 24 #[.slice ma l.length cap] w fun r w' => (∃ (mk : Option Addr) (ck : Nat), r = .returned (.slice mk l.length ck) ∧ StsAt (fun b => w.heap.size ≤ b ∧ b < w'.heap.size) w' l mk) ∧ Below w.heap.size w w' := cps_all (szL l + 1) l (by omega) hlb hl G ma cap w hS
end Go.Proofs.YtfpoflddnlbpjaaGreatDoor
