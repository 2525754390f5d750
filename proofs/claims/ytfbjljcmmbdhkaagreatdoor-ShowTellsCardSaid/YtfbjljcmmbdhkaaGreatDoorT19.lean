/- Contract of the document's Copy of an expression, however large; of a row of them. -/
import Derived.Test.YtfbjljcmmbdhkaaGreatDoorT11
import Derived.Test.YtfbjljcmmbdhkaaGreatDoorT13
import Derived.Test.YtfbjljcmmbdhkaaGreatDoorT10
namespace Go.Proofs.YtfbjljcmmbdhkaaGreatDoor
set_option linter.unusedVariables false
set_option linter.unusedSimpArgs false
set_option maxRecDepth 100000
set_option maxHeartbeats 200000000
section
open Go.ChangeShapes Go.WideShapes Go.ChangeAt Go.RowKit
mutual
def Xp.lb : Xp → Prop
 | .mk _ _ _ _ l => l.length ≤ 2199023255488 ∧ lbL l
def lbL : List Xp → Prop
 | [] => True
 | x :: r => x.lb ∧ lbL r
end
theorem lbL_iff : ∀ {l : List Xp}, lbL l ↔ ∀ x ∈ l, x.lb
 | [] => by rw [lbL]; simp
 | x :: r => by rw [lbL, lbL_iff (l := r)]; simp
theorem lb_l {x : Xp} (h : x.lb) : x.l.length ≤ 2199023255488 ∧ lbL x.l := by cases x; rw [Xp.lb] at h; exact h
theorem copyX : ∀ (K : Nat) (e : Xp), e.nodes ≤ K → e.lb → ∀ (w : World) (v : Value) (G : Nat → Prop), IsE G w v e →
 Calls Tryz.prog 37 #[v] w (CopyP w e) := by
 obtain ⟨i0, hi, hz0, hz1, hz2⟩ := info_parts infoE
 intro K
 induction K with
 | zero => intro e h; have := nodes_pos e; omega
 | succ K ih =>
  intro e hn hlb w v G h1
  cases h1 with
  | @mk k n s o l ma cap ho hl hk =>
   have HIH := Lib.hid ih
   have hno : ∀ i (h : i < l.length), l[i].nodes ≤ K := fun i h => by
    have := nodesL_mem (List.getElem_mem h)
    rw [Xp.nodes] at hn
    omega
   have HN := Lib.hid hno
   have hll : l.length ≤ 2199023255488 := (lb_l hlb).1
   have HLB := Lib.hid (lbL_iff.1 (lb_l hlb).2)
   have HK := Lib.hid hk
   unfold CopyP agX
   simp only [Xp.k, Xp.n, Xp.s, Xp.o, Xp.l]
   obtain ⟨N, hN⟩ : ∃ N, N = l.length := ⟨_, rfl⟩
   rw [← hN] at hl hll ⊢
   have HL := Lib.hid hN
   clear ih hno hk hN hn hlb
   go_enter Tryz.func37, Tryz.ntmps37
   go_wp2
   obtain ⟨W, hW⟩ : ∃ W, (w.alloc (.cells #[.int .u8 (k : Int), .int .u64 (n : Int), .string (str s), .int .u8 (o : Int), .slice ma N cap] 47)).alloc (.cells #[.int .u8 0, .int .u64 0, .string ⟨#[]⟩, .int .u8 0, .slice none 0 0] 47) = W := ⟨_, rfl⟩
   have hBw : Below w.heap.size w W := by rw [← hW]; exact aB (aB (Below.refl _ _) _) _
   have hr1 : rowG #[.int .u8 (k : Int), .int .u64 (n : Int), .string (str s), .int .u8 (o : Int), .slice ma N cap] W w.heap.size := by rw [← hW]; exact rowG_alloc (rowG_at _ _ _ _ rfl) _
   have hr2 : rowG #[.int .u8 0, .int .u64 0, .string ⟨#[]⟩, .int .u8 0, .slice none 0 0] W (w.heap.size + 1) := by rw [← hW]; exact rowG_at _ _ _ _ (by simp)
   have hz : W.heap.size = w.heap.size + 2 := by rw [← hW]; simp
   rw [hW]
   clear hW
   go_loopw [3, 4] (fun lv iv wr => ∃ (L : List Kx) (M : Nat), M = L.length ∧ M ≤ N ∧ iv = .int .i64 (M : Int) ∧ wr.ownsRow W.heap.size 47 5 lv M (kxs L) ∧ Below W.heap.size W wr ∧ Hid (L.map (·.x) = l.take M) ∧ Hid (∀ K ∈ L, K.is (fun b => W.heap.size ≤ b ∧ b < wr.heap.size ∧ ¬ lv.ownBlock = some b) wr)) (fun _ iv _ => N - (intOf iv).toNat)
   case atStart => exact ⟨[], 0, rfl, Nat.zero_le _, rfl, World.ownsRow_nil _ _ _ _, Below.refl _ _, Lib.hid (by simp), Lib.hid (fun K hK => by simp at hK)⟩
   case round =>
    obtain ⟨L, M, hM, hMN, rfl, hown, hB, hLx, hLi⟩ := hrel
    have hr1' := rowG_b hr1 hB
    have hr2' := rowG_b hr2 hB
    have a4 := hr1'.1 4 (by simp)
    have hl1 := hr1'.2.2
    have hl2 := hr2'.2.2
    have HM := Lib.hid hM
    clear hM
    by_cases hlt : M < N
    ·have hlt' : M < l.length := by rw [← HL.out]; exact hlt
     obtain ⟨g1, o1, rfl⟩ := kids_some HK.out (by omega)
     obtain ⟨ma', cap', c0, c1, c2, c3, c4, hE1⟩ := (kids_at l g1 o1 HK.out M hlt').isE
     have hBr : Below w.heap.size w wr := hBw.trans (hB.mono hBw.size)
     have q0 := stay hBr c0
     have q1 := stay hBr c1
     have q2 := stay hBr c2
     have q3 := stay hBr c3
     have q4 := stay hBr c4
     have hI := HIH.out l[M] (HN.out M hlt') (HLB.out _ (List.getElem_mem hlt')) wr _ _ (hE1.of hBr)
     unfold CopyP agX at hI
     clear hE1 c0 c1 c2 c3 c4
     go_wp2_with (first | (go_at_call 37; ((with_reducible refine hI.mono ?_); (rintro e w1 ⟨⟨ma2, cap2, rfl, hE2⟩, hb⟩); have ho1 := own_of hown hb)) | (at_builtin; refine wpList_append_lies _ rfl _ _ 41 rfl W.heap.size 47 i0 _ 5 64 Tryz.underlying41 hi hz0 hz1 hz2 rfl (by decide) _ M (kxs L) rfl (ho1.alloc _) ⟨w1.heap.size, 0, none⟩ 1 1 (kxs [⟨l[M].k, l[M].n, l[M].s, l[M].o, ma2, l[M].l.length, cap2, l[M]⟩]) rfl rfl ?cN ?c0 (by decide) ?c1 ?c2 ?c3 _ rfl ?_))
     case cN => exact news_ok (kxs [⟨l[M].k, l[M].n, l[M].s, l[M].o, ma2, l[M].l.length, cap2, l[M]⟩]) 47 w1
     case c0 => exact kxs_one _
     case c1 => unfold maxLen; omega
     case c2 => omega
     case c3 => have h1 := hB.size; have h2 := hb.size; simp; omega
     obtain ⟨wa, hwa⟩ : ∃ wa, w1.alloc (.cells #[.int .u8 (l[M].k : Int), .int .u64 (l[M].n : Int), .string (str l[M].s), .int .u8 (l[M].o : Int), .slice ma2 l[M].l.length cap2] 47) = wa := ⟨_, rfl⟩
     have hba : Below w1.heap.size w1 wa := by rw [← hwa]; exact aB (Below.refl _ _) _
     intro g cap' w5 hown5 hgrow hat hlt5
     rw [hwa] at hgrow
     have hsz : wa.heap.size = w1.heap.size + 1 := by rw [← hwa]; simp
     go_wp2
     have hall : ∀ K ∈ L ++ [⟨l[M].k, l[M].n, l[M].s, l[M].o, ma2, l[M].l.length, cap2, l[M]⟩], K.is (fun b => W.heap.size ≤ b ∧ b < wa.heap.size ∧ ¬ u3.ownBlock = some b) wa := fun K hK => by
      rcases List.mem_append.1 hK with h1 | h1
      ·exact (((hLi.out K h1).of hb).of hba).mono (fun b hb' => ⟨hb'.1, Nat.lt_of_lt_of_le (Nat.lt_of_lt_of_le hb'.2.1 hb.size) hba.size, hb'.2.2⟩)
      ·obtain rfl := List.mem_singleton.1 h1
       exact (hE2.of hba).mono (fun b hb' => ⟨Nat.le_trans hB.size hb'.1, Nat.lt_of_lt_of_le hb'.2 hba.size, fun e => by have := own_lt hown e; omega⟩)
     have hall5 := kx_append hgrow hat hsz _ hall (M + 1) cap'
     have hB5 : Below W.heap.size W w5 := (tr (tr hB hb) hba).grown hgrow (Nat.le_trans (Nat.le_trans hB.size hb.size) hba.size) (fun j hj => (own_lt hown hj).1)
     go_roundw
     case rel => exact ⟨L ++ [⟨l[M].k, l[M].n, l[M].s, l[M].o, ma2, l[M].l.length, cap2, l[M]⟩], M + 1, by simp [HM.out], by omega, by go_num, by rw [hz, kxs_app]; exact hown5, hB5, Lib.hid (by rw [List.map_append, hLx.out, List.take_succ_eq_append_getElem hlt']; rfl), Lib.hid hall5⟩
     case measure => simp [intOf]; omega
    ·obtain rfl : M = N := by omega
     obtain ⟨mk, ck, rfl, hkk⟩ := row_kids hown HM.out hLi.out
     rw [hLx.out, List.take_of_length_le (by rw [HL.out]; exact Nat.le_refl _)] at hkk
     have z0 := hr1'.1 0 (by simp)
     have y0 := hr1'.2.1 0
     have x0 := hr2'.1 0 (by simp)
     have v0 := hr2'.2.1 0
     have z1 := hr1'.1 1 (by simp)
     have y1 := hr1'.2.1 1
     have x1 := hr2'.1 1 (by simp)
     have v1 := hr2'.2.1 1
     have z2 := hr1'.1 2 (by simp)
     have y2 := hr1'.2.1 2
     have x2 := hr2'.1 2 (by simp)
     have v2 := hr2'.2.1 2
     have z3 := hr1'.1 3 (by simp)
     have y3 := hr1'.2.1 3
     have x3 := hr2'.1 3 (by simp)
     have v3 := hr2'.2.1 3
     have z4 := hr1'.1 4 (by simp)
     have y4 := hr1'.2.1 4
     have x4 := hr2'.1 4 (by simp)
     have v4 := hr2'.2.1 4
     go_wp2
     have hO4 := (Only.refl (fun j => j = w.heap.size ∨ j = w.heap.size + 1) wr).setCell (b := w.heap.size) (o := 4) (v := .slice mk M ck) (.inl rfl)
     have hrr := rowG_other (o := 4) (.slice mk M ck) hr2' (j := w.heap.size) (by omega)
     obtain ⟨w4, hw4⟩ : ∃ w4, wr.setCell ⟨w.heap.size, 4, none⟩ (.slice mk M ck) = w4 := ⟨_, rfl⟩
     rw [hw4] at hO4 hrr ⊢
     have hO5 := hO4.trans ((only_fiv (.int .u8 (k : Int)) (.int .u64 (n : Int)) (.string (str s)) (.int .u8 (o : Int)) (.slice mk M ck) w4 (w.heap.size + 1)).mono (fun j hj => .inr hj))
     have hr5 := rowG_fiv (.int .u8 (k : Int)) (.int .u64 (n : Int)) (.string (str s)) (.int .u8 (o : Int)) (.slice mk M ck) hrr
     have hB5 : Below w.heap.size w wr := tr hBw hB
     refine bodyPost_ret (res_xp rfl _ _ (w.heap.size + 1) _ _ _ _ _ rfl hr5) rfl ⟨⟨mk, ck, rfl, ?_⟩, ?_⟩
     ·have := IsE.mk (G := fun b => w.heap.size ≤ b ∧ b < _) (k := k) (n := n) (s := s) (cap := ck) ho (by rw [← HL.out]; exact hl) (hkk.mv (G' := fun b => w.heap.size ≤ b ∧ b < _) (fun b hb => ⟨by have := hb.1; omega, Nat.lt_of_lt_of_le hb.2 hO5.size⟩) (fun b o v hb hc => hO5.cell (by simp only; have := hb.1; omega) hc))
      rw [← HL.out] at this
      exact this
     ·exact hB5.trans (hO5.below (fun j hj => by omega) (by have := hB5.size; omega))
end
section
open Go Go.ChangeShapes Go.WideShapes Go.ChangeAt Go.RowKit
theorem grown_none {w : World} {r : Option Nat} : w.grownBy w r := ⟨rfl, rfl, rfl, Nat.le_refl _, fun _ _ _ => rfl⟩
theorem wpList_append_row {P : Program} (w : World) {ops : Array Oper} {rest : List Oper} {o : Oper} {a : Act} {Q : Exit → Act → World → Prop} (hgd : o.guard = none) (s x : Operand) (t : TypeId)
 (ho : o.op = .call { callee := .builtin .append, args := #[s, x], argTypes := #[t, t] })
 (base : Nat) (e : TypeId) (i : TypeInfo) (z : Value) (size bytes : Nat) (ht : P.underlying t = some (.slice e)) (hi : P.info? e = some i) (hz : i.zero = some z)
 (hsize : i.size = size) (hby : i.bytes = bytes) (hzs : z.cells.size = size) (hsz : 0 < size)
 (v : Value) (n : Nat) (xs : List Value) (hs : a.eval s = v) (hown : w.ownsRow base e size v n xs)
 (mx : Option Addr) (m c : Nat) (news : List Value) (hx : a.eval x = .slice mx m c) (hl : news.length = m * size) (hnews : 0 < m → ∃ ad, mx = some ad ∧ ∀ j u, news[j]? = some u → w.cell? (ad.add j) = some u) (h1 : ∀ u ∈ news, u.oneCell' = true)
 (h63 : n + m ≤ maxLen) (hbytes : (n + m) * bytes ≤ 140737488355328) (hbase : base ≤ w.heap.size)
 (h : ∀ (a' : Option Addr) (c' : Nat) w', w'.ownsRow base e size (.slice a' (n + m) c') (n + m) (xs ++ news) → w.grownBy w' v.ownBlock → (∀ j, (Value.slice a' (n + m) c').ownBlock = some j → v.ownBlock = some j ∨ j = w.heap.size) → wpList P ops Q rest (a.put o.dst (.slice a' (n + m) c')) w') : wpList P ops Q (o :: rest) a w := by
 by_cases hm : m = 0
 ·subst hm
  obtain rfl : news = [] := List.length_eq_zero_iff.1 (by omega)
  obtain ⟨b, cc, rfl⟩ := row_form hown
  refine wpList_append_zero hgd s x t ho base e i size ht hi _ n xs hs hown mx c hx ?_
  exact h b cc w (by rw [List.append_nil]; exact hown) grown_none (fun j hj => .inl hj)
 ·obtain ⟨ad, rfl, hc⟩ := hnews (by omega)
  refine wpList_append_lies w hgd s x t ho base e i z size bytes ht hi hz hsize hby hzs hsz v n xs hs hown ad m c news hx hl hc h1 (by omega) h63 hbytes hbase _ rfl ?_
  intro g cap w' h2 h3 h4 h5
  exact h _ _ w' h2 h3 (fun j hj => by
   simp only [Value.ownBlock, Option.some.injEq] at hj
   subst hj
   exact h4)
theorem strs_lie {G : Nat → Prop} {w : World} {l : List (List UInt8)} {ma : Option Addr} (h : StrsAt G w l ma) (hl : 0 < l.length) : ∃ ad, ma = some ad ∧ ∀ j u, (strC l)[j]? = some u → w.cell? (ad.add j) = some u := by
 obtain ⟨b, o, rfl, -, -⟩ := h 0 hl
 refine ⟨_, rfl, fun j u hu => ?_⟩
 unfold strC at hu
 rw [List.getElem?_map] at hu
 cases hx : l[j]? with
 | none => rw [hx] at hu; cases hu
 | some s =>
  rw [hx] at hu
  cases hu
  obtain ⟨hj, hs⟩ := List.getElem?_eq_some_iff.1 hx
  obtain ⟨b', o', e, -, hc⟩ := h j hj
  cases e
  rw [addp, hc, hs]
theorem strC_len (l : List (List UInt8)) : (strC l).length = l.length := by simp [strC]
theorem pmC_len (l : List Pm) : (pmC l).length = l.length * 4 := by
 induction l with
 | nil => rfl
 | cons p l ih => show (_ :: _ :: _ :: _ :: pmC l).length = _; simp only [List.length_cons, ih]; omega
theorem pms_lie {G : Nat → Prop} {w : World} {l : List Pm} {ma : Option Addr} (h : PmsAt G w l ma) (hl : 0 < l.length) : ∃ ad, ma = some ad ∧ ∀ j u, (pmC l)[j]? = some u → w.cell? (ad.add j) = some u := by
 obtain ⟨b, o, rfl, -, -⟩ := h 0 hl
 refine ⟨_, rfl, fun j u hu => ?_⟩
 have hj : j < l.length * 4 := by
  have := (List.getElem?_eq_some_iff.1 hu).1
  rwa [pmC_len] at this
 obtain ⟨i, r, rfl, hr⟩ : ∃ i r, j = i * 4 + r ∧ r < 4 := ⟨j / 4, j % 4, by omega, by omega⟩
 have hi : i < l.length := by omega
 obtain ⟨b', o', e, -, c0, c1, c2, c3⟩ := h i hi
 cases e
 obtain ⟨p0, p1, p2, p3⟩ := pmC_at l i hi
 rw [addp, ← Nat.add_assoc]
 obtain rfl | rfl | rfl | rfl : r = 0 ∨ r = 1 ∨ r = 2 ∨ r = 3 := by omega
 ·rw [Nat.add_zero, p0] at hu; cases hu; exact c0
 ·rw [p1] at hu; cases hu; exact c1
 ·rw [p2] at hu; cases hu; exact c2
 ·rw [p3] at hu; cases hu; exact c3
end
section
open Go.ChangeShapes Go.WideShapes Go.ChangeAt Go.RowKit
theorem smt_any (l : List (List UInt8)) (G1 G2 : Nat → Prop) (m1 m2 : Option Addr) (c1 c2 : Nat) (w : World) (h1 : StrsAt G1 w l m1) (h2 : StrsAt G2 w l m2) (hl : l.length ≤ 140737488355328) :
 Calls Tryz.prog 48 #[.slice m1 l.length c1, .slice m2 l.length c2] w fun r w' => r = .returned (.bool true) ∧ Below w.heap.size w w' := by
 have H1 := Lib.hid h1
 have H2 := Lib.hid h2
 obtain ⟨N, hN⟩ : ∃ N, N = l.length := ⟨_, rfl⟩
 rw [← hN] at hl ⊢
 have HL := Lib.hid hN
 clear h1 h2 hN
 go_enter Tryz.func48, Tryz.ntmps48
 go_wp2
 go_loopw [5] (fun i wr => ∃ j : Nat, j ≤ N ∧ i = .int .i64 (j : Int) ∧ Below w.heap.size w wr) (fun i _ => N - (intOf i).toNat)
 case atStart => exact ⟨0, Nat.zero_le _, rfl, Below.refl _ _⟩
 case round =>
  obtain ⟨j, hj, rfl, hB⟩ := hrel
  by_cases hlt : j < N
  ·have hlt' : j < l.length := by rw [← HL.out]; exact hlt
   obtain ⟨g1, o1, rfl, hG1, a0⟩ := H1.out j hlt'
   obtain ⟨g2, o2, rfl, hG2, b0⟩ := H2.out j hlt'
   have hl1 : g1 < wr.heap.size := Nat.lt_of_lt_of_le (World.block_lt_of_cell? w _ a0) hB.size
   have hl2 : g2 < wr.heap.size := Nat.lt_of_lt_of_le (World.block_lt_of_cell? w _ b0) hB.size
   have q0 := stay hB a0
   have r0 := stay hB b0
   clear a0 b0
   generalize l[j] = s at *
   go_wp2
   go_quiet (fail)
   go_wp2
   go_roundw
   case rel => exact ⟨j + 1, by omega, by go_num, bdN hB _⟩
   case measure => first | (simp [intOf]; done) | (simp [intOf]; omega)
  ·obtain rfl : j = N := by omega
   go_wp2
   go_ret
   exact ⟨rfl, hB⟩
theorem sme_any (l : List Xp) (G1 G2 : Nat → Prop) (m1 m2 : Option Addr) (c1 c2 : Nat) (w : World) (h1 : KidsAt G1 w l m1) (h2 : KidsAt G2 w l m2) (hl : l.length ≤ 140737488355328) :
 Calls Tryz.prog 25 #[.slice m1 l.length c1, .slice m2 l.length c2] w fun r w' => r = .returned (.bool true) ∧ Below w.heap.size w w' := by
 have H1 := Lib.hid h1
 have H2 := Lib.hid h2
 obtain ⟨N, hN⟩ : ∃ N, N = l.length := ⟨_, rfl⟩
 rw [← hN] at hl ⊢
 have HL := Lib.hid hN
 clear h1 h2 hN
 go_enter Tryz.func25, Tryz.ntmps25
 go_wp2
 go_loopw [5] (fun i wr => ∃ j : Nat, j ≤ N ∧ i = .int .i64 (j : Int) ∧ Below w.heap.size w wr) (fun i _ => N - (intOf i).toNat)
 case atStart => exact ⟨0, Nat.zero_le _, rfl, Below.refl _ _⟩
 case round =>
  obtain ⟨j, hj, rfl, hB⟩ := hrel
  by_cases hlt : j < N
  ·have hlt' : j < l.length := by rw [← HL.out]; exact hlt
   obtain ⟨g1, o1, rfl⟩ := kids_some H1.out (by omega)
   obtain ⟨g2, o2, rfl⟩ := kids_some H2.out (by omega)
   obtain ⟨ma', cap', c0, c1, c2, c3, c4, hE1⟩ := (kids_at l g1 o1 H1.out j hlt').isE
   obtain ⟨mb', cap2', d0, d1, d2, d3, d4, hE2⟩ := (kids_at l g2 o2 H2.out j hlt').isE
   have hl1 : g1 < wr.heap.size := Nat.lt_of_lt_of_le (World.block_lt_of_cell? w _ c0) hB.size
   have hl2 : g2 < wr.heap.size := Nat.lt_of_lt_of_le (World.block_lt_of_cell? w _ d0) hB.size
   have q0 := stay hB c0
   have q1 := stay hB c1
   have q2 := stay hB c2
   have q3 := stay hB c3
   have q4 := stay hB c4
   have r0 := stay hB d0
   have r1 := stay hB d1
   have r2 := stay hB d2
   have r3 := stay hB d3
   have r4 := stay hB d4
   have hI := fun w' (hb : Below wr.heap.size wr w') => same07 _ l[j] (Nat.le_refl _) w' _ _ _ _ ((hE1.of hB).of hb) ((hE2.of hB).of hb)
   clear hE1 hE2 c0 c1 c2 c3 c4 d0 d1 d2 d3 d4
   go_wp2
   refine region_below (by kernel_rfl) (by kernel_rfl) ?_
   repeat (first
    | go_big_quiet_skip
    | (refine BigFrame.wpQuiet_want (by kernel_rfl) fun K hK => ?_
       apply Exists.intro
       refine ⟨fun w' hb' => ?_, ?_⟩
       ·have s2 := stay hb' q0
        have s3 := stay hb' q1
        have s4 := stay hb' q2
        have s5 := stay hb' q3
        have s6 := stay hb' q4
        have s7 := stay hb' r0
        have s8 := stay hb' r1
        have s9 := stay hb' r2
        have s10 := stay hb' r3
        have s11 := stay hb' r4
        go_simp
        first
         | exact rfl
         | exact ⟨rfl, hb'⟩
         | (go_at_call 47
            exact (hI _ hb').mono fun e w'' ⟨he, hb2⟩ => ⟨he, below_trans' hb' (Nat.le_refl _) hb2⟩)
       go_simp
       refine hK _ ?_
       clear hK K))
   refine wpQuiet_nil ?_
   intro w2 hb2
   go_wp2
   go_roundw
   case rel => exact ⟨j + 1, by omega, by go_num, hB.trans (hb2.mono hB.size)⟩
   case measure => first | (simp [intOf]; done) | (simp [intOf]; omega)
  ·obtain rfl : j = N := by omega
   go_wp2
   go_ret
   exact ⟨rfl, hB⟩
theorem cpx_any (l : List Xp) (hlb : lbL l) (hl : l.length ≤ 2199023255488) (G : Nat → Prop) (ma : Option Addr) (cap : Nat) (w : World) (hk : KidsAt G w l ma) :
 Calls Tryz.prog 18 #[.slice ma l.length cap] w fun r w' => (∃ (mk : Option Addr) (ck : Nat), r = .returned (.slice mk l.length ck) ∧ KidsAt (fun b => w.heap.size ≤ b ∧ b < w'.heap.size) w' l mk) ∧ Below w.heap.size w w' := by
 obtain ⟨i0, hi, hz0, hz1, hz2⟩ := info_parts infoE
 have HK := Lib.hid hk
 have HLB := Lib.hid (lbL_iff.1 hlb)
 obtain ⟨N, hN⟩ : ∃ N, N = l.length := ⟨_, rfl⟩
 rw [← hN] at hl ⊢
 have HL := Lib.hid hN
 clear hk hlb hN
 go_enter Tryz.func18, Tryz.ntmps18
 go_wp2
 go_loopw [3, 4] (fun lv iv wr => ∃ (L : List Kx) (M : Nat), M = L.length ∧ M ≤ N ∧ iv = .int .i64 (M : Int) ∧ wr.ownsRow w.heap.size 47 5 lv M (kxs L) ∧ Below w.heap.size w wr ∧ Hid (L.map (·.x) = l.take M) ∧ Hid (∀ K ∈ L, K.is (fun b => w.heap.size ≤ b ∧ b < wr.heap.size ∧ ¬ lv.ownBlock = some b) wr)) (fun _ iv _ => N - (intOf iv).toNat)
 case atStart => exact ⟨[], 0, rfl, Nat.zero_le _, rfl, World.ownsRow_nil _ _ _ _, Below.refl _ _, Lib.hid (by simp), Lib.hid (fun K hK => by simp at hK)⟩
 case round =>
  obtain ⟨L, M, hM, hMN, rfl, hown, hB, hLx, hLi⟩ := hrel
  have HM := Lib.hid hM
  clear hM
  by_cases hlt : M < N
  ·have hlt' : M < l.length := by rw [← HL.out]; exact hlt
   obtain ⟨g1, o1, rfl⟩ := kids_some HK.out (by omega)
   obtain ⟨ma', cap', c0, c1, c2, c3, c4, hE1⟩ := (kids_at l g1 o1 HK.out M hlt').isE
   have q0 := stay hB c0
   have q1 := stay hB c1
   have q2 := stay hB c2
   have q3 := stay hB c3
   have q4 := stay hB c4
   have hI := copyX _ l[M] (Nat.le_refl _) (HLB.out _ (List.getElem_mem hlt')) wr _ _ (hE1.of hB)
   unfold CopyP agX at hI
   clear hE1 c0 c1 c2 c3 c4
   go_wp2_with (first | (go_at_call 37; ((with_reducible refine hI.mono ?_); (rintro e w1 ⟨⟨ma2, cap2, rfl, hE2⟩, hb⟩); have ho1 := own_of hown hb)) | (at_builtin; refine wpList_append_lies _ rfl _ _ 41 rfl w.heap.size 47 i0 _ 5 64 Tryz.underlying41 hi hz0 hz1 hz2 rfl (by decide) _ M (kxs L) rfl (ho1.alloc _) ⟨w1.heap.size, 0, none⟩ 1 1 (kxs [⟨l[M].k, l[M].n, l[M].s, l[M].o, ma2, l[M].l.length, cap2, l[M]⟩]) rfl rfl ?cN ?c0 (by decide) ?c1 ?c2 ?c3 _ rfl ?_))
   case cN => first | exact news_ok (kxs [⟨l[M].k, l[M].n, l[M].s, l[M].o, ma2, l[M].l.length, cap2, l[M]⟩]) 47 w1 | exact fun j u h => h
   case c0 => exact kxs_one _
   case c1 => unfold maxLen; omega
   case c2 => omega
   case c3 => have h1 := hB.size; have h2 := hb.size; first | omega | (simp; omega)
   obtain ⟨wa, hwa⟩ : ∃ wa, w1.alloc (.cells #[.int .u8 (l[M].k : Int), .int .u64 (l[M].n : Int), .string (str l[M].s), .int .u8 (l[M].o : Int), .slice ma2 l[M].l.length cap2] 47) = wa := ⟨_, rfl⟩
   have hba : Below w1.heap.size w1 wa := by rw [← hwa]; exact aB (Below.refl _ _) _
   intro g cap' w5 hown5 hgrow hat hlt5
   rw [hwa] at hgrow
   have hsz : wa.heap.size = w1.heap.size + 1 := by rw [← hwa]; simp
   go_wp2
   have hall : ∀ K ∈ L ++ [⟨l[M].k, l[M].n, l[M].s, l[M].o, ma2, l[M].l.length, cap2, l[M]⟩], K.is (fun b => w.heap.size ≤ b ∧ b < wa.heap.size ∧ ¬ u3.ownBlock = some b) wa := fun K hK => by
    rcases List.mem_append.1 hK with h1 | h1
    ·exact (((hLi.out K h1).of hb).of hba).mono (fun b hb' => ⟨hb'.1, Nat.lt_of_lt_of_le (Nat.lt_of_lt_of_le hb'.2.1 hb.size) hba.size, hb'.2.2⟩)
    ·obtain rfl := List.mem_singleton.1 h1
     exact (hE2.of hba).mono (fun b hb' => ⟨Nat.le_trans hB.size hb'.1, Nat.lt_of_lt_of_le hb'.2 hba.size, fun e => by have := own_lt hown e; omega⟩)
   have hall5 := kx_append hgrow hat hsz _ hall (M + 1) cap'
   have hB5 : Below w.heap.size w w5 := (tr (tr hB hb) hba).grown hgrow (Nat.le_trans (Nat.le_trans hB.size hb.size) hba.size) (fun j hj => (own_lt hown hj).1)
   go_roundw
   case rel => exact ⟨L ++ [⟨l[M].k, l[M].n, l[M].s, l[M].o, ma2, l[M].l.length, cap2, l[M]⟩], M + 1, by simp [HM.out], by omega, by go_num, by rw [kxs_app]; exact hown5, hB5, Lib.hid (by rw [List.map_append, hLx.out, List.take_succ_eq_append_getElem hlt']; rfl), Lib.hid hall5⟩
   case measure => simp [intOf]; omega
  ·obtain rfl : M = N := by omega
   obtain ⟨mk, ck, rfl, hkk⟩ := row_kids hown HM.out hLi.out
   rw [hLx.out, List.take_of_length_le (by rw [HL.out]; exact Nat.le_refl _)] at hkk
   go_wp2
   go_ret
   exact ⟨⟨mk, ck, rfl, hkk⟩, hB⟩
end
end Go.Proofs.YtfbjljcmmbdhkaaGreatDoor
