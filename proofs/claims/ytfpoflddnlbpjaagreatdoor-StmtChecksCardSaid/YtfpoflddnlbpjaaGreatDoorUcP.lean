/- Contract of the document's Copy of an expression, however large; of a row of them. -/
import Derived.Test.YtfpoflddnlbpjaaGreatDoorZmP
namespace Go.Proofs.YtfpoflddnlbpjaaGreatDoor
open Go.ChangeShapes Go.WideShapes Go.ChangeAt Go.RowKit
set_option linter.unusedVariables false
mutual
def Xp.lb : Xp → Prop
  | .mk _ _ _ _ l => l.length ≤ 2199023255488 ∧ lbL l
def lbL : List Xp → Prop
  | [] => True
  | x :: r => x.lb ∧ lbL r
end
theorem lbL_iff : ∀ {l : List Xp}, lbL l ↔ ∀ x ∈ l, x.lb
  | [] => by rw [lbL]; simp
  | x :: r => by rw [lbL, lbL_iff (l := r)]; simp
theorem lb_l {x : Xp} (h : x.lb) : x.l.length ≤ 2199023255488 ∧ lbL x.l := by cases x; rw [Xp.lb] at h; exact h
set_option maxRecDepth 100000 in
set_option maxHeartbeats 8000000 in
theorem copyX : ∀ (K : Nat) (e : Xp), e.nodes ≤ K → e.lb → ∀ (w : World) (v : Value) (G : Nat → Prop), IsE G w v e →
    Calls Tryz.prog 50 #[v] w (CopyP w e) := by
  obtain ⟨i0, hi, hz0, hz1, hz2⟩ := info_parts infoE
  intro K
  induction K with
  | zero => intro e h; have := nodes_pos e; omega
  | succ K ih =>
    intro e hn hlb w v G h1
    cases h1 with
    | @mk k n s o l ma cap ho hl hk =>
      have HIH := Lib.hid ih
      have hno : ∀ i (h : i < l.length), l[i].nodes ≤ K := fun i h => by
        have := nodesL_mem (List.getElem_mem h)
        rw [Xp.nodes] at hn
        omega
      have HN := Lib.hid hno
      have hll : l.length ≤ 2199023255488 := (lb_l hlb).1
      have HLB := Lib.hid (lbL_iff.1 (lb_l hlb).2)
      have HK := Lib.hid hk
      unfold CopyP agX
      simp only [Xp.k, Xp.n, Xp.s, Xp.o, Xp.l]
      obtain ⟨N, hN⟩ : ∃ N, N = l.length := ⟨_, rfl⟩
      rw [← hN] at hl hll ⊢
      have HL := Lib.hid hN
      clear ih hno hk hN hn hlb
      go_enter Tryz.func50, Tryz.ntmps50
      go_wp2
      obtain ⟨W, hW⟩ : ∃ W, (w.alloc (.cells #[.int .u8 (k : Int), .int .u64 (n : Int), .string (str s), .int .u8 (o : Int), .slice ma N cap] 52)).alloc (.cells #[.int .u8 0, .int .u64 0, .string ⟨#[]⟩, .int .u8 0, .slice none 0 0] 52) = W := ⟨_, rfl⟩
      have hBw : Below w.heap.size w W := by rw [← hW]; exact aB (aB (Below.refl _ _) _) _
      have hr1 : rowG #[.int .u8 (k : Int), .int .u64 (n : Int), .string (str s), .int .u8 (o : Int), .slice ma N cap] W w.heap.size := by rw [← hW]; exact rowG_alloc (rowG_at _ _ _ _ rfl) _
      have hr2 : rowG #[.int .u8 0, .int .u64 0, .string ⟨#[]⟩, .int .u8 0, .slice none 0 0] W (w.heap.size + 1) := by rw [← hW]; exact rowG_at _ _ _ _ (by simp)
      have hz : W.heap.size = w.heap.size + 2 := by rw [← hW]; simp
      rw [hW]
      clear hW
      go_loopw [3, 4] (fun lv iv wr => ∃ (L : List Kx) (M : Nat), M = L.length ∧ M ≤ N ∧ iv = .int .i64 (M : Int) ∧ wr.ownsRow W.heap.size 52 5 lv M (kxs L) ∧ Below W.heap.size W wr ∧ Hid (L.map (·.x) = l.take M) ∧ Hid (∀ K ∈ L, K.is (fun b => W.heap.size ≤ b ∧ b < wr.heap.size ∧ ¬ lv.ownBlock = some b) wr)) (fun _ iv _ => N - (intOf iv).toNat)
      case atStart => exact ⟨[], 0, rfl, Nat.zero_le _, rfl, World.ownsRow_nil _ _ _ _, Below.refl _ _, Lib.hid (by simp), Lib.hid (fun K hK => by simp at hK)⟩
      case round =>
        obtain ⟨L, M, hM, hMN, rfl, hown, hB, hLx, hLi⟩ := hrel
        have hr1' := rowG_b hr1 hB
        have hr2' := rowG_b hr2 hB
        have a4 := hr1'.1 4 (by simp)
        have hl1 := hr1'.2.2
        have hl2 := hr2'.2.2
        have HM := Lib.hid hM
        clear hM
        by_cases hlt : M < N
        · have hlt' : M < l.length := by rw [← HL.out]; exact hlt
          obtain ⟨g1, o1, rfl⟩ := kids_some HK.out (by omega)
          obtain ⟨ma', cap', c0, c1, c2, c3, c4, hE1⟩ := (kids_at l g1 o1 HK.out M hlt').isE
          have hBr : Below w.heap.size w wr := hBw.trans (hB.mono hBw.size)
          have q0 := stay hBr c0
          have q1 := stay hBr c1
          have q2 := stay hBr c2
          have q3 := stay hBr c3
          have q4 := stay hBr c4
          have hI := HIH.out l[M] (HN.out M hlt') (HLB.out _ (List.getElem_mem hlt')) wr _ _ (hE1.of hBr)
          unfold CopyP agX at hI
          clear hE1 c0 c1 c2 c3 c4
          go_wp2_with (first | (go_at_call 50; ((with_reducible refine hI.mono ?_); (rintro e w1 ⟨⟨ma2, cap2, rfl, hE2⟩, hb⟩); have ho1 := own_of hown hb)) | (at_builtin; refine wpList_append_lies _ rfl _ _ 40 rfl W.heap.size 52 i0 _ 5 64 Tryz.underlying40 hi hz0 hz1 hz2 rfl (by decide) _ M (kxs L) rfl (ho1.alloc _) ⟨w1.heap.size, 0, none⟩ 1 1 (kxs [⟨l[M].k, l[M].n, l[M].s, l[M].o, ma2, l[M].l.length, cap2, l[M]⟩]) rfl rfl ?cN ?c0 (by decide) ?c1 ?c2 ?c3 _ rfl ?_))
          case cN => exact news_ok (kxs [⟨l[M].k, l[M].n, l[M].s, l[M].o, ma2, l[M].l.length, cap2, l[M]⟩]) 52 w1
          case c0 => exact kxs_one _
          case c1 => unfold maxLen; omega
          case c2 => omega
          case c3 => have h1 := hB.size; have h2 := hb.size; simp; omega
          obtain ⟨wa, hwa⟩ : ∃ wa, w1.alloc (.cells #[.int .u8 (l[M].k : Int), .int .u64 (l[M].n : Int), .string (str l[M].s), .int .u8 (l[M].o : Int), .slice ma2 l[M].l.length cap2] 52) = wa := ⟨_, rfl⟩
          have hba : Below w1.heap.size w1 wa := by rw [← hwa]; exact aB (Below.refl _ _) _
          intro g cap' w5 hown5 hgrow hat hlt5
          rw [hwa] at hgrow
          have hsz : wa.heap.size = w1.heap.size + 1 := by rw [← hwa]; simp
          go_wp2
          have hall : ∀ K ∈ L ++ [⟨l[M].k, l[M].n, l[M].s, l[M].o, ma2, l[M].l.length, cap2, l[M]⟩], K.is (fun b => W.heap.size ≤ b ∧ b < wa.heap.size ∧ ¬ u3.ownBlock = some b) wa := fun K hK => by
            rcases List.mem_append.1 hK with h1 | h1
            · exact (((hLi.out K h1).of hb).of hba).mono (fun b hb' => ⟨hb'.1, Nat.lt_of_lt_of_le (Nat.lt_of_lt_of_le hb'.2.1 hb.size) hba.size, hb'.2.2⟩)
            · obtain rfl := List.mem_singleton.1 h1
              exact (hE2.of hba).mono (fun b hb' => ⟨Nat.le_trans hB.size hb'.1, Nat.lt_of_lt_of_le hb'.2 hba.size, fun e => by have := own_lt hown e; omega⟩)
          have hall5 := kx_append hgrow hat hsz _ hall (M + 1) cap'
          have hB5 : Below W.heap.size W w5 := (tr (tr hB hb) hba).grown hgrow (Nat.le_trans (Nat.le_trans hB.size hb.size) hba.size) (fun j hj => (own_lt hown hj).1)
          go_roundw
          case rel => exact ⟨L ++ [⟨l[M].k, l[M].n, l[M].s, l[M].o, ma2, l[M].l.length, cap2, l[M]⟩], M + 1, by simp [HM.out], by omega, by go_num, by rw [hz, kxs_app]; exact hown5, hB5, Lib.hid (by rw [List.map_append, hLx.out, List.take_succ_eq_append_getElem hlt']; rfl), Lib.hid hall5⟩
          case measure => simp [intOf]; omega
        · obtain rfl : M = N := by omega
          obtain ⟨mk, ck, rfl, hkk⟩ := row_kids hown HM.out hLi.out
          rw [hLx.out, List.take_of_length_le (by rw [HL.out]; exact Nat.le_refl _)] at hkk
          have z0 := hr1'.1 0 (by simp)
          have y0 := hr1'.2.1 0
          have x0 := hr2'.1 0 (by simp)
          have v0 := hr2'.2.1 0
          have z1 := hr1'.1 1 (by simp)
          have y1 := hr1'.2.1 1
          have x1 := hr2'.1 1 (by simp)
          have v1 := hr2'.2.1 1
          have z2 := hr1'.1 2 (by simp)
          have y2 := hr1'.2.1 2
          have x2 := hr2'.1 2 (by simp)
          have v2 := hr2'.2.1 2
          have z3 := hr1'.1 3 (by simp)
          have y3 := hr1'.2.1 3
          have x3 := hr2'.1 3 (by simp)
          have v3 := hr2'.2.1 3
          have z4 := hr1'.1 4 (by simp)
          have y4 := hr1'.2.1 4
          have x4 := hr2'.1 4 (by simp)
          have v4 := hr2'.2.1 4
          go_wp2
          have hO4 := (Only.refl (fun j => j = w.heap.size ∨ j = w.heap.size + 1) wr).setCell (b := w.heap.size) (o := 4) (v := .slice mk M ck) (.inl rfl)
          have hrr := rowG_other (o := 4) (.slice mk M ck) hr2' (j := w.heap.size) (by omega)
          obtain ⟨w4, hw4⟩ : ∃ w4, wr.setCell ⟨w.heap.size, 4, none⟩ (.slice mk M ck) = w4 := ⟨_, rfl⟩
          rw [hw4] at hO4 hrr ⊢
          have hO5 := hO4.trans ((only_fiv (.int .u8 (k : Int)) (.int .u64 (n : Int)) (.string (str s)) (.int .u8 (o : Int)) (.slice mk M ck) w4 (w.heap.size + 1)).mono (fun j hj => .inr hj))
          have hr5 := rowG_fiv (.int .u8 (k : Int)) (.int .u64 (n : Int)) (.string (str s)) (.int .u8 (o : Int)) (.slice mk M ck) hrr
          have hB5 : Below w.heap.size w wr := tr hBw hB
          refine bodyPost_ret (res_xp rfl _ _ (w.heap.size + 1) _ _ _ _ _ rfl hr5) rfl ⟨⟨mk, ck, rfl, ?_⟩, ?_⟩
          · have := IsE.mk (G := fun b => w.heap.size ≤ b ∧ b < _) (k := k) (n := n) (s := s) (cap := ck) ho (by rw [← HL.out]; exact hl) (hkk.mv (G' := fun b => w.heap.size ≤ b ∧ b < _) (fun b hb => ⟨by have := hb.1; omega, Nat.lt_of_lt_of_le hb.2 hO5.size⟩) (fun b o v hb hc => hO5.cell (by simp only; have := hb.1; omega) hc))
            rw [← HL.out] at this
            exact this
          · exact hB5.trans (hO5.below (fun j hj => by omega) (by have := hB5.size; omega))
end Go.Proofs.YtfpoflddnlbpjaaGreatDoor

/- Contract of copyExprs. -/
namespace Go.Proofs.YtfpoflddnlbpjaaGreatDoor
open Go.ChangeShapes Go.WideShapes Go.ChangeAt Go.RowKit
set_option linter.unusedVariables false
set_option maxRecDepth 100000 in
set_option maxHeartbeats 8000000 in
theorem cpx_any (l : List Xp) (hlb : lbL l) (hl : l.length ≤ 2199023255488) (G : Nat → Prop) (ma : Option Addr) (cap : Nat) (w : World) (hk : KidsAt G w l ma) :
    Calls Tryz.prog 25 #[.slice ma l.length cap] w fun r w' => (∃ (mk : Option Addr) (ck : Nat), r = .returned (.slice mk l.length ck) ∧ KidsAt (fun b => w.heap.size ≤ b ∧ b < w'.heap.size) w' l mk) ∧ Below w.heap.size w w' := by
  obtain ⟨i0, hi, hz0, hz1, hz2⟩ := info_parts infoE
  have HK := Lib.hid hk
  have HLB := Lib.hid (lbL_iff.1 hlb)
  obtain ⟨N, hN⟩ : ∃ N, N = l.length := ⟨_, rfl⟩
  rw [← hN] at hl ⊢
  have HL := Lib.hid hN
  clear hk hlb hN
  go_enter Tryz.func25, Tryz.ntmps25
  go_wp2
  go_loopw [3, 4] (fun lv iv wr => ∃ (L : List Kx) (M : Nat), M = L.length ∧ M ≤ N ∧ iv = .int .i64 (M : Int) ∧ wr.ownsRow w.heap.size 52 5 lv M (kxs L) ∧ Below w.heap.size w wr ∧ Hid (L.map (·.x) = l.take M) ∧ Hid (∀ K ∈ L, K.is (fun b => w.heap.size ≤ b ∧ b < wr.heap.size ∧ ¬ lv.ownBlock = some b) wr)) (fun _ iv _ => N - (intOf iv).toNat)
  case atStart => exact ⟨[], 0, rfl, Nat.zero_le _, rfl, World.ownsRow_nil _ _ _ _, Below.refl _ _, Lib.hid (by simp), Lib.hid (fun K hK => by simp at hK)⟩
  case round =>
    obtain ⟨L, M, hM, hMN, rfl, hown, hB, hLx, hLi⟩ := hrel
    have HM := Lib.hid hM
    clear hM
    by_cases hlt : M < N
    · have hlt' : M < l.length := by rw [← HL.out]; exact hlt
      obtain ⟨g1, o1, rfl⟩ := kids_some HK.out (by omega)
      obtain ⟨ma', cap', c0, c1, c2, c3, c4, hE1⟩ := (kids_at l g1 o1 HK.out M hlt').isE
      have q0 := stay hB c0
      have q1 := stay hB c1
      have q2 := stay hB c2
      have q3 := stay hB c3
      have q4 := stay hB c4
      have hI := copyX _ l[M] (Nat.le_refl _) (HLB.out _ (List.getElem_mem hlt')) wr _ _ (hE1.of hB)
      unfold CopyP agX at hI
      clear hE1 c0 c1 c2 c3 c4
      go_wp2_with (first | (go_at_call 50; ((with_reducible refine hI.mono ?_); (rintro e w1 ⟨⟨ma2, cap2, rfl, hE2⟩, hb⟩); have ho1 := own_of hown hb)) | (at_builtin; refine wpList_append_lies _ rfl _ _ 40 rfl w.heap.size 52 i0 _ 5 64 Tryz.underlying40 hi hz0 hz1 hz2 rfl (by decide) _ M (kxs L) rfl (ho1.alloc _) ⟨w1.heap.size, 0, none⟩ 1 1 (kxs [⟨l[M].k, l[M].n, l[M].s, l[M].o, ma2, l[M].l.length, cap2, l[M]⟩]) rfl rfl ?cN ?c0 (by decide) ?c1 ?c2 ?c3 _ rfl ?_))
      case cN => first | exact news_ok (kxs [⟨l[M].k, l[M].n, l[M].s, l[M].o, ma2, l[M].l.length, cap2, l[M]⟩]) 52 w1 | exact fun j u h => h
      case c0 => exact kxs_one _
      case c1 => unfold maxLen; omega
      case c2 => omega
      case c3 => have h1 := hB.size; have h2 := hb.size; first | omega | (simp; omega)
      obtain ⟨wa, hwa⟩ : ∃ wa, w1.alloc (.cells #[.int .u8 (l[M].k : Int), .int .u64 (l[M].n : Int), .string (str l[M].s), .int .u8 (l[M].o : Int), .slice ma2 l[M].l.length cap2] 52) = wa := ⟨_, rfl⟩
      have hba : Below w1.heap.size w1 wa := by rw [← hwa]; exact aB (Below.refl _ _) _
      intro g cap' w5 hown5 hgrow hat hlt5
      rw [hwa] at hgrow
      have hsz : wa.heap.size = w1.heap.size + 1 := by rw [← hwa]; simp
      go_wp2
      have hall : ∀ K ∈ L ++ [⟨l[M].k, l[M].n, l[M].s, l[M].o, ma2, l[M].l.length, cap2, l[M]⟩], K.is (fun b => w.heap.size ≤ b ∧ b < wa.heap.size ∧ ¬ u3.ownBlock = some b) wa := fun K hK => by
        rcases List.mem_append.1 hK with h1 | h1
        · exact (((hLi.out K h1).of hb).of hba).mono (fun b hb' => ⟨hb'.1, Nat.lt_of_lt_of_le (Nat.lt_of_lt_of_le hb'.2.1 hb.size) hba.size, hb'.2.2⟩)
        · obtain rfl := List.mem_singleton.1 h1
          exact (hE2.of hba).mono (fun b hb' => ⟨Nat.le_trans hB.size hb'.1, Nat.lt_of_lt_of_le hb'.2 hba.size, fun e => by have := own_lt hown e; omega⟩)
      have hall5 := kx_append hgrow hat hsz _ hall (M + 1) cap'
      have hB5 : Below w.heap.size w w5 := (tr (tr hB hb) hba).grown hgrow (Nat.le_trans (Nat.le_trans hB.size hb.size) hba.size) (fun j hj => (own_lt hown hj).1)
      go_roundw
      case rel => exact ⟨L ++ [⟨l[M].k, l[M].n, l[M].s, l[M].o, ma2, l[M].l.length, cap2, l[M]⟩], M + 1, by simp [HM.out], by omega, by go_num, by rw [kxs_app]; exact hown5, hB5, Lib.hid (by rw [List.map_append, hLx.out, List.take_succ_eq_append_getElem hlt']; rfl), Lib.hid hall5⟩
      case measure => simp [intOf]; omega
    · obtain rfl : M = N := by omega
      obtain ⟨mk, ck, rfl, hkk⟩ := row_kids hown HM.out hLi.out
      rw [hLx.out, List.take_of_length_le (by rw [HL.out]; exact Nat.le_refl _)] at hkk
      go_wp2
      go_ret
      exact ⟨⟨mk, ck, rfl, hkk⟩, hB⟩
end Go.Proofs.YtfpoflddnlbpjaaGreatDoor
