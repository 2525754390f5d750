/- Contract of the document's own answer of layer 6: Cut. -/
import Derived.Test.YtmccnoimnieldaaGreatDoorVx
namespace Go.Proofs.YtmccnoimnieldaaGreatDoor
open Go.ChangeShapes Go.WideShapes Go.ChangeAt Go.RowKit
set_option linter.unusedVariables false
theorem rone_any (s : ByteArray) (a : Nat) (ha : a < s.size) (hs : s.size ≤ 16384) (w : World) :
    Calls Tryz.prog 14 #[.string s, .int .i64 (a : Int)] w fun e w' => e = .returned (oneV a (tok (s.data.toList.drop a))) ∧ Below w.heap.size w w' := by
  cases hL : isL (s[a]'ha)
  · cases hD : isD (s[a]'ha)
    · exact one_sgn s a ha hs hL hD w
    · exact one_dig s a ha hs hD w
  · exact one_let s a ha hs hL w
theorem tok_er_val {l : List UInt8} {e : Nat} (h : tok l = .er e) : e = 5 ∨ e = 7 := by
  cases l with
  | nil => cases h; exact Or.inr rfl
  | cons c r =>
    rw [tok] at h
    split at h
    · unfold nameP at h
      split at h
      · cases h; exact Or.inl rfl
      · cases h
    · split at h
      · unfold numP at h
        split at h
        · split at h
          · cases h
          · cases h; exact Or.inr rfl
        · cases h; exact Or.inr rfl
      · unfold signP at h
        split at h
        · cases h; exact Or.inr rfl
        · cases h
theorem span_no {s : ByteArray} {a : Nat} (h : a < s.size) (hb : isB (s[a]'h) = false) : spanL isB s a = 0 := by
  unfold spanL; rw [drop_cons s a h, List.takeWhile_cons, hb]; rfl
theorem lexB_er (s : ByteArray) (f a e : Nat) (h : a < s.size) (hb : isB (s[a]'h) = false) (ht : tok (s.data.toList.drop a) = .er e) : lexN (f + 1) (s.data.toList.drop a) a = .er e a := by
  have h0 := span_no h hb
  have := lexA_er s f a e (by rw [h0]; exact h) (by rw [h0]; exact ht)
  rw [h0] at this; exact this
theorem lexB_ok (s : ByteArray) (f a : Nat) (t : Tk) (m : List UInt8) (h : a < s.size) (hb : isB (s[a]'h) = false) (ht : tok (s.data.toList.drop a) = .ok t m) :
    lexN (f + 1) (s.data.toList.drop a) a = (lexN f (s.data.toList.drop (a + m.length)) (a + m.length)).pre (t, a) := by
  have h0 := span_no h hb
  have := lexA_ok s f a t m (by rw [h0]; exact h) (by rw [h0]; exact ht)
  rw [h0] at this; exact this
theorem set2 {W : World} {b : Nat} {u v : Value} (r0 : W.cell? ⟨b, 0, none⟩ = some u) (r1 : W.cell? ⟨b, 1, none⟩ = some v) (x y : Value) :
    ((W.setCell ⟨b, 0, none⟩ x).setCell ⟨b, 1, none⟩ y).cell? ⟨b, 0, none⟩ = some x ∧ ((W.setCell ⟨b, 0, none⟩ x).setCell ⟨b, 1, none⟩ y).cell? ⟨b, 1, none⟩ = some y :=
  ⟨by rw [World.cell?_setCell_other _ _ _ _ (by simp)]; exact World.cell?_setCell_same _ _ _ r0, World.cell?_setCell_same _ _ _ (by rw [World.cell?_setCell_other _ _ _ _ (by simp)]; exact r1)⟩
def RcutP (s : ByteArray) (w : World) (R : Lx) (e : Ending) (w' : World) : Prop := (match R with
      | .er e0 a => e = .returned (.tuple #[.slice none 0 0, .agg #[.int .i64 (a : Int), .int .i64 (e0 : Int)]])
      | .ok T => ∃ v, e = .returned (.tuple #[v, .agg #[.int .i64 0, .int .i64 0]]) ∧ TokV w' w.heap.size v T) ∧ Below w.heap.size w w'
set_option maxRecDepth 100000 in
theorem rcut_long (s : ByteArray) (w : World) (h : 16384 < s.size) : Calls Tryz.prog 6 #[.string s] w (RcutP s w (.er 5 0)) := by
  go_enter Tryz.func6, Tryz.ntmps6
  go_wp2
  exact bodyPost_ret (v := .tuple #[.slice none 0 0, .agg #[.int .i64 0, .int .i64 5]]) (by simp [results, Tryz.results6, go_sem]) rfl ⟨rfl, (Below.refl _ _).alloc (Nat.le_refl _) _⟩
set_option maxRecDepth 100000 in
set_option maxHeartbeats 8000000 in
theorem rcut_any (s : ByteArray) (R : Lx) (w : World) (hs : s.size ≤ 16384) (hR : lexN (s.size + 1) s.data.toList 0 = R) :
    Calls Tryz.prog 6 #[.string s] w (RcutP s w R) := by
  have HR := Lib.hid hR
  clear hR
  obtain ⟨i0, hi, hz0, hz1, hz2⟩ := info_parts infoT
  obtain ⟨wA, hwA⟩ : ∃ wA, w.alloc (.cells #[.int .i64 0, .int .i64 0] 30) = wA := ⟨_, rfl⟩
  have hBA : Below w.heap.size w wA := by rw [← hwA]; exact (Below.refl _ _).alloc (Nat.le_refl _) _
  have hzA : wA.heap.size = w.heap.size + 1 := by rw [← hwA]; simp
  have a0 : wA.cell? ⟨w.heap.size, 0, none⟩ = some (.int .i64 0) := by rw [← hwA]; exact new_cell _ _ _ 0
  have a1 : wA.cell? ⟨w.heap.size, 1, none⟩ = some (.int .i64 0) := by rw [← hwA]; exact new_cell _ _ _ 1
  have af : ∀ o, wA.frozen? ⟨w.heap.size, o, none⟩ = false := fun o => by rw [← hwA]; simp
  have HZA := Lib.hid hzA
  have HAF := Lib.hid af
  clear hzA af
  go_enter Tryz.func6, Tryz.ntmps6
  go_wp2
  clear hwA
  go_loopw [4, 5] (fun r i wr => ∃ (a : Nat) (T : List (Tk × Nat)), a ≤ s.size ∧ i = .int .i64 a ∧ wr.ownsRow wA.heap.size 39 4 r T.length (cellsT T) ∧ Below wA.heap.size wA wr ∧ T.length ≤ a ∧ Hid (∃ f, s.size - a < f ∧ Lx.app T (lexN f (s.data.toList.drop a) a) = R)) (fun _ i _ => s.size - (intOf i).toNat)
  case atStart => exact ⟨0, [], Nat.zero_le _, rfl, World.ownsRow_nil _ _ _ _, Below.refl _ _, Nat.zero_le _, Lib.hid ⟨s.size + 1, by omega, HR.out⟩⟩
  case round =>
    obtain ⟨a, T, ha, rfl, ho, hB, hn, hx⟩ := hrel
    have hlA : w.heap.size < wA.heap.size := by have := HZA.out; omega
    have hlr : w.heap.size < wr.heap.size := Nat.lt_of_lt_of_le hlA hB.size
    by_cases hlt : a < s.size
    · by_cases h32 : (s[a]'hlt).toNat = 32 ∨ (s[a]'hlt).toNat = 10
      · have hbB : isB (s[a]'hlt) = true := by unfold isB; simpa using h32
        have HN := Lib.hid (show ∃ f, s.size - (a + 1) < f ∧ Lx.app T (lexN f (s.data.toList.drop (a + 1)) (a + 1)) = R by
          obtain ⟨f, hf, e⟩ := hx.out
          obtain ⟨f, rfl⟩ : ∃ g, f = g + 1 := ⟨f - 1, by omega⟩
          exact ⟨f + 1, by omega, by rw [← e, drop_cons s a hlt, lex_blank hbB]⟩)
        clear hbB hx
        rcases h32 with h32 | h32
        · have h1 : ((s[a]'hlt).toNat : Int) = 32 := by omega
          clear h32
          go_wp2
          go_roundw
          case rel => exact ⟨a + 1, T, by omega, by go_num, ho, hB, by omega, HN⟩
          case measure => simp [intOf]; omega
        · have h1 : ((s[a]'hlt).toNat : Int) = 10 := by omega
          clear h32
          go_wp2
          go_roundw
          case rel => exact ⟨a + 1, T, by omega, by go_num, ho, hB, by omega, HN⟩
          case measure => simp [intOf]; omega
      · have hbB : isB (s[a]'hlt) = false := by unfold isB; simpa using h32
        have n1 : (((s[a]'hlt).toNat : Int) == 32) = false := by simp only [beq_eq_false_iff_ne]; omega
        have n2 : (((s[a]'hlt).toNat : Int) == 10) = false := by simp only [beq_eq_false_iff_ne]; omega
        have hO := rone_any s a hlt hs wr
        clear h32
        cases htk : tok (s.data.toList.drop a) with
        | er e0 =>
          rw [htk] at hO
          have hO : Calls Tryz.prog 14 #[.string s, .int .i64 (a : Int)] wr fun e w' => e = .returned (.tuple #[.agg #[.int .u8 0, .string ⟨#[]⟩, .int .u64 0, .int .i64 0], .int .i64 0, .int .i64 (e0 : Int)]) ∧ Below wr.heap.size wr w' := hO
          have HRe := Lib.hid (show R = .er e0 a by
            obtain ⟨f, hf, e⟩ := hx.out
            obtain ⟨f, rfl⟩ : ∃ g, f = g + 1 := ⟨f - 1, by omega⟩
            rw [← e, lexB_er s f a e0 hlt hbB htk, app_er])
          have hev := tok_er_val htk
          clear htk hx hbB
          rcases hev with rfl | rfl
          · go_wp2_with (go_at_call 14; ((with_reducible refine hO.mono ?_); (rintro e w5 ⟨rfl, hb5⟩); have r0 := stay hb5 (stay hB a0); have r1 := stay hb5 (stay hB a1); have rf : w5.frozen? ⟨w.heap.size, 0, none⟩ = false := ((hb5.frozen hlr).trans ((hB.frozen hlA).trans (HAF.out 0))); have rf1 : w5.frozen? ⟨w.heap.size, 1, none⟩ = false := ((hb5.frozen hlr).trans ((hB.frozen hlA).trans (HAF.out 1))); have hl5 : w.heap.size < w5.heap.size := (Nat.lt_of_lt_of_le hlr hb5.size)))
            obtain ⟨q0, q1⟩ := set2 r0 r1 (.int .i64 (a : Int)) (.int .i64 5)
            refine bodyPost_ret (v := .tuple #[.slice none 0 0, .agg #[.int .i64 (a : Int), .int .i64 5]]) (by simp [results, Tryz.results6, go_sem, q0, q1, hl5]) rfl ?_
            rw [HRe.out]
            refine ⟨rfl, ?_⟩
            have hB5 : Below w.heap.size w w5 := tr (tr hBA hB) hb5
            exact aB ((hB5.setCell (by simp) _).setCell (by simp) _) _
          · go_wp2_with (go_at_call 14; ((with_reducible refine hO.mono ?_); (rintro e w5 ⟨rfl, hb5⟩); have r0 := stay hb5 (stay hB a0); have r1 := stay hb5 (stay hB a1); have rf : w5.frozen? ⟨w.heap.size, 0, none⟩ = false := ((hb5.frozen hlr).trans ((hB.frozen hlA).trans (HAF.out 0))); have rf1 : w5.frozen? ⟨w.heap.size, 1, none⟩ = false := ((hb5.frozen hlr).trans ((hB.frozen hlA).trans (HAF.out 1))); have hl5 : w.heap.size < w5.heap.size := (Nat.lt_of_lt_of_le hlr hb5.size)))
            obtain ⟨q0, q1⟩ := set2 r0 r1 (.int .i64 (a : Int)) (.int .i64 7)
            refine bodyPost_ret (v := .tuple #[.slice none 0 0, .agg #[.int .i64 (a : Int), .int .i64 7]]) (by simp [results, Tryz.results6, go_sem, q0, q1, hl5]) rfl ?_
            rw [HRe.out]
            refine ⟨rfl, ?_⟩
            have hB5 : Below w.heap.size w w5 := tr (tr hBA hB) hb5
            exact aB ((hB5.setCell (by simp) _).setCell (by simp) _) _
        | ok t m =>
          rw [htk] at hO
          have hO : Calls Tryz.prog 14 #[.string s, .int .i64 (a : Int)] wr fun e w' => e = .returned (.tuple #[.agg #[.int .u8 (t.k : Int), .string (str t.t), .int .u64 (t.n : Int), .int .i64 (a : Int)], .int .i64 (m.length : Int), .int .i64 0]) ∧ Below wr.heap.size wr w' := hO
          have htl := tok_len htk
          have hsl : s.data.toList.length = s.size := by simp
          rw [List.length_drop, hsl] at htl
          obtain ⟨hm1, hm2⟩ := htl
          have HN := Lib.hid (show ∃ f, s.size - (a + m.length) < f ∧ Lx.app (T ++ [(t, a)]) (lexN f (s.data.toList.drop (a + m.length)) (a + m.length)) = R by
            obtain ⟨f, hf, e⟩ := hx.out
            obtain ⟨f, rfl⟩ : ∃ g, f = g + 1 := ⟨f - 1, by omega⟩
            exact ⟨f, by omega, by rw [← e, lexB_ok s f a t m hlt hbB htk, app_pre]⟩)
          clear htk hx hbB hsl
          go_wp2_with (first | (go_at_call 14; ((with_reducible refine hO.mono ?_); (rintro e w5 ⟨rfl, hb5⟩); have ho5 := own_of ho hb5; have hB5 := tr hB hb5; have hl5 : wA.heap.size ≤ w5.heap.size := hB5.size)) | (at_builtin; refine wpList_append_own _ rfl _ _ 23 rfl wA.heap.size 39 i0 _ 4 40 Tryz.underlying23 hi hz0 hz1 (by assumption) rfl (by decide) _ T.length (cellsT T) rfl ((ho5.alloc _).alloc _) ⟨w5.heap.size + 1, 0, none⟩ 1 1 [.int .u8 (t.k : Int), .string (str t.t), .int .u64 (t.n : Int), .int .i64 (a : Int)] rfl rfl ?cN ?c0 ?c1 ?c2 ?c3 ?_))
          case cN =>
            have hN2 := news_ok [.int .u8 (t.k : Int), .string (str t.t), .int .u64 (t.n : Int), .int .i64 (a : Int)] 39 (w5.alloc (.cells #[.int .u8 (t.k : Int), .string (str t.t), .int .u64 (t.n : Int), .int .i64 (a : Int)] 39))
            rw [World.size_alloc] at hN2
            exact hN2
          case c0 => intro u hu; simp at hu; rcases hu with rfl | rfl | rfl | rfl <;> rfl
          case c1 => unfold maxLen; omega
          case c2 => omega
          case c3 => simp; omega
          intro v3 w6 ho6 hgr hnil
          have hA0 : Below wA.heap.size wA ((w5.alloc (.cells #[.int .u8 (t.k : Int), .string (str t.t), .int .u64 (t.n : Int), .int .i64 (a : Int)] 39)).alloc (.cells #[.int .u8 (t.k : Int), .string (str t.t), .int .u64 (t.n : Int), .int .i64 (a : Int)] 39)) := aB (aB hB5 _) _
          have hB6 : Below wA.heap.size wA w6 := hA0.grown hgr hA0.size (fun j hj => (ho5.lt j hj).1)
          have ho7 : w6.ownsRow wA.heap.size 39 4 v3 (T ++ [(t, a)]).length (cellsT (T ++ [(t, a)])) := by rw [List.length_append, cellsT_snoc]; exact ho6
          clear hgr hnil ho6 hA0 ho hB hO ho5 hB5
          go_wp2
          go_roundw
          case rel => exact ⟨a + m.length, T ++ [(t, a)], by omega, by go_num, ho7, hB6, by simp only [List.length_append, List.length_cons, List.length_nil]; omega, HN⟩
          case measure => simp [intOf]; omega
    · obtain rfl : a = s.size := by omega
      have HRe := Lib.hid (show R = .ok (T ++ [(⟨5, [], 0⟩, s.size)]) by
        obtain ⟨f, hf, e⟩ := hx.out
        obtain ⟨f, rfl⟩ : ∃ g, f = g + 1 := ⟨f - 1, by omega⟩
        have h0 : spanL isB s s.size = 0 := by unfold spanL; rw [List.drop_of_length_le (by simp)]; rfl
        rw [← e, lexA_end s f s.size (by omega), app_ok])
      clear hx
      go_wp2_with (at_builtin; refine wpList_append_own _ rfl _ _ 23 rfl wA.heap.size 39 i0 _ 4 40 Tryz.underlying23 hi hz0 hz1 (by assumption) rfl (by decide) _ T.length (cellsT T) rfl (ho.alloc _) ⟨wr.heap.size, 0, none⟩ 1 1 [.int .u8 5, .string ⟨#[]⟩, .int .u64 0, .int .i64 (s.size : Int)] rfl rfl ?cN ?c0 ?c1 ?c2 ?c3 ?_)
      case cN => exact news_ok [.int .u8 5, .string ⟨#[]⟩, .int .u64 0, .int .i64 (s.size : Int)] 39 wr
      case c0 => intro u hu; simp at hu; rcases hu with rfl | rfl | rfl | rfl <;> rfl
      case c1 => unfold maxLen; omega
      case c2 => omega
      case c3 => have := hB.size; simp; omega
      intro v3 w6 ho6 hgr hnil
      have hA0 : Below wA.heap.size wA (wr.alloc (.cells #[.int .u8 5, .string ⟨#[]⟩, .int .u64 0, .int .i64 (s.size : Int)] 39)) := aB hB _
      have hB6 : Below wA.heap.size wA w6 := hA0.grown hgr hA0.size (fun j hj => (ho.lt j hj).1)
      have r0 := stay hB6 a0
      have r1 := stay hB6 a1
      have rf : w6.frozen? ⟨w.heap.size, 0, none⟩ = false := (hB6.frozen hlA).trans (HAF.out 0)
      have rf1 : w6.frozen? ⟨w.heap.size, 1, none⟩ = false := (hB6.frozen hlA).trans (HAF.out 1)
      have hl6 : w.heap.size < w6.heap.size := Nat.lt_of_lt_of_le hlA hB6.size
      clear hgr hnil hA0 ho hB
      go_wp2
      obtain ⟨q0, q1⟩ := set2 r0 r1 (.int .i64 0) (.int .i64 0)
      refine bodyPost_ret (v := .tuple #[v3, .agg #[.int .i64 0, .int .i64 0]]) (by simp [results, Tryz.results6, go_sem, q0, q1]) rfl ?_
      rw [HRe.out]
      refine ⟨⟨v3, rfl, ?_⟩, ?_⟩
      · unfold TokV
        rw [List.length_append, cellsT_snoc]
        exact own_base hBA.size (ownsRow_setCell_below (ownsRow_setCell_below ho6 hlA _) hlA _)
      · exact ((tr hBA hB6).setCell (by simp) _).setCell (by simp) _
end Go.Proofs.YtmccnoimnieldaaGreatDoor
