/- Contracts of lex.Cut, of what a statement asks of its answer (Told, Same, Bare), and of lex.Named. -/
import Derived.Test.YtnblnmehfhkfmaaGreatDoorVg
import Derived.Test.YtnblnmehfhkfmaaGreatDoorVi
import Derived.Test.YtnblnmehfhkfmaaGreatDoorVj
import Derived.RangeFuncBox
namespace Go.Proofs.YtnblnmehfhkfmaaGreatDoor
open Go.ChangeShapes Go.WideShapes Go.ChangeAt Go.RowKit
set_option linter.unusedVariables false
theorem below_trans' {B : Nat} {W w w' : World} (h : Below B W w) (hB : B ≤ W.heap.size) (hb : Below w.heap.size w w') : Below B W w' := h.trans (hb.mono (Nat.le_trans hB h.size))
/-- The tokens of a text, as an answer: a row of its own. -/
def TokV (w : World) (B : Nat) (v : Value) (T : List (Tk × Nat)) : Prop := w.ownsRow B 39 4 v T.length (cellsT T)
theorem scan_er (s : ByteArray) (e0 a : Nat) (w : World) (hT : Tb w) (hR : lexT s.data.toList = .er e0 a) :
    Calls Tryz.prog 31 #[.string s] w fun e w' => e = .returned (.tuple #[.slice none 0 0, .int .i64 (a : Int), .iface 29 (.int .i64 (e0 : Int))]) ∧ Below w.heap.size w w' := by
  unfold lexT at hR
  have hl : s.data.toList.length = s.size := by simp
  by_cases h : 16384 < s.data.toList.length
  · rw [if_pos h] at hR
    cases hR
    rw [hl] at h
    go_enter Tryz.func31, Tryz.ntmps31
    go_wp2
    go_step3
    go_wp2
    rw [Exit.noGoto_ret]
    exact bodyPost_ret (v := .tuple #[.slice none 0 0, .int .i64 0, .iface 29 (.int .i64 5)]) (by simp [results, Tryz.results31, go_sem]) rfl ⟨rfl, ((Below.refl _ _).alloc (Nat.le_refl _) _).alloc (by simp) _⟩
  · rw [if_neg h] at hR
    rw [hl] at hR h
    refine (scan_any s _ w (by omega) hT hR).mono fun e w' h => ?_
    exact h
theorem scan_ok (s : ByteArray) (T : List (Tk × Nat)) (w : World) (hT : Tb w) (hR : lexT s.data.toList = .ok T) :
    Calls Tryz.prog 31 #[.string s] w fun e w' => (∃ v, e = .returned (.tuple #[v, .int .i64 (s.size : Int), .nilIface]) ∧ TokV w' w.heap.size v T) ∧ Below w.heap.size w w' := by
  unfold lexT at hR
  have hl : s.data.toList.length = s.size := by simp
  by_cases h : 16384 < s.data.toList.length
  · rw [if_pos h] at hR; cases hR
  · rw [if_neg h] at hR
    rw [hl] at hR h
    refine (scan_any s _ w (by omega) hT hR).mono fun e w' h => ?_
    exact h
set_option maxRecDepth 100000 in
theorem cut_ok (s : ByteArray) (T : List (Tk × Nat)) (w : World) (hT : Tb w) (hR : lexT s.data.toList = .ok T) :
    Calls Tryz.prog 20 #[.string s] w fun e w' => (∃ v, e = .returned (.tuple #[v, .nilIface]) ∧ TokV w' w.heap.size v T) ∧ Below w.heap.size w w' := by
  have hS := scan_ok s T w hT hR
  go_enter Tryz.func20, Tryz.ntmps20
  go_wp2_with (first | (go_at_call 31; ((with_reducible refine hS.mono ?_); rintro e w1 ⟨⟨v, rfl, hv⟩, hb⟩)) | (go_at_call 29; ((with_reducible refine (as_nil _ _).mono ?_); rintro e w2 ⟨rfl, rfl⟩)))
  go_ret2
  exact ⟨⟨v, rfl, hv.alloc _⟩, hb.alloc hb.size _⟩
set_option maxRecDepth 100000 in
theorem cut_er (s : ByteArray) (e0 a : Nat) (w : World) (hT : Tb w) (hR : lexT s.data.toList = .er e0 a) :
    Calls Tryz.prog 20 #[.string s] w fun e w' => e = .returned (.tuple #[.slice none 0 0, .iface 48 (.agg #[.int .i64 (a : Int), .int .i64 (e0 : Int)])]) ∧ Below w.heap.size w w' := by
  have hS := scan_er s e0 a w hT hR
  go_enter Tryz.func20, Tryz.ntmps20
  go_wp2_with (first | (go_at_call 31; ((with_reducible refine hS.mono ?_); rintro e w1 ⟨rfl, hb⟩)) | (go_at_call 29; ((with_reducible refine (as_En (e0 : Int) w1.heap.size (.int .i64 0) _ ?cg ?ct ?cf).mono ?_)); (case cg => exact ((hT.of hb).alloc _).ety); (case ct => simp); (case cf => simp); rintro e w2 ⟨rfl, rfl⟩))
  go_quiet (fail)
  go_wp2
  go_ret2
  refine ⟨rfl, ?_⟩
  have hA : Below w.heap.size w (((((w1.alloc (.cells #[.int .i64 (e0 : Int)] 29)).alloc (.cells #[.pointer (some ⟨w1.heap.size, 0, none⟩)] 66)).alloc (.cells #[.pointer (some ⟨9, 66, none⟩), .pointer (some ⟨w1.heap.size + 1, 0, none⟩), .int .u64 150] 79)).alloc (.cells #[.pointer (some ⟨9, 66, none⟩), .pointer (some ⟨w1.heap.size + 1, 0, none⟩), .int .u64 150] 79)).alloc (.cells #[.int .i64 (e0 : Int)] 29)) := by
    have := hb.size
    exact ((((hb.alloc hb.size _).alloc (by simp; omega) _).alloc (by simp; omega) _).alloc (by simp; omega) _).alloc (by simp; omega) _
  exact bdN hA _
/-- A row of tokens, wherever it lies. -/
structure RowAt (w : World) (v : Value) (T : List (Tk × Nat)) : Prop where
  row : ∃ (b o n c : Nat) , v = .slice (some ⟨b, o, none⟩) n c ∧ n = T.length ∧ b < w.heap.size ∧ ∀ i (h : i < T.length), w.cell? ⟨b, o + i * 4, none⟩ = some (.int .u8 (T[i].1.k : Int)) ∧ w.cell? ⟨b, o + i * 4 + 1, none⟩ = some (.string (str T[i].1.t)) ∧ w.cell? ⟨b, o + i * 4 + 2, none⟩ = some (.int .u64 (T[i].1.n : Int)) ∧ w.cell? ⟨b, o + i * 4 + 3, none⟩ = some (.int .i64 (T[i].2 : Int))
theorem cellsT_at : ∀ (l : List (Tk × Nat)) (i : Nat) (h : i < l.length), (cellsT l)[i * 4]? = some (.int .u8 (l[i].1.k : Int)) ∧ (cellsT l)[i * 4 + 1]? = some (.string (str l[i].1.t)) ∧ (cellsT l)[i * 4 + 2]? = some (.int .u64 (l[i].1.n : Int)) ∧ (cellsT l)[i * 4 + 3]? = some (.int .i64 (l[i].2 : Int)) := by
  intro l
  induction l with
  | nil => intro i h; simp at h
  | cons x l ih =>
    intro i h
    cases i with
    | zero => simp [cellsT]
    | succ i =>
      have e : ∀ r, (cellsT (x :: l))[(i + 1) * 4 + r]? = (cellsT l)[i * 4 + r]? := fun r => by
        rw [cellsT, List.flatMap_cons, List.getElem?_append_right (by simp; omega)]
        congr 1
        simp
        omega
      obtain ⟨a0, a1, a2, a3⟩ := ih i (by simpa using h)
      exact ⟨(e 0).trans a0, (e 1).trans a1, (e 2).trans a2, (e 3).trans a3⟩
theorem TokV.at {w : World} {B : Nat} {v : Value} {T : List (Tk × Nat)} (h : TokV w B v T) (hne : T ≠ []) : RowAt w v T := by
  unfold TokV at h
  have hlen : 0 < T.length := List.length_pos_iff.2 hne
  obtain ⟨m, hm⟩ : ∃ m, T.length = m + 1 := ⟨T.length - 1, by omega⟩
  have h2 := h
  rw [hm] at h2
  obtain ⟨g, cap, hv⟩ := ownsRow_succ h2
  subst hv
  refine ⟨g, 0, m + 1, cap, rfl, hm.symm, ?_, fun i hi => ?_⟩
  · have := h2.cellAt 0 (by omega)
    have h3 := (cellsT_at T 0 hlen).1
    rw [Nat.zero_mul] at h3
    exact World.block_lt_of_cell? w _ (this.trans h3)
  · obtain ⟨a0, a1, a2, a3⟩ := cellsT_at T i hi
    rw [Nat.zero_add]
    exact ⟨(h2.cellAt (i * 4) (by omega)).trans a0, (h2.cellAt (i * 4 + 1) (by omega)).trans a1, (h2.cellAt (i * 4 + 2) (by omega)).trans a2, (h2.cellAt (i * 4 + 3) (by omega)).trans a3⟩
theorem RowAt.of {w w' : World} {v : Value} {T : List (Tk × Nat)} (h : RowAt w v T) (hb : Below w.heap.size w w') : RowAt w' v T := by
  obtain ⟨b, o, n, c, rfl, hn, hl, hc⟩ := h.row
  refine ⟨b, o, n, c, rfl, hn, Nat.lt_of_lt_of_le hl hb.size, fun i hi => ?_⟩
  obtain ⟨a0, a1, a2, a3⟩ := hc i hi
  exact ⟨stay hb a0, stay hb a1, stay hb a2, stay hb a3⟩
end Go.Proofs.YtnblnmehfhkfmaaGreatDoor
