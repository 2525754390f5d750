/- Contracts of the reader: ahead. -/
import Derived.Test.YtnblnmehfhkfmaaGreatDoorEd
import Derived.Test.YtnblnmehfhkfmaaGreatDoorHk
namespace Go.Proofs.YtnblnmehfhkfmaaGreatDoor
open Go.ChangeShapes Go.WideShapes Go.ChangeAt Go.RowKit
set_option linter.unusedVariables false
/-- The block of a row that is not empty. -/
def ob (v : Value) (T : List (Tk × Int)) : Option Nat := if T = [] then none else v.ownBlock
theorem RowZ.onlyo {w w' : World} {v : Value} {T : List (Tk × Int)} {S : Nat → Prop} (h : RowZ w v T) (ho : Only S w w') (hn : ∀ j, ob v T = some j → ¬ S j) : RowZ w' v T := by
  by_cases e : T = []
  · subst e
    obtain ⟨ma, c, rfl, hc⟩ := h.row
    exact ⟨ma, c, rfl, fun i hi => by simp at hi⟩
  · exact h.only ho (fun j hj => hn j (by unfold ob; rw [if_neg e]; exact hj))
theorem RowZ.ob_lt {w : World} {v : Value} {T : List (Tk × Int)} (h : RowZ w v T) {j : Nat} (hj : ob v T = some j) : j < w.heap.size := by
  unfold ob at hj
  by_cases e : T = []
  · rw [if_pos e] at hj; cases hj
  · rw [if_neg e] at hj
    obtain ⟨ma, c, rfl, hc⟩ := h.row
    obtain ⟨b, o, rfl, hl, _⟩ := hc 0 (List.length_pos_iff.2 e)
    simp only [Value.ownBlock, Option.some.injEq] at hj
    subst hj
    exact hl
/-- A reader of T, at p, within d expressions. -/
structure IsRd (w : World) (rb : Nat) (v : Value) (T : List (Tk × Int)) (p d : Int) : Prop where
  c0 : w.cell? ⟨rb, 0, none⟩ = some v
  c1 : w.cell? ⟨rb, 1, none⟩ = some (.int .i64 p)
  c2 : w.cell? ⟨rb, 2, none⟩ = some (.int .i64 d)
  f : ∀ k, w.frozen? ⟨rb, k, none⟩ = false
  row : RowZ w v T
  ne : ¬ ob v T = some rb
  len : T.length ≤ 140737488355328
  lo : -9223372036854775808 ≤ p
  hi : p < 9223372036854775808
theorem IsRd.lt {w : World} {rb : Nat} {v : Value} {T : List (Tk × Int)} {p d : Int} (h : IsRd w rb v T p d) : rb < w.heap.size := World.block_lt_of_cell? w _ h.c0
theorem IsRd.of {w w' : World} {rb : Nat} {v : Value} {T : List (Tk × Int)} {p d : Int} (h : IsRd w rb v T p d) (hb : Below w.heap.size w w') : IsRd w' rb v T p d :=
  { h with c0 := stay hb h.c0, c1 := stay hb h.c1, c2 := stay hb h.c2, f := fun k => ((hb.frozen (p := ⟨rb, k, none⟩) h.lt).trans (h.f k)), row := h.row.of hb }
theorem IsRd.only {w w' : World} {rb : Nat} {v : Value} {T : List (Tk × Int)} {p d : Int} {S : Nat → Prop} (h : IsRd w rb v T p d) (ho : Only S w w') (h1 : ¬ S rb) (h2 : ∀ j, ob v T = some j → ¬ S j) : IsRd w' rb v T p d :=
  { h with c0 := ho.cell h1 h.c0, c1 := ho.cell h1 h.c1, c2 := ho.cell h1 h.c2, f := fun k => ((ho.frozen (a := ⟨rb, k, none⟩) h.lt h1).trans (h.f k)), row := h.row.onlyo ho h2 }
theorem only_one (w : World) (b o : Nat) (v : Value) : Only (fun j => j = b) w (w.setCell ⟨b, o, none⟩ v) := (Only.refl _ w).setCell rfl
theorem IsRd.setP {w : World} {rb : Nat} {v : Value} {T : List (Tk × Int)} {p d : Int} (h : IsRd w rb v T p d) {q : Int} (h1 : -9223372036854775808 ≤ q) (h2 : q < 9223372036854775808) : IsRd (w.setCell ⟨rb, 1, none⟩ (.int .i64 q)) rb v T q d :=
  { c0 := cset h.c0 (by omega), c1 := cset_same h.c1, c2 := cset h.c2 (by omega), f := fun k => by rw [World.frozen?_setCell]; exact h.f k, row := h.row.onlyo (only_one _ _ _ _) (fun j hj e => h.ne (by rw [hj, e])), ne := h.ne, len := h.len, lo := h1, hi := h2 }
theorem IsRd.setD {w : World} {rb : Nat} {v : Value} {T : List (Tk × Int)} {p d : Int} (h : IsRd w rb v T p d) {e : Int} : IsRd (w.setCell ⟨rb, 2, none⟩ (.int .i64 e)) rb v T p e :=
  { c0 := cset h.c0 (by omega), c1 := cset h.c1 (by omega), c2 := cset_same h.c2, f := fun k => by rw [World.frozen?_setCell]; exact h.f k, row := h.row.onlyo (only_one _ _ _ _) (fun j hj e => h.ne (by rw [hj, e])), ne := h.ne, len := h.len, lo := h.lo, hi := h.hi }
def tokAt (T : List (Tk × Int)) (p : Int) : Tk := if 0 ≤ p then (T.getD p.toNat (⟨0, [], 0⟩, 0)).1 else ⟨0, [], 0⟩
abbrev tokV (t : Tk) : Value := .agg #[.int .u8 (t.k : Int), .string (str t.t), .int .u64 (t.n : Int), .int .i64 0]
theorem tokAt_in {T : List (Tk × Int)} {i : Nat} (h : i < T.length) : tokAt T (i : Int) = T[i].1 := by unfold tokAt; rw [if_pos (by omega), Int.toNat_natCast, List.getD_eq_getElem?_getD, List.getElem?_eq_getElem h]; rfl
theorem tokAt_out {T : List (Tk × Int)} {p : Int} (h : p < 0 ∨ (T.length : Int) ≤ p) : tokAt T p = ⟨0, [], 0⟩ := by
  unfold tokAt
  by_cases h0 : 0 ≤ p
  · rw [if_pos h0, List.getD_eq_getElem?_getD, List.getElem?_eq_none (by omega)]; rfl
  · rw [if_neg h0]
set_option maxRecDepth 100000 in
set_option maxHeartbeats 2000000 in
theorem ahead_any {w : World} {rb : Nat} {v : Value} {T : List (Tk × Int)} {p d : Int} (h : IsRd w rb v T p d) (n : Int) (hn : n = 0 ∨ n = 1) :
    Calls Tryz.prog 57 #[.pointer (some ⟨rb, 0, none⟩), .int .i64 n] w fun e w' => e = .returned (tokV (tokAt T (p + n))) ∧ Below w.heap.size w w' := by
  obtain ⟨ma, c, hv, hc⟩ := h.row.row
  subst hv
  have c0 := h.c0
  have c1 := h.c1
  have hlt := h.lt
  have hlen := h.len
  have hlo := h.lo
  have hhi := h.hi
  by_cases hin : 0 ≤ p + n ∧ p + n < T.length
  · obtain ⟨i, hi⟩ : ∃ i : Nat, p + n = i := ⟨(p + n).toNat, by omega⟩
    have hil : i < T.length := by omega
    have hw : IntKind.i64.wrap (p + n) = (i : Int) := by rw [IntKind.wrap_i64]; omega
    obtain ⟨b, o, rfl, hb, q0, q1, q2, q3⟩ := hc i hil
    have ht := tokAt_in hil
    rw [hi, ht]
    generalize T[i].1 = t at q0 q1 q2
    generalize T[i].2 = z at q3
    obtain ⟨N, hN⟩ : ∃ N, N = T.length := ⟨_, rfl⟩
    rw [← hN] at c0 hil hlen
    clear hc h ht hN hin hi hlo hhi
    go_enter Tryz.func57, Tryz.ntmps57
    go_wp2
    exact bodyPost_ret (res_tok rfl _ _ w.heap.size _ _ _ _ rfl (rowG_alloc (rowG_at _ _ _ _ rfl) _)) rfl ⟨rfl, aB (aB (Below.refl _ _) _) _⟩
  · rw [tokAt_out (T := T) (p := p + n) (by omega)]
    obtain ⟨N, hN⟩ : ∃ N, N = T.length := ⟨_, rfl⟩
    rw [← hN] at c0 hlen hin
    obtain ⟨z, hz⟩ : ∃ z, IntKind.i64.wrap (p + n) = z := ⟨_, rfl⟩
    have hzz : z < 0 ∨ (N : Int) ≤ z := by rw [← hz, IntKind.wrap_i64]; omega
    clear hc h hN hin hlo hhi
    rcases hzz with hzz | hzz
    · go_enter Tryz.func57, Tryz.ntmps57
      go_wp2
      exact bodyPost_ret (res_tok rfl _ _ w.heap.size _ _ _ _ rfl (rowG_at _ _ _ _ rfl)) rfl ⟨rfl, aB (Below.refl _ _) _⟩
    · have hzz' : ¬ z < 0 := by omega
      go_enter Tryz.func57, Tryz.ntmps57
      go_wp2
      exact bodyPost_ret (res_tok rfl _ _ w.heap.size _ _ _ _ rfl (rowG_at _ _ _ _ rfl)) rfl ⟨rfl, aB (Below.refl _ _) _⟩
end Go.Proofs.YtnblnmehfhkfmaaGreatDoor
