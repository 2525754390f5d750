/- Contract of Read, whatever the tokens and the place. -/
import Derived.Test.YtnblnmehfhkfmaaGreatDoorEp
import Derived.Test.YtnblnmehfhkfmaaGreatDoorEq
namespace Go.Proofs.YtnblnmehfhkfmaaGreatDoor
open Go.ChangeShapes Go.WideShapes Go.ChangeAt Go.RowKit
set_option linter.unusedVariables false
def RdP (w : World) (T : List (Tk × Int)) (R : Ro) (e : Ending) (w' : World) : Prop :=
  match R with
  | .er c q => e = .returned (.tuple #[zX, .int .i64 0, .iface 48 (.agg #[.int .i64 (placeZ T (q : Int)), .int .i64 (c : Int)])]) ∧ Below w.heap.size w w'
  | .ok x q => (∃ (k n : Int) (s : ByteArray) (o : Int) (mk : Option Addr) (m cap : Nat), e = .returned (.tuple #[vX k n s o mk m cap, .int .i64 (q : Int), .nilIface]) ∧ IsE (fun b => w.heap.size ≤ b ∧ b < w'.heap.size) w' (vX k n s o mk m cap) x) ∧ Below w.heap.size w w'
theorem read_any {w : World} {v : Value} {T : List (Tk × Int)} (hv : RowZ w v T) (hl : T.length ≤ 140737488355328) (hT : Tb w) (p : Nat) (hp : p < 9223372036854775808) :
    Calls Tryz.prog 16 #[v, .int .i64 (p : Int)] w (RdP w T (rdE 40 (bareZ T) p)) := by
  obtain ⟨ma, c0, he, _⟩ := hv.row
  subst he
  have hb := below_w0 (w := w) (ma := ma) (c0 := c0) (N := T.length) (p := (p : Int))
  have hX := ex_any 40 (Nat.le_refl _) _ (w.heap.size + 1) (.slice ma T.length c0) T p 0 (by omega) (rd_new hv hl (by omega) (by omega)) (hT.of hb) (fun hg => by have := hT.lt hg; omega)
  cases hR : rdE 40 (bareZ T) p with
  | er c q =>
    rw [hR] at hX
    have := rd_er _ _ _ _ _ hR
    exact read_er (by omega) hX hv
  | ok x q =>
    rw [hR] at hX
    exact read_ok hX hv
theorem read_neg {w : World} {v : Value} {T : List (Tk × Int)} (hv : RowZ w v T) (hl : T.length ≤ 140737488355328) (hT : Tb w) (p : Int) (h0 : p < 0) (h1 : -9223372036854775808 ≤ p) :
    Calls Tryz.prog 16 #[v, .int .i64 p] w fun e w' => e = .returned (.tuple #[zX, .int .i64 0, .iface 48 (.agg #[.int .i64 0, .int .i64 7])]) ∧ Below w.heap.size w w' := by
  obtain ⟨ma, c0, he, _⟩ := hv.row
  subst he
  have hb := below_w0 (w := w) (ma := ma) (c0 := c0) (N := T.length) (p := p)
  have ht : tokAt T p = ⟨0, [], 0⟩ := tokAt_out (.inl h0)
  have hX := ex_bad (rd_new hv hl h1 (by omega)) (hT.of hb) (fun hg => by have := hT.lt hg; omega) (by omega) (by omega) _ ht (by simp) (zt_ne _) (zt_ne _) (by simp [nameT])
  have := read_er (by omega) hX hv
  rw [show placeZ T p = 0 by unfold placeZ; rw [if_pos h0]] at this
  exact this
end Go.Proofs.YtnblnmehfhkfmaaGreatDoor
