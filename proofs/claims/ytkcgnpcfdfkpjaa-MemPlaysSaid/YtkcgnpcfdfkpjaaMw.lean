/- What a memory has, in cells; contract of area.has. -/
import Derived.Test.YtkcgnpcfdfkpjaaMy
import Derived.Test.YtkcgnpcfdfkpjaaMz
namespace Go.Proofs.Ytkcgnpcfdfkpjaa
open Go.ChangeShapes Go.WideShapes Go.ChangeAt Go.RowKit
set_option linter.unusedVariables false
/-- Where region i's bytes begin. -/
def beg (l : List Rg) (i : Nat) : Nat := ((l.take i).map Rg.s).sum
def Rg.has (r : Rg) (p n : Nat) : Prop := r.f ≤ p ∧ p < r.f + r.s ∧ n ≤ r.f + r.s - p
structure Mm where
  mb : Nat
  ab : Nat
  vb : Nat
  tb : Nat
  c : Nat
  l : List Rg
def arC (x : Mm) (i : Nat) : Value := .agg #[.int .u64 (rg x.l i).f, .int .u64 (rg x.l i).s, .int .u8 (rg x.l i).k, .slice (some ⟨x.vb, beg x.l i, none⟩) (rg x.l i).s (rg x.l i).s, .slice (some ⟨x.tb, beg x.l i, none⟩) (rg x.l i).s (rg x.l i).s]
def areaAt (w : World) (x : Mm) (i : Nat) : Prop := regAt w x.ab (i * 5) (rg x.l i) ∧ w.cell? ⟨x.ab, i * 5 + 3, none⟩ = some (.slice (some ⟨x.vb, beg x.l i, none⟩) (rg x.l i).s (rg x.l i).s) ∧ w.cell? ⟨x.ab, i * 5 + 4, none⟩ = some (.slice (some ⟨x.tb, beg x.l i, none⟩) (rg x.l i).s (rg x.l i).s)
/-- What of a memory does not change. -/
def Ar (w : World) (x : Mm) : Prop := w.cell? ⟨x.mb, 0, none⟩ = some (.slice (some ⟨x.ab, 0, none⟩) x.l.length x.c) ∧ (∀ i < x.l.length, areaAt w x i)
theorem Ar.of {w w' : World} {x : Mm} (h : Ar w x) (hb : Below w.heap.size w w') : Ar w' x := ⟨stay hb h.1, fun i hi => ⟨(h.2 i hi).1.of hb, stay hb (h.2 i hi).2.1, stay hb (h.2 i hi).2.2⟩⟩
theorem has_any (r : Rg) (hr : r.wf) (hs : r.f + r.s < 18446744073709551616) (a1 a2 : Option Addr) (n1 c1 n2 c2 : Nat) (p n : Nat) (hp : p < 18446744073709551616) (hn : n < 18446744073709551616) (w : World) :
    Calls Try.prog 47 #[.agg #[.int .u64 r.f, .int .u64 r.s, .int .u8 r.k, .slice a1 n1 c1, .slice a2 n2 c2], .int .u64 p, .int .u64 n] w fun e w' => RB e (r.has p n) ∧ Below w.heap.size w w' := by
  obtain ⟨x0, x1, x2⟩ := hr
  have e1 := add64 r.f r.s hs
  have hB2 : ∀ C t, Below w.heap.size w (w.alloc (.cells C t)) := fun C t => aBelow (Below.refl _ _) _
  by_cases h1 : r.f ≤ p
  · by_cases h2 : p < r.f + r.s
    · have e2 := sub64 (r.f + r.s) p (by omega) hs
      have e2' : IntKind.u64.wrap ((r.f : Int) + (r.s : Int) - (p : Int)) = ((r.f + r.s - p : Nat) : Int) := by rw [IntKind.wrap_u64]; omega
      by_cases h3 : n ≤ r.f + r.s - p
      · have h3' : (n : Int) ≤ (r.f : Int) + (r.s : Int) - (p : Int) := by omega
        go_enter Try.func47, Try.ntmps47
        go_wp2
        go_ret
        exact ⟨RB_d (by simp [Rg.has]; omega), hB2 _ _⟩
      · go_enter Try.func47, Try.ntmps47
        go_wp2
        go_ret
        exact ⟨RB_d (by simp [Rg.has]; omega), hB2 _ _⟩
    · go_enter Try.func47, Try.ntmps47
      go_wp2
      go_ret
      exact ⟨RB_f (fun h => h2 h.2.1), hB2 _ _⟩
  · go_enter Try.func47, Try.ntmps47
    go_wp2
    go_ret
    exact ⟨RB_f (fun h => h1 h.1), hB2 _ _⟩
end Go.Proofs.Ytkcgnpcfdfkpjaa
