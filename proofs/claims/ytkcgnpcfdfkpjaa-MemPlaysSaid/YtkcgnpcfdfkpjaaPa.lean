/- Contract of stretch.part. -/
import Derived.Test.YtkcgnpcfdfkpjaaMw
namespace Go.Proofs.Ytkcgnpcfdfkpjaa
open Go.ChangeShapes Go.WideShapes Go.ChangeAt Go.RowKit
set_option linter.unusedVariables false
/-- Where a piece of n places begins. -/
def off0 (o p n : Nat) : Nat := if n = 0 then o else o + p
theorem res_str {fn : Func} {p : Tmp} (h : fn.results = #[.cell p 59]) (tmps : Array Value) (w : World) (g : Nat) (c0 c1 : Value) (hp : tmps.getD p undef = .pointer (some ⟨g, 0, none⟩))
    (h0 : w.cell? ⟨g, 0, none⟩ = some c0) (h1 : w.cell? ⟨g, 1, none⟩ = some c1) :
    (results fn tmps).run Try.prog w = .ok (.agg #[c0, c1]) w := by
  have hp' : tmps[p]?.getD undef = .pointer (some ⟨g, 0, none⟩) := by simpa using hp
  simp [results, h, hp', go_sem, h0, h1]
set_option maxHeartbeats 1000000 in
theorem part_any (vb tb o1 o2 n1 n2 c1 c2 p n : Nat) (h1 : p + n ≤ c1) (h2 : p + n ≤ c2) (hc : p + n ≤ 9223372036854775807) (w : World) :
    Calls Try.prog 23 #[.agg #[.slice (some ⟨vb, o1, none⟩) n1 c1, .slice (some ⟨tb, o2, none⟩) n2 c2], .int .u64 p, .int .u64 n] w fun e w' => e = .returned (.agg #[.slice (some ⟨vb, off0 o1 p n, none⟩) n n, .slice (some ⟨tb, off0 o2 p n, none⟩) n n]) ∧ Below w.heap.size w w' := by
  have e1 := add64 p n (by omega)
  have i0 : (0 : Int) ≤ (p : Int) := by omega
  have i1 : (p : Int) ≤ (p : Int) + (n : Int) := by omega
  have i2 : (p : Int) + (n : Int) ≤ (c1 : Int) := by omega
  have i3 : (p : Int) + (n : Int) ≤ (c2 : Int) := by omega
  have hB : ∀ C t C' t', Below w.heap.size w (((w.alloc (.cells C t)).alloc (.cells C' t')).drew) := fun C t C' t' => bd1 ((aBelow (aBelow (Below.refl _ _) _) _))
  by_cases hn : n = 0
  · have hn' : n = 0 := hn
    have ho : ∀ o, off0 o p n = o := fun o => by unfold off0; rw [if_pos hn]
    rw [ho, ho]
    go_enter Try.func23, Try.ntmps23
    go_wp2
    go_region
    go_wp2
    refine bodyPost_ret (res_str rfl _ _ (w.heap.size + 1) _ _ rfl (cbd _ _ _ _ 0 (by simp)) (cbd _ _ _ _ 1 (by simp))) rfl ?_
    exact ⟨by first | rfl | (rw [hn]; rfl) | rw [hn], hB _ _ _ _⟩
  · have ho : ∀ o, off0 o p n = o + p := fun o => by unfold off0; rw [if_neg hn]
    rw [ho, ho]
    go_enter Try.func23, Try.ntmps23
    go_wp2
    go_region
    go_wp2
    refine bodyPost_ret (res_str rfl _ _ (w.heap.size + 1) _ _ rfl (cbd _ _ _ _ 0 (by simp)) (cbd _ _ _ _ 1 (by simp))) rfl ?_
    exact ⟨by first | rfl | (rw [hn]; rfl) | rw [hn], hB _ _ _ _⟩
end Go.Proofs.Ytkcgnpcfdfkpjaa
