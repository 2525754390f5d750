/- Contract of Mem.ofWord. -/
import Derived.Test.YtkcgnpcfdfkpjaaMo
namespace Go.Proofs.Ytkcgnpcfdfkpjaa
open Go.ChangeShapes Go.WideShapes Go.ChangeAt Go.RowKit
set_option linter.unusedVariables false
theorem res_of {fn : Func} {p q : Tmp} (h : fn.results = #[.cell p 59, .tmp q]) (tmps : Array Value) (w : World) (g : Nat) (c0 c1 d : Value) (hp : tmps.getD p undef = .pointer (some ⟨g, 0, none⟩)) (hq : tmps.getD q undef = d)
    (h0 : w.cell? ⟨g, 0, none⟩ = some c0) (h1 : w.cell? ⟨g, 1, none⟩ = some c1) :
    (results fn tmps).run Try.prog w = .ok (.tuple #[.agg #[c0, c1], d]) w := by
  have hp' : tmps[p]?.getD undef = .pointer (some ⟨g, 0, none⟩) := by simpa using hp
  have hq' : tmps[q]?.getD undef = d := by simpa using hq
  simp [results, h, hp', hq', go_sem, h0, h1]
def ofO (l : List Rg) (p : Nat) (n : Int) (ok : Nat → Bool) : Option Nat := if n < 1 ∨ 8 < n then none else fdO l p n.toNat ok
theorem of_nil_readable (p : Nat) (n : Int) (w : World) : Calls Try.prog 33 #[.pointer none, .int .u64 p, .int .i64 n, .func (.func 36) #[] #[]] w fun e w' => e = .returned (.tuple #[.agg #[.slice none 0 0, .slice none 0 0], .int .i64 1]) ∧ Below w.heap.size w w' := by
  go_enter Try.func33, Try.ntmps33
  go_wp2
  refine bodyPost_ret (res_of rfl _ _ w.heap.size _ _ _ rfl rfl (nwc _ _ _ _) (nwc _ _ _ _)) rfl ?_
  exact ⟨rfl, aBelow (Below.refl _ _) _⟩
theorem of_bad_readable (m : Nat) (p : Nat) (n : Int) (hn : n < 1 ∨ 8 < n) (w : World) : Calls Try.prog 33 #[.pointer (some ⟨m, 0, none⟩), .int .u64 p, .int .i64 n, .func (.func 36) #[] #[]] w fun e w' => e = .returned (.tuple #[.agg #[.slice none 0 0, .slice none 0 0], .int .i64 2]) ∧ Below w.heap.size w w' := by
  by_cases h1 : n < 1
  · clear hn
    go_enter Try.func33, Try.ntmps33
    go_wp2
    refine bodyPost_ret (res_of rfl _ _ w.heap.size _ _ _ rfl rfl (nwc _ _ _ _) (nwc _ _ _ _)) rfl ?_
    exact ⟨rfl, aBelow (Below.refl _ _) _⟩
  · have h2 : 8 < n := by omega
    clear hn
    go_enter Try.func33, Try.ntmps33
    go_wp2
    refine bodyPost_ret (res_of rfl _ _ w.heap.size _ _ _ rfl rfl (nwc _ _ _ _) (nwc _ _ _ _)) rfl ?_
    exact ⟨rfl, aBelow (Below.refl _ _) _⟩
set_option maxHeartbeats 1000000 in
theorem of_readable {x : Mm} {bv : Nat → Nat} {tv : Nat → Bool} (p n : Nat) (hp : p < 18446744073709551616) (h1 : 1 ≤ n) (h8 : n ≤ 8) (w : World) (h : IsM w x bv tv) :
    Calls Try.prog 33 #[.pointer (some ⟨x.mb, 0, none⟩), .int .u64 p, .int .i64 n, .func (.func 36) #[] #[]] w fun e w' => e = .returned (pcV x n 40 (fdO x.l p n (fun k => (k : Int) != 1))) ∧ Below w.heap.size w w' := by
  have hB : Below w.heap.size w (w.alloc (.cells #[.slice none 0 0, .slice none 0 0] 59)) := aBelow (Below.refl _ _) _
  have hF := fd_readable p n hp (by omega) _ (h.of hB)
  have i1 : (1 : Int) ≤ (n : Int) := by omega
  have i8 : (n : Int) ≤ 8 := by omega
  obtain ⟨o, ho⟩ : ∃ o, fdO x.l p n (fun k => (k : Int) != 1) = o := ⟨_, rfl⟩
  rw [ho] at hF ⊢
  cases o with
  | none =>
    simp only [pcV] at hF ⊢
    go_enter Try.func33, Try.ntmps33
    go_wp2_with (go_at_call 30; (with_reducible refine hF.mono ?_); (rintro e w1 ⟨rfl, hb1⟩); have c0 : w1.cell? ⟨w.heap.size, 0, none⟩ = some (.slice none 0 0) := (stay hb1 (nwc _ _ _ _)); have c1 : w1.cell? ⟨w.heap.size, 1, none⟩ = some (.slice none 0 0) := (stay hb1 (nwc _ _ _ _)); have z0 : ∀ k, w1.frozen? ⟨w.heap.size, k, none⟩ = false := (fun k => (rowG_b (rowG_new _ _ _) hb1).2.1 k); have z00 := z0 0; have z01 := z0 1)
    refine bodyPost_ret (res_of rfl _ _ w.heap.size (.slice none 0 0) (.slice none 0 0) _ rfl rfl (by go_simp) (by go_simp)) rfl ?_
    refine ⟨rfl, ?_⟩
    have hb2 := below_trans' hB (Nat.le_refl _) hb1
    repeat (first | (with_reducible exact hb2) | (with_reducible refine sBelow ?_ (Nat.le_refl _)))
  | some q =>
    simp only [pcV] at hF ⊢
    go_enter Try.func33, Try.ntmps33
    go_wp2_with (go_at_call 30; (with_reducible refine hF.mono ?_); (rintro e w1 ⟨rfl, hb1⟩); have c0 : w1.cell? ⟨w.heap.size, 0, none⟩ = some (.slice none 0 0) := (stay hb1 (nwc _ _ _ _)); have c1 : w1.cell? ⟨w.heap.size, 1, none⟩ = some (.slice none 0 0) := (stay hb1 (nwc _ _ _ _)); have z0 : ∀ k, w1.frozen? ⟨w.heap.size, k, none⟩ = false := (fun k => (rowG_b (rowG_new _ _ _) hb1).2.1 k); have z00 := z0 0; have z01 := z0 1)
    refine bodyPost_ret (res_of rfl _ _ w.heap.size (.slice (some ⟨x.vb, q, none⟩) n n) (.slice (some ⟨x.tb, q, none⟩) n n) _ rfl rfl (by go_simp) (by go_simp)) rfl ?_
    refine ⟨rfl, ?_⟩
    have hb2 := below_trans' hB (Nat.le_refl _) hb1
    repeat (first | (with_reducible exact hb2) | (with_reducible refine sBelow ?_ (Nat.le_refl _)))
theorem of_nil_writable (p : Nat) (n : Int) (w : World) : Calls Try.prog 33 #[.pointer none, .int .u64 p, .int .i64 n, .func (.func 34) #[] #[]] w fun e w' => e = .returned (.tuple #[.agg #[.slice none 0 0, .slice none 0 0], .int .i64 1]) ∧ Below w.heap.size w w' := by
  go_enter Try.func33, Try.ntmps33
  go_wp2
  refine bodyPost_ret (res_of rfl _ _ w.heap.size _ _ _ rfl rfl (nwc _ _ _ _) (nwc _ _ _ _)) rfl ?_
  exact ⟨rfl, aBelow (Below.refl _ _) _⟩
theorem of_bad_writable (m : Nat) (p : Nat) (n : Int) (hn : n < 1 ∨ 8 < n) (w : World) : Calls Try.prog 33 #[.pointer (some ⟨m, 0, none⟩), .int .u64 p, .int .i64 n, .func (.func 34) #[] #[]] w fun e w' => e = .returned (.tuple #[.agg #[.slice none 0 0, .slice none 0 0], .int .i64 2]) ∧ Below w.heap.size w w' := by
  by_cases h1 : n < 1
  · clear hn
    go_enter Try.func33, Try.ntmps33
    go_wp2
    refine bodyPost_ret (res_of rfl _ _ w.heap.size _ _ _ rfl rfl (nwc _ _ _ _) (nwc _ _ _ _)) rfl ?_
    exact ⟨rfl, aBelow (Below.refl _ _) _⟩
  · have h2 : 8 < n := by omega
    clear hn
    go_enter Try.func33, Try.ntmps33
    go_wp2
    refine bodyPost_ret (res_of rfl _ _ w.heap.size _ _ _ rfl rfl (nwc _ _ _ _) (nwc _ _ _ _)) rfl ?_
    exact ⟨rfl, aBelow (Below.refl _ _) _⟩
set_option maxHeartbeats 1000000 in
theorem of_writable {x : Mm} {bv : Nat → Nat} {tv : Nat → Bool} (p n : Nat) (hp : p < 18446744073709551616) (h1 : 1 ≤ n) (h8 : n ≤ 8) (w : World) (h : IsM w x bv tv) :
    Calls Try.prog 33 #[.pointer (some ⟨x.mb, 0, none⟩), .int .u64 p, .int .i64 n, .func (.func 34) #[] #[]] w fun e w' => e = .returned (pcV x n 40 (fdO x.l p n (fun k => (k : Int) == 3 || (k : Int) == 4))) ∧ Below w.heap.size w w' := by
  have hB : Below w.heap.size w (w.alloc (.cells #[.slice none 0 0, .slice none 0 0] 59)) := aBelow (Below.refl _ _) _
  have hF := fd_writable p n hp (by omega) _ (h.of hB)
  have i1 : (1 : Int) ≤ (n : Int) := by omega
  have i8 : (n : Int) ≤ 8 := by omega
  obtain ⟨o, ho⟩ : ∃ o, fdO x.l p n (fun k => (k : Int) == 3 || (k : Int) == 4) = o := ⟨_, rfl⟩
  rw [ho] at hF ⊢
  cases o with
  | none =>
    simp only [pcV] at hF ⊢
    go_enter Try.func33, Try.ntmps33
    go_wp2_with (go_at_call 30; (with_reducible refine hF.mono ?_); (rintro e w1 ⟨rfl, hb1⟩); have c0 : w1.cell? ⟨w.heap.size, 0, none⟩ = some (.slice none 0 0) := (stay hb1 (nwc _ _ _ _)); have c1 : w1.cell? ⟨w.heap.size, 1, none⟩ = some (.slice none 0 0) := (stay hb1 (nwc _ _ _ _)); have z0 : ∀ k, w1.frozen? ⟨w.heap.size, k, none⟩ = false := (fun k => (rowG_b (rowG_new _ _ _) hb1).2.1 k); have z00 := z0 0; have z01 := z0 1)
    refine bodyPost_ret (res_of rfl _ _ w.heap.size (.slice none 0 0) (.slice none 0 0) _ rfl rfl (by go_simp) (by go_simp)) rfl ?_
    refine ⟨rfl, ?_⟩
    have hb2 := below_trans' hB (Nat.le_refl _) hb1
    repeat (first | (with_reducible exact hb2) | (with_reducible refine sBelow ?_ (Nat.le_refl _)))
  | some q =>
    simp only [pcV] at hF ⊢
    go_enter Try.func33, Try.ntmps33
    go_wp2_with (go_at_call 30; (with_reducible refine hF.mono ?_); (rintro e w1 ⟨rfl, hb1⟩); have c0 : w1.cell? ⟨w.heap.size, 0, none⟩ = some (.slice none 0 0) := (stay hb1 (nwc _ _ _ _)); have c1 : w1.cell? ⟨w.heap.size, 1, none⟩ = some (.slice none 0 0) := (stay hb1 (nwc _ _ _ _)); have z0 : ∀ k, w1.frozen? ⟨w.heap.size, k, none⟩ = false := (fun k => (rowG_b (rowG_new _ _ _) hb1).2.1 k); have z00 := z0 0; have z01 := z0 1)
    refine bodyPost_ret (res_of rfl _ _ w.heap.size (.slice (some ⟨x.vb, q, none⟩) n n) (.slice (some ⟨x.tb, q, none⟩) n n) _ rfl rfl (by go_simp) (by go_simp)) rfl ?_
    refine ⟨rfl, ?_⟩
    have hb2 := below_trans' hB (Nat.le_refl _) hb1
    repeat (first | (with_reducible exact hb2) | (with_reducible refine sBelow ?_ (Nat.le_refl _)))
end Go.Proofs.Ytkcgnpcfdfkpjaa
