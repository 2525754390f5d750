/- Contracts of Mem.holders and of its iterator. -/
import Derived.Test.YtkcgnpcfdfkpjaaMw
import Derived.Test.YtkcgnpcfdfkpjaaRnq
import Derived.Shelf.Abstract
import Derived.WalkKit
import Derived.OwnWalkIn
import Derived.TacticsInMore
import Derived.LoopNIn
import Derived.LoopIn
namespace Go.Proofs.Ytkcgnpcfdfkpjaa
open Go.ChangeShapes Go.WideShapes Go.ChangeAt Go.RowKit
set_option linter.unusedVariables false
theorem hold_any (v : Value) (hv : v.oneCell' = true) (p n : Nat) (w : World) : Calls Try.prog 44 #[v, .int .u64 p, .int .u64 n] w fun e w' => e = .returned (.func (.func 46) #[] #[.pointer (some ⟨w.heap.size, 0, none⟩), .pointer (some ⟨w.heap.size + 1, 0, none⟩), .pointer (some ⟨w.heap.size + 1 + 1, 0, none⟩)]) ∧ w' = ((w.alloc (.cells #[v] 27)).alloc (.cells #[.int .u64 p] 34)).alloc (.cells #[.int .u64 n] 34) := by
  go_enter Try.func44, Try.ntmps44
  go_wp2
  go_ret
  exact ⟨rfl, rfl⟩
def inL (l : List Rg) : Prop := ∀ i < l.length, (rg l i).f + (rg l i).s < 18446744073709551616
/-- At most one region holds the stretch: the one, or none. -/
def Hit (l : List Rg) (p n : Nat) (N i : Nat) : Prop := (N = 1 ∧ i < l.length ∧ (rg l i).has p n ∧ ∀ j < l.length, j ≠ i → ¬ (rg l j).has p n) ∨ (N = 0 ∧ ∀ j < l.length, ¬ (rg l j).has p n)
def cnt (N i k : Nat) : Nat := if N = 1 ∧ i < k then 1 else 0
def Bx (W : World) (x : Mm) (b p n : Nat) : Prop := W.cell? ⟨b, 0, none⟩ = some (.pointer (some ⟨x.mb, 0, none⟩)) ∧ W.cell? ⟨b + 1, 0, none⟩ = some (.int .u64 p) ∧ W.cell? ⟨b + 1 + 1, 0, none⟩ = some (.int .u64 n) ∧ Ar W x
set_option maxHeartbeats 1000000 in
theorem hold_seq (x : Mm) (hx : wfL x.l) (hin : inL x.l) (hl : x.l.length ≤ 16) (p n : Nat) (hp : p < 18446744073709551616) (hn : n < 18446744073709551616) (b N i : Nat) (hN : Hit x.l p n N i) (d : Nat) (hd : 1 ≤ d) :
    SeqN d Try.prog 46 #[.pointer (some ⟨b, 0, none⟩), .pointer (some ⟨b + 1, 0, none⟩), .pointer (some ⟨b + 1 + 1, 0, none⟩)] (fun _ => #[arC x i]) N (fun W => Bx W x b p n) := by
  intro l J Jx W ⟨hb0, hb1, hb2, hA⟩ hJP hJ hJx hY h0
  have hsz := World.block_lt_of_cell? W _ hb0
  refine callsIn_of_wp Try.func46 rfl trivial ?_
  simp only [Try.ntmps46, List.size_toArray, List.length_cons, List.length_nil, Nat.reduceAdd, Nat.reduceSub, Array.replicate_succ, Array.replicate_zero, List.push_toArray, List.append_toArray, List.nil_append, List.cons_append]
  have hm0 := hA.1
  gi_wp2
  gi_loopw [12] (fun iv wr => ∃ k : Nat, iv = .int .i64 k ∧ k ≤ x.l.length ∧ J (cnt N i k) wr ∧ W.heap.size ≤ wr.heap.size) (fun iv _ => x.l.length - (intOf iv).toNat)
  case atStart => exact ⟨0, rfl, Nat.zero_le _, by unfold cnt; rw [if_neg (by omega)]; exact h0, Nat.le_refl _⟩
  case round =>
    obtain ⟨k, rfl, hk, hj, hbs⟩ := hrel
    obtain ⟨q0, q1, q2, qA⟩ := hJP _ _ hj
    by_cases hlt : k < x.l.length
    · obtain ⟨⟨c0, c1, c2⟩, c3, c4⟩ := qA.2 k hlt
      have hH := has_any (rg x.l k) (hx k) (hin k hlt) (some ⟨x.vb, beg x.l k, none⟩) (some ⟨x.tb, beg x.l k, none⟩) (rg x.l k).s (rg x.l k).s (rg x.l k).s (rg x.l k).s p n hp hn
      have habs := World.block_lt_of_cell? wr _ c0
      have hq1s := World.block_lt_of_cell? wr _ q1
      have hq2s := World.block_lt_of_cell? wr _ q2
      have hms := World.block_lt_of_cell? wr _ qA.1
      simp only at habs hq1s hq2s hms
      obtain ⟨wa, hwa⟩ : ∃ wa, wr.alloc (.cells #[.int .u64 (rg x.l k).f, .int .u64 (rg x.l k).s, .int .u8 (rg x.l k).k, .slice (some ⟨x.vb, beg x.l k, none⟩) (rg x.l k).s (rg x.l k).s, .slice (some ⟨x.tb, beg x.l k, none⟩) (rg x.l k).s (rg x.l k).s] 66) = wa := ⟨_, rfl⟩
      have hBa : Below wr.heap.size wr wa := by rw [← hwa]; exact aBelow (Below.refl _ _) _
      have a0 : wa.cell? ⟨wr.heap.size, 0, none⟩ = some (.int .u64 (rg x.l k).f) := by rw [← hwa]; exact nwc _ _ _ _
      have a1 : wa.cell? ⟨wr.heap.size, 1, none⟩ = some (.int .u64 (rg x.l k).s) := by rw [← hwa]; exact nwc _ _ _ _
      have a2 : wa.cell? ⟨wr.heap.size, 2, none⟩ = some (.int .u8 (rg x.l k).k) := by rw [← hwa]; exact nwc _ _ _ _
      have a3 : wa.cell? ⟨wr.heap.size, 3, none⟩ = some (.slice (some ⟨x.vb, beg x.l k, none⟩) (rg x.l k).s (rg x.l k).s) := by rw [← hwa]; exact nwc _ _ _ _
      have a4 : wa.cell? ⟨wr.heap.size, 4, none⟩ = some (.slice (some ⟨x.tb, beg x.l k, none⟩) (rg x.l k).s (rg x.l k).s) := by rw [← hwa]; exact nwc _ _ _ _
      have r0 := stay hBa q0
      have r1 := stay hBa q1
      have r2 := stay hBa q2
      have hja := hJ _ _ _ hj (hBa.mono hbs)
      by_cases hk1 : (rg x.l k).has p n
      · have hNk : N = 1 ∧ i = k := by
          rcases hN with ⟨h1, h2, h3, h4⟩ | ⟨h1, h2⟩
          · refine ⟨h1, ?_⟩
            by_cases e : k = i
            · exact e.symm
            · exact absurd hk1 (h4 k hlt e)
          · exact absurd hk1 (h2 k hlt)
        obtain ⟨rfl, rfl⟩ := hNk
        have hH' : Calls Try.prog 47 #[.agg #[.int .u64 (rg x.l i).f, .int .u64 (rg x.l i).s, .int .u8 (rg x.l i).k, .slice (some ⟨x.vb, beg x.l i, none⟩) (rg x.l i).s (rg x.l i).s, .slice (some ⟨x.tb, beg x.l i, none⟩) (rg x.l i).s (rg x.l i).s], .int .u64 p, .int .u64 n] wa fun e w' => e = .returned (.bool true) ∧ Below wa.heap.size wa w' := (hH wa).mono fun e w' ⟨⟨r, he, hr⟩, hb⟩ => ⟨by rw [he, hr.2 hk1], hb⟩
        have hc0 : cnt 1 i i = 0 := by unfold cnt; rw [if_neg (by omega)]
        have hc1 : cnt 1 i (i + 1) = 0 + 1 := by unfold cnt; rw [if_pos (by omega)]
        rw [hc0] at hja
        gi_wp2_with (refine ⟨trivial, ?_⟩; gi_at_call 47; refine (callsIn_wide.2 hH').mono ?_; (rintro e w1 ⟨rfl, hb1⟩); have b0 := stay hb1 a0; have b1 := stay hb1 a1; have b2 := stay hb1 a2; have b3 := stay hb1 a3; have b4 := stay hb1 a4; obtain ⟨fn, tmps, assign, body, hy, hR⟩ := hY 0 w1 (hJ _ _ _ hja (hb1.mono (Nat.le_trans hbs hBa.size))) (by omega) (Nat.le_trans hbs (Nat.le_trans hBa.size hb1.size)); simp only [arC] at hy)
        refine hR.mono ?_
        rintro e W3 (⟨rfl, hj3, hs3⟩ | ⟨rfl, hx3⟩)
        · gi_wp2
          go_roundw
          case rel => exact ⟨i + 1, by go_num, by omega, by rw [hc1]; exact hj3, by have h1 := hs3.1; have h2 := hb1.size; have h3 := hBa.size; omega⟩
          case measure => first | (simp [intOf]; done) | (simp [intOf]; omega)
        · gi_wp2
          refine bodyPost_ret (results_none rfl _ _ _) rfl ?_
          exact ⟨⟨_, rfl⟩, .inr hx3⟩
      · have hH' : Calls Try.prog 47 #[.agg #[.int .u64 (rg x.l k).f, .int .u64 (rg x.l k).s, .int .u8 (rg x.l k).k, .slice (some ⟨x.vb, beg x.l k, none⟩) (rg x.l k).s (rg x.l k).s, .slice (some ⟨x.tb, beg x.l k, none⟩) (rg x.l k).s (rg x.l k).s], .int .u64 p, .int .u64 n] wa fun e w' => e = .returned (.bool false) ∧ Below wa.heap.size wa w' := (hH wa).mono fun e w' ⟨⟨r, he, hr⟩, hb⟩ => ⟨by rw [he, Bool.eq_false_iff.2 (fun h => hk1 (hr.1 h))], hb⟩
        have hc1 : cnt N i (k + 1) = cnt N i k := by
          unfold cnt
          by_cases e : N = 1 ∧ i < k
          · rw [if_pos e, if_pos ⟨e.1, by omega⟩]
          · rw [if_neg e, if_neg]
            rintro ⟨h1, h2⟩
            have hik : i = k := by omega
            rcases hN with ⟨_, h3, h4, _⟩ | ⟨h3, _⟩
            · rw [hik] at h4; exact hk1 h4
            · omega
        gi_wp2_with (refine ⟨trivial, ?_⟩; gi_at_call 47; refine (callsIn_wide.2 hH').mono ?_; (rintro e w1 ⟨rfl, hb1⟩))
        refine ⟨fun f h => (by cases h), ?_⟩
        gi_wp2
        go_roundw
        case rel => exact ⟨k + 1, by go_num, by omega, by rw [hc1]; exact hJ _ _ _ hja (hb1.mono (Nat.le_trans hbs hBa.size)), by have h2 := hb1.size; have h3 := hBa.size; omega⟩
        case measure => first | (simp [intOf]; done) | (simp [intOf]; omega)
    · obtain rfl : k = x.l.length := by omega
      gi_wp2
      go_end0
      exact ⟨⟨_, rfl⟩, .inl (by
        rcases hN with ⟨h1, h2, _, _⟩ | ⟨h1, _⟩
        · subst h1; have : cnt 1 i x.l.length = 1 := by unfold cnt; rw [if_pos ⟨rfl, h2⟩]
          rw [this] at hj; exact hj
        · subst h1; have : cnt 0 i x.l.length = 0 := by unfold cnt; rw [if_neg (by omega)]
          rw [this] at hj; exact hj)⟩
end Go.Proofs.Ytkcgnpcfdfkpjaa
