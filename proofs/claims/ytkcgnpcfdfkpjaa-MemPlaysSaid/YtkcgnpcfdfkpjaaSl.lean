/- Contracts of slices.Index, slices.Contains, slices.Clone at []bool. -/
import Derived.Test.YtkcgnpcfdfkpjaaDt
import Derived.Shelf.RegionOpenPlain
import Derived.Lib.SliceRun
import Derived.Lib.SmallJoins
namespace Go.Proofs.Ytkcgnpcfdfkpjaa
open Go.ChangeShapes Go.WideShapes Go.ChangeAt Go.RowKit
set_option linter.unusedVariables false
/-- Index answers a place of true, or -1. -/
def RI (e : Ending) (n : Nat) (p : Nat → Prop) : Prop := (∃ i : Nat, i < n ∧ p i ∧ e = .returned (.int .i64 i)) ∨ ((∀ i < n, ¬ p i) ∧ e = .returned (.int .i64 (-1)))
theorem index_any (tb q n c : Nat) (tv : Nat → Bool) (hn : n ≤ 140737488355328) (w : World) (hc : ∀ k < n, w.cell? ⟨tb, q + k, none⟩ = some (.bool (tv (q + k)))) (htl : tb < w.heap.size) :
    Calls Try.prog 45 #[.slice (some ⟨tb, q, none⟩) n c, .bool true] w fun e w' => RI e n (fun k => tv (q + k) = true) ∧ w = w' := by
  go_enter Try.func45, Try.ntmps45
  go_wp2
  go_loop [8] (fun i => ∃ k : Nat, i = .int .i64 k ∧ k ≤ n ∧ ∀ j < k, ¬ tv (q + j) = true) (fun i => n - (intOf i).toNat)
  case atStart => exact ⟨0, rfl, Nat.zero_le _, fun j hj => by omega⟩
  case round =>
    obtain ⟨k, rfl, hk, hj⟩ := hrel
    by_cases hlt : k < n
    · have c0 := hc k hlt
      cases hb : tv (q + k) with
      | true =>
        rw [hb] at c0
        go_wp2
        go_ret
        exact ⟨Or.inl ⟨k, hlt, hb, rfl⟩, rfl⟩
      | false =>
        rw [hb] at c0
        go_wp2
        go_round
        case rel => exact ⟨k + 1, by go_num, by omega, fun j hj' => by
          rcases Nat.lt_or_ge j k with h | h
          · exact hj j h
          · obtain rfl : j = k := by omega
            rw [hb]; exact Bool.false_ne_true⟩
        case measure => first | (simp [intOf]; done) | (simp [intOf]; omega)
    · obtain rfl : k = n := by omega
      go_wp2
      go_ret
      exact ⟨Or.inr ⟨hj, rfl⟩, rfl⟩
theorem contains_any (tb q n c : Nat) (tv : Nat → Bool) (hn : n ≤ 140737488355328) (w : World) (hc : ∀ k < n, w.cell? ⟨tb, q + k, none⟩ = some (.bool (tv (q + k)))) (htl : tb < w.heap.size) :
    Calls Try.prog 38 #[.slice (some ⟨tb, q, none⟩) n c, .bool true] w fun e w' => RB e (∃ k < n, tv (q + k) = true) ∧ w = w' := by
  have hI := index_any tb q n c tv hn w hc htl
  by_cases h : ∃ k < n, tv (q + k) = true
  · have hI' : Calls Try.prog 45 #[.slice (some ⟨tb, q, none⟩) n c, .bool true] w fun e w' => (∃ i : Nat, e = .returned (.int .i64 i)) ∧ w = w' := hI.mono fun e w' ⟨h1, h2⟩ => ⟨by
      rcases h1 with ⟨i, hi, hp, he⟩ | ⟨hno, _⟩
      · exact ⟨i, he⟩
      · obtain ⟨k, hk, hp⟩ := h
        exact absurd hp (hno k hk), h2⟩
    clear hI
    go_enter Try.func38, Try.ntmps38
    go_wp2_with (go_at_call 45; refine hI'.mono ?_; rintro e w' ⟨⟨i, rfl⟩, rfl⟩; have hi0 : (0 : Int) ≤ (i : Int) := (by omega))
    go_ret
    exact ⟨RB_d (by simp [h]), rfl⟩
  · have hI' : Calls Try.prog 45 #[.slice (some ⟨tb, q, none⟩) n c, .bool true] w fun e w' => e = .returned (.int .i64 (-1)) ∧ w = w' := hI.mono fun e w' ⟨h1, h2⟩ => ⟨by
      rcases h1 with ⟨i, hi, hp, he⟩ | ⟨hno, he⟩
      · exact absurd ⟨i, hi, hp⟩ h
      · exact he, h2⟩
    clear hI
    go_enter Try.func38, Try.ntmps38
    go_wp2_with (go_at_call 45; refine hI'.mono ?_; rintro e w' ⟨rfl, rfl⟩)
    go_ret
    exact ⟨RB_d (by simp [h]), rfl⟩
/-- The taints of a stretch. -/
def tl (tv : Nat → Bool) (q n : Nat) : List Value := (List.range n).map fun k => Value.bool (tv (q + k))
theorem tl_length (tv : Nat → Bool) (q n : Nat) : (tl tv q n).length = n := by simp [tl]
theorem tl_at (tv : Nat → Bool) (q n k : Nat) (h : k < n) : (tl tv q n)[k]? = some (.bool (tv (q + k))) := by simp [tl, h]
theorem infoB : (Try.prog.info? 4).map (fun i => (i.zero, i.size, i.bytes)) = some (some (.bool false), 1, 1) := by kernel_rfl
set_option maxHeartbeats 1000000 in
theorem clone_any (tb q n : Nat) (tv : Nat → Bool) (hn : n ≤ 1048576) (w : World) (hc : ∀ k < n, w.cell? ⟨tb, q + k, none⟩ = some (.bool (tv (q + k)))) (htl : tb < w.heap.size) :
    Calls Try.prog 39 #[.slice (some ⟨tb, q, none⟩) n n] w fun e w' => (∃ v, e = .returned v ∧ w'.ownsRow w.heap.size 4 1 v n (tl tv q n)) ∧ Below w.heap.size w w' := by
  obtain ⟨i0, hi, hz0, hz1, hz2⟩ := info_parts infoB
  have q49 : ∀ (w : World) (a : Option Addr) (n c n' c' : Nat), (binOp .eql 49 (.slice a n c) (.slice none n' c')).run Try.prog w = .ok (.bool a.isNone) w := fun w a n c n' c' => Lib.run_eql_slice_nil w _ _ a n c n' c' Try.underlying49
  have u49 : ∀ w, Sem.run Try.prog (underlying 49) w = .ok (TypeDesc.slice 4) w := run_underlying Try.underlying49
  go_enter Try.func39, Try.ntmps39
  go_wp2_with (at_builtin; refine wpList_append_own _ rfl _ _ 49 rfl w.heap.size 4 i0 (.bool false) 1 1 Try.underlying49 hi hz0 hz1 hz2 rfl (by decide) _ _ _ rfl (World.ownsRow_made w #[] 0 (Nat.le_refl _) (Nat.zero_le _) rfl) ⟨tb, q, none⟩ n n (tl tv q n) rfl ?qc1 ?qc2 ?qc3 ?qc4 ?qc5 ?qc6 ?_)
  case qc1 => rw [tl_length]; omega
  case qc2 =>
    intro j u hj
    have hjn : j < n := by
      have := (List.getElem?_eq_some_iff.1 hj).1
      rw [tl_length] at this; exact this
    rw [tl_at tv q n j hjn] at hj
    rw [addp]
    injection hj with hj
    subst hj
    exact stay (aBelow (Below.refl _ _) _) (hc j hjn)
  case qc3 => intro u hu; obtain ⟨x, _, rfl⟩ := List.mem_map.1 hu; rfl
  case qc4 => unfold maxLen; omega
  case qc5 => omega
  case qc6 => simp
  intro v' w1 hown hgrow hnil
  go_wp2
  go_ret
  refine ⟨⟨v', rfl, by simpa using hown⟩, ((Below.refl _ w).alloc (Nat.le_refl _) _).grown hgrow (by simp) (by intro k hk; simp [Value.ownBlock] at hk; omega)⟩
end Go.Proofs.Ytkcgnpcfdfkpjaa
