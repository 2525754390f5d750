/- Contracts of Mem.Bytes, and of Mem.Regions of no memory. -/
import Derived.Test.YtcckgfablfgknaaGreatDoorQh
import Derived.Deep.RegionWith
namespace Go.Proofs.YtcckgfablfgknaaGreatDoor.m4
open Go.ChangeShapes Go.WideShapes Go.ChangeAt Go.RowKit
set_option linter.unusedVariables false
theorem bytes_nil (p n : Int) (w : World) : Calls Tryz.prog 17 #[.pointer none, .int .u64 p, .int .i64 n] w fun e w' => e = .returned (.tuple #[.string ByteArray.empty, .slice none 0 0, .int .i64 1]) ∧ Below w.heap.size w w' := by
  go_enter Tryz.func17, Tryz.ntmps17
  go_wp2
  go_ret3
  exact ⟨rfl, Below.refl _ _⟩
theorem own_down {w : World} {b b' size n : Nat} {e : TypeId} {v : Value} {xs : List Value} (h : w.ownsRow b e size v n xs) (hb : b' ≤ b) : w.ownsRow b' e size v n xs := by
  refine ⟨h.1, ?_⟩
  rcases h.2 with h0 | ⟨g, cap, cur, hv, hg, hh, hr⟩
  · exact Or.inl h0
  · exact Or.inr ⟨g, cap, cur, hv, by omega, hh, hr⟩
/-- What Bytes answers. -/
def BsP (w : World) (s : ByteArray) (tl : List Value) (er : Int) (e : Ending) (w' : World) : Prop := (∃ v, e = .returned (.tuple #[.string s, v, .int .i64 er]) ∧ w'.ownsRow w.heap.size 4 1 v tl.length tl) ∧ Below w.heap.size w w'
theorem BsP.err {w w' : World} {er : Int} (hb : Below w.heap.size w w') : BsP w ByteArray.empty [] er (.returned (.tuple #[.string ByteArray.empty, .slice none 0 0, .int .i64 er])) w' := ⟨⟨_, rfl, World.ownsRow_nil _ _ _ _⟩, hb⟩
set_option maxHeartbeats 1000000 in
theorem bytes_m {x : Mm} {bv : Nat → Nat} {tv : Nat → Bool} (p : Nat) (n : Int) (hp : p < 18446744073709551616) (w : World) (h : IsM w x bv tv) :
    Calls Tryz.prog 17 #[.pointer (some ⟨x.mb, 0, none⟩), .int .u64 p, .int .i64 n] w (BsP w (byS x.l bv p n) (byT x.l tv p n) (byE x.l p n)) := by
  by_cases hn : n < 0 ∨ 1048576 < n
  · have e1 : byO x.l p n = none := by unfold byO; rw [if_pos hn]
    have e2 : byE x.l p n = 2 := by unfold byE; rw [if_pos hn]
    unfold byS byT
    rw [e1, e2]
    clear e1 e2
    by_cases h1 : n < 0
    · clear hn
      go_enter Tryz.func17, Tryz.ntmps17
      go_wp2
      go_ret3
      exact BsP.err (Below.refl _ _)
    · have h2 : 1048576 < n := by omega
      clear hn
      go_enter Tryz.func17, Tryz.ntmps17
      go_wp2
      go_ret3
      exact BsP.err (Below.refl _ _)
  · obtain ⟨m, rfl⟩ : ∃ m : Nat, n = m := ⟨n.toNat, by omega⟩
    have hm : m ≤ 1048576 := by omega
    have hF := fd_every p m hp (by omega) w h
    rw [fdO_every] at hF
    have e1 : byO x.l p m = seO x.l p m := by unfold byO; rw [if_neg hn, Int.toNat_natCast]
    have e2 : byE x.l p m = if (seO x.l p m).isSome then 0 else 40 := by unfold byE; rw [if_neg hn, e1]
    unfold byS byT
    rw [e1, e2]
    clear e1 e2 hn
    cases ho : seO x.l p m with
    | none =>
      rw [ho] at hF
      simp only [pcV] at hF
      rw [show (if (none : Option Nat).isSome = true then (0 : Int) else 40) = 40 from rfl]
      go_enter Tryz.func17, Tryz.ntmps17
      go_wp2_with (go_at_call 47; (with_reducible refine hF.mono ?_); (rintro e w1 ⟨rfl, hb1⟩))
      go_ret3
      exact BsP.err (aBelow hb1 _)
    | some q =>
      have hq := fdO_tot ((fdO_every _ _ _).trans ho)
      rw [ho] at hF
      simp only [pcV] at hF
      rw [show (if (some q).isSome = true then (0 : Int) else 40) = 0 from rfl]
      simp only [Int.toNat_natCast]
      go_enter Tryz.func17, Tryz.ntmps17
      go_wp2_with (go_at_call 47; (with_reducible refine hF.mono ?_); (rintro e w1 ⟨rfl, hb1⟩))
      obtain ⟨W, hW⟩ : ∃ W, w1.alloc (.cells #[.slice (some ⟨x.vb, q, none⟩) m m, .slice (some ⟨x.tb, q, none⟩) m m] 120) = W := ⟨_, rfl⟩
      have a0 : W.cell? ⟨w1.heap.size, 0, none⟩ = some (.slice (some ⟨x.vb, q, none⟩) m m) := by rw [← hW]; exact nwc _ _ _ _
      have a1 : W.cell? ⟨w1.heap.size, 1, none⟩ = some (.slice (some ⟨x.tb, q, none⟩) m m) := by rw [← hW]; exact nwc _ _ _ _
      have hBW : Below w.heap.size w W := by rw [← hW]; exact aBelow hb1 _
      have hI := (h.of hBW).of (bd1 (Below.refl _ _))
      have hBW := bd1 hBW
      try rw [hW]
      have hcv := conv_at hI q m hq
      have hcl := clone_any x.tb q m tv hm W.drew (fun k hk => hI.tnts _ (by omega)) hI.lt
      go_region_with (first | (go_at_call 49; (refine hcl.mono ?_); (rintro e w2 ⟨⟨v, rfl, hown⟩, hb2⟩); have hcv2 := conv_at (hI.of hb2) q m hq; have s0 := stay hb2 a0; have s1 := stay hb2 a1))
      all_goals go_wp2
      all_goals go_ret3
      all_goals exact ⟨⟨v, rfl, by rw [tl_length]; exact own_down hown hBW.size⟩, below_trans' hBW (Nat.le_refl _) hb2⟩
end Go.Proofs.YtcckgfablfgknaaGreatDoor.m4
