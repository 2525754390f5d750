/- Contract of insn.lay. -/
import Derived.Test.YtjkagpmepokihaaDoorInA
import Derived.Lib.Hide
namespace Go.Proofs.YtjkagpmepokihaaDoor
open Go.ChangeShapes Go.WideShapes Go.ChangeAt Go.RowKit
set_option linter.unusedVariables false
theorem bdN {B : Nat} {a w : World} (h : Below B a w) (n : Nat) : Below B a (w.drewN n) := h.trans ⟨rfl, rfl, rfl, Nat.le_refl _, fun _ _ => rfl⟩
set_option maxRecDepth 100000 in
set_option maxHeartbeats 1000000 in
theorem lay_any (ps : List (Nat × Nat)) (b : Nat) (hp : ∀ p ∈ ps, p.1 < 4294967296) (hw : pw ps ≤ 32) (hl : ps.length ≤ 64) (w : World)
    (h0 : ∀ i (h : i < ps.length), w.cell? ⟨b, i * 2, none⟩ = some (.int .u32 (ps[i].1 : Nat))) (h1 : ∀ i (h : i < ps.length), w.cell? ⟨b, i * 2 + 1, none⟩ = some (.int .i64 (ps[i].2 : Nat))) (hb : b < w.heap.size) :
    Calls Tryd.prog 46 #[.slice (some ⟨b, 0, none⟩) ps.length ps.length] w fun e w' => e = .returned (.int .u32 (layv ps : Nat)) ∧ Below w.heap.size w w' := by
  go_enter Tryd.func46, Tryd.ntmps46
  go_wp2
  go_loopw [3, 4, 9] (fun x at_ i wr => ∃ k : Nat, k ≤ ps.length ∧ i = .int .i64 k ∧ x = .int .u32 (layv (ps.take k) : Nat) ∧ at_ = .int .i64 (pw (ps.take k) : Nat) ∧ Below w.heap.size w wr) (fun _ _ i _ => ps.length - (intOf i).toNat)
  case atStart => exact ⟨0, Nat.zero_le _, rfl, rfl, rfl, Below.refl _ _⟩
  case round =>
    obtain ⟨k, hk, rfl, rfl, rfl, hB⟩ := hrel
    by_cases hlt : k < ps.length
    · have g0 := (hB.cell (p := ⟨b, k * 2, none⟩) hb).trans (h0 k hlt)
      have g1 := (hB.cell (p := ⟨b, k * 2 + 1, none⟩) hb).trans (h1 k hlt)
      have HS := Lib.hid (lay_round' (ps.take k) ps[k] (hp _ (List.getElem_mem _)) (by have := pw_take_le ps (k + 1); rw [take_snoc_get ps k hlt, pw_snoc] at this; omega))
      have HT := Lib.hid (take_snoc_get ps k hlt)
      have hpk : pw (ps.take k) + ps[k].2 ≤ 32 := by have := pw_take_le ps (k + 1); rw [take_snoc_get ps k hlt, pw_snoc] at this; omega
      go_wp2
      go_quiet (fail)
      go_wp2
      go_roundw
      case rel => exact ⟨k + 1, by omega, by go_num, by rw [HT.out, ← HS.out], by rw [HT.out, pw_snoc]; go_num, bdN (hB.alloc hB.size _) _⟩
      case measure => simp [intOf]; omega
    · obtain rfl : k = ps.length := by omega
      go_wp2
      go_ret
      exact ⟨by rw [List.take_length]; rfl, hB⟩
end Go.Proofs.YtjkagpmepokihaaDoor
