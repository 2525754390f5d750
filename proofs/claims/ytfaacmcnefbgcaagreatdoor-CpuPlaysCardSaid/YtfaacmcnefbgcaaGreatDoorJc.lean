/- A region that draws its order, walked by what holds at each of its states: for whatever program. -/
import Derived.Test.YtfaacmcnefbgcaaGreatDoorJa
import Derived.RegionTactic
import Derived.Lib.Hide
import Derived.Deep.RegionHeld3
import Derived.Deep.MidRow
namespace Go.Proofs.YtfaacmcnefbgcaaGreatDoor
open Go
set_option linter.unusedVariables false
theorem wpAny_inv {P : Program} {md : Region.Mode} {ops : Array Oper} {Q : Exit → Act → World → Prop} (Inv : Nat → Array Bool → Act → World → Prop)
    (h : ∀ f L a w, Inv f L a w → wpAny P md ops Q f L a w ∨ ∃ n, f = n + 1 ∧ Region.ready md ops L ≠ [] ∧ ∀ i ∈ Region.ready md ops L, wpOp P ops Q i (fun a' w' => Inv n (L.setIfInBounds i true) a' w') a w) :
    ∀ f L a w, Inv f L a w → wpAny P md ops Q f L a w := by
  intro f
  induction f with
  | zero =>
    intro L a w hi
    rcases h 0 L a w hi with h | ⟨n, hn, _⟩
    · exact h
    · omega
  | succ f ih =>
    intro L a w hi
    rcases h (f + 1) L a w hi with h | ⟨n, hn, hr, hs⟩
    · exact h
    · obtain rfl : f = n := by omega
      exact ⟨fun e => absurd e hr, fun i hm => wpOp_mono (fun a' w' hk => ih _ _ _ hk) (hs i hm)⟩
end Go.Proofs.YtfaacmcnefbgcaaGreatDoor

/- Contract of insn.lay. -/
namespace Go.Proofs.YtfaacmcnefbgcaaGreatDoor
open Go.ChangeShapes Go.WideShapes Go.ChangeAt Go.RowKit
set_option linter.unusedVariables false
theorem bdN {B : Nat} {a w : World} (h : Below B a w) (n : Nat) : Below B a (w.drewN n) := h.trans ⟨rfl, rfl, rfl, Nat.le_refl _, fun _ _ => rfl⟩
set_option maxRecDepth 100000 in
set_option maxHeartbeats 1000000 in
theorem lay_any (ps : List (Nat × Nat)) (b : Nat) (hp : ∀ p ∈ ps, p.1 < 4294967296) (hw : pw ps ≤ 32) (hl : ps.length ≤ 64) (w : World)
    (h0 : ∀ i (h : i < ps.length), w.cell? ⟨b, i * 2, none⟩ = some (.int .u32 (ps[i].1 : Nat))) (h1 : ∀ i (h : i < ps.length), w.cell? ⟨b, i * 2 + 1, none⟩ = some (.int .i64 (ps[i].2 : Nat))) (hb : b < w.heap.size) :
    Calls Tryz.prog 134 #[.slice (some ⟨b, 0, none⟩) ps.length ps.length] w fun e w' => e = .returned (.int .u32 (layv ps : Nat)) ∧ Below w.heap.size w w' := by
  go_enter Tryz.func134, Tryz.ntmps134
  go_wp2
  go_loopw [3, 4, 9] (fun x at_ i wr => ∃ k : Nat, k ≤ ps.length ∧ i = .int .i64 k ∧ x = .int .u32 (layv (ps.take k) : Nat) ∧ at_ = .int .i64 (pw (ps.take k) : Nat) ∧ Below w.heap.size w wr) (fun _ _ i _ => ps.length - (intOf i).toNat)
  case atStart => exact ⟨0, Nat.zero_le _, rfl, rfl, rfl, Below.refl _ _⟩
  case round =>
    obtain ⟨k, hk, rfl, rfl, rfl, hB⟩ := hrel
    by_cases hlt : k < ps.length
    · have g0 := (hB.cell (p := ⟨b, k * 2, none⟩) hb).trans (h0 k hlt)
      have g1 := (hB.cell (p := ⟨b, k * 2 + 1, none⟩) hb).trans (h1 k hlt)
      have HS := Lib.hid (lay_round' (ps.take k) ps[k] (hp _ (List.getElem_mem _)) (by have := pw_take_le ps (k + 1); rw [take_snoc_get ps k hlt, pw_snoc] at this; omega))
      have HT := Lib.hid (take_snoc_get ps k hlt)
      have hpk : pw (ps.take k) + ps[k].2 ≤ 32 := by have := pw_take_le ps (k + 1); rw [take_snoc_get ps k hlt, pw_snoc] at this; omega
      go_wp2
      go_quiet (fail)
      go_wp2
      go_roundw
      case rel => exact ⟨k + 1, by omega, by go_num, by rw [HT.out, ← HS.out], by rw [HT.out, pw_snoc]; go_num, bdN (hB.alloc hB.size _) _⟩
      case measure => simp [intOf]; omega
    · obtain rfl : k = ps.length := by omega
      go_wp2
      go_ret
      exact ⟨by rw [List.take_length]; rfl, hB⟩
end Go.Proofs.YtfaacmcnefbgcaaGreatDoor

/- Words for regions that draw their order among calls and allocations: blocks that are new, cells that stay. -/
namespace Go.Proofs.YtfaacmcnefbgcaaGreatDoor
open Go.ChangeShapes Go.WideShapes Go.ChangeAt Go.RowKit
set_option linter.unusedVariables false
def tg (b : Bool) : Nat := if b then 0 else 1
theorem tg_t : tg true = 0 := rfl
theorem tg_f : tg false = 1 := rfl
def blk (w1 : World) (k : Nat) (w : World) : Prop := w1.heap.size ≤ k ∧ w.heap[k]? = some (.cells #[.int .u32 0, .int .i64 0] 192 (0, 0))
theorem bk {w w' : World} {p : Addr} {v : Value} (hb : Below w.heap.size w w') (h : w.cell? p = some v) : w'.cell? p = some v := (hb.cell (World.block_lt_of_cell? w p h)).trans h
theorem blk_lt {w1 w : World} {k : Nat} (h : blk w1 k w) : k < w.heap.size := by
  have := h.2
  rw [Array.getElem?_eq_some_iff] at this
  exact this.1
theorem blk_alloc {w1 w : World} {k : Nat} (o : Obj) (h : blk w1 k w) : blk w1 k (w.alloc o) := ⟨h.1, by rw [Below.heap_alloc _ _ _ (blk_lt h)]; exact h.2⟩
theorem blk_new {w1 w : World} (h : w1.heap.size ≤ w.heap.size) : blk w1 w.heap.size (w.alloc (.cells #[.int .u32 0, .int .i64 0] 192)) := ⟨h, by show (w.heap.push _)[w.heap.size]? = _; simp⟩
theorem blk_c0 {w1 w : World} {k : Nat} (h : blk w1 k w) : w.cell? ⟨k, 0, none⟩ = some (.int .u32 0) := by simp [World.cell?, h.2]
theorem blk_c1 {w1 w : World} {k : Nat} (h : blk w1 k w) : w.cell? ⟨k, 1, none⟩ = some (.int .i64 0) := by simp [World.cell?, h.2]
theorem blk_fr {w1 w : World} {k : Nat} (h : blk w1 k w) (o : Nat) : w.frozen? ⟨k, o, none⟩ = false := by simp [World.frozen?, h.2]
theorem ba {w : World} {p : Addr} {v : Value} (o : Obj) (h : w.cell? p = some v) : (w.alloc o).cell? p = some v := (World.cell?_alloc_some w p o (by rw [h]; rfl)).trans h
theorem cb (x : World) (C : Array Value) (t : TypeId) (b o : Nat) (hb : b = x.heap.size) : (x.alloc (.cells C t)).drew.cell? ⟨b, o, none⟩ = C[o]? := by
  subst hb
  have e : (x.alloc (.cells C t)).drew.heap[x.heap.size]? = some (.cells C t (0, 0)) := by show (x.heap.push _)[x.heap.size]? = _; simp
  unfold World.cell?
  simp only [e]
  rfl
theorem cb' (x : World) (C : Array Value) (t : TypeId) (b o : Nat) (hb : b = x.heap.size) : (x.alloc (.cells C t)).cell? ⟨b, o, none⟩ = C[o]? := cb x C t b o hb
theorem bd {w : World} {p : Addr} {v : Value} (h : w.cell? p = some v) : w.drew.cell? p = some v := h
theorem below_trans' {B : Nat} {W w w' : World} (h : Below B W w) (hB : B ≤ W.heap.size) (hb : Below w.heap.size w w') : Below B W w' := h.trans (hb.mono (Nat.le_trans hB h.size))
end Go.Proofs.YtfaacmcnefbgcaaGreatDoor
