/- Contracts of the small functions of package insn. -/
import Derived.Test.YtjkagpmepokihaaDoorInP
import Derived.Test.YtjkagpmepokihaaDoorWordC
import Derived.Outline
import Derived.Deep.QuietTactic
import Derived.BigQuiet
import Derived.Handy
import Derived.Deep.RegionHeld3
namespace Go.Proofs.YtjkagpmepokihaaDoor
open Go.ChangeShapes Go.WideShapes Go.ChangeAt Go.RowKit
set_option linter.unusedVariables false
theorem whole_any (v n : Int) (hv0 : 0 ≤ v) (hv : v < 256) (h0 : 0 ≤ n) (hn : n ≤ 64) (w : World) :
    Calls Tryd.prog 43 #[.int .u8 v, .int .i64 n] w fun e w' => e = .returned (.agg #[.int .u32 v, .int .i64 n]) ∧ w' = w.alloc (.cells #[.int .u32 v, .int .i64 n] 84) := by
  go_enter Tryd.func43, Tryd.ntmps43
  go_wp2
  exact bodyPost_ret (v := .agg #[.int .u32 v, .int .i64 n]) (by simp [results, Tryd.results43, go_sem]) rfl ⟨rfl, rfl⟩
theorem cut_any (v a n : Int) (h0 : -9223372036854775808 ≤ v) (h1 : v < 9223372036854775808) (ha0 : 0 ≤ a) (ha : a ≤ 63) (hn0 : 0 ≤ n) (hn : n ≤ 64) (w : World) :
    Calls Tryd.prog 45 #[.int .i64 v, .int .i64 a, .int .i64 n] w fun e w' => e = .returned (.agg #[.int .u32 (cutN v a.toNat : Nat), .int .i64 n]) ∧ w' = w.alloc (.cells #[.int .u32 (cutN v a.toNat : Nat), .int .i64 n] 84) := by
  go_enter Tryd.func45, Tryd.ntmps45
  go_wp2
  exact bodyPost_ret (v := .agg #[.int .u32 (cutN v a.toNat : Nat), .int .i64 n]) (by simp [results, Tryd.results45, go_sem, cutN_eq]) rfl ⟨rfl, by rw [cutN_eq]⟩
theorem imm_any (g : Nat) (v a n : Int) (h0 : -9223372036854775808 ≤ v) (h1 : v < 9223372036854775808) (ha0 : 0 ≤ a) (ha : a ≤ 63) (hn0 : 0 ≤ n) (hn : n ≤ 64) (w : World) (hc : w.cell? ⟨g, 4, none⟩ = some (.int .i64 v)) :
    Calls Tryd.prog 44 #[.int .i64 a, .int .i64 n, .pointer (some ⟨g, 0, none⟩)] w fun e w' => e = .returned (.agg #[.int .u32 (cutN v a.toNat : Nat), .int .i64 n]) ∧ w' = (w.alloc (.cells #[.int .u32 (cutN v a.toNat : Nat), .int .i64 n] 84)).alloc (.cells #[.int .u32 (cutN v a.toNat : Nat), .int .i64 n] 84) := by
  have hg : g < w.heap.size := World.block_lt_of_cell? w ⟨g, 4, none⟩ hc
  go_enter Tryd.func44, Tryd.ntmps44
  go_wp2_with (go_at_call 45; (with_reducible refine (cut_any v a n h0 h1 ha0 ha hn0 hn _).mono ?_); rintro e w' ⟨rfl, rfl⟩)
  exact bodyPost_ret (v := .agg #[.int .u32 (cutN v a.toNat : Nat), .int .i64 n]) (by simp [results, Tryd.results44, go_sem]) rfl ⟨rfl, rfl⟩
end Go.Proofs.YtjkagpmepokihaaDoor
