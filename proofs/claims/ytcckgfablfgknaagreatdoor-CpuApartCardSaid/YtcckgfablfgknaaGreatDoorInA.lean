/- Contracts of the small functions of package insn. -/
import Derived.Test.YtcckgfablfgknaaGreatDoorQa
import Derived.Test.YtcckgfablfgknaaGreatDoorQb
import Derived.Outline
import Derived.Deep.QuietTactic
import Derived.BigQuiet
import Derived.Handy
import Derived.Deep.RegionHeld3
namespace Go.Proofs.YtcckgfablfgknaaGreatDoor
open Go.ChangeShapes Go.WideShapes Go.ChangeAt Go.RowKit
set_option linter.unusedVariables false
theorem whole_any (v n : Int) (hv0 : 0 ≤ v) (hv : v < 256) (h0 : 0 ≤ n) (hn : n ≤ 64) (w : World) :
    Calls Tryz.prog 113 #[.int .u8 v, .int .i64 n] w fun e w' => e = .returned (.agg #[.int .u32 v, .int .i64 n]) ∧ w' = w.alloc (.cells #[.int .u32 v, .int .i64 n] 170) := by
  go_enter Tryz.func113, Tryz.ntmps113
  go_wp2
  exact bodyPost_ret (v := .agg #[.int .u32 v, .int .i64 n]) (by simp [results, Tryz.results113, go_sem]) rfl ⟨rfl, rfl⟩
theorem cut_any (v a n : Int) (h0 : -9223372036854775808 ≤ v) (h1 : v < 9223372036854775808) (ha0 : 0 ≤ a) (ha : a ≤ 63) (hn0 : 0 ≤ n) (hn : n ≤ 64) (w : World) :
    Calls Tryz.prog 115 #[.int .i64 v, .int .i64 a, .int .i64 n] w fun e w' => e = .returned (.agg #[.int .u32 (cutN v a.toNat : Nat), .int .i64 n]) ∧ w' = w.alloc (.cells #[.int .u32 (cutN v a.toNat : Nat), .int .i64 n] 170) := by
  go_enter Tryz.func115, Tryz.ntmps115
  go_wp2
  exact bodyPost_ret (v := .agg #[.int .u32 (cutN v a.toNat : Nat), .int .i64 n]) (by simp [results, Tryz.results115, go_sem, cutN_eq]) rfl ⟨rfl, by rw [cutN_eq]⟩
theorem imm_any (g : Nat) (v a n : Int) (h0 : -9223372036854775808 ≤ v) (h1 : v < 9223372036854775808) (ha0 : 0 ≤ a) (ha : a ≤ 63) (hn0 : 0 ≤ n) (hn : n ≤ 64) (w : World) (hc : w.cell? ⟨g, 4, none⟩ = some (.int .i64 v)) :
    Calls Tryz.prog 114 #[.int .i64 a, .int .i64 n, .pointer (some ⟨g, 0, none⟩)] w fun e w' => e = .returned (.agg #[.int .u32 (cutN v a.toNat : Nat), .int .i64 n]) ∧ w' = (w.alloc (.cells #[.int .u32 (cutN v a.toNat : Nat), .int .i64 n] 170)).alloc (.cells #[.int .u32 (cutN v a.toNat : Nat), .int .i64 n] 170) := by
  have hg : g < w.heap.size := World.block_lt_of_cell? w ⟨g, 4, none⟩ hc
  go_enter Tryz.func114, Tryz.ntmps114
  go_wp2_with (go_at_call 115; (with_reducible refine (cut_any v a n h0 h1 ha0 ha hn0 hn _).mono ?_); rintro e w' ⟨rfl, rfl⟩)
  exact bodyPost_ret (v := .agg #[.int .u32 (cutN v a.toNat : Nat), .int .i64 n]) (by simp [results, Tryz.results114, go_sem]) rfl ⟨rfl, rfl⟩
end Go.Proofs.YtcckgfablfgknaaGreatDoor
