/- What is proved: MemNil returns true for any step, which stays as it was. Conditions: none beyond the row's own. -/
import Derived.Test.YtkcgnpcfdfkpjaaAv
import Derived.Test.YtkcgnpcfdfkpjaaIo
import Derived.Test.YtkcgnpcfdfkpjaaBs
namespace Go.Proofs.Ytkcgnpcfdfkpjaa.memNil
open Go.ChangeShapes Go.WideShapes Go.ChangeAt Go.RowKit
set_option linter.unusedVariables false
set_option maxRecDepth 100000 in
set_option maxHeartbeats 2000000 in
theorem walk (x : St) (hx : x.wf) (w : World) :
    Calls Try.prog 6 #[.agg (stC x).toArray] w fun e w' => e = .returned (.bool true) ∧ Below w.heap.size w w' := by
  obtain ⟨hd, ha, hn, hv, hs⟩ := hx
  show Calls Try.prog 6 #[.agg #[.int .i64 x.d, .int .u64 x.a, .int .i64 x.n, .int .u64 x.v, .string x.s, .bool x.t]] w _
  obtain ⟨W, hW⟩ : ∃ W, w.alloc (.cells #[.int .i64 x.d, .int .u64 x.a, .int .i64 x.n, .int .u64 x.v, .string x.s, .bool x.t] 39) = W := ⟨_, rfl⟩
  have hB : Below w.heap.size w W := by rw [← hW]; exact aBelow (Below.refl _ _) _
  have a1 : W.cell? ⟨w.heap.size, 1, none⟩ = some (.int .u64 x.a) := by rw [← hW]; exact nwc _ _ _ _
  have a2 : W.cell? ⟨w.heap.size, 2, none⟩ = some (.int .i64 x.n) := by rw [← hW]; exact nwc _ _ _ _
  have a3 : W.cell? ⟨w.heap.size, 3, none⟩ = some (.int .u64 x.v) := by rw [← hW]; exact nwc _ _ _ _
  have a4 : W.cell? ⟨w.heap.size, 4, none⟩ = some (.string x.s) := by rw [← hW]; exact nwc _ _ _ _
  have a5 : W.cell? ⟨w.heap.size, 5, none⟩ = some (.bool x.t) := by rw [← hW]; exact nwc _ _ _ _
  by_cases hbig : 4096 < x.s.size
  · go_enter Try.func6, Try.ntmps6
    go_wp2_with (go_at_call 9; (with_reducible refine (alive_any _).mono ?_); (rintro e w1 ⟨rfl, hb1⟩))
    go_ret
    exact ⟨rfl, below_trans' hB (Nat.le_refl _) hb1⟩
  · have hbig' : ¬ (4096 : Int) < (x.s.size : Int) := by omega
    have hL := load_nil x.a x.n
    have hF := fetch_nil x.a
    have hY := bytes_nil x.a x.n
    have hS := store_nil x.a x.n x.v x.t
    have hT := set_nil x.a x.s (by omega) x.t
    go_enter Try.func6, Try.ntmps6
    go_wp2_with (first
      | (go_at_call 16; (with_reducible refine (hL _).mono ?_); (rintro e w1 ⟨rfl, hb1⟩); have hB := below_trans' hB (Nat.le_refl _) hb1; have a1 := stay hb1 a1; have a2 := stay hb1 a2; have a3 := stay hb1 a3; have a4 := stay hb1 a4; have a5 := stay hb1 a5)
      | (go_at_call 18; (with_reducible refine (hF _).mono ?_); (rintro e w1 ⟨rfl, hb1⟩); have hB := below_trans' hB (Nat.le_refl _) hb1; have a1 := stay hb1 a1; have a2 := stay hb1 a2; have a3 := stay hb1 a3; have a4 := stay hb1 a4; have a5 := stay hb1 a5)
      | (go_at_call 17; (with_reducible refine (hY _).mono ?_); (rintro e w1 ⟨rfl, hb1⟩); have hB := below_trans' hB (Nat.le_refl _) hb1; have a1 := stay hb1 a1; have a2 := stay hb1 a2; have a3 := stay hb1 a3; have a4 := stay hb1 a4; have a5 := stay hb1 a5)
      | (go_at_call 15; (with_reducible refine (hS _).mono ?_); (rintro e w1 ⟨rfl, hb1⟩); have hB := below_trans' hB (Nat.le_refl _) hb1; have a1 := stay hb1 a1; have a4 := stay hb1 a4; have a5 := stay hb1 a5)
      | (go_at_call 14; (with_reducible refine (hT _).mono ?_); (rintro e w1 ⟨rfl, hb1⟩); have hB := below_trans' hB (Nat.le_refl _) hb1)
      | (go_at_call 19; (with_reducible refine (regions_nil _).mono ?_); (rintro e w1 ⟨rfl, rfl⟩))
      | (go_at_call 9; (with_reducible refine (alive_any _).mono ?_); (rintro e w1 ⟨rfl, hb1⟩); have hB := below_trans' hB (Nat.le_refl _) hb1))
    go_ret
    exact ⟨rfl, hB⟩
theorem own : ownKnob Try.prog.godebug = none := by kernel_rfl
set_option maxRecDepth 100000 in
theorem lifted (os : Os) (started : os.Started) (H : Type) (enc : TypeId × Value → H) :
    ReturnsInHanded {} Try.checked os 6 .any (Rows.memNilSpec.pre6 enc Try.prog Try.f6 Rows.memNilRow.domain false) (Rows.memNilSpec.post enc Try.prog Try.f6 false true false false) := by
  refine returnsInHanded_of_change (C := Try.checked) own started (by kernel_rfl) Try.func6
    (ChangeSpec.witness6 (enc := enc) (C := Try.checked) false ⟨#[], #[.agg #[.int .i64 0, .int .u64 0, .int .i64 0, .int .u64 0, .string ByteArray.empty, .bool false]], []⟩ 8 (by kernel_rfl) (by kernel_rfl) (by kernel_rfl) (by kernel_rfl)) ?_
  intro W base args ds gs before hval0 hW hcnd _
  have hval : ∀ (j : Nat) t v, Try.f6.params[j]? = some t → args[j]? = some v → Value.okWide Try.prog W .any base t v := hval0
  have hW' := hW
  obtain ⟨p, q, hA0, hV, rfl, hfz, hnd⟩ := hW
  have hA : DataW.TrodAll enc Try.prog W 0 (fun _ => true) true Try.f6.params.toList args.toList ds p := hA0
  rw [Try.params6] at hA hval
  obtain ⟨v0, vs0, d0, ds0, p0, q0, hargs, rfl, rfl, h0, r0⟩ := trodAll_cons hA
  obtain ⟨rfl, rfl, rfl⟩ := trodAll_nil r0
  obtain rfl : args = #[v0] := by cases args; simp_all
  obtain ⟨rfl, rfl⟩ := trodVars_none hV
  obtain ⟨y, hy, rfl⟩ := open_st (hval 0 39 v0 rfl rfl) h0
  clear hA0 hval0
  simp only [List.append_nil] at hW'
  have hlt : ∀ x ∈ p0, x.block < W.heap.size := fun x hx => by simpa using hW'.lt x hx
  refine (walk y hy W).mono fun e W' ⟨he, hg⟩ => ?_
  subst he
  exact ⟨_, rfl, _, _, _, [], p0, [], hW', trodAll_mk1 (shut_bool Try.underlying4 _), trodAll_mk1 (Below.trod laidOut (by kernel_rfl) (of_decide_eq_true (by kernel_rfl)) h0 hg hlt), rfl, hg.frame _, fun h => by cases h⟩
theorem over : Rows.memNilRow.holds Try.pinned (OpenSpec.ofChange Rows.memNilSpec) :=
  OpenClaim.holds_of_wide 6 Try.f6 rfl rfl rfl rfl rfl rfl rfl ⟨rfl, rfl, rfl, rfl, rfl⟩ rfl rfl rfl rfl rfl (by kernel_rfl) Try.func6 (by kernel_rfl)
    (of_decide_eq_true (by kernel_rfl)) (by unfold Func.isWrapper; first | (rw [if_pos (by decide +kernel)]; kernel_rfl) | (rw [if_neg (by decide +kernel)]; exact ⟨rfl, rfl⟩))
    (fun os started H enc _ => lifted os started H enc)
/-- The statement. -/
theorem proved : Rows.MemNilSaid :=
  over
end Go.Proofs.Ytkcgnpcfdfkpjaa.memNil
