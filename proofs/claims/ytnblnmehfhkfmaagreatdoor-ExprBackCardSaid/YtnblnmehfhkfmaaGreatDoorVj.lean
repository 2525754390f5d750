/- errors.Is of a Fault and its error: contract. -/
import Derived.Test.YtnblnmehfhkfmaaGreatDoorVh
namespace Go.Proofs.YtnblnmehfhkfmaaGreatDoor
open Go.ChangeShapes Go.WideShapes Go.ChangeAt Go.RowKit Go.Extern.Stop Go.Stop Go.Extern
set_option linter.unusedVariables false
theorem compE (w : World) : (ReflectliteType.method (fun t => do Rtype.noPackHeld "Comparable" t; (fun a : TypeInfo => Value.bool a.comparable) <$> typeInfo t) #[.agg #[.pointer (some ⟨9, 29, none⟩)]]).run Tryz.prog w = .ok (.bool true) w := by kernel_rfl
theorem eqFE (a0 e0 e1 : Int) (w : World) : (binOp .eql 41 (.iface 48 (.agg #[.int .i64 a0, .int .i64 e0])) (.iface 29 (.int .i64 e1))).run Tryz.prog w = .ok (.bool false) w := by kernel_rfl
theorem infE : ∃ i, Tryz.prog.info? 29 = some i ∧ i.comparable = true := by
  have h : (Tryz.prog.info? 29).map (·.comparable) = some true := by kernel_rfl
  obtain ⟨i, hi, hc⟩ := Option.map_eq_some_iff.1 h
  exact ⟨i, hi, hc⟩
theorem eqInE (d : Nat) (e0 : Int) (w : World) {i : TypeInfo} (hi : Tryz.prog.info? 29 = some i) (hc : i.comparable = true) : (Op.equalIn (d + 2) 41 (.iface 29 (.int .i64 e0)) (.iface 29 (.int .i64 e0))).run Tryz.prog w = .ok true w := by
  simp [Op.equalIn, run_underlying Tryz.underlying41, run_underlying Tryz.underlying29, typeInfo, hi, hc]
theorem eqEE (e0 : Int) (w : World) : (binOp .eql 41 (.iface 29 (.int .i64 e0)) (.iface 29 (.int .i64 e0))).run Tryz.prog w = .ok (.bool true) w := by
  obtain ⟨i, hi, hc⟩ := infE
  have h := eqInE 9998 e0 w hi hc
  simp only [binOp]
  simp [Op.equal, Op.maxDepth, h]
theorem ta94 (v : Value) (w : World) : (Instr.typeAssert (.iface 48 v) 41 112 true).run Tryz.prog w = .ok (.tuple #[.nilIface, .bool false]) w :=
  run_typeAssert_lacksB Tryz.underlying112 (by kernel_rfl) (by kernel_rfl) v _ w
theorem ta88 (a0 e0 : Int) (w : World) : (Instr.typeAssert (.iface 48 (.agg #[.int .i64 a0, .int .i64 e0])) 41 107 true).run Tryz.prog w = .ok (.tuple #[.iface 48 (.agg #[.int .i64 a0, .int .i64 e0]), .bool true]) w := by kernel_rfl
theorem mUnwrap (a0 e0 : Int) (w : World) : (Go.method 284 48 (.agg #[.int .i64 a0, .int .i64 e0]) "Unwrap").run Tryz.prog w = .ok (123, .agg #[.int .i64 a0, .int .i64 e0]) w := by kernel_rfl
set_option maxHeartbeats 4000000 in
set_option maxRecDepth 100000 in
theorem is_any (a0 e0 : Int) (w : World) :
    Calls Tryz.prog 30 #[.iface 48 (.agg #[.int .i64 a0, .int .i64 e0]), .iface 29 (.int .i64 e0)] w fun ev w' => ev = .returned (.bool true) ∧ Below w.heap.size w w' := by
  have h10 := @run_callFunc_extern Tryz.prog 44 _ ReflectliteType.typeOf Tryz.func44 (by kernel_rfl) (by kernel_rfl) (by kernel_rfl) (by kernel_rfl)
  have h98 := @run_callFunc_extern Tryz.prog 129 _ (ReflectliteType.method fun t => do Rtype.noPackHeld "Comparable" t; pure (.bool (← typeInfo t).comparable)) Tryz.func129 (by kernel_rfl) (by kernel_rfl) (by kernel_rfl) (by kernel_rfl)
  have tO := typeOf_En
  have mC := mComparable
  have cE := compE
  have q1 := eqFE
  have q2 := eqEE
  have t1 := ta94
  have t2 := ta88
  have mU := mUnwrap
  go_enter Tryz.func30, Tryz.ntmps30
  go_wp2
  refine wp_loop_rounds 2 ?_
  rw [rounds_succ]
  go_wp2
  rw [rounds_succ]
  go_wp2
  go_ret
  exact ⟨rfl, (Below.refl _ _).alloc (Nat.le_refl _) _⟩
end Go.Proofs.YtnblnmehfhkfmaaGreatDoor
