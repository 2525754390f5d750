/- errors.As at *api.Errno and at *api.Fault: contracts at a concrete target (after the guide's worked example of errors.As). -/
import Derived.Test.YtfpoflddnlbpjaaGreatDoorZbP
import Derived.WalkKit
import Derived.LaidEql
import Derived.Stop.Asserts
import Derived.RowKitTokens
namespace Go.Proofs.YtfpoflddnlbpjaaGreatDoor
open Go.ChangeShapes Go.WideShapes Go.ChangeAt Go.RowKit Go.Extern.Stop Go.Stop Go.Extern
set_option linter.unusedVariables false
theorem as_nil (t : Value) (w : World) :
    Calls Tryz.prog 17 #[.nilIface, t] w fun e w' => e = .returned (.bool false) ∧ w = w' := by
  go_enter Tryz.func17, Tryz.ntmps17
  go_wp2
  go_ret
  exact ⟨rfl, rfl⟩
theorem mKind (h : Value) (w : World) : (Go.method 400 124 (.agg #[h]) "Kind").run Tryz.prog w = .ok (225, h) w := by kernel_rfl
theorem mElem (h : Value) (w : World) : (Go.method 400 124 (.agg #[h]) "Elem").run Tryz.prog w = .ok (238, .agg #[h]) w := by kernel_rfl
theorem mImplements (h : Value) (w : World) : (Go.method 400 124 (.agg #[h]) "Implements").run Tryz.prog w = .ok (239, .agg #[h]) w := by kernel_rfl
theorem mAssignableTo (h : Value) (w : World) : (Go.method 400 124 (.agg #[h]) "AssignableTo").run Tryz.prog w = .ok (236, .agg #[h]) w := by kernel_rfl
theorem mComparable (h : Value) (w : World) : (Go.method 400 124 (.agg #[h]) "Comparable").run Tryz.prog w = .ok (237, .agg #[h]) w := by kernel_rfl
theorem rlm (z : Sem Value) (f : TypeId → Addr → Nat → Nat → Sem Value) (v : Value) :
    ReflectliteValue.method z f #[v] = (do match ← ReflectliteValue.parts v with | none => z | some (t, a, fl) => f t a fl (fl % 32)) := rfl
theorem rls (v x : Value) : ReflectliteValue.set #[v, x] = (do
    let (some (dst, a, fl), some (src, b, _)) := (← ReflectliteValue.parts v, ← ReflectliteValue.parts x)
      | unsupported (.noEntry "extern/(internal/reflectlite.Value).Set.zeroValue")
    if fl / ReflectliteValue.flagAddr % 2 == 0 then unsupported (.noEntry "extern/(internal/reflectlite.Value).Set.unaddressable")
    let val ← loadVar src b
    if ← Rtype.directlyAssignable dst src then storeVar dst a val
    else if ← Rtype.implements dst src then
      if (← Rtype.kind src) == 20 then
        match val with
        | .nilIface => unsupported (.noEntry "extern/reflectlite: a nil value of one interface type handed on as a value of another")
        | _ => storeVar dst a val
      else storeVar dst a (.iface src val)
    else panicString ("reflectlite.Set: value of type " ++ (← Rtype.spelt src) ++ " is not assignable to type " ++ (← Rtype.spelt dst))
    pure (.tuple #[])) := rfl
theorem valueOfP_En (t : Addr) (w : World) : (ReflectliteValue.unpack (.iface 117 (.pointer (some t)))).run Tryz.prog w
    = .ok (.agg #[.pointer (some ⟨12, 117, none⟩), .pointer (some ⟨w.heap.size, 0, none⟩), .int .u64 150]) (w.alloc (.cells #[.pointer (some t)] 117)) := by kernel_rfl
theorem typeP_En (a : Addr) (w : World) : (ReflectliteValue.methodAny (ReflectliteValue.valueError "reflectlite.Value.Type" 0) (fun t _ _ _ => ReflectliteType.toType t) #[.agg #[.pointer (some ⟨12, 117, none⟩), .pointer (some a), .int .u64 150]]).run Tryz.prog w
    = .ok (.iface 124 (.agg #[.pointer (some ⟨12, 117, none⟩)])) w := by kernel_rfl
theorem kindP_En (w : World) : ((ReflectliteType.abiMethod fun t => (fun a : Nat => Value.int IntKind.u8 (a : Int)) <$> Rtype.kind t) #[.pointer (some ⟨12, 117, none⟩)]).run Tryz.prog w = .ok (.int .u8 22) w := by kernel_rfl
theorem kindE_En (w : World) : ((ReflectliteType.abiMethod fun t => (fun a : Nat => Value.int IntKind.u8 (a : Int)) <$> Rtype.kind t) #[.pointer (some ⟨12, 28, none⟩)]).run Tryz.prog w = .ok (.int .u8 2) w := by kernel_rfl
theorem partsP_En (a : Addr) (w : World) : (ReflectliteValue.parts (.agg #[.pointer (some ⟨12, 117, none⟩), .pointer (some a), .int .u64 150])).run Tryz.prog w = .ok (some (117, a, 150)) w := by kernel_rfl
theorem isNil_En (a p : Addr) (W : World) (ha : W.cell? a = some (.pointer (some p))) :
    (ReflectliteValue.method (ReflectliteValue.valueError "reflectlite.Value.IsNil" 0) ReflectliteValue.isNil #[.agg #[.pointer (some ⟨12, 117, none⟩), .pointer (some a), .int .u64 150]]).run Tryz.prog W = .ok (.bool false) W := by
  rw [rlm]
  simp only [Sem.run_bind, partsP_En, Result.andThen]
  simp [ReflectliteValue.isNil, loadVar, isAgg, underlying, Tryz.underlying117, ha, Result.andThen]
theorem elemT_En (w : World) : (ReflectliteType.method ReflectliteType.elem #[.agg #[.pointer (some ⟨12, 117, none⟩)]]).run Tryz.prog w = .ok (.iface 124 (.agg #[.pointer (some ⟨12, 28, none⟩)])) w := by kernel_rfl
theorem impl_En (w : World) : (ReflectliteType.relation "Implements" ReflectliteType.implements_ #[.agg #[.pointer (some ⟨12, 28, none⟩)], .iface 124 (.agg #[.pointer (some ⟨12, 32, none⟩)])]).run Tryz.prog w = .ok (.bool true) w := by kernel_rfl
theorem typeOf_En (v : Value) (w : World) : (ReflectliteType.typeOf #[.iface 28 v]).run Tryz.prog w = .ok (.iface 124 (.agg #[.pointer (some ⟨12, 28, none⟩)])) w := by kernel_rfl
theorem assign_En (w : World) : (ReflectliteType.relation "AssignableTo" ReflectliteType.assignableTo #[.agg #[.pointer (some ⟨12, 28, none⟩)], .iface 124 (.agg #[.pointer (some ⟨12, 28, none⟩)])]).run Tryz.prog w = .ok (.bool true) w := by kernel_rfl
theorem valueOfE_En (e0 : Int) (w : World) : (ReflectliteValue.unpack (.iface 28 (.int .i64 e0))).run Tryz.prog w
    = .ok (.agg #[.pointer (some ⟨12, 28, none⟩), .pointer (some ⟨w.heap.size, 0, none⟩), .int .u64 130]) (w.alloc (.cells #[.int .i64 e0] 28)) := by kernel_rfl
theorem elemOf_En (w : World) : (Rtype.elem? 117).run Tryz.prog w = .ok (some 28) w := by kernel_rfl
theorem mk_En (p : Addr) (w : World) : (ReflectliteValue.mk 28 p ReflectliteValue.flagAddr).run Tryz.prog w = .ok (.agg #[.pointer (some ⟨12, 28, none⟩), .pointer (some p), .int .u64 386]) w := by kernel_rfl
theorem elemV_En (a p : Addr) (W : World) (ha : W.cell? a = some (.pointer (some p))) :
    (ReflectliteValue.method (ReflectliteValue.valueError "reflectlite.Value.Elem" 0) ReflectliteValue.elem #[.agg #[.pointer (some ⟨12, 117, none⟩), .pointer (some a), .int .u64 150]]).run Tryz.prog W
      = .ok (.agg #[.pointer (some ⟨12, 28, none⟩), .pointer (some p), .int .u64 386]) W := by
  rw [rlm]
  simp only [Sem.run_bind, partsP_En, Result.andThen]
  simp [ReflectliteValue.elem, loadVar, isAgg, underlying, Tryz.underlying117, ha, Result.andThen, elemOf_En, mk_En]
theorem partsA_En (a : Addr) (w : World) : (ReflectliteValue.parts (.agg #[.pointer (some ⟨12, 28, none⟩), .pointer (some a), .int .u64 386])).run Tryz.prog w = .ok (some (28, a, 386)) w := by kernel_rfl
theorem partsV_En (a : Addr) (w : World) : (ReflectliteValue.parts (.agg #[.pointer (some ⟨12, 28, none⟩), .pointer (some a), .int .u64 130])).run Tryz.prog w = .ok (some (28, a, 130)) w := by kernel_rfl
theorem direct_En (w : World) : (Rtype.directlyAssignable 28 28).run Tryz.prog w = .ok true w := by kernel_rfl
theorem valueOfP_Ft (t : Addr) (w : World) : (ReflectliteValue.unpack (.iface 38 (.pointer (some t)))).run Tryz.prog w
    = .ok (.agg #[.pointer (some ⟨12, 38, none⟩), .pointer (some ⟨w.heap.size, 0, none⟩), .int .u64 150]) (w.alloc (.cells #[.pointer (some t)] 38)) := by kernel_rfl
theorem typeP_Ft (a : Addr) (w : World) : (ReflectliteValue.methodAny (ReflectliteValue.valueError "reflectlite.Value.Type" 0) (fun t _ _ _ => ReflectliteType.toType t) #[.agg #[.pointer (some ⟨12, 38, none⟩), .pointer (some a), .int .u64 150]]).run Tryz.prog w
    = .ok (.iface 124 (.agg #[.pointer (some ⟨12, 38, none⟩)])) w := by kernel_rfl
theorem kindP_Ft (w : World) : ((ReflectliteType.abiMethod fun t => (fun a : Nat => Value.int IntKind.u8 (a : Int)) <$> Rtype.kind t) #[.pointer (some ⟨12, 38, none⟩)]).run Tryz.prog w = .ok (.int .u8 22) w := by kernel_rfl
theorem kindE_Ft (w : World) : ((ReflectliteType.abiMethod fun t => (fun a : Nat => Value.int IntKind.u8 (a : Int)) <$> Rtype.kind t) #[.pointer (some ⟨12, 36, none⟩)]).run Tryz.prog w = .ok (.int .u8 25) w := by kernel_rfl
theorem partsP_Ft (a : Addr) (w : World) : (ReflectliteValue.parts (.agg #[.pointer (some ⟨12, 38, none⟩), .pointer (some a), .int .u64 150])).run Tryz.prog w = .ok (some (38, a, 150)) w := by kernel_rfl
theorem isNil_Ft (a p : Addr) (W : World) (ha : W.cell? a = some (.pointer (some p))) :
    (ReflectliteValue.method (ReflectliteValue.valueError "reflectlite.Value.IsNil" 0) ReflectliteValue.isNil #[.agg #[.pointer (some ⟨12, 38, none⟩), .pointer (some a), .int .u64 150]]).run Tryz.prog W = .ok (.bool false) W := by
  rw [rlm]
  simp only [Sem.run_bind, partsP_Ft, Result.andThen]
  simp [ReflectliteValue.isNil, loadVar, isAgg, underlying, Tryz.underlying38, ha, Result.andThen]
theorem elemT_Ft (w : World) : (ReflectliteType.method ReflectliteType.elem #[.agg #[.pointer (some ⟨12, 38, none⟩)]]).run Tryz.prog w = .ok (.iface 124 (.agg #[.pointer (some ⟨12, 36, none⟩)])) w := by kernel_rfl
theorem impl_Ft (w : World) : (ReflectliteType.relation "Implements" ReflectliteType.implements_ #[.agg #[.pointer (some ⟨12, 36, none⟩)], .iface 124 (.agg #[.pointer (some ⟨12, 32, none⟩)])]).run Tryz.prog w = .ok (.bool true) w := by kernel_rfl
theorem typeOf_Ft (v : Value) (w : World) : (ReflectliteType.typeOf #[.iface 36 v]).run Tryz.prog w = .ok (.iface 124 (.agg #[.pointer (some ⟨12, 36, none⟩)])) w := by kernel_rfl
theorem assign_Ft (w : World) : (ReflectliteType.relation "AssignableTo" ReflectliteType.assignableTo #[.agg #[.pointer (some ⟨12, 36, none⟩)], .iface 124 (.agg #[.pointer (some ⟨12, 36, none⟩)])]).run Tryz.prog w = .ok (.bool true) w := by kernel_rfl
theorem valueOfE_Ft (a0 e0 : Int) (w : World) : (ReflectliteValue.unpack (.iface 36 (.agg #[.int .i64 a0, .int .i64 e0]))).run Tryz.prog w
    = .ok (.agg #[.pointer (some ⟨12, 36, none⟩), .pointer (some ⟨w.heap.size, 0, none⟩), .int .u64 153]) (w.alloc (.cells #[.int .i64 a0, .int .i64 e0] 36)) := by kernel_rfl
theorem elemOf_Ft (w : World) : (Rtype.elem? 38).run Tryz.prog w = .ok (some 36) w := by kernel_rfl
theorem mk_Ft (p : Addr) (w : World) : (ReflectliteValue.mk 36 p ReflectliteValue.flagAddr).run Tryz.prog w = .ok (.agg #[.pointer (some ⟨12, 36, none⟩), .pointer (some p), .int .u64 409]) w := by kernel_rfl
theorem elemV_Ft (a p : Addr) (W : World) (ha : W.cell? a = some (.pointer (some p))) :
    (ReflectliteValue.method (ReflectliteValue.valueError "reflectlite.Value.Elem" 0) ReflectliteValue.elem #[.agg #[.pointer (some ⟨12, 38, none⟩), .pointer (some a), .int .u64 150]]).run Tryz.prog W
      = .ok (.agg #[.pointer (some ⟨12, 36, none⟩), .pointer (some p), .int .u64 409]) W := by
  rw [rlm]
  simp only [Sem.run_bind, partsP_Ft, Result.andThen]
  simp [ReflectliteValue.elem, loadVar, isAgg, underlying, Tryz.underlying38, ha, Result.andThen, elemOf_Ft, mk_Ft]
theorem partsA_Ft (a : Addr) (w : World) : (ReflectliteValue.parts (.agg #[.pointer (some ⟨12, 36, none⟩), .pointer (some a), .int .u64 409])).run Tryz.prog w = .ok (some (36, a, 409)) w := by kernel_rfl
theorem partsV_Ft (a : Addr) (w : World) : (ReflectliteValue.parts (.agg #[.pointer (some ⟨12, 36, none⟩), .pointer (some a), .int .u64 153])).run Tryz.prog w = .ok (some (36, a, 153)) w := by kernel_rfl
theorem direct_Ft (w : World) : (Rtype.directlyAssignable 36 36).run Tryz.prog w = .ok true w := by kernel_rfl
end Go.Proofs.YtfpoflddnlbpjaaGreatDoor

/- errors.Is of a Fault and its error: contract. -/
namespace Go.Proofs.YtfpoflddnlbpjaaGreatDoor
open Go.ChangeShapes Go.WideShapes Go.ChangeAt Go.RowKit Go.Extern.Stop Go.Stop Go.Extern
set_option linter.unusedVariables false
theorem compE (w : World) : (ReflectliteType.method (fun t => do Rtype.noPackHeld "Comparable" t; (fun a : TypeInfo => Value.bool a.comparable) <$> typeInfo t) #[.agg #[.pointer (some ⟨12, 28, none⟩)]]).run Tryz.prog w = .ok (.bool true) w := by kernel_rfl
theorem eqFE (a0 e0 e1 : Int) (w : World) : (binOp .eql 32 (.iface 36 (.agg #[.int .i64 a0, .int .i64 e0])) (.iface 28 (.int .i64 e1))).run Tryz.prog w = .ok (.bool false) w := by kernel_rfl
theorem infE : ∃ i, Tryz.prog.info? 28 = some i ∧ i.comparable = true := by
  have h : (Tryz.prog.info? 28).map (·.comparable) = some true := by kernel_rfl
  obtain ⟨i, hi, hc⟩ := Option.map_eq_some_iff.1 h
  exact ⟨i, hi, hc⟩
theorem eqInE (d : Nat) (e0 : Int) (w : World) {i : TypeInfo} (hi : Tryz.prog.info? 28 = some i) (hc : i.comparable = true) : (Op.equalIn (d + 2) 32 (.iface 28 (.int .i64 e0)) (.iface 28 (.int .i64 e0))).run Tryz.prog w = .ok true w := by
  simp [Op.equalIn, run_underlying Tryz.underlying32, run_underlying Tryz.underlying28, typeInfo, hi, hc]
theorem eqEE (e0 : Int) (w : World) : (binOp .eql 32 (.iface 28 (.int .i64 e0)) (.iface 28 (.int .i64 e0))).run Tryz.prog w = .ok (.bool true) w := by
  obtain ⟨i, hi, hc⟩ := infE
  have h := eqInE 9998 e0 w hi hc
  simp only [binOp]
  simp [Op.equal, Op.maxDepth, h]
theorem ta94 (v : Value) (w : World) : (Instr.typeAssert (.iface 36 v) 32 136 true).run Tryz.prog w = .ok (.tuple #[.nilIface, .bool false]) w :=
  run_typeAssert_lacksB Tryz.underlying136 (by kernel_rfl) (by kernel_rfl) v _ w
theorem ta88 (a0 e0 : Int) (w : World) : (Instr.typeAssert (.iface 36 (.agg #[.int .i64 a0, .int .i64 e0])) 32 131 true).run Tryz.prog w = .ok (.tuple #[.iface 36 (.agg #[.int .i64 a0, .int .i64 e0]), .bool true]) w := by kernel_rfl
theorem mUnwrap (a0 e0 : Int) (w : World) : (Go.method 400 36 (.agg #[.int .i64 a0, .int .i64 e0]) "Unwrap").run Tryz.prog w = .ok (230, .agg #[.int .i64 a0, .int .i64 e0]) w := by kernel_rfl
set_option maxHeartbeats 4000000 in
set_option maxRecDepth 100000 in
theorem is_any (a0 e0 : Int) (w : World) :
    Calls Tryz.prog 18 #[.iface 36 (.agg #[.int .i64 a0, .int .i64 e0]), .iface 28 (.int .i64 e0)] w fun ev w' => ev = .returned (.bool true) ∧ Below w.heap.size w w' := by
  have h10 := @run_callFunc_extern Tryz.prog 37 _ ReflectliteType.typeOf Tryz.func37 (by kernel_rfl) (by kernel_rfl) (by kernel_rfl) (by kernel_rfl)
  have h98 := @run_callFunc_extern Tryz.prog 237 _ (ReflectliteType.method fun t => do Rtype.noPackHeld "Comparable" t; pure (.bool (← typeInfo t).comparable)) Tryz.func237 (by kernel_rfl) (by kernel_rfl) (by kernel_rfl) (by kernel_rfl)
  have tO := typeOf_En
  have mC := mComparable
  have cE := compE
  have q1 := eqFE
  have q2 := eqEE
  have t1 := ta94
  have t2 := ta88
  have mU := mUnwrap
  go_enter Tryz.func18, Tryz.ntmps18
  go_wp2
  refine wp_loop_rounds 2 ?_
  rw [rounds_succ]
  go_wp2
  rw [rounds_succ]
  go_wp2
  go_ret
  exact ⟨rfl, (Below.refl _ _).alloc (Nat.le_refl _) _⟩
end Go.Proofs.YtfpoflddnlbpjaaGreatDoor
