/- errors.As at *api.Errno and at *api.Fault: contracts at a concrete target (after the guide's worked example of errors.As). -/
import Derived.Test.YtkibkaoffgnmkaaGreatDoorL01
import Derived.WalkKit
import Derived.LaidEql
import Derived.Stop.Asserts
import Derived.RowKitTokens
import Derived.Test.YtkibkaoffgnmkaaGreatDoorL05
import Derived.RangeFuncBox
namespace Go.Proofs.YtkibkaoffgnmkaaGreatDoor
set_option linter.unusedVariables false
set_option linter.unusedSimpArgs false
set_option maxRecDepth 100000
set_option maxHeartbeats 200000000
section
open Go.ChangeShapes Go.WideShapes Go.ChangeAt Go.RowKit Go.Extern.Stop Go.Stop Go.Extern
theorem as_nil (t : Value) (w : World) :
  Calls Tryz.prog 61 #[.nilIface, t] w fun e w' => e = .returned (.bool false) ∧ w = w' := by
 go_enter Tryz.func61, Tryz.ntmps61
 go_wp2
 go_ret
 exact ⟨rfl, rfl⟩
theorem mKind (h : Value) (w : World) : (Go.method 392 182 (.agg #[h]) "Kind").run Tryz.prog w = .ok (218, h) w := by kernel_rfl
theorem mElem (h : Value) (w : World) : (Go.method 392 182 (.agg #[h]) "Elem").run Tryz.prog w = .ok (231, .agg #[h]) w := by kernel_rfl
theorem mImplements (h : Value) (w : World) : (Go.method 392 182 (.agg #[h]) "Implements").run Tryz.prog w = .ok (232, .agg #[h]) w := by kernel_rfl
theorem mAssignableTo (h : Value) (w : World) : (Go.method 392 182 (.agg #[h]) "AssignableTo").run Tryz.prog w = .ok (229, .agg #[h]) w := by kernel_rfl
theorem rlm (z : Sem Value) (f : TypeId → Addr → Nat → Nat → Sem Value) (v : Value) :
  ReflectliteValue.method z f #[v] = (do match ← ReflectliteValue.parts v with | none => z | some (t, a, fl) => f t a fl (fl % 32)) := rfl
theorem rls (v x : Value) : ReflectliteValue.set #[v, x] = (do
  let (some (dst, a, fl), some (src, b, _)) := (← ReflectliteValue.parts v, ← ReflectliteValue.parts x)
   | unsupported (.noEntry "extern/(internal/reflectlite.Value).Set.zeroValue")
  if fl / ReflectliteValue.flagAddr % 2 == 0 then unsupported (.noEntry "extern/(internal/reflectlite.Value).Set.unaddressable")
  let val ← loadVar src b
  if ← Rtype.directlyAssignable dst src then storeVar dst a val
  else if ← Rtype.implements dst src then
   if (← Rtype.kind src) == 20 then
    match val with
    | .nilIface => unsupported (.noEntry "extern/reflectlite: a nil value of one interface type handed on as a value of another")
    | _ => storeVar dst a val
   else storeVar dst a (.iface src val)
  else panicString ("reflectlite.Set: value of type " ++ (← Rtype.spelt src) ++ " is not assignable to type " ++ (← Rtype.spelt dst))
  pure (.tuple #[])) := rfl
theorem valueOfP_En (t : Addr) (w : World) : (ReflectliteValue.unpack (.iface 113 (.pointer (some t)))).run Tryz.prog w
  = .ok (.agg #[.pointer (some ⟨12, 113, none⟩), .pointer (some ⟨w.heap.size, 0, none⟩), .int .u64 150]) (w.alloc (.cells #[.pointer (some t)] 113)) := by kernel_rfl
theorem typeP_En (a : Addr) (w : World) : (ReflectliteValue.methodAny (ReflectliteValue.valueError "reflectlite.Value.Type" 0) (fun t _ _ _ => ReflectliteType.toType t) #[.agg #[.pointer (some ⟨12, 113, none⟩), .pointer (some a), .int .u64 150]]).run Tryz.prog w
  = .ok (.iface 182 (.agg #[.pointer (some ⟨12, 113, none⟩)])) w := by kernel_rfl
theorem kindP_En (w : World) : ((ReflectliteType.abiMethod fun t => (fun a : Nat => Value.int IntKind.u8 (a : Int)) <$> Rtype.kind t) #[.pointer (some ⟨12, 113, none⟩)]).run Tryz.prog w = .ok (.int .u8 22) w := by kernel_rfl
theorem kindE_En (w : World) : ((ReflectliteType.abiMethod fun t => (fun a : Nat => Value.int IntKind.u8 (a : Int)) <$> Rtype.kind t) #[.pointer (some ⟨12, 28, none⟩)]).run Tryz.prog w = .ok (.int .u8 2) w := by kernel_rfl
theorem partsP_En (a : Addr) (w : World) : (ReflectliteValue.parts (.agg #[.pointer (some ⟨12, 113, none⟩), .pointer (some a), .int .u64 150])).run Tryz.prog w = .ok (some (113, a, 150)) w := by kernel_rfl
theorem isNil_En (a p : Addr) (W : World) (ha : W.cell? a = some (.pointer (some p))) :
  (ReflectliteValue.method (ReflectliteValue.valueError "reflectlite.Value.IsNil" 0) ReflectliteValue.isNil #[.agg #[.pointer (some ⟨12, 113, none⟩), .pointer (some a), .int .u64 150]]).run Tryz.prog W = .ok (.bool false) W := by
 rw [rlm]
 simp only [Sem.run_bind, partsP_En, Result.andThen]
 simp [ReflectliteValue.isNil, loadVar, isAgg, underlying, Tryz.underlying113, ha, Result.andThen]
theorem elemT_En (w : World) : (ReflectliteType.method ReflectliteType.elem #[.agg #[.pointer (some ⟨12, 113, none⟩)]]).run Tryz.prog w = .ok (.iface 182 (.agg #[.pointer (some ⟨12, 28, none⟩)])) w := by kernel_rfl
theorem impl_En (w : World) : (ReflectliteType.relation "Implements" ReflectliteType.implements_ #[.agg #[.pointer (some ⟨12, 28, none⟩)], .iface 182 (.agg #[.pointer (some ⟨12, 35, none⟩)])]).run Tryz.prog w = .ok (.bool true) w := by kernel_rfl
theorem typeOf_En (v : Value) (w : World) : (ReflectliteType.typeOf #[.iface 28 v]).run Tryz.prog w = .ok (.iface 182 (.agg #[.pointer (some ⟨12, 28, none⟩)])) w := by kernel_rfl
theorem assign_En (w : World) : (ReflectliteType.relation "AssignableTo" ReflectliteType.assignableTo #[.agg #[.pointer (some ⟨12, 28, none⟩)], .iface 182 (.agg #[.pointer (some ⟨12, 28, none⟩)])]).run Tryz.prog w = .ok (.bool true) w := by kernel_rfl
theorem valueOfE_En (e0 : Int) (w : World) : (ReflectliteValue.unpack (.iface 28 (.int .i64 e0))).run Tryz.prog w
  = .ok (.agg #[.pointer (some ⟨12, 28, none⟩), .pointer (some ⟨w.heap.size, 0, none⟩), .int .u64 130]) (w.alloc (.cells #[.int .i64 e0] 28)) := by kernel_rfl
theorem elemOf_En (w : World) : (Rtype.elem? 113).run Tryz.prog w = .ok (some 28) w := by kernel_rfl
theorem mk_En (p : Addr) (w : World) : (ReflectliteValue.mk 28 p ReflectliteValue.flagAddr).run Tryz.prog w = .ok (.agg #[.pointer (some ⟨12, 28, none⟩), .pointer (some p), .int .u64 386]) w := by kernel_rfl
theorem elemV_En (a p : Addr) (W : World) (ha : W.cell? a = some (.pointer (some p))) :
  (ReflectliteValue.method (ReflectliteValue.valueError "reflectlite.Value.Elem" 0) ReflectliteValue.elem #[.agg #[.pointer (some ⟨12, 113, none⟩), .pointer (some a), .int .u64 150]]).run Tryz.prog W
   = .ok (.agg #[.pointer (some ⟨12, 28, none⟩), .pointer (some p), .int .u64 386]) W := by
 rw [rlm]
 simp only [Sem.run_bind, partsP_En, Result.andThen]
 simp [ReflectliteValue.elem, loadVar, isAgg, underlying, Tryz.underlying113, ha, Result.andThen, elemOf_En, mk_En]
theorem partsA_En (a : Addr) (w : World) : (ReflectliteValue.parts (.agg #[.pointer (some ⟨12, 28, none⟩), .pointer (some a), .int .u64 386])).run Tryz.prog w = .ok (some (28, a, 386)) w := by kernel_rfl
theorem partsV_En (a : Addr) (w : World) : (ReflectliteValue.parts (.agg #[.pointer (some ⟨12, 28, none⟩), .pointer (some a), .int .u64 130])).run Tryz.prog w = .ok (some (28, a, 130)) w := by kernel_rfl
theorem direct_En (w : World) : (Rtype.directlyAssignable 28 28).run Tryz.prog w = .ok true w := by kernel_rfl
theorem set_En (ta b : Addr) (e0 : Int) (old : Value) (W : World) (hb : W.cell? b = some (.int .i64 e0)) (ht : W.cell? ta = some old) (hf : W.frozen? ta = false) :
  (ReflectliteValue.set #[.agg #[.pointer (some ⟨12, 28, none⟩), .pointer (some ta), .int .u64 386], .agg #[.pointer (some ⟨12, 28, none⟩), .pointer (some b), .int .u64 130]]).run Tryz.prog W
   = .ok (.tuple #[]) (W.setCell ta (.int .i64 e0)) := by
 rw [rls]
 simp only [Sem.run_bind, partsA_En, partsV_En, Result.andThen]
 simp [ReflectliteValue.flagAddr, loadVar, isAgg, underlying, Tryz.underlying28, hb, Result.andThen, direct_En, storeVar, Value.cells, storeCells, Addr.add]
 rw [run_store Tryz.prog W ta _ _ (by rfl)]
 simp [ht, hf]
theorem as_En (e0 : Int) (tb : Nat) (old : Value) (w : World) (hg : EtyOk w) (ht0 : w.cell? ⟨tb, 0, none⟩ = some old) (hf0 : w.frozen? ⟨tb, 0, none⟩ = false) :
  Calls Tryz.prog 61 #[.iface 28 (.int .i64 e0), .iface 113 (.pointer (some ⟨tb, 0, none⟩))] w fun ev w' => ev = .returned (.bool true) ∧ w' = ((((w.alloc (.cells #[.pointer (some ⟨tb, 0, none⟩)] 113)).alloc (.cells #[.pointer (some ⟨12, 113, none⟩), .pointer (some ⟨w.heap.size, 0, none⟩), .int .u64 150] 146)).alloc (.cells #[.pointer (some ⟨12, 113, none⟩), .pointer (some ⟨w.heap.size, 0, none⟩), .int .u64 150] 146)).alloc (.cells #[.int .i64 e0] 28)).setCell ⟨tb, 0, none⟩ (.int .i64 e0) := by
 unfold EtyOk at hg
 have h6 := @run_callFunc_extern Tryz.prog 97 _ (fun args => ReflectliteValue.unpack (args.getD 0 (.tuple #[]))) Tryz.func97 (by kernel_rfl) (by kernel_rfl) (by kernel_rfl) (by kernel_rfl)
 have h7 := @run_callFunc_extern Tryz.prog 98 _ (ReflectliteValue.methodAny (ReflectliteValue.valueError "reflectlite.Value.Type" 0) (fun t _ _ _ => ReflectliteType.toType t)) Tryz.func98 (by kernel_rfl) (by kernel_rfl) (by kernel_rfl) (by kernel_rfl)
 have h8 := @run_callFunc_extern Tryz.prog 99 _ (ReflectliteValue.method (ReflectliteValue.valueError "reflectlite.Value.IsNil" 0) ReflectliteValue.isNil) Tryz.func99 (by kernel_rfl) (by kernel_rfl) (by kernel_rfl) (by kernel_rfl)
 have h27 := @run_callFunc_extern Tryz.prog 218 _ (ReflectliteType.abiMethod fun t => do pure (.int .u8 (← Rtype.kind t))) Tryz.func218 (by kernel_rfl) (by kernel_rfl) (by kernel_rfl) (by kernel_rfl)
 have h37 := @run_callFunc_extern Tryz.prog 231 _ (ReflectliteType.method ReflectliteType.elem) Tryz.func231 (by kernel_rfl) (by kernel_rfl) (by kernel_rfl) (by kernel_rfl)
 have h38 := @run_callFunc_extern Tryz.prog 232 _ (ReflectliteType.relation "Implements" ReflectliteType.implements_) Tryz.func232 (by kernel_rfl) (by kernel_rfl) (by kernel_rfl) (by kernel_rfl)
 have h10 := @run_callFunc_extern Tryz.prog 134 _ ReflectliteType.typeOf Tryz.func134 (by kernel_rfl) (by kernel_rfl) (by kernel_rfl) (by kernel_rfl)
 have h35 := @run_callFunc_extern Tryz.prog 229 _ (ReflectliteType.relation "AssignableTo" ReflectliteType.assignableTo) Tryz.func229 (by kernel_rfl) (by kernel_rfl) (by kernel_rfl) (by kernel_rfl)
 have h11 := @run_callFunc_extern Tryz.prog 135 _ (ReflectliteValue.method (ReflectliteValue.valueError "reflectlite.Value.Elem" 0) ReflectliteValue.elem) Tryz.func135 (by kernel_rfl) (by kernel_rfl) (by kernel_rfl) (by kernel_rfl)
 have h12 := @run_callFunc_extern Tryz.prog 136 _ ReflectliteValue.set Tryz.func136 (by kernel_rfl) (by kernel_rfl) (by kernel_rfl) (by kernel_rfl)
 have tO := typeOf_En
 have mA := mAssignableTo
 have aE := assign_En
 have vE := valueOfE_En
 have f6 := valueOfP_En
 have f7 := typeP_En
 have mK := mKind
 have mE := mElem
 have mI := mImplements
 have kP := kindP_En
 have kE := kindE_En
 have eP := elemT_En
 have iE := impl_En
 have n8 := isNil_En ⟨w.heap.size, 0, none⟩ ⟨tb, 0, none⟩ ((w.alloc (.cells #[.pointer (some ⟨tb, 0, none⟩)] 113)).alloc (.cells #[.pointer (some ⟨12, 113, none⟩), .pointer (some ⟨w.heap.size, 0, none⟩), .int .u64 150] 146)) (by simp)
 have hlt : 0 < w.heap.size := World.block_lt_of_cell? w _ hg
 have hg2 : ((w.alloc (.cells #[.pointer (some ⟨tb, 0, none⟩)] 113)).alloc (.cells #[.pointer (some ⟨12, 113, none⟩), .pointer (some ⟨w.heap.size, 0, none⟩), .int .u64 150] 146)).cell? ⟨0, 0, none⟩ = some (.iface 182 (.agg #[.pointer (some ⟨12, 35, none⟩)])) := by
  rw [World.cell?_alloc_lt _ _ ⟨0, 0, none⟩ (by simp), World.cell?_alloc_lt _ _ ⟨0, 0, none⟩ hlt]; exact hg
 have htl : tb < w.heap.size := World.block_lt_of_cell? w _ ht0
 have el := elemV_En ⟨w.heap.size, 0, none⟩ ⟨tb, 0, none⟩ (((w.alloc (.cells #[.pointer (some ⟨tb, 0, none⟩)] 113)).alloc (.cells #[.pointer (some ⟨12, 113, none⟩), .pointer (some ⟨w.heap.size, 0, none⟩), .int .u64 150] 146)).alloc (.cells #[.pointer (some ⟨12, 113, none⟩), .pointer (some ⟨w.heap.size, 0, none⟩), .int .u64 150] 146)) (by rw [World.cell?_alloc_lt _ _ ⟨w.heap.size, 0, none⟩ (by simp; omega)]; simp)
 have st := set_En ⟨tb, 0, none⟩ ⟨w.heap.size + 1 + 1 + 1, 0, none⟩ e0 old ((((w.alloc (.cells #[.pointer (some ⟨tb, 0, none⟩)] 113)).alloc (.cells #[.pointer (some ⟨12, 113, none⟩), .pointer (some ⟨w.heap.size, 0, none⟩), .int .u64 150] 146)).alloc (.cells #[.pointer (some ⟨12, 113, none⟩), .pointer (some ⟨w.heap.size, 0, none⟩), .int .u64 150] 146)).alloc (.cells #[.int .i64 e0] 28)) (by rw [World.cell?_alloc_at _ _ _ _ (by simp)]; rfl) (by rw [World.cell?_alloc_lt _ _ ⟨tb, 0, none⟩ (by simp; omega), World.cell?_alloc_lt _ _ ⟨tb, 0, none⟩ (by simp; omega), World.cell?_alloc_lt _ _ ⟨tb, 0, none⟩ (by simp; omega), World.cell?_alloc_lt _ _ ⟨tb, 0, none⟩ htl]; exact ht0) (by rw [World.frozen?_alloc_old _ _ ⟨tb, 0, none⟩ (by simp; omega), World.frozen?_alloc_old _ _ ⟨tb, 0, none⟩ (by simp; omega), World.frozen?_alloc_old _ _ ⟨tb, 0, none⟩ (by simp; omega), World.frozen?_alloc_old _ _ ⟨tb, 0, none⟩ (Nat.ne_of_lt htl)]; exact hf0)
 go_enter Tryz.func61, Tryz.ntmps61
 go_wp2
 refine wp_loop_rounds 1 ?_
 rw [rounds_succ]
 go_wp2
 go_ret
 exact ⟨rfl, rfl⟩
end
section
open Go.ChangeShapes Go.WideShapes Go.ChangeAt Go.RowKit
def TokV (w : World) (B : Nat) (v : Value) (T : List (Tk × Nat)) : Prop := w.ownsRow B 95 4 v T.length (cellsT T)
theorem scan_er (s : ByteArray) (e0 a : Nat) (w : World) (hT : Tb w) (hR : lexT s.data.toList = .er e0 a) :
  Calls Tryz.prog 60 #[.string s] w fun e w' => e = .returned (.tuple #[.slice none 0 0, .int .i64 (a : Int), .iface 28 (.int .i64 (e0 : Int))]) ∧ Below w.heap.size w w' := by
 unfold lexT at hR
 have hl : s.data.toList.length = s.size := by simp
 by_cases h : 16384 < s.data.toList.length
 ·rw [if_pos h] at hR
  cases hR
  rw [hl] at h
  go_enter Tryz.func60, Tryz.ntmps60
  go_wp2
  go_step3
  go_wp2
  rw [Exit.noGoto_ret]
  exact bodyPost_ret (v := .tuple #[.slice none 0 0, .int .i64 0, .iface 28 (.int .i64 5)]) (by simp [results, Tryz.results60, go_sem]) rfl ⟨rfl, ((Below.refl _ _).alloc (Nat.le_refl _) _).alloc (by simp) _⟩
 ·rw [if_neg h] at hR
  rw [hl] at hR h
  refine (scan_any s _ w (by omega) hT hR).mono fun e w' h => ?_
  exact h
theorem scan_ok (s : ByteArray) (T : List (Tk × Nat)) (w : World) (hT : Tb w) (hR : lexT s.data.toList = .ok T) :
  Calls Tryz.prog 60 #[.string s] w fun e w' => (∃ v, e = .returned (.tuple #[v, .int .i64 (s.size : Int), .nilIface]) ∧ TokV w' w.heap.size v T) ∧ Below w.heap.size w w' := by
 unfold lexT at hR
 have hl : s.data.toList.length = s.size := by simp
 by_cases h : 16384 < s.data.toList.length
 ·rw [if_pos h] at hR; cases hR
 ·rw [if_neg h] at hR
  rw [hl] at hR h
  refine (scan_any s _ w (by omega) hT hR).mono fun e w' h => ?_
  exact h
theorem cut_ok (s : ByteArray) (T : List (Tk × Nat)) (w : World) (hT : Tb w) (hR : lexT s.data.toList = .ok T) :
  Calls Tryz.prog 35 #[.string s] w fun e w' => (∃ v, e = .returned (.tuple #[v, .nilIface]) ∧ TokV w' w.heap.size v T) ∧ Below w.heap.size w w' := by
 have hS := scan_ok s T w hT hR
 go_enter Tryz.func35, Tryz.ntmps35
 go_wp2_with (first | (go_at_call 60; ((with_reducible refine hS.mono ?_); rintro e w1 ⟨⟨v, rfl, hv⟩, hb⟩)) | (go_at_call 61; ((with_reducible refine (as_nil _ _).mono ?_); rintro e w2 ⟨rfl, rfl⟩)))
 go_ret2
 exact ⟨⟨v, rfl, hv.alloc _⟩, hb.alloc hb.size _⟩
theorem cut_er (s : ByteArray) (e0 a : Nat) (w : World) (hT : Tb w) (hR : lexT s.data.toList = .er e0 a) :
  Calls Tryz.prog 35 #[.string s] w fun e w' => e = .returned (.tuple #[.slice none 0 0, .iface 115 (.agg #[.int .i64 (a : Int), .int .i64 (e0 : Int)])]) ∧ Below w.heap.size w w' := by
 have hS := scan_er s e0 a w hT hR
 go_enter Tryz.func35, Tryz.ntmps35
 go_wp2_with (first | (go_at_call 60; ((with_reducible refine hS.mono ?_); rintro e w1 ⟨rfl, hb⟩)) | (go_at_call 61; ((with_reducible refine (as_En (e0 : Int) w1.heap.size (.int .i64 0) _ ?cg ?ct ?cf).mono ?_)); (case cg => exact ((hT.of hb).alloc _).ety); (case ct => simp); (case cf => simp); rintro e w2 ⟨rfl, rfl⟩))
 go_quiet (fail)
 go_wp2
 go_ret2
 refine ⟨rfl, ?_⟩
 have hA : Below w.heap.size w (((((w1.alloc (.cells #[.int .i64 (e0 : Int)] 28)).alloc (.cells #[.pointer (some ⟨w1.heap.size, 0, none⟩)] 113)).alloc (.cells #[.pointer (some ⟨12, 113, none⟩), .pointer (some ⟨w1.heap.size + 1, 0, none⟩), .int .u64 150] 146)).alloc (.cells #[.pointer (some ⟨12, 113, none⟩), .pointer (some ⟨w1.heap.size + 1, 0, none⟩), .int .u64 150] 146)).alloc (.cells #[.int .i64 (e0 : Int)] 28)) := by
  have := hb.size
  exact ((((hb.alloc hb.size _).alloc (by simp; omega) _).alloc (by simp; omega) _).alloc (by simp; omega) _).alloc (by simp; omega) _
 exact bdN hA _
structure RowAt (w : World) (v : Value) (T : List (Tk × Nat)) : Prop where
 row : ∃ (b o n c : Nat) , v = .slice (some ⟨b, o, none⟩) n c ∧ n = T.length ∧ b < w.heap.size ∧ ∀ i (h : i < T.length), w.cell? ⟨b, o + i * 4, none⟩ = some (.int .u8 (T[i].1.k : Int)) ∧ w.cell? ⟨b, o + i * 4 + 1, none⟩ = some (.string (str T[i].1.t)) ∧ w.cell? ⟨b, o + i * 4 + 2, none⟩ = some (.int .u64 (T[i].1.n : Int)) ∧ w.cell? ⟨b, o + i * 4 + 3, none⟩ = some (.int .i64 (T[i].2 : Int))
theorem cellsT_at : ∀ (l : List (Tk × Nat)) (i : Nat) (h : i < l.length), (cellsT l)[i * 4]? = some (.int .u8 (l[i].1.k : Int)) ∧ (cellsT l)[i * 4 + 1]? = some (.string (str l[i].1.t)) ∧ (cellsT l)[i * 4 + 2]? = some (.int .u64 (l[i].1.n : Int)) ∧ (cellsT l)[i * 4 + 3]? = some (.int .i64 (l[i].2 : Int)) := by
 intro l
 induction l with
 | nil => intro i h; simp at h
 | cons x l ih =>
  intro i h
  cases i with
  | zero => simp [cellsT]
  | succ i =>
   have e : ∀ r, (cellsT (x :: l))[(i + 1) * 4 + r]? = (cellsT l)[i * 4 + r]? := fun r => by
    rw [cellsT, List.flatMap_cons, List.getElem?_append_right (by simp; omega)]
    congr 1
    simp
    omega
   obtain ⟨a0, a1, a2, a3⟩ := ih i (by simpa using h)
   exact ⟨(e 0).trans a0, (e 1).trans a1, (e 2).trans a2, (e 3).trans a3⟩
theorem TokV.at {w : World} {B : Nat} {v : Value} {T : List (Tk × Nat)} (h : TokV w B v T) (hne : T ≠ []) : RowAt w v T := by
 unfold TokV at h
 have hlen : 0 < T.length := List.length_pos_iff.2 hne
 obtain ⟨m, hm⟩ : ∃ m, T.length = m + 1 := ⟨T.length - 1, by omega⟩
 have h2 := h
 rw [hm] at h2
 obtain ⟨g, cap, hv⟩ := ownsRow_succ h2
 subst hv
 refine ⟨g, 0, m + 1, cap, rfl, hm.symm, ?_, fun i hi => ?_⟩
 ·have := h2.cellAt 0 (by omega)
  have h3 := (cellsT_at T 0 hlen).1
  rw [Nat.zero_mul] at h3
  exact World.block_lt_of_cell? w _ (this.trans h3)
 ·obtain ⟨a0, a1, a2, a3⟩ := cellsT_at T i hi
  rw [Nat.zero_add]
  exact ⟨(h2.cellAt (i * 4) (by omega)).trans a0, (h2.cellAt (i * 4 + 1) (by omega)).trans a1, (h2.cellAt (i * 4 + 2) (by omega)).trans a2, (h2.cellAt (i * 4 + 3) (by omega)).trans a3⟩
theorem RowAt.of {w w' : World} {v : Value} {T : List (Tk × Nat)} (h : RowAt w v T) (hb : Below w.heap.size w w') : RowAt w' v T := by
 obtain ⟨b, o, n, c, rfl, hn, hl, hc⟩ := h.row
 refine ⟨b, o, n, c, rfl, hn, Nat.lt_of_lt_of_le hl hb.size, fun i hi => ?_⟩
 obtain ⟨a0, a1, a2, a3⟩ := hc i hi
 exact ⟨stay hb a0, stay hb a1, stay hb a2, stay hb a3⟩
end
end Go.Proofs.YtkibkaoffgnmkaaGreatDoor
