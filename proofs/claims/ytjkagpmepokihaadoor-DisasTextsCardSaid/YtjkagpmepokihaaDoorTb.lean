/- The laid tables of package disas, and all tables together; an instruction's name. -/
import Derived.Test.YtjkagpmepokihaaDoorInH
import Derived.Test.YtjkagpmepokihaaDoorInC
import Derived.Lib.SmallJoins
import Derived.Lib.ItoaNum
namespace Go.Proofs.YtjkagpmepokihaaDoor
open Go.ChangeShapes Go.WideShapes Go.ChangeAt Go.RowKit
set_option linter.unusedVariables false
def immT (f : Nat) : Bool := [false, false, true, true, true, true, true, true, false].getD f false
def nameL : List (List UInt8) := [[], [97, 100, 100], [115, 117, 98], [115, 108, 108], [115, 108, 116], [115, 108, 116, 117], [120, 111, 114], [115, 114, 108], [115, 114, 97], [111, 114], [97, 110, 100], [109, 117, 108], [109, 117, 108, 104, 117], [100, 105, 118, 117], [114, 101, 109, 117], [97, 100, 100, 105], [115, 108, 116, 105, 117], [120, 111, 114, 105], [111, 114, 105], [97, 110, 100, 105], [115, 108, 108, 105], [115, 114, 108, 105], [115, 114, 97, 105], [108, 117, 105], [108, 98, 117], [108, 100], [115, 98], [115, 100], [98, 101, 113], [98, 110, 101], [98, 108, 116, 117], [98, 103, 101, 117], [106, 97, 108], [106, 97, 108, 114], [101, 99, 97, 108, 108]]
def nameB (k : Nat) : List UInt8 := nameL.getD k []
def DshOk (w : World) : Prop := ∀ f < 9, w.cell? ⟨0, f * 4, none⟩ = some (.bool (rdT f)) ∧ w.cell? ⟨0, f * 4 + 1, none⟩ = some (.bool (rs1T f)) ∧ w.cell? ⟨0, f * 4 + 2, none⟩ = some (.bool (rs2T f)) ∧ w.cell? ⟨0, f * 4 + 3, none⟩ = some (.bool (immT f))
def NamOk (w : World) : Prop := ∀ k < 35, w.cell? ⟨1, k, none⟩ = some (.string ⟨(nameB k).toArray⟩)
def PowOk (w : World) : Prop := Lib.TabIs Tryd.prog w "internal/strconv.uint64pow10" .u64 Lib.pow10Tab
theorem gDsh : Tryd.prog.globalNamed "sacristy/disas.shapes" = some 0 := by kernel_rfl
theorem gNam : Tryd.prog.globalNamed "sacristy/disas.names" = some 1 := by kernel_rfl
theorem gPow : Tryd.prog.globalNamed "internal/strconv.uint64pow10" = some 4 := by kernel_rfl
theorem tDsh : (Tryd.prog.globals[0]?).map (·.type) = some 52 := by kernel_rfl
theorem tNam : (Tryd.prog.globals[1]?).map (·.type) = some 54 := by kernel_rfl
theorem tPow : (Tryd.prog.globals[4]?).map (·.type) = some 104 := by kernel_rfl
def dshL : List (Nat × Value) := (List.range 9).flatMap fun f => [(f * 4, .bool (rdT f)), (f * 4 + 1, .bool (rs1T f)), (f * 4 + 2, .bool (rs2T f)), (f * 4 + 3, .bool (immT f))]
def namL : List (Nat × Value) := (List.range 35).map fun k => (k, .string ⟨(nameB k).toArray⟩)
theorem lDsh : leaves Tryd.prog 5 52 0 Rows.laid_sacristy_disas_shapes = some dshL := by kernel_rfl
theorem lNam : leaves Tryd.prog 5 54 0 Rows.laid_sacristy_disas_names = some namL := by kernel_rfl
theorem lPow : (Rows.laid_internal_strconv_uint64pow10 : DataW Unit) = Lib.tabData .u64 Lib.pow10Tab := by kernel_rfl
theorem dsh_of_laid {W : World} (h : laidMetH Tryd.prog laidAll W) : DshOk W := fun k hk => by
  have hl := laid_leaves h laidPlain "sacristy/disas.shapes" Rows.laid_sacristy_disas_shapes 0 52 5 dshL (List.Mem.tail _ (List.Mem.tail _ (List.Mem.tail _ (List.Mem.tail _ (List.Mem.tail _ (List.Mem.head _)))))) gDsh tDsh lDsh
  have hm : ∀ x ∈ ([(k * 4, .bool (rdT k)), (k * 4 + 1, .bool (rs1T k)), (k * 4 + 2, .bool (rs2T k)), (k * 4 + 3, .bool (immT k))] : List (Nat × Value)), x ∈ dshL := fun x hx => List.mem_flatMap.2 ⟨k, List.mem_range.2 hk, hx⟩
  exact ⟨hl _ (hm _ (List.Mem.head _)), hl _ (hm _ (List.Mem.tail _ (List.Mem.head _))), hl _ (hm _ (List.Mem.tail _ (List.Mem.tail _ (List.Mem.head _)))), hl _ (hm _ (List.Mem.tail _ (List.Mem.tail _ (List.Mem.tail _ (List.Mem.head _)))))⟩
theorem nam_of_laid {W : World} (h : laidMetH Tryd.prog laidAll W) : NamOk W := fun k hk => by
  have hl := laid_leaves h laidPlain "sacristy/disas.names" Rows.laid_sacristy_disas_names 1 54 5 namL (List.Mem.tail _ (List.Mem.tail _ (List.Mem.tail _ (List.Mem.tail _ (List.Mem.tail _ (List.Mem.tail _ (List.Mem.head _))))))) gNam tNam lNam
  exact hl (k, .string ⟨(nameB k).toArray⟩) (List.mem_map.2 ⟨k, List.mem_range.2 hk, rfl⟩)
theorem pow_of_laid {W : World} (h : laidMetH Tryd.prog laidAll W) : PowOk W :=
  laid_tab h laidPlain "internal/strconv.uint64pow10" .u64 Lib.pow10Tab 4 104 59 20 gPow tPow (by kernel_rfl) (by kernel_rfl) (by kernel_rfl) (by kernel_rfl)
    (by rw [← lPow]; exact (List.Mem.tail _ (List.Mem.tail _ (List.Mem.head _))))
/-- All laid tables read as they were laid. -/
def Tb (w : World) : Prop := (RowsOk w ∧ ShapesOk w) ∧ DshOk w ∧ NamOk w ∧ PowOk w
theorem stay {w w' : World} (hb : Below w.heap.size w w') {p : Addr} {v : Value} (h : w.cell? p = some v) : w'.cell? p = some v := (hb.cell (World.block_lt_of_cell? w _ h)).trans h
theorem DshOk.of {w w' : World} (h : DshOk w) (hb : Below w.heap.size w w') : DshOk w' := fun f hf => by
  obtain ⟨a, b, c, d⟩ := h f hf
  exact ⟨stay hb a, stay hb b, stay hb c, stay hb d⟩
theorem NamOk.of {w w' : World} (h : NamOk w) (hb : Below w.heap.size w w') : NamOk w' := fun k hk => stay hb (h k hk)
theorem PowOk.of {w w' : World} (h : PowOk w) (hb : Below w.heap.size w w') : PowOk w' := Joins.tab_stays gPow h hb (Nat.le_refl _)
theorem Tb.of {w w' : World} (h : Tb w) (hb : Below w.heap.size w w') : Tb w' := ⟨⟨h.1.1.of hb, h.1.2.of hb⟩, h.2.1.of hb, h.2.2.1.of hb, h.2.2.2.of hb⟩
theorem tb_of_laid {W : World} (h : laidMetH Tryd.prog laidAll W) : Tb W := ⟨⟨rows_of_laid h, shapes_of_laid h⟩, dsh_of_laid h, nam_of_laid h, pow_of_laid h⟩
theorem Tb.alloc {w : World} (h : Tb w) (o : Obj) : Tb (w.alloc o) := h.of ((Below.refl _ _).alloc (Nat.le_refl _) _)
theorem Tb.drewN {w : World} (h : Tb w) (n : Nat) : Tb (w.drewN n) := h.of (bdN (Below.refl _ _) n)
theorem ency (x : In) (h : x.wf) (ho : x.ok = true) (w : World) (hT : Tb w) :
    Calls Tryd.prog 15 #[.agg #[.int .u8 x.op, .int .u8 x.rd, .int .u8 x.rs1, .int .u8 x.rs2, .int .i64 x.imm]] w fun e w' => e = .returned (.tuple #[.int .u32 (x.word : Nat), .int .i64 0]) ∧ Below w.heap.size w w' := enc_yes x h ho w hT.1.1 hT.1.2
theorem encn (x : In) (h : x.wf) (ho : x.ok = false) (w : World) (hT : Tb w) :
    Calls Tryd.prog 15 #[.agg #[.int .u8 x.op, .int .u8 x.rd, .int .u8 x.rs1, .int .u8 x.rs2, .int .i64 x.imm]] w fun e w' => e = .returned (.tuple #[.int .u32 0, .int .i64 2]) ∧ Below w.heap.size w w' := enc_no x h ho w hT.1.1 hT.1.2
end Go.Proofs.YtjkagpmepokihaaDoor
