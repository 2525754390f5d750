/- The laid tables of package disas, and all tables together; an instruction's name. -/
import Derived.Test.YtcckgfablfgknaaGreatDoorQp
import Derived.Test.YtcckgfablfgknaaGreatDoorQc
import Derived.ProofKit
import Derived.OpenShut
import Derived.LaidMore
import Derived.LaidLaws
import Derived.Stop.Joined
namespace Go.Proofs.YtcckgfablfgknaaGreatDoor
open Go.ChangeShapes Go.WideShapes Go.ChangeAt Go.RowKit
set_option linter.unusedVariables false
def immT (f : Nat) : Bool := [false, false, true, true, true, true, true, true, false].getD f false
def DshOk (w : World) : Prop := ∀ f < 9, w.cell? ⟨2, f * 4, none⟩ = some (.bool (rdT f)) ∧ w.cell? ⟨2, f * 4 + 1, none⟩ = some (.bool (rs1T f)) ∧ w.cell? ⟨2, f * 4 + 2, none⟩ = some (.bool (rs2T f)) ∧ w.cell? ⟨2, f * 4 + 3, none⟩ = some (.bool (immT f))
theorem gDsh : Tryz.prog.globalNamed "sacristy/disas.shapes" = some 2 := by kernel_rfl
theorem tDsh : (Tryz.prog.globals[2]?).map (·.type) = some 209 := by kernel_rfl
def dshL : List (Nat × Value) := (List.range 9).flatMap fun f => [(f * 4, .bool (rdT f)), (f * 4 + 1, .bool (rs1T f)), (f * 4 + 2, .bool (rs2T f)), (f * 4 + 3, .bool (immT f))]
theorem lDsh : leaves Tryz.prog 5 209 0 Rows.laid_sacristy_disas_shapes = some dshL := by kernel_rfl
theorem dsh_of_laid {W : World} (h : laidMetH Tryz.prog laidAll W) : DshOk W := fun k hk => by
  have hl := laid_leaves h laidPlain "sacristy/disas.shapes" Rows.laid_sacristy_disas_shapes 2 209 5 dshL (List.Mem.tail _ (List.Mem.tail _ (List.Mem.head _))) gDsh tDsh lDsh
  have hm : ∀ x ∈ ([(k * 4, .bool (rdT k)), (k * 4 + 1, .bool (rs1T k)), (k * 4 + 2, .bool (rs2T k)), (k * 4 + 3, .bool (immT k))] : List (Nat × Value)), x ∈ dshL := fun x hx => List.mem_flatMap.2 ⟨k, List.mem_range.2 hk, hx⟩
  exact ⟨hl _ (hm _ (List.Mem.head _)), hl _ (hm _ (List.Mem.tail _ (List.Mem.head _))), hl _ (hm _ (List.Mem.tail _ (List.Mem.tail _ (List.Mem.head _)))), hl _ (hm _ (List.Mem.tail _ (List.Mem.tail _ (List.Mem.tail _ (List.Mem.head _)))))⟩
/-- All laid tables read as they were laid. -/
def Tb (w : World) : Prop := (RowsOk w ∧ ShapesOk w) ∧ DshOk w
theorem stay {w w' : World} (hb : Below w.heap.size w w') {p : Addr} {v : Value} (h : w.cell? p = some v) : w'.cell? p = some v := (hb.cell (World.block_lt_of_cell? w _ h)).trans h
theorem DshOk.of {w w' : World} (h : DshOk w) (hb : Below w.heap.size w w') : DshOk w' := fun f hf => by
  obtain ⟨a, b, c, d⟩ := h f hf
  exact ⟨stay hb a, stay hb b, stay hb c, stay hb d⟩
theorem Tb.of {w w' : World} (h : Tb w) (hb : Below w.heap.size w w') : Tb w' := ⟨⟨h.1.1.of hb, h.1.2.of hb⟩, h.2.of hb⟩
theorem tb_of_laid {W : World} (h : laidMetH Tryz.prog laidAll W) : Tb W := ⟨⟨rows_of_laid h, shapes_of_laid h⟩, dsh_of_laid h⟩
theorem Tb.alloc {w : World} (h : Tb w) (o : Obj) : Tb (w.alloc o) := h.of ((Below.refl _ _).alloc (Nat.le_refl _) _)
theorem Tb.drewN {w : World} (h : Tb w) (n : Nat) : Tb (w.drewN n) := h.of (bdN (Below.refl _ _) n)
theorem ency (x : In) (h : x.wf) (ho : x.ok = true) (w : World) (hT : Tb w) :
    Calls Tryz.prog 29 #[.agg #[.int .u8 x.op, .int .u8 x.rd, .int .u8 x.rs1, .int .u8 x.rs2, .int .i64 x.imm]] w fun e w' => e = .returned (.tuple #[.int .u32 (x.word : Nat), .int .i64 0]) ∧ Below w.heap.size w w' := enc_yes x h ho w hT.1.1 hT.1.2
theorem encn (x : In) (h : x.wf) (ho : x.ok = false) (w : World) (hT : Tb w) :
    Calls Tryz.prog 29 #[.agg #[.int .u8 x.op, .int .u8 x.rd, .int .u8 x.rs1, .int .u8 x.rs2, .int .i64 x.imm]] w fun e w' => e = .returned (.tuple #[.int .u32 0, .int .i64 2]) ∧ Below w.heap.size w w' := enc_no x h ho w hT.1.1 hT.1.2
end Go.Proofs.YtcckgfablfgknaaGreatDoor

/- An instruction that came in by value: opened to its five numbers, and read back; the laid tables at a call's beginning. -/
namespace Go.Proofs.YtcckgfablfgknaaGreatDoor
open Go.ChangeShapes Go.WideShapes Go.ChangeAt Go.RowKit
set_option linter.unusedVariables false
theorem to_in {n0 n1 n2 n3 n4 : Int} (w0 : (Lit.int .u8 n0).wf = true) (w1 : (Lit.int .u8 n1).wf = true) (w2 : (Lit.int .u8 n2).wf = true) (w3 : (Lit.int .u8 n3).wf = true) (w4 : (Lit.int .i64 n4).wf = true) :
    ∃ x : In, x.wf ∧ n0 = x.op ∧ n1 = x.rd ∧ n2 = x.rs1 ∧ n3 = x.rs2 ∧ n4 = x.imm := by
  have d0 := bounds_u8 w0
  have d1 := bounds_u8 w1
  have d2 := bounds_u8 w2
  have d3 := bounds_u8 w3
  have d4 := bounds_i64 w4
  exact ⟨⟨n0.toNat, n1.toNat, n2.toNat, n3.toNat, n4⟩, by unfold In.wf; simp only; omega, by simp only; omega, by simp only; omega, by simp only; omega, by simp only; omega, rfl⟩
section
variable {H : Type} {enc : TypeId × Value → H} {W : World} {base : Nat} {sp : Nat → Bool} {held : Bool} {r : Reach} {b0 : Nat}
set_option maxRecDepth 100000 in
theorem open_insn {v : Value} {d : DataW H} {p : List MemPlace} (hv : Value.okWide Tryz.prog W r b0 68 v) (h : DataW.Trod enc Tryz.prog W base sp held 68 v d p) :
    ∃ n0 n1 n2 n3 n4 : Int, v = .agg #[.int .u8 n0, .int .u8 n1, .int .u8 n2, .int .u8 n3, .int .i64 n4] ∧ d = .agg [.lit (.int .u8 n0), .lit (.int .u8 n1), .lit (.int .u8 n2), .lit (.int .u8 n3), .lit (.int .i64 n4)] ∧ p = [] ∧
      (Lit.int .u8 n0).wf = true ∧ (Lit.int .u8 n1).wf = true ∧ (Lit.int .u8 n2).wf = true ∧ (Lit.int .u8 n3).wf = true ∧ (Lit.int .i64 n4).wf = true := by
  obtain ⟨cs, rfl, hsz⟩ := okWide_struct Tryz.underlying68 hv
  have hC : Tryz.prog.cellsOf 68 = 5 := by kernel_rfl
  have c8 : Tryz.prog.cellsOf 5 = 1 := by kernel_rfl
  have c64 : Tryz.prog.cellsOf 2 = 1 := by kernel_rfl
  obtain ⟨fuel, hf⟩ := h
  obtain ⟨xs, n, _, hx, _, hlen, hg⟩ := DataW.trod_struct Tryz.underlying68 hf
  obtain ⟨l⟩ := cs
  have hl : l.length = 5 := hsz.trans hC
  match l, hl with
  | [x0, x1, x2, x3, x4], _ =>
    match xs, hlen with
    | [y0, y1, y2, y3, y4], _ =>
      have e0 : DataW.trod enc Tryz.prog W base sp held n 5 [x0] = some y0 := by simpa [c8, Value.cells] using hg 0 _ rfl
      have e1 : DataW.trod enc Tryz.prog W base sp held n 5 [x1] = some y1 := by simpa [c8, Value.cells] using hg 1 _ rfl
      have e2 : DataW.trod enc Tryz.prog W base sp held n 5 [x2] = some y2 := by simpa [c8, Value.cells] using hg 2 _ rfl
      have e3 : DataW.trod enc Tryz.prog W base sp held n 5 [x3] = some y3 := by simpa [c8, Value.cells] using hg 3 _ rfl
      have e4 : DataW.trod enc Tryz.prog W base sp held n 2 [x4] = some y4 := by simpa [c64, Value.cells] using hg 4 _ rfl
      obtain ⟨n0, h0, z0, w0⟩ := DataW.trod_int Tryz.underlying5 e0
      obtain ⟨n1, h1, z1, w1⟩ := DataW.trod_int Tryz.underlying5 e1
      obtain ⟨n2, h2, z2, w2⟩ := DataW.trod_int Tryz.underlying5 e2
      obtain ⟨n3, h3, z3, w3⟩ := DataW.trod_int Tryz.underlying5 e3
      obtain ⟨n4, h4, z4, w4⟩ := DataW.trod_int Tryz.underlying2 e4
      simp only [List.cons.injEq, and_true] at h0 h1 h2 h3 h4
      subst h0 h1 h2 h3 h4 z0 z1 z2 z3 z4
      simp only [Prod.mk.injEq, List.map_cons, List.map_nil, List.flatMap_cons, List.flatMap_nil, List.append_nil] at hx
      exact ⟨n0, n1, n2, n3, n4, rfl, hx.1, hx.2, w0, w1, w2, w3, w4⟩
set_option maxRecDepth 100000 in
theorem shut_insn {n0 n1 n2 n3 n4 : Int} (w0 : (Lit.int .u8 n0).wf = true) (w1 : (Lit.int .u8 n1).wf = true) (w2 : (Lit.int .u8 n2).wf = true) (w3 : (Lit.int .u8 n3).wf = true) (w4 : (Lit.int .i64 n4).wf = true) :
    DataW.Trod enc Tryz.prog W base sp held 68 (.agg #[.int .u8 n0, .int .u8 n1, .int .u8 n2, .int .u8 n3, .int .i64 n4]) (.agg [.lit (.int .u8 n0), .lit (.int .u8 n1), .lit (.int .u8 n2), .lit (.int .u8 n3), .lit (.int .i64 n4)]) [] := by
  have hC : Tryz.prog.cellsOf 68 = 5 := by kernel_rfl
  have c8 : Tryz.prog.cellsOf 5 = 1 := by kernel_rfl
  have c64 : Tryz.prog.cellsOf 2 = 1 := by kernel_rfl
  refine ⟨2, ?_⟩
  simp [DataW.trod, Tryz.underlying68, Tryz.underlying5, Tryz.underlying2, hC, c8, c64, Value.cells, w0, w1, w2, w3, w4]
end
/-- The door's own heap meets the condition: three closed facts. -/
theorem door_met (os : Os) (args : Array Value) : laidMetH Tryz.prog laidAll ((World.doorLaid Tryz.prog 400 os).forCall (fun _ _ => 0) ⟨#[], args, []⟩).memory :=
  laidMetH_of_parts3 (fuel := 8) (laidMet_of_run' 8 (by kernel_rfl) (by kernel_rfl)) (by kernel_rfl) (by kernel_rfl)
end Go.Proofs.YtcckgfablfgknaaGreatDoor
