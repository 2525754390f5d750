/- An instruction that came in by value: opened to its five numbers, and read back; the laid tables at a call's beginning. -/
import Derived.Test.YtjkagpmepokihaaDoorTb
import Derived.ProofKit
import Derived.OpenShut
import Derived.LaidMore
import Derived.LaidLaws
import Derived.Stop.Joined
namespace Go.Proofs.YtjkagpmepokihaaDoor
open Go.ChangeShapes Go.WideShapes Go.ChangeAt Go.RowKit
set_option linter.unusedVariables false
theorem to_in {n0 n1 n2 n3 n4 : Int} (w0 : (Lit.int .u8 n0).wf = true) (w1 : (Lit.int .u8 n1).wf = true) (w2 : (Lit.int .u8 n2).wf = true) (w3 : (Lit.int .u8 n3).wf = true) (w4 : (Lit.int .i64 n4).wf = true) :
    ∃ x : In, x.wf ∧ n0 = x.op ∧ n1 = x.rd ∧ n2 = x.rs1 ∧ n3 = x.rs2 ∧ n4 = x.imm := by
  have d0 := bounds_u8 w0
  have d1 := bounds_u8 w1
  have d2 := bounds_u8 w2
  have d3 := bounds_u8 w3
  have d4 := bounds_i64 w4
  exact ⟨⟨n0.toNat, n1.toNat, n2.toNat, n3.toNat, n4⟩, by unfold In.wf; simp only; omega, by simp only; omega, by simp only; omega, by simp only; omega, by simp only; omega, rfl⟩
section
variable {H : Type} {enc : TypeId × Value → H} {W : World} {base : Nat} {sp : Nat → Bool} {held : Bool} {r : Reach} {b0 : Nat}
set_option maxRecDepth 100000 in
theorem open_insn {v : Value} {d : DataW H} {p : List MemPlace} (hv : Value.okWide Tryd.prog W r b0 24 v) (h : DataW.Trod enc Tryd.prog W base sp held 24 v d p) :
    ∃ n0 n1 n2 n3 n4 : Int, v = .agg #[.int .u8 n0, .int .u8 n1, .int .u8 n2, .int .u8 n3, .int .i64 n4] ∧ d = .agg [.lit (.int .u8 n0), .lit (.int .u8 n1), .lit (.int .u8 n2), .lit (.int .u8 n3), .lit (.int .i64 n4)] ∧ p = [] ∧
      (Lit.int .u8 n0).wf = true ∧ (Lit.int .u8 n1).wf = true ∧ (Lit.int .u8 n2).wf = true ∧ (Lit.int .u8 n3).wf = true ∧ (Lit.int .i64 n4).wf = true := by
  obtain ⟨cs, rfl, hsz⟩ := okWide_struct Tryd.underlying24 hv
  have hC : Tryd.prog.cellsOf 24 = 5 := by kernel_rfl
  have c8 : Tryd.prog.cellsOf 5 = 1 := by kernel_rfl
  have c64 : Tryd.prog.cellsOf 2 = 1 := by kernel_rfl
  obtain ⟨fuel, hf⟩ := h
  obtain ⟨xs, n, _, hx, _, hlen, hg⟩ := DataW.trod_struct Tryd.underlying24 hf
  obtain ⟨l⟩ := cs
  have hl : l.length = 5 := hsz.trans hC
  match l, hl with
  | [x0, x1, x2, x3, x4], _ =>
    match xs, hlen with
    | [y0, y1, y2, y3, y4], _ =>
      have e0 : DataW.trod enc Tryd.prog W base sp held n 5 [x0] = some y0 := by simpa [c8, Value.cells] using hg 0 _ rfl
      have e1 : DataW.trod enc Tryd.prog W base sp held n 5 [x1] = some y1 := by simpa [c8, Value.cells] using hg 1 _ rfl
      have e2 : DataW.trod enc Tryd.prog W base sp held n 5 [x2] = some y2 := by simpa [c8, Value.cells] using hg 2 _ rfl
      have e3 : DataW.trod enc Tryd.prog W base sp held n 5 [x3] = some y3 := by simpa [c8, Value.cells] using hg 3 _ rfl
      have e4 : DataW.trod enc Tryd.prog W base sp held n 2 [x4] = some y4 := by simpa [c64, Value.cells] using hg 4 _ rfl
      obtain ⟨n0, h0, z0, w0⟩ := DataW.trod_int Tryd.underlying5 e0
      obtain ⟨n1, h1, z1, w1⟩ := DataW.trod_int Tryd.underlying5 e1
      obtain ⟨n2, h2, z2, w2⟩ := DataW.trod_int Tryd.underlying5 e2
      obtain ⟨n3, h3, z3, w3⟩ := DataW.trod_int Tryd.underlying5 e3
      obtain ⟨n4, h4, z4, w4⟩ := DataW.trod_int Tryd.underlying2 e4
      simp only [List.cons.injEq, and_true] at h0 h1 h2 h3 h4
      subst h0 h1 h2 h3 h4 z0 z1 z2 z3 z4
      simp only [Prod.mk.injEq, List.map_cons, List.map_nil, List.flatMap_cons, List.flatMap_nil, List.append_nil] at hx
      exact ⟨n0, n1, n2, n3, n4, rfl, hx.1, hx.2, w0, w1, w2, w3, w4⟩
set_option maxRecDepth 100000 in
theorem shut_insn {n0 n1 n2 n3 n4 : Int} (w0 : (Lit.int .u8 n0).wf = true) (w1 : (Lit.int .u8 n1).wf = true) (w2 : (Lit.int .u8 n2).wf = true) (w3 : (Lit.int .u8 n3).wf = true) (w4 : (Lit.int .i64 n4).wf = true) :
    DataW.Trod enc Tryd.prog W base sp held 24 (.agg #[.int .u8 n0, .int .u8 n1, .int .u8 n2, .int .u8 n3, .int .i64 n4]) (.agg [.lit (.int .u8 n0), .lit (.int .u8 n1), .lit (.int .u8 n2), .lit (.int .u8 n3), .lit (.int .i64 n4)]) [] := by
  have hC : Tryd.prog.cellsOf 24 = 5 := by kernel_rfl
  have c8 : Tryd.prog.cellsOf 5 = 1 := by kernel_rfl
  have c64 : Tryd.prog.cellsOf 2 = 1 := by kernel_rfl
  refine ⟨2, ?_⟩
  simp [DataW.trod, Tryd.underlying24, Tryd.underlying5, Tryd.underlying2, hC, c8, c64, Value.cells, w0, w1, w2, w3, w4]
end
/-- The door's own heap meets the condition: three closed facts. -/
theorem door_met (os : Os) (args : Array Value) : laidMetH Tryd.prog laidAll ((World.doorLaid Tryd.prog 400 os).forCall (fun _ _ => 0) ⟨#[], args, []⟩).memory :=
  laidMetH_of_parts3 (fuel := 8) (laidMet_of_run' 8 (by kernel_rfl) (by kernel_rfl)) (by kernel_rfl) (by kernel_rfl)
end Go.Proofs.YtjkagpmepokihaaDoor
