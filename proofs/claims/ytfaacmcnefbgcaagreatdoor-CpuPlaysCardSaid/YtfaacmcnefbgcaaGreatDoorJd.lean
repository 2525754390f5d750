/- Which instruction a word has, in plain numbers: fields read back by the form that the word itself tells. -/
import Derived.Test.YtfaacmcnefbgcaaGreatDoorJa
import Derived.Test.YtfaacmcnefbgcaaGreatDoorQp
import Derived.ProofKit
import Derived.OpenShut
import Derived.Handy
import Derived.Lib.Hide
import Derived.BigQuiet
import Derived.Deep.QuietTactic
import Derived.RegionTactic
import Derived.BigRegion
namespace Go.Proofs.YtfaacmcnefbgcaaGreatDoor
set_option linter.unusedVariables false
/-- The form that a code, and the lowest two bits of f3, tell. -/
def formCF (c q : Nat) : Nat :=
  if c = 51 then 1 else if c = 19 then (if q = 1 then 3 else 2) else if c = 3 then 2 else if c = 103 then 2 else if c = 55 then 4 else if c = 35 then 5 else if c = 99 then 6 else if c = 111 then 7 else if c = 115 then 8 else 0
def formW (w : Nat) : Nat := formCF (w % 128) (w / 4096 % 4)
theorem formCF_le (c q : Nat) : formCF c q ≤ 8 := by unfold formCF; repeat' split <;> try omega
theorem formW_le (w : Nat) : formW w ≤ 8 := formCF_le _ _
def sgn (w : Nat) : Int := if w < 2147483648 then (w : Int) else (w : Int) - 4294967296
/-- The number that a word has in a form. -/
def numW (f w : Nat) : Int :=
  if f = 2 then sgn w / 33554432 * 32 + (w / 1048576 % 32 : Nat)
  else if f = 3 then sgn w / 33554432 % 2 * 32 + (w / 1048576 % 32 : Nat)
  else if f = 4 then sgn w / 4096 * 4096
  else if f = 5 then sgn w / 33554432 * 32 + (w / 128 % 32 : Nat)
  else if f = 6 then sgn w / 2147483648 * 4096 + (w / 128 % 2 * 2048 : Nat) + (w / 33554432 % 64 * 32 : Nat) + (w / 256 % 16 * 2 : Nat)
  else if f = 7 then sgn w / 2147483648 * 1048576 + (w / 4096 % 256 * 4096 : Nat) + (w / 1048576 % 2 * 2048 : Nat) + (w / 2097152 % 1024 * 2 : Nat)
  else 0
def fldF (f w op : Nat) : In := ⟨op, if rdT f then w / 128 % 32 else 0, if rs1T f then w / 32768 % 32 else 0, if rs2T f then w / 1048576 % 32 else 0, numW f w⟩
def fldW (w op : Nat) : In := fldF (formW w) w op
def isW (w : Nat) (x : In) : Prop := x.ok = true ∧ x.word = w
theorem num2 (w : Nat) : numW 2 w = sgn w / 33554432 * 32 + (w / 1048576 % 32 : Nat) := rfl
theorem num3 (w : Nat) : numW 3 w = sgn w / 33554432 % 2 * 32 + (w / 1048576 % 32 : Nat) := rfl
theorem num4 (w : Nat) : numW 4 w = sgn w / 4096 * 4096 := rfl
theorem num5 (w : Nat) : numW 5 w = sgn w / 33554432 * 32 + (w / 128 % 32 : Nat) := rfl
theorem num6 (w : Nat) : numW 6 w = sgn w / 2147483648 * 4096 + (w / 128 % 2 * 2048 : Nat) + (w / 33554432 % 64 * 32 : Nat) + (w / 256 % 16 * 2 : Nat) := rfl
theorem num7 (w : Nat) : numW 7 w = sgn w / 2147483648 * 1048576 + (w / 4096 % 256 * 4096 : Nat) + (w / 1048576 % 2 * 2048 : Nat) + (w / 2097152 % 1024 * 2 : Nat) := rfl
theorem numW_bounds (f w : Nat) (hw : w < 4294967296) : -9223372036854775808 ≤ numW f w ∧ numW f w < 9223372036854775808 := by
  have hs : -2147483648 ≤ sgn w ∧ sgn w < 2147483648 := by unfold sgn; split <;> omega
  unfold numW
  repeat' split <;> omega
theorem fldF_wf (f w op : Nat) (hw : w < 4294967296) (ho : op < 256) : (fldF f w op).wf := by
  obtain ⟨h1, h2⟩ := numW_bounds f w hw
  unfold In.wf fldF
  simp only
  refine ⟨ho, ?_, ?_, ?_, h1, h2⟩ <;> split <;> omega
theorem form_tab : ∀ k < 35, ∀ f3 < 8, (formT k == 0 || !(formT k == 4 || formT k == 7 || f3 == f3T k) || formCF (codeT k) (f3 % 4) == formT k) = true := by decide +kernel
theorem form_of {x : In} (h : x.ok = true) : formW x.word = formT x.op := by
  obtain ⟨h1, h2, _⟩ := row_of_word h
  obtain ⟨k1, k2, _⟩ := ok_parts h
  have ht := form_tab x.op k1 (wf3 x.word) (by unfold wf3; omega)
  simp only [Bool.or_eq_true, Bool.not_eq_true', beq_iff_eq, Bool.or_eq_false_iff, beq_eq_false_iff_ne] at ht
  have h2' : formT x.op = 4 ∨ formT x.op = 7 ∨ wf3 x.word = f3T x.op := h2
  have h1' : wcode x.word = codeT x.op := h1
  unfold formW
  unfold wcode at h1'
  rw [h1']
  have e : x.word / 4096 % 4 = wf3 x.word % 4 := by unfold wf3; omega
  rw [e]
  rcases ht with (h0 | ⟨⟨a, b⟩, c⟩) | h
  · exact absurd h0 k2
  · rcases h2' with h | h | h <;> contradiction
  · exact h
theorem back2 (v : Int) (w c : Nat) (hw : w < 4294967296) (p : (c : Int) = v % 4294967296) (h : w / 1048576 = c % 4096) (r : -2048 ≤ v ∧ v < 2048) : numW 2 w = v := by
  rw [num2]; unfold sgn; split <;> omega
theorem back3 (v : Int) (w c : Nat) (hw : w < 4294967296) (p : (c : Int) = v % 4294967296) (h : w / 1048576 % 64 = c % 64) (r : 0 ≤ v ∧ v < 64) : numW 3 w = v := by
  rw [num3]
  have e1 : sgn w / 33554432 % 2 = ((w / 33554432 % 2 : Nat) : Int) := by unfold sgn; split <;> omega
  rw [e1]
  have e2 : w / 33554432 % 2 = w / 1048576 % 64 / 32 := by omega
  rw [e2]
  omega
theorem back4 (v : Int) (w c : Nat) (hw : w < 4294967296) (p : (c : Int) = v / 4096 % 4294967296) (h : w / 4096 = c % 1048576) (r : (-2147483648 ≤ v ∧ v < 2147483648) ∧ v % 4096 = 0) : numW 4 w = v := by
  rw [num4]; unfold sgn; split <;> omega
theorem back5 (v : Int) (w c d : Nat) (hw : w < 4294967296) (p : (c : Int) = v % 4294967296) (q : (d : Int) = v / 32 % 4294967296) (h1 : w / 128 % 32 = c % 32) (h2 : w / 33554432 = d % 128) (r : -2048 ≤ v ∧ v < 2048) : numW 5 w = v := by
  rw [num5]
  have e : sgn w / 33554432 = if d % 128 < 64 then ((d % 128 : Nat) : Int) else ((d % 128 : Nat) : Int) - 128 := by unfold sgn; split <;> split <;> omega
  rw [e, h1]
  split <;> omega
theorem back6 (v : Int) (w c1 c5 c11 c12 : Nat) (hw : w < 4294967296) (p1 : (c1 : Int) = v / 2 % 4294967296) (p5 : (c5 : Int) = v / 32 % 4294967296) (p11 : (c11 : Int) = v / 2048 % 4294967296) (p12 : (c12 : Int) = v / 4096 % 4294967296)
    (h1 : w / 256 % 16 = c1 % 16) (h5 : w / 33554432 % 64 = c5 % 64) (h11 : w / 128 % 2 = c11 % 2) (h12 : w / 2147483648 = c12 % 2) (r : (-4096 ≤ v ∧ v < 4096) ∧ v % 2 = 0) : numW 6 w = v := by
  rw [num6]
  have e : sgn w / 2147483648 = -((c12 % 2 : Nat) : Int) := by unfold sgn; split <;> omega
  rw [e, h1, h5, h11]
  have a1 : ((c1 % 16 : Nat) : Int) = v / 2 % 16 := by omega
  have a5 : ((c5 % 64 : Nat) : Int) = v / 32 % 64 := by omega
  have a11 : ((c11 % 2 : Nat) : Int) = v / 2048 % 2 := by omega
  have a12 : ((c12 % 2 : Nat) : Int) = v / 4096 % 2 := by omega
  clear p1 p5 p11 p12 h1 h5 h11 h12 e
  generalize c1 % 16 = d1 at *
  generalize c5 % 64 = d5 at *
  generalize c11 % 2 = d11 at *
  generalize c12 % 2 = d12 at *
  omega
theorem back7 (v : Int) (w c1 c12 c11 c20 : Nat) (hw : w < 4294967296) (p1 : (c1 : Int) = v / 2 % 4294967296) (p12 : (c12 : Int) = v / 4096 % 4294967296) (p11 : (c11 : Int) = v / 2048 % 4294967296) (p20 : (c20 : Int) = v / 1048576 % 4294967296)
    (h1 : w / 2097152 % 1024 = c1 % 1024) (h12 : w / 4096 % 256 = c12 % 256) (h11 : w / 1048576 % 2 = c11 % 2) (h20 : w / 2147483648 = c20 % 2) (r : (-1048576 ≤ v ∧ v < 1048576) ∧ v % 2 = 0) : numW 7 w = v := by
  rw [num7]
  have e : sgn w / 2147483648 = -((c20 % 2 : Nat) : Int) := by unfold sgn; split <;> omega
  rw [e, h1, h12, h11]
  have a1 : ((c1 % 1024 : Nat) : Int) = v / 2 % 1024 := by omega
  have a12 : ((c12 % 256 : Nat) : Int) = v / 4096 % 256 := by omega
  have a11 : ((c11 % 2 : Nat) : Int) = v / 2048 % 2 := by omega
  have a20 : ((c20 % 2 : Nat) : Int) = v / 1048576 % 2 := by omega
  clear p1 p12 p11 p20 h1 h12 h11 h20 e
  generalize c1 % 1024 = d1 at *
  generalize c12 % 256 = d12 at *
  generalize c11 % 2 = d11 at *
  generalize c20 % 2 = d20 at *
  omega
theorem in_eta (x : In) (a b c d : Nat) (v : Int) (h0 : x.op = a) (h1 : b = x.rd) (h2 : c = x.rs1) (h3 : d = x.rs2) (h4 : v = x.imm) : (⟨a, b, c, d, v⟩ : In) = x := by
  cases x; simp_all
set_option maxHeartbeats 1000000 in
/-- The fields of an instruction's word are the instruction's. -/
theorem back {x : In} (h : x.ok = true) : fldF (formT x.op) x.word x.op = x := by
  obtain ⟨op, rd, rs1, rs2, v⟩ := x
  obtain ⟨h1, h2, h3, h4, h5, h6⟩ := ok_parts h
  obtain ⟨t1, t2, t3, t4, t5, t6⟩ := tabs op h1 h2
  have hw : In.word ⟨op, rd, rs1, rs2, v⟩ < 4294967296 := wordN_lt _ _ _ _ _
  have hword : In.word ⟨op, rd, rs1, rs2, v⟩ = layv (piecesv (formT op) (codeT op) (f3T op) (f7T op) rd rs1 rs2 v) := rfl
  have p0 := cut0 v; have p1 := cut1 v; have p5 := cut5 v; have p11 := cut11 v; have p12 := cut12 v; have p20 := cut20 v
  generalize In.word ⟨op, rd, rs1, rs2, v⟩ = w at *
  show fldF (formT op) w op = _
  generalize codeT op = c at *
  generalize f3T op = f3 at *
  generalize f7T op = f7 at *
  generalize formT op = fm at *
  clear h
  unfold fldF
  rcases form_cases t5 h2 with rfl | rfl | rfl | rfl | rfl | rfl | rfl | rfl
  · rw [lay1] at hword
    have r3 := (reg_t rd).1 h3; have r4 := (reg_t rs1).1 h4; have r5 := (reg_t rs2).1 h5; have r6 := (imm1 v).1 h6
    clear p0 p1 p5 p11 p12 p20
    refine in_eta _ _ _ _ _ _ rfl ?_ ?_ ?_ ?_
    · show w / 128 % 32 = rd; omega
    · show w / 32768 % 32 = rs1; omega
    · show w / 1048576 % 32 = rs2; omega
    · exact r6.symm
  · rw [lay2] at hword
    have r3 := (reg_t rd).1 h3; have r4 := (reg_t rs1).1 h4; have r5 := (reg_f rs2).1 h5; have r6 := (imm2 v).1 h6
    clear p1 p5 p11 p12 p20
    refine in_eta _ _ _ _ _ _ rfl ?_ ?_ ?_ ?_
    · show w / 128 % 32 = rd; omega
    · show w / 32768 % 32 = rs1; omega
    · exact r5.symm
    · exact back2 v w _ hw p0 (by omega) r6
  · rw [lay3] at hword
    have r3 := (reg_t rd).1 h3; have r4 := (reg_t rs1).1 h4; have r5 := (reg_f rs2).1 h5; have r6 := (imm3 v).1 h6
    clear p1 p5 p11 p12 p20
    refine in_eta _ _ _ _ _ _ rfl ?_ ?_ ?_ ?_
    · show w / 128 % 32 = rd; omega
    · show w / 32768 % 32 = rs1; omega
    · exact r5.symm
    · exact back3 v w _ hw p0 (by omega) r6
  · rw [lay4] at hword
    have r3 := (reg_t rd).1 h3; have r4 := (reg_f rs1).1 h4; have r5 := (reg_f rs2).1 h5; have r6 := (imm4 v).1 h6
    clear p0 p1 p5 p11 p20
    refine in_eta _ _ _ _ _ _ rfl ?_ ?_ ?_ ?_
    · show w / 128 % 32 = rd; omega
    · exact r4.symm
    · exact r5.symm
    · exact back4 v w _ hw p12 (by omega) r6
  · rw [lay5] at hword
    have r3 := (reg_f rd).1 h3; have r4 := (reg_t rs1).1 h4; have r5 := (reg_t rs2).1 h5; have r6 := (imm5 v).1 h6
    clear p1 p11 p12 p20
    refine in_eta _ _ _ _ _ _ rfl ?_ ?_ ?_ ?_
    · exact r3.symm
    · show w / 32768 % 32 = rs1; clear p0 p5; omega
    · show w / 1048576 % 32 = rs2; clear p0 p5; omega
    · exact back5 v w _ _ hw p0 p5 (by clear p0 p5; omega) (by clear p0 p5; omega) r6
  · rw [lay6] at hword
    have r3 := (reg_f rd).1 h3; have r4 := (reg_t rs1).1 h4; have r5 := (reg_t rs2).1 h5; have r6 := (imm6 v).1 h6
    clear p0 p20
    refine in_eta _ _ _ _ _ _ rfl ?_ ?_ ?_ ?_
    · exact r3.symm
    · show w / 32768 % 32 = rs1; clear p1 p5 p11 p12; omega
    · show w / 1048576 % 32 = rs2; clear p1 p5 p11 p12; omega
    · exact back6 v w _ _ _ _ hw p1 p5 p11 p12 (by clear p1 p5 p11 p12; omega) (by clear p1 p5 p11 p12; omega) (by clear p1 p5 p11 p12; omega) (by clear p1 p5 p11 p12; omega) r6
  · rw [lay7] at hword
    have r3 := (reg_t rd).1 h3; have r4 := (reg_f rs1).1 h4; have r5 := (reg_f rs2).1 h5; have r6 := (imm7 v).1 h6
    clear p0 p5
    refine in_eta _ _ _ _ _ _ rfl ?_ ?_ ?_ ?_
    · show w / 128 % 32 = rd; clear p1 p11 p12 p20; omega
    · exact r4.symm
    · exact r5.symm
    · exact back7 v w _ _ _ _ hw p1 p12 p11 p20 (by clear p1 p11 p12 p20; omega) (by clear p1 p11 p12 p20; omega) (by clear p1 p11 p12 p20; omega) (by clear p1 p11 p12 p20; omega) r6
  · have r3 := (reg_f rd).1 h3; have r4 := (reg_f rs1).1 h4; have r5 := (reg_f rs2).1 h5; have r6 := (imm8 v).1 h6
    refine in_eta _ _ _ _ _ _ rfl ?_ ?_ ?_ ?_
    · exact r3.symm
    · exact r4.symm
    · exact r5.symm
    · exact r6.symm
theorem back_w {w : Nat} {x : In} (h : isW w x) : fldW w x.op = x := by
  obtain ⟨h1, rfl⟩ := h
  unfold fldW
  rw [form_of h1]
  exact back h1
theorem back_f {w : Nat} {x : In} (h : isW w x) : fldF (formT x.op) w x.op = x := by
  obtain ⟨h1, rfl⟩ := h
  exact back h1
theorem isW_uniq {w : Nat} {x y : In} (h : isW w x) (k : isW w y) : x = y := by
  obtain ⟨o1, o2, o3, o4, o5⟩ := word_inj h.1 k.1 (h.2.trans k.2.symm)
  cases x; cases y; simp_all
theorem op_of {x : In} (h : x.ok = true) : 1 ≤ x.op ∧ x.op ≤ 34 := by
  obtain ⟨h1, h2, _⟩ := ok_parts h
  have := (tabs x.op h1 h2).1
  omega
/-- The instruction of a word, if there is one. -/
def decN (w : Nat) : Option In := ((List.range 35).map (fldW w)).find? (fun x => x.ok && x.word == w)
def decA (w : Nat) : In := (decN w).getD ⟨0, 0, 0, 0, 0⟩
def decE (w : Nat) : Int := if (decN w).isSome then 0 else 7
theorem decN_is {w : Nat} {x : In} (h : decN w = some x) : isW w x := by
  have := List.find?_some h
  simpa [isW] using this
theorem decN_some {w : Nat} {x : In} (h : isW w x) : decN w = some x := by
  cases hd : decN w with
  | some y => rw [isW_uniq (decN_is hd) h]
  | none =>
    unfold decN at hd
    rw [List.find?_eq_none] at hd
    have := hd x (List.mem_map.2 ⟨x.op, List.mem_range.2 (by have := op_of h.1; omega), back_w h⟩)
    simp [h.1, h.2] at this
theorem decN_none {w : Nat} (h : ∀ j, 1 ≤ j → j ≤ 34 → ¬ isW w (fldW w j)) : decN w = none := by
  cases hd : decN w with
  | none => rfl
  | some x =>
    have hx := decN_is hd
    have := op_of hx.1
    exact absurd (by rw [back_w hx]; exact hx) (h x.op this.1 this.2)
theorem decN_none' {w : Nat} (h : ∀ j, 1 ≤ j → j ≤ 34 → ¬ isW w (fldF (formT j) w j)) : decN w = none := by
  cases hd : decN w with
  | none => rfl
  | some x =>
    have hx := decN_is hd
    have := op_of hx.1
    exact absurd (by rw [back_f hx]; exact hx) (h x.op this.1 this.2)
end Go.Proofs.YtfaacmcnefbgcaaGreatDoor

/- Plain means for the contracts of package word. -/
namespace Go.Proofs.YtfaacmcnefbgcaaGreatDoor.m4
open Go.RowKit
set_option linter.unusedVariables false
theorem ret_u64i64 {a b c : Int} (h : a = b) : Ending.returned (.tuple #[.int .u64 a, .int .i64 c]) = .returned (.tuple #[.int .u64 b, .int .i64 c]) := by rw [h]
end Go.Proofs.YtfaacmcnefbgcaaGreatDoor.m4

/- Contract of word.Bytes. -/
namespace Go.Proofs.YtfaacmcnefbgcaaGreatDoor.m4
open Go.ChangeShapes Go.WideShapes Go.ChangeAt Go.RowKit
set_option linter.unusedVariables false

/-- The lowest n bytes of v, the lowest one first. -/
def bl (v n : Nat) : List Int := ([(v : Int) % 256, (v : Int) / 256 % 256, (v : Int) / 65536 % 256, (v : Int) / 16777216 % 256, (v : Int) / 4294967296 % 256, (v : Int) / 1099511627776 % 256, (v : Int) / 281474976710656 % 256, (v : Int) / 72057594037927936] : List Int).take n
/-- string(b[:n]) of a block of eight bytes. -/
theorem conv8 (n : Nat) (hn : n ≤ 8) (x0 x1 x2 x3 x4 x5 x6 x7 : Int) (w : World) :
    (convert 65 9 (.slice (some ⟨w.heap.size, 0, none⟩) n 8)).run Tryz.prog (w.alloc (.cells #[.int .u8 x0, .int .u8 x1, .int .u8 x2, .int .u8 x3, .int .u8 x4, .int .u8 x5, .int .u8 x6, .int .u8 x7] 208)) = .ok (.string (strOfNums ([x0, x1, x2, x3, x4, x5, x6, x7].take n))) (w.alloc (.cells #[.int .u8 x0, .int .u8 x1, .int .u8 x2, .int .u8 x3, .int .u8 x4, .int .u8 x5, .int .u8 x6, .int .u8 x7] 208)) := by
  refine run_convert_bytes_arg (P := Tryz.prog) _ 65 5 Tryz.underlying65 Tryz.underlying5 w.heap.size 0 n 8 _ (by simp; omega) ?_ 9 Tryz.underlying9
  intro i hi
  have h8 : i = 0 ∨ i = 1 ∨ i = 2 ∨ i = 3 ∨ i = 4 ∨ i = 5 ∨ i = 6 ∨ i = 7 := by omega
  rw [List.getD_eq_getElem?_getD, List.getElem?_take, if_pos hi]
  rcases h8 with rfl | rfl | rfl | rfl | rfl | rfl | rfl | rfl <;> simp [go_sem]

theorem bytes_bad (v : Nat) (n : Int) (h : n < 1 ∨ 8 < n) (w : World) :
    Calls Tryz.prog 140 #[.int .u64 v, .int .i64 n] w fun e w' => e = .returned (.tuple #[.string ByteArray.empty, .int .i64 2]) ∧ w = w' := by
  by_cases h1 : n < 1
  · clear h
    go_enter Tryz.func140, Tryz.ntmps140
    go_wp2
    go_ret2
    exact ⟨rfl, rfl⟩
  · have h2 : 8 < n := by omega
    clear h
    go_enter Tryz.func140, Tryz.ntmps140
    go_wp2
    go_ret2
    exact ⟨rfl, rfl⟩
theorem bytes_1 (v : Nat) (hv : v < 18446744073709551616) (w : World) :
    Calls Tryz.prog 140 #[.int .u64 v, .int .i64 1] w fun e w' => e = .returned (.tuple #[.string (strOfNums (bl v 1)), .int .i64 0]) ∧ Below w.heap.size w w' := by
  have hc := conv8 1 (by omega)
  go_enter Tryz.func140, Tryz.ntmps140
  go_wp2
  go_rounds 2
  go_ret2
  exact ⟨rfl, (Below.refl _ _).alloc (Nat.le_refl _) _⟩
theorem bytes_2 (v : Nat) (hv : v < 18446744073709551616) (w : World) :
    Calls Tryz.prog 140 #[.int .u64 v, .int .i64 2] w fun e w' => e = .returned (.tuple #[.string (strOfNums (bl v 2)), .int .i64 0]) ∧ Below w.heap.size w w' := by
  have hc := conv8 2 (by omega)
  go_enter Tryz.func140, Tryz.ntmps140
  go_wp2
  go_rounds 3
  go_ret2
  exact ⟨rfl, (Below.refl _ _).alloc (Nat.le_refl _) _⟩
theorem bytes_3 (v : Nat) (hv : v < 18446744073709551616) (w : World) :
    Calls Tryz.prog 140 #[.int .u64 v, .int .i64 3] w fun e w' => e = .returned (.tuple #[.string (strOfNums (bl v 3)), .int .i64 0]) ∧ Below w.heap.size w w' := by
  have hc := conv8 3 (by omega)
  go_enter Tryz.func140, Tryz.ntmps140
  go_wp2
  go_rounds 4
  go_ret2
  exact ⟨rfl, (Below.refl _ _).alloc (Nat.le_refl _) _⟩
theorem bytes_4 (v : Nat) (hv : v < 18446744073709551616) (w : World) :
    Calls Tryz.prog 140 #[.int .u64 v, .int .i64 4] w fun e w' => e = .returned (.tuple #[.string (strOfNums (bl v 4)), .int .i64 0]) ∧ Below w.heap.size w w' := by
  have hc := conv8 4 (by omega)
  go_enter Tryz.func140, Tryz.ntmps140
  go_wp2
  go_rounds 5
  go_ret2
  exact ⟨rfl, (Below.refl _ _).alloc (Nat.le_refl _) _⟩
theorem bytes_5 (v : Nat) (hv : v < 18446744073709551616) (w : World) :
    Calls Tryz.prog 140 #[.int .u64 v, .int .i64 5] w fun e w' => e = .returned (.tuple #[.string (strOfNums (bl v 5)), .int .i64 0]) ∧ Below w.heap.size w w' := by
  have hc := conv8 5 (by omega)
  go_enter Tryz.func140, Tryz.ntmps140
  go_wp2
  go_rounds 6
  go_ret2
  exact ⟨rfl, (Below.refl _ _).alloc (Nat.le_refl _) _⟩
theorem bytes_6 (v : Nat) (hv : v < 18446744073709551616) (w : World) :
    Calls Tryz.prog 140 #[.int .u64 v, .int .i64 6] w fun e w' => e = .returned (.tuple #[.string (strOfNums (bl v 6)), .int .i64 0]) ∧ Below w.heap.size w w' := by
  have hc := conv8 6 (by omega)
  go_enter Tryz.func140, Tryz.ntmps140
  go_wp2
  go_rounds 7
  go_ret2
  exact ⟨rfl, (Below.refl _ _).alloc (Nat.le_refl _) _⟩
theorem bytes_7 (v : Nat) (hv : v < 18446744073709551616) (w : World) :
    Calls Tryz.prog 140 #[.int .u64 v, .int .i64 7] w fun e w' => e = .returned (.tuple #[.string (strOfNums (bl v 7)), .int .i64 0]) ∧ Below w.heap.size w w' := by
  have hc := conv8 7 (by omega)
  go_enter Tryz.func140, Tryz.ntmps140
  go_wp2
  go_rounds 8
  go_ret2
  exact ⟨rfl, (Below.refl _ _).alloc (Nat.le_refl _) _⟩
theorem bytes_8 (v : Nat) (hv : v < 18446744073709551616) (w : World) :
    Calls Tryz.prog 140 #[.int .u64 v, .int .i64 8] w fun e w' => e = .returned (.tuple #[.string (strOfNums (bl v 8)), .int .i64 0]) ∧ Below w.heap.size w w' := by
  have hc := conv8 8 (by omega)
  go_enter Tryz.func140, Tryz.ntmps140
  go_wp2
  go_rounds 9
  go_ret2
  exact ⟨rfl, (Below.refl _ _).alloc (Nat.le_refl _) _⟩
theorem bytes_any (v n : Nat) (hv : v < 18446744073709551616) (h1 : 1 ≤ n) (h2 : n ≤ 8) (w : World) :
    Calls Tryz.prog 140 #[.int .u64 v, .int .i64 n] w fun e w' => e = .returned (.tuple #[.string (strOfNums (bl v n)), .int .i64 0]) ∧ Below w.heap.size w w' := by
  have h8 : n = 1 ∨ n = 2 ∨ n = 3 ∨ n = 4 ∨ n = 5 ∨ n = 6 ∨ n = 7 ∨ n = 8 := by omega
  rcases h8 with rfl | rfl | rfl | rfl | rfl | rfl | rfl | rfl
  · exact bytes_1 v hv w
  · exact bytes_2 v hv w
  · exact bytes_3 v hv w
  · exact bytes_4 v hv w
  · exact bytes_5 v hv w
  · exact bytes_6 v hv w
  · exact bytes_7 v hv w
  · exact bytes_8 v hv w
end Go.Proofs.YtfaacmcnefbgcaaGreatDoor.m4

/- Contract of word.Word. -/
namespace Go.Proofs.YtfaacmcnefbgcaaGreatDoor.m4
open Go.ChangeShapes Go.WideShapes Go.ChangeAt Go.RowKit
set_option linter.unusedVariables false

/-- The number of bytes, the lowest one first. -/
def wordv : List UInt8 → Nat
  | [] => 0
  | b :: r => b.toNat + 256 * wordv r
theorem wordv_append (l m : List UInt8) : wordv (l ++ m) = wordv l + 256 ^ l.length * wordv m := by
  induction l with
  | nil => simp [wordv]
  | cons b l ih => simp only [List.cons_append, wordv, ih, List.length_cons, Nat.pow_succ]; rw [Nat.mul_add, ← Nat.mul_assoc, Nat.mul_comm 256 (256 ^ l.length)]; omega
theorem wordv_lt (l : List UInt8) : wordv l < 256 ^ l.length := by
  induction l with
  | nil => simp [wordv]
  | cons b l ih =>
    simp only [wordv, List.length_cons, Nat.pow_succ]
    have := b.toNat_lt
    omega
theorem wordv_snoc (l : List UInt8) (b : UInt8) : wordv (l ++ [b]) = wordv l + b.toNat * 256 ^ l.length := by
  rw [wordv_append]; simp only [wordv, Nat.mul_zero, Nat.add_zero]; rw [Nat.mul_comm]
theorem pow8 (k : Nat) : 2 ^ (8 * k) = 256 ^ k := by rw [Nat.pow_mul]
theorem take_snoc (s : ByteArray) (k : Nat) (h : k < s.size) : s.data.toList.take (k + 1) = s.data.toList.take k ++ [s[k]] := by
  rw [List.take_succ_eq_append_getElem (by simpa using h)]; rfl
theorem wordv_lt64 (l : List UInt8) (h : l.length ≤ 8) : wordv l < 18446744073709551616 := by
  have h1 := wordv_lt l
  have h2 : 256 ^ l.length ≤ 256 ^ 8 := Nat.pow_le_pow_right (by omega) h
  omega
theorem or_round (s : ByteArray) (k : Nat) (h : k < s.size) (h8 : s.size ≤ 8) :
    bits .or .u64 ((wordv (s.data.toList.take k) : Nat) : Int) (IntKind.u64.wrap ((s[k].toNat : Int) * 2 ^ (8 * k))) = ((wordv (s.data.toList.take (k + 1)) : Nat) : Int) := by
  have hb := s[k].toNat_lt
  have hl : (s.data.toList.take k).length = k := by rw [List.length_take]; have : s.data.toList.length = s.size := rfl; omega
  have h1 : wordv (s.data.toList.take k) < 2 ^ (8 * k) := by rw [pow8]; have := wordv_lt (s.data.toList.take k); rw [hl] at this; exact this
  have h2 : wordv (s.data.toList.take k) < 18446744073709551616 := wordv_lt64 _ (by omega)
  have h3 : s[k].toNat * 2 ^ (8 * k) < 18446744073709551616 := by
    have : s[k].toNat * 2 ^ (8 * k) < 2 ^ 8 * 2 ^ (8 * k) := Nat.mul_lt_mul_of_pos_right (by omega) (Nat.pow_pos (by omega))
    rw [← Nat.pow_add] at this
    exact Nat.lt_of_lt_of_le this (Nat.pow_le_pow_right (n := 2) (by omega) (show 8 + 8 * k ≤ 64 by omega))
  have e : IntKind.u64.wrap ((s[k].toNat : Int) * 2 ^ (8 * k)) = ((s[k].toNat * 2 ^ (8 * k) : Nat) : Int) := by
    rw [IntKind.wrap_u64, ← cast_mul_pow, Nat.mod_eq_of_lt h3]
  rw [e, bits_or_nat _ _ h2 h3, take_snoc s k h, wordv_snoc, hl, ← pow8]
  have := Nat.shiftLeft_add_eq_or_of_lt h1 s[k].toNat
  rw [Nat.shiftLeft_eq] at this
  rw [Nat.or_comm, ← this, Nat.add_comm]
theorem word_bad (s : ByteArray) (h : s.size < 1 ∨ 8 < s.size) (hm : s.size ≤ maxLen) (w : World) :
    Calls Tryz.prog 89 #[.string s] w fun e w' => e = .returned (.tuple #[.int .u64 0, .int .i64 2]) ∧ w = w' := by
  unfold maxLen at hm
  by_cases h1 : s.size < 1
  · clear h
    go_enter Tryz.func89, Tryz.ntmps89
    go_wp2
    go_ret2
    exact ⟨rfl, rfl⟩
  · have h2 : 8 < s.size := by omega
    clear h
    go_enter Tryz.func89, Tryz.ntmps89
    go_wp2
    go_ret2
    exact ⟨rfl, rfl⟩
theorem word_any (s : ByteArray) (h1 : 1 ≤ s.size) (h2 : s.size ≤ 8) (w : World) :
    Calls Tryz.prog 89 #[.string s] w fun e w' => e = .returned (.tuple #[.int .u64 (wordv s.data.toList : Nat), .int .i64 0]) ∧ w = w' := by
  go_enter Tryz.func89, Tryz.ntmps89
  go_wp2
  go_loop [4, 16] (fun v i => ∃ k : Nat, k ≤ s.size ∧ i = .int .i64 k ∧ v = .int .u64 (wordv (s.data.toList.take k) : Nat)) (fun _ i => s.size - (intOf i).toNat)
  case atStart => exact ⟨0, Nat.zero_le _, rfl, rfl⟩
  case round =>
    obtain ⟨k, hk, rfl, rfl⟩ := hrel
    by_cases hlt : k < s.size
    · have hr := Lib.hid (or_round s k hlt h2)
      go_wp2
      go_round
      case rel => exact ⟨k + 1, by omega, by go_num, by rw [← hr.out, wrap_nat s[k].toNat (by have := s[k].toNat_lt; omega)]⟩
      case measure => simp [intOf]; omega
    · go_wp2
      go_ret2
      exact ⟨ret_u64i64 (by rw [List.take_of_length_le (by have : s.data.toList.length = s.size := rfl; omega)]), rfl⟩
end Go.Proofs.YtfaacmcnefbgcaaGreatDoor.m4

/- Plain words on regions: which may be, where a stretch lies, what a memory has. No conditions. -/
namespace Go.Proofs.YtfaacmcnefbgcaaGreatDoor.m4
open Go.ChangeShapes Go.WideShapes Go.ChangeAt Go.RowKit
set_option linter.unusedVariables false
/-- A region: from, size, kind. -/
structure Rg where
  f : Nat
  s : Nat
  k : Nat
deriving Inhabited, DecidableEq
def Rg.wf (r : Rg) : Prop := r.f < 18446744073709551616 ∧ r.s < 18446744073709551616 ∧ r.k < 256
def Rg.one (r : Rg) : Prop := 1 ≤ r.k ∧ r.k ≤ 4 ∧ 1 ≤ r.s ∧ r.s ≤ 1048576
def Rg.ok (r : Rg) : Prop := r.one ∧ r.f + r.s ≤ 1099511627776
def meets (r o : Rg) : Prop := r.f < o.f + o.s ∧ o.f < r.f + r.s
def rg (l : List Rg) (i : Nat) : Rg := l.getD i ⟨0, 0, 0⟩
def Good (l : List Rg) (i : Nat) : Prop := (rg l i).ok ∧ ∀ k < i, ¬ meets (rg l i) (rg l k)
def MayL (l : List Rg) : Prop := (∀ i < l.length, Good l i) ∧ 1 ≤ l.length ∧ l.length ≤ 16
def wfL (l : List Rg) : Prop := ∀ i, (rg l i).wf
/-- The cells of a region. -/
def regAt (w : World) (b o : Nat) (r : Rg) : Prop := w.cell? ⟨b, o, none⟩ = some (.int .u64 r.f) ∧ w.cell? ⟨b, o + 1, none⟩ = some (.int .u64 r.s) ∧ w.cell? ⟨b, o + 2, none⟩ = some (.int .u8 r.k)
def rowAt (w : World) (b o : Nat) (l : List Rg) : Prop := ∀ i < l.length, regAt w b (o + i * 3) (rg l i)
/-- A row of regions, as a slice has it. -/
def SlOf (w : World) (v : Value) (l : List Rg) : Prop := (l = [] ∧ ∃ a c, v = .slice a 0 c) ∨ ∃ b o c, v = .slice (some ⟨b, o, none⟩) l.length c ∧ rowAt w b o l ∧ b < w.heap.size ∧ l.length ≤ c
theorem stay {w w' : World} (hb : Below w.heap.size w w') {p : Addr} {v : Value} (h : w.cell? p = some v) : w'.cell? p = some v := (hb.cell (World.block_lt_of_cell? w _ h)).trans h
theorem regAt.of {w w' : World} {b o : Nat} {r : Rg} (h : regAt w b o r) (hb : Below w.heap.size w w') : regAt w' b o r := ⟨stay hb h.1, stay hb h.2.1, stay hb h.2.2⟩
theorem rowAt.of {w w' : World} {b o : Nat} {l : List Rg} (h : rowAt w b o l) (hb : Below w.heap.size w w') : rowAt w' b o l := fun i hi => (h i hi).of hb
theorem SlOf.of {w w' : World} {v : Value} {l : List Rg} (h : SlOf w v l) (hb : Below w.heap.size w w') : SlOf w' v l := by
  rcases h with h | ⟨b, o, c, h, hr, hl, hc⟩
  · exact .inl h
  · exact .inr ⟨b, o, c, h, hr.of hb, Nat.lt_of_lt_of_le hl hb.size, hc⟩
theorem may_not {l : List Rg} {i : Nat} (hi : i < l.length) (h : ¬ Good l i) : ¬ MayL l := fun hm => h (hm.1 i hi)
theorem gets_three {n : Nat} {P : Nat → Prop} : (∀ i < n, P i) ∨ ∃ i < n, ¬ P i ∧ ∀ j < i, P j := by
  induction n with
  | zero => exact .inl (fun i hi => by omega)
  | succ n ih =>
    rcases ih with h | ⟨i, hi, hn, hj⟩
    · by_cases hp : P n
      · exact .inl fun i hi => by
          rcases Nat.lt_or_ge i n with h1 | h1
          · exact h i h1
          · obtain rfl : i = n := by omega
            exact hp
      · exact .inr ⟨n, by omega, hp, h⟩
    · exact .inr ⟨i, by omega, hn, hj⟩
theorem sub40 (s : Nat) (h : s ≤ 1048576) : IntKind.u64.wrap (1099511627776 - (s : Int)) = ((1099511627776 - s : Nat) : Int) := by rw [IntKind.wrap_u64]; omega
theorem add64 (a b : Nat) (h : a + b < 18446744073709551616) : IntKind.u64.wrap ((a : Int) + (b : Int)) = ((a + b : Nat) : Int) := by rw [IntKind.wrap_u64]; omega
theorem sub64 (a b : Nat) (h : b ≤ a) (ha : a < 18446744073709551616) : IntKind.u64.wrap ((a : Int) - (b : Int)) = ((a - b : Nat) : Int) := by rw [IntKind.wrap_u64]; omega
theorem bdN {B : Nat} {a w : World} (h : Below B a w) (n : Nat) : Below B a (w.drewN n) := h.trans ⟨rfl, rfl, rfl, Nat.le_refl _, fun _ _ => rfl⟩
theorem bd1 {B : Nat} {a w : World} (h : Below B a w) : Below B a w.drew := h.trans ⟨rfl, rfl, rfl, Nat.le_refl _, fun _ _ => rfl⟩
theorem below_trans' {B : Nat} {W w w' : World} (h : Below B W w) (hB : B ≤ W.heap.size) (hb : Below w.heap.size w w') : Below B W w' := h.trans (hb.mono (Nat.le_trans hB h.size))
theorem sBelow {B : Nat} {a b : World} {k o : Nat} {v : Value} (h : Below B a b) (hk : B ≤ k) : Below B a (b.setCell ⟨k, o, none⟩ v) := h.setCell hk v
theorem aBelow {W w : World} (h : Below W.heap.size W w) (o : Obj) : Below W.heap.size W (w.alloc o) := h.alloc h.size _
theorem addp (b off k : Nat) : (⟨b, off, none⟩ : Addr).add k = ⟨b, off + k, none⟩ := by
  unfold Addr.add
  split
  · rename_i h; subst h; rfl
  · rfl
theorem nwc (x : World) (C : Array Value) (t : TypeId) (o : Nat) : (x.alloc (.cells C t)).cell? ⟨x.heap.size, o, none⟩ = C[o]? := by
  have e : (x.alloc (.cells C t)).heap[x.heap.size]? = some (.cells C t (0, 0)) := by show (x.heap.push _)[x.heap.size]? = _; simp
  unfold World.cell?
  simp only [e]
  rfl
theorem nwf (x : World) (C : Array Value) (t : TypeId) (o : Nat) : (x.alloc (.cells C t)).frozen? ⟨x.heap.size, o, none⟩ = false := by
  have e : (x.alloc (.cells C t)).heap[x.heap.size]? = some (.cells C t (0, 0)) := by show (x.heap.push _)[x.heap.size]? = _; simp
  unfold World.frozen?
  simp only [e]
  simp
/-- A region that draws its order, whose operations only read and whose callees leave alone what lay before: one walk, in the order of the text. -/
theorem region_below {P : Program} {id : Nat} {Q : Exit → Act → World → Prop} {a : Act} {w : World} {l : List Oper} (hm : P.follows .mixedOrders = true) (hB : Region.lexB .any l.toArray = true)
    (h : wpQuiet P l.toArray (fun w' => Below w.heap.size w w') (fun a' => ∀ w', Below w.heap.size w w' → Q .normal a' w') l a) : (Code.region id l.toArray true).wp P Q a w :=
  wp_region_quiet (C := fun w' => Below w.heap.size w w') hm hB (bd1 (Below.refl _ w)) h
theorem bqk {P : Program} {ops : Array Oper} {C : World → Prop} {Q : Act → Prop} {a : Act} {o : Oper} {rest : List Oper} (v : Value)
    (hw : Region.wanted o (yielded ops a.tmps) = true) (h : ∀ w', C w' → o.quietAt P a C w' v) (k : ∀ K : Act → Prop, (∀ a, wpQuiet P ops C Q rest a → K a) → K (a.put o.dst v)) : wpQuiet P ops C Q (o :: rest) a :=
  BigFrame.wpQuiet_want hw fun K hK => ⟨v, h, k K hK⟩
theorem cbd (x : World) (C : Array Value) (t : TypeId) (b o : Nat) (hb : b = x.heap.size) : (x.alloc (.cells C t)).drew.cell? ⟨b, o, none⟩ = C[o]? := by
  subst hb
  exact nwc x C t o
theorem cb' (x : World) (C : Array Value) (t : TypeId) (b o : Nat) (hb : b = x.heap.size) : (x.alloc (.cells C t)).cell? ⟨b, o, none⟩ = C[o]? := by
  subst hb
  exact nwc x C t o
/-- A bool that stands for a proposition. -/
def RB (e : Ending) (p : Prop) : Prop := ∃ r, e = .returned (.bool r) ∧ (r = true ↔ p)
theorem RB_t {p : Prop} (h : p) : RB (.returned (.bool true)) p := ⟨true, rfl, by simpa using h⟩
theorem RB_f {p : Prop} (h : ¬ p) : RB (.returned (.bool false)) p := ⟨false, rfl, by simpa using h⟩
theorem RB_d {p : Prop} {b : Bool} (h : b = true ↔ p) : RB (.returned (.bool b)) p := ⟨b, rfl, h⟩
end Go.Proofs.YtfaacmcnefbgcaaGreatDoor.m4
