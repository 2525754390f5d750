/- Which instruction a word has, in plain numbers: fields read back by the form that the word itself tells. -/
import Derived.Test.YtcckgfablfgknaaGreatDoorQa
import Derived.Test.YtcckgfablfgknaaGreatDoorQp
namespace Go.Proofs.YtcckgfablfgknaaGreatDoor
set_option linter.unusedVariables false
/-- The form that a code, and the lowest two bits of f3, tell. -/
def formCF (c q : Nat) : Nat :=
  if c = 51 then 1 else if c = 19 then (if q = 1 then 3 else 2) else if c = 3 then 2 else if c = 103 then 2 else if c = 55 then 4 else if c = 35 then 5 else if c = 99 then 6 else if c = 111 then 7 else if c = 115 then 8 else 0
def formW (w : Nat) : Nat := formCF (w % 128) (w / 4096 % 4)
theorem formCF_le (c q : Nat) : formCF c q ≤ 8 := by unfold formCF; repeat' split <;> try omega
theorem formW_le (w : Nat) : formW w ≤ 8 := formCF_le _ _
def sgn (w : Nat) : Int := if w < 2147483648 then (w : Int) else (w : Int) - 4294967296
/-- The number that a word has in a form. -/
def numW (f w : Nat) : Int :=
  if f = 2 then sgn w / 33554432 * 32 + (w / 1048576 % 32 : Nat)
  else if f = 3 then sgn w / 33554432 % 2 * 32 + (w / 1048576 % 32 : Nat)
  else if f = 4 then sgn w / 4096 * 4096
  else if f = 5 then sgn w / 33554432 * 32 + (w / 128 % 32 : Nat)
  else if f = 6 then sgn w / 2147483648 * 4096 + (w / 128 % 2 * 2048 : Nat) + (w / 33554432 % 64 * 32 : Nat) + (w / 256 % 16 * 2 : Nat)
  else if f = 7 then sgn w / 2147483648 * 1048576 + (w / 4096 % 256 * 4096 : Nat) + (w / 1048576 % 2 * 2048 : Nat) + (w / 2097152 % 1024 * 2 : Nat)
  else 0
def fldF (f w op : Nat) : In := ⟨op, if rdT f then w / 128 % 32 else 0, if rs1T f then w / 32768 % 32 else 0, if rs2T f then w / 1048576 % 32 else 0, numW f w⟩
def fldW (w op : Nat) : In := fldF (formW w) w op
def isW (w : Nat) (x : In) : Prop := x.ok = true ∧ x.word = w
theorem num2 (w : Nat) : numW 2 w = sgn w / 33554432 * 32 + (w / 1048576 % 32 : Nat) := rfl
theorem num3 (w : Nat) : numW 3 w = sgn w / 33554432 % 2 * 32 + (w / 1048576 % 32 : Nat) := rfl
theorem num4 (w : Nat) : numW 4 w = sgn w / 4096 * 4096 := rfl
theorem num5 (w : Nat) : numW 5 w = sgn w / 33554432 * 32 + (w / 128 % 32 : Nat) := rfl
theorem num6 (w : Nat) : numW 6 w = sgn w / 2147483648 * 4096 + (w / 128 % 2 * 2048 : Nat) + (w / 33554432 % 64 * 32 : Nat) + (w / 256 % 16 * 2 : Nat) := rfl
theorem num7 (w : Nat) : numW 7 w = sgn w / 2147483648 * 1048576 + (w / 4096 % 256 * 4096 : Nat) + (w / 1048576 % 2 * 2048 : Nat) + (w / 2097152 % 1024 * 2 : Nat) := rfl
theorem numW_bounds (f w : Nat) (hw : w < 4294967296) : -9223372036854775808 ≤ numW f w ∧ numW f w < 9223372036854775808 := by
  have hs : -2147483648 ≤ sgn w ∧ sgn w < 2147483648 := by unfold sgn; split <;> omega
  unfold numW
  repeat' split <;> omega
theorem fldF_wf (f w op : Nat) (hw : w < 4294967296) (ho : op < 256) : (fldF f w op).wf := by
  obtain ⟨h1, h2⟩ := numW_bounds f w hw
  unfold In.wf fldF
  simp only
  refine ⟨ho, ?_, ?_, ?_, h1, h2⟩ <;> split <;> omega
theorem form_tab : ∀ k < 35, ∀ f3 < 8, (formT k == 0 || !(formT k == 4 || formT k == 7 || f3 == f3T k) || formCF (codeT k) (f3 % 4) == formT k) = true := by decide +kernel
theorem form_of {x : In} (h : x.ok = true) : formW x.word = formT x.op := by
  obtain ⟨h1, h2, _⟩ := row_of_word h
  obtain ⟨k1, k2, _⟩ := ok_parts h
  have ht := form_tab x.op k1 (wf3 x.word) (by unfold wf3; omega)
  simp only [Bool.or_eq_true, Bool.not_eq_true', beq_iff_eq, Bool.or_eq_false_iff, beq_eq_false_iff_ne] at ht
  have h2' : formT x.op = 4 ∨ formT x.op = 7 ∨ wf3 x.word = f3T x.op := h2
  have h1' : wcode x.word = codeT x.op := h1
  unfold formW
  unfold wcode at h1'
  rw [h1']
  have e : x.word / 4096 % 4 = wf3 x.word % 4 := by unfold wf3; omega
  rw [e]
  rcases ht with (h0 | ⟨⟨a, b⟩, c⟩) | h
  · exact absurd h0 k2
  · rcases h2' with h | h | h <;> contradiction
  · exact h
theorem back2 (v : Int) (w c : Nat) (hw : w < 4294967296) (p : (c : Int) = v % 4294967296) (h : w / 1048576 = c % 4096) (r : -2048 ≤ v ∧ v < 2048) : numW 2 w = v := by
  rw [num2]; unfold sgn; split <;> omega
theorem back3 (v : Int) (w c : Nat) (hw : w < 4294967296) (p : (c : Int) = v % 4294967296) (h : w / 1048576 % 64 = c % 64) (r : 0 ≤ v ∧ v < 64) : numW 3 w = v := by
  rw [num3]
  have e1 : sgn w / 33554432 % 2 = ((w / 33554432 % 2 : Nat) : Int) := by unfold sgn; split <;> omega
  rw [e1]
  have e2 : w / 33554432 % 2 = w / 1048576 % 64 / 32 := by omega
  rw [e2]
  omega
theorem back4 (v : Int) (w c : Nat) (hw : w < 4294967296) (p : (c : Int) = v / 4096 % 4294967296) (h : w / 4096 = c % 1048576) (r : (-2147483648 ≤ v ∧ v < 2147483648) ∧ v % 4096 = 0) : numW 4 w = v := by
  rw [num4]; unfold sgn; split <;> omega
theorem back5 (v : Int) (w c d : Nat) (hw : w < 4294967296) (p : (c : Int) = v % 4294967296) (q : (d : Int) = v / 32 % 4294967296) (h1 : w / 128 % 32 = c % 32) (h2 : w / 33554432 = d % 128) (r : -2048 ≤ v ∧ v < 2048) : numW 5 w = v := by
  rw [num5]
  have e : sgn w / 33554432 = if d % 128 < 64 then ((d % 128 : Nat) : Int) else ((d % 128 : Nat) : Int) - 128 := by unfold sgn; split <;> split <;> omega
  rw [e, h1]
  split <;> omega
theorem back6 (v : Int) (w c1 c5 c11 c12 : Nat) (hw : w < 4294967296) (p1 : (c1 : Int) = v / 2 % 4294967296) (p5 : (c5 : Int) = v / 32 % 4294967296) (p11 : (c11 : Int) = v / 2048 % 4294967296) (p12 : (c12 : Int) = v / 4096 % 4294967296)
    (h1 : w / 256 % 16 = c1 % 16) (h5 : w / 33554432 % 64 = c5 % 64) (h11 : w / 128 % 2 = c11 % 2) (h12 : w / 2147483648 = c12 % 2) (r : (-4096 ≤ v ∧ v < 4096) ∧ v % 2 = 0) : numW 6 w = v := by
  rw [num6]
  have e : sgn w / 2147483648 = -((c12 % 2 : Nat) : Int) := by unfold sgn; split <;> omega
  rw [e, h1, h5, h11]
  have a1 : ((c1 % 16 : Nat) : Int) = v / 2 % 16 := by omega
  have a5 : ((c5 % 64 : Nat) : Int) = v / 32 % 64 := by omega
  have a11 : ((c11 % 2 : Nat) : Int) = v / 2048 % 2 := by omega
  have a12 : ((c12 % 2 : Nat) : Int) = v / 4096 % 2 := by omega
  clear p1 p5 p11 p12 h1 h5 h11 h12 e
  generalize c1 % 16 = d1 at *
  generalize c5 % 64 = d5 at *
  generalize c11 % 2 = d11 at *
  generalize c12 % 2 = d12 at *
  omega
theorem back7 (v : Int) (w c1 c12 c11 c20 : Nat) (hw : w < 4294967296) (p1 : (c1 : Int) = v / 2 % 4294967296) (p12 : (c12 : Int) = v / 4096 % 4294967296) (p11 : (c11 : Int) = v / 2048 % 4294967296) (p20 : (c20 : Int) = v / 1048576 % 4294967296)
    (h1 : w / 2097152 % 1024 = c1 % 1024) (h12 : w / 4096 % 256 = c12 % 256) (h11 : w / 1048576 % 2 = c11 % 2) (h20 : w / 2147483648 = c20 % 2) (r : (-1048576 ≤ v ∧ v < 1048576) ∧ v % 2 = 0) : numW 7 w = v := by
  rw [num7]
  have e : sgn w / 2147483648 = -((c20 % 2 : Nat) : Int) := by unfold sgn; split <;> omega
  rw [e, h1, h12, h11]
  have a1 : ((c1 % 1024 : Nat) : Int) = v / 2 % 1024 := by omega
  have a12 : ((c12 % 256 : Nat) : Int) = v / 4096 % 256 := by omega
  have a11 : ((c11 % 2 : Nat) : Int) = v / 2048 % 2 := by omega
  have a20 : ((c20 % 2 : Nat) : Int) = v / 1048576 % 2 := by omega
  clear p1 p12 p11 p20 h1 h12 h11 h20 e
  generalize c1 % 1024 = d1 at *
  generalize c12 % 256 = d12 at *
  generalize c11 % 2 = d11 at *
  generalize c20 % 2 = d20 at *
  omega
theorem in_eta (x : In) (a b c d : Nat) (v : Int) (h0 : x.op = a) (h1 : b = x.rd) (h2 : c = x.rs1) (h3 : d = x.rs2) (h4 : v = x.imm) : (⟨a, b, c, d, v⟩ : In) = x := by
  cases x; simp_all
set_option maxHeartbeats 1000000 in
/-- The fields of an instruction's word are the instruction's. -/
theorem back {x : In} (h : x.ok = true) : fldF (formT x.op) x.word x.op = x := by
  obtain ⟨op, rd, rs1, rs2, v⟩ := x
  obtain ⟨h1, h2, h3, h4, h5, h6⟩ := ok_parts h
  obtain ⟨t1, t2, t3, t4, t5, t6⟩ := tabs op h1 h2
  have hw : In.word ⟨op, rd, rs1, rs2, v⟩ < 4294967296 := wordN_lt _ _ _ _ _
  have hword : In.word ⟨op, rd, rs1, rs2, v⟩ = layv (piecesv (formT op) (codeT op) (f3T op) (f7T op) rd rs1 rs2 v) := rfl
  have p0 := cut0 v; have p1 := cut1 v; have p5 := cut5 v; have p11 := cut11 v; have p12 := cut12 v; have p20 := cut20 v
  generalize In.word ⟨op, rd, rs1, rs2, v⟩ = w at *
  show fldF (formT op) w op = _
  generalize codeT op = c at *
  generalize f3T op = f3 at *
  generalize f7T op = f7 at *
  generalize formT op = fm at *
  clear h
  unfold fldF
  rcases form_cases t5 h2 with rfl | rfl | rfl | rfl | rfl | rfl | rfl | rfl
  · rw [lay1] at hword
    have r3 := (reg_t rd).1 h3; have r4 := (reg_t rs1).1 h4; have r5 := (reg_t rs2).1 h5; have r6 := (imm1 v).1 h6
    clear p0 p1 p5 p11 p12 p20
    refine in_eta _ _ _ _ _ _ rfl ?_ ?_ ?_ ?_
    · show w / 128 % 32 = rd; omega
    · show w / 32768 % 32 = rs1; omega
    · show w / 1048576 % 32 = rs2; omega
    · exact r6.symm
  · rw [lay2] at hword
    have r3 := (reg_t rd).1 h3; have r4 := (reg_t rs1).1 h4; have r5 := (reg_f rs2).1 h5; have r6 := (imm2 v).1 h6
    clear p1 p5 p11 p12 p20
    refine in_eta _ _ _ _ _ _ rfl ?_ ?_ ?_ ?_
    · show w / 128 % 32 = rd; omega
    · show w / 32768 % 32 = rs1; omega
    · exact r5.symm
    · exact back2 v w _ hw p0 (by omega) r6
  · rw [lay3] at hword
    have r3 := (reg_t rd).1 h3; have r4 := (reg_t rs1).1 h4; have r5 := (reg_f rs2).1 h5; have r6 := (imm3 v).1 h6
    clear p1 p5 p11 p12 p20
    refine in_eta _ _ _ _ _ _ rfl ?_ ?_ ?_ ?_
    · show w / 128 % 32 = rd; omega
    · show w / 32768 % 32 = rs1; omega
    · exact r5.symm
    · exact back3 v w _ hw p0 (by omega) r6
  · rw [lay4] at hword
    have r3 := (reg_t rd).1 h3; have r4 := (reg_f rs1).1 h4; have r5 := (reg_f rs2).1 h5; have r6 := (imm4 v).1 h6
    clear p0 p1 p5 p11 p20
    refine in_eta _ _ _ _ _ _ rfl ?_ ?_ ?_ ?_
    · show w / 128 % 32 = rd; omega
    · exact r4.symm
    · exact r5.symm
    · exact back4 v w _ hw p12 (by omega) r6
  · rw [lay5] at hword
    have r3 := (reg_f rd).1 h3; have r4 := (reg_t rs1).1 h4; have r5 := (reg_t rs2).1 h5; have r6 := (imm5 v).1 h6
    clear p1 p11 p12 p20
    refine in_eta _ _ _ _ _ _ rfl ?_ ?_ ?_ ?_
    · exact r3.symm
    · show w / 32768 % 32 = rs1; clear p0 p5; omega
    · show w / 1048576 % 32 = rs2; clear p0 p5; omega
    · exact back5 v w _ _ hw p0 p5 (by clear p0 p5; omega) (by clear p0 p5; omega) r6
  · rw [lay6] at hword
    have r3 := (reg_f rd).1 h3; have r4 := (reg_t rs1).1 h4; have r5 := (reg_t rs2).1 h5; have r6 := (imm6 v).1 h6
    clear p0 p20
    refine in_eta _ _ _ _ _ _ rfl ?_ ?_ ?_ ?_
    · exact r3.symm
    · show w / 32768 % 32 = rs1; clear p1 p5 p11 p12; omega
    · show w / 1048576 % 32 = rs2; clear p1 p5 p11 p12; omega
    · exact back6 v w _ _ _ _ hw p1 p5 p11 p12 (by clear p1 p5 p11 p12; omega) (by clear p1 p5 p11 p12; omega) (by clear p1 p5 p11 p12; omega) (by clear p1 p5 p11 p12; omega) r6
  · rw [lay7] at hword
    have r3 := (reg_t rd).1 h3; have r4 := (reg_f rs1).1 h4; have r5 := (reg_f rs2).1 h5; have r6 := (imm7 v).1 h6
    clear p0 p5
    refine in_eta _ _ _ _ _ _ rfl ?_ ?_ ?_ ?_
    · show w / 128 % 32 = rd; clear p1 p11 p12 p20; omega
    · exact r4.symm
    · exact r5.symm
    · exact back7 v w _ _ _ _ hw p1 p12 p11 p20 (by clear p1 p11 p12 p20; omega) (by clear p1 p11 p12 p20; omega) (by clear p1 p11 p12 p20; omega) (by clear p1 p11 p12 p20; omega) r6
  · have r3 := (reg_f rd).1 h3; have r4 := (reg_f rs1).1 h4; have r5 := (reg_f rs2).1 h5; have r6 := (imm8 v).1 h6
    refine in_eta _ _ _ _ _ _ rfl ?_ ?_ ?_ ?_
    · exact r3.symm
    · exact r4.symm
    · exact r5.symm
    · exact r6.symm
theorem back_w {w : Nat} {x : In} (h : isW w x) : fldW w x.op = x := by
  obtain ⟨h1, rfl⟩ := h
  unfold fldW
  rw [form_of h1]
  exact back h1
theorem back_f {w : Nat} {x : In} (h : isW w x) : fldF (formT x.op) w x.op = x := by
  obtain ⟨h1, rfl⟩ := h
  exact back h1
theorem isW_uniq {w : Nat} {x y : In} (h : isW w x) (k : isW w y) : x = y := by
  obtain ⟨o1, o2, o3, o4, o5⟩ := word_inj h.1 k.1 (h.2.trans k.2.symm)
  cases x; cases y; simp_all
theorem op_of {x : In} (h : x.ok = true) : 1 ≤ x.op ∧ x.op ≤ 34 := by
  obtain ⟨h1, h2, _⟩ := ok_parts h
  have := (tabs x.op h1 h2).1
  omega
/-- The instruction of a word, if there is one. -/
def decN (w : Nat) : Option In := ((List.range 35).map (fldW w)).find? (fun x => x.ok && x.word == w)
def decA (w : Nat) : In := (decN w).getD ⟨0, 0, 0, 0, 0⟩
def decE (w : Nat) : Int := if (decN w).isSome then 0 else 7
theorem decN_is {w : Nat} {x : In} (h : decN w = some x) : isW w x := by
  have := List.find?_some h
  simpa [isW] using this
theorem decN_some {w : Nat} {x : In} (h : isW w x) : decN w = some x := by
  cases hd : decN w with
  | some y => rw [isW_uniq (decN_is hd) h]
  | none =>
    unfold decN at hd
    rw [List.find?_eq_none] at hd
    have := hd x (List.mem_map.2 ⟨x.op, List.mem_range.2 (by have := op_of h.1; omega), back_w h⟩)
    simp [h.1, h.2] at this
theorem decN_none {w : Nat} (h : ∀ j, 1 ≤ j → j ≤ 34 → ¬ isW w (fldW w j)) : decN w = none := by
  cases hd : decN w with
  | none => rfl
  | some x =>
    have hx := decN_is hd
    have := op_of hx.1
    exact absurd (by rw [back_w hx]; exact hx) (h x.op this.1 this.2)
theorem decN_none' {w : Nat} (h : ∀ j, 1 ≤ j → j ≤ 34 → ¬ isW w (fldF (formT j) w j)) : decN w = none := by
  cases hd : decN w with
  | none => rfl
  | some x =>
    have hx := decN_is hd
    have := op_of hx.1
    exact absurd (by rw [back_f hx]; exact hx) (h x.op this.1 this.2)
end Go.Proofs.YtcckgfablfgknaaGreatDoor
