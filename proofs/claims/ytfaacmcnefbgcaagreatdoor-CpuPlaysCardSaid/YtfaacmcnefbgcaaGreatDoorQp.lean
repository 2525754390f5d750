/- Contract of insn.Encode: for any instruction. -/
import Derived.Test.YtfaacmcnefbgcaaGreatDoorJb
import Derived.Test.YtfaacmcnefbgcaaGreatDoorJa
import Derived.Test.YtfaacmcnefbgcaaGreatDoorAsm
import Derived.Lib.Hide
import Derived.Lib.AppendStr
import Derived.Lib.SmallJoins
import Derived.Handy
namespace Go.Proofs.YtfaacmcnefbgcaaGreatDoor
open Go.ChangeShapes Go.WideShapes Go.ChangeAt Go.RowKit
set_option linter.unusedVariables false
theorem bcell {W w1 : World} (hb : Below W.heap.size W w1) : (∀ b o, b < W.heap.size → w1.cell? ⟨b, o, none⟩ = W.cell? ⟨b, o, none⟩) ∧ (∀ b o, b < W.heap.size → w1.frozen? ⟨b, o, none⟩ = W.frozen? ⟨b, o, none⟩) :=
  ⟨fun b o h => hb.cell (p := ⟨b, o, none⟩) h, fun b o h => hb.frozen (p := ⟨b, o, none⟩) h⟩
/-- An instruction, as the model has it. -/
abbrev insnV (op rd rs1 rs2 : Nat) (v : Int) : Value := .agg #[.int .u8 op, .int .u8 rd, .int .u8 rs1, .int .u8 rs2, .int .i64 v]
def encW (op rd rs1 rs2 : Nat) (v : Int) : Nat := if okB op rd rs1 rs2 v then wordN op rd rs1 rs2 v else 0
def encE (op rd rs1 rs2 : Nat) (v : Int) : Int := if okB op rd rs1 rs2 v then 0 else 2
set_option maxHeartbeats 800000 in
theorem enc_any (op rd rs1 rs2 : Nat) (v : Int) (hop : op < 256) (hrd : rd < 256) (hr1 : rs1 < 256) (hr2 : rs2 < 256) (h0 : -9223372036854775808 ≤ v) (h1 : v < 9223372036854775808) (w : World) (hr : RowsOk w) (hs : ShapesOk w) :
    Calls Tryz.prog 91 #[.agg #[.int .u8 op, .int .u8 rd, .int .u8 rs1, .int .u8 rs2, .int .i64 v]] w fun e w' => e = .returned (.tuple #[.int .u32 (encW op rd rs1 rs2 v : Nat), .int .i64 (encE op rd rs1 rs2 v)]) ∧ Below w.heap.size w w' := by
  by_cases hlt : op < 35
  · obtain ⟨s0, s1, s2, s3⟩ := hr op hlt
    have hg : 0 < w.heap.size := World.block_lt_of_cell? w _ s0
    have hi0 : (0 : Int) ≤ (op : Int) := by omega
    have hi9 : (op : Int) < 35 := by omega
    have hft : formT op ≤ 8 := ((by decide +kernel : ∀ k < 35, formT k ≤ 8) op hlt)
    have ht := takes_any (formT op) op rd rs1 rs2 v hft hop hrd hr1 hr2 h0 h1
    cases hb : takesB (formT op) rd rs1 rs2 v
    · rw [hb] at ht
      have HW := Lib.hid (show encW op rd rs1 rs2 v = 0 by simp [encW, okB, hb])
      have HE := Lib.hid (show encE op rd rs1 rs2 v = 2 by simp [encE, okB, hb])
      clear hb
      go_enter Tryz.func91, Tryz.ntmps91
      go_wp2_with (go_at_call 117; ((with_reducible refine (ht _ ((hs.alloc _).alloc _)).mono ?_); rintro e w' ⟨rfl, hb⟩))
      go_ret2
      exact ⟨by rw [HW.out, HE.out]; rfl, Below.trans (((Below.refl _ _).alloc (Nat.le_refl _) _).alloc (by simp) _) (hb.mono (by simp; omega))⟩
    · rw [hb] at ht
      have hfm : 1 ≤ formT op ∧ formT op ≤ 8 := by
        have : formT op ≠ 0 := by intro e; simp [takesB, e] at hb
        omega
      have hT : codeT op < 128 ∧ f3T op < 8 ∧ f7T op < 128 := by
        have := tabs op hlt (by omega)
        exact ⟨this.2.1, this.2.2.1, this.2.2.2.1⟩
      have HW := Lib.hid (show encW op rd rs1 rs2 v = layv (piecesv (formT op) (codeT op) (f3T op) (f7T op) rd rs1 rs2 v) by simp [encW, okB, hb, hlt, wordN])
      have HE := Lib.hid (show encE op rd rs1 rs2 v = 0 by simp [encE, okB, hb, hlt])
      clear hb
      go_enter Tryz.func91, Tryz.ntmps91
      go_wp2_with (first | (go_at_call 117; ((with_reducible refine (ht _ ((hs.alloc _).alloc _)).mono ?_); (rintro e w1 ⟨rfl, hb⟩); obtain ⟨hc, hf⟩ := bcell hb)) | (go_at_call 118; ((with_reducible refine (asm_any _ _ _ _ op rd rs1 rs2 v (by omega) (by omega) (by omega) hfm hrd hr1 hr2 h0 h1 _).mono ?_); rintro e w2 ⟨rfl, hb2⟩)))
      go_ret2
      exact ⟨by rw [HW.out, HE.out]; rfl, Below.trans (((Below.refl _ _).alloc (Nat.le_refl _) _).alloc (by simp) _) (Below.trans (hb.mono (by simp; omega)) (hb2.mono (by have := hb.size; simp at this; omega)))⟩
  · have HW := Lib.hid (show encW op rd rs1 rs2 v = 0 by simp [encW, okB, hlt])
    have HE := Lib.hid (show encE op rd rs1 rs2 v = 2 by simp [encE, okB, hlt])
    go_enter Tryz.func91, Tryz.ntmps91
    go_wp2
    go_ret2
    exact ⟨by rw [HW.out, HE.out]; rfl, (Below.refl _ _).alloc (Nat.le_refl _) _⟩
end Go.Proofs.YtfaacmcnefbgcaaGreatDoor

/- Contract of word.Bytes. -/
namespace Go.Proofs.YtfaacmcnefbgcaaGreatDoor
open Go.ChangeShapes Go.WideShapes Go.ChangeAt Go.RowKit
set_option linter.unusedVariables false

/-- The lowest n bytes of v, the lowest one first. -/
def bl (v n : Nat) : List Int := ([(v : Int) % 256, (v : Int) / 256 % 256, (v : Int) / 65536 % 256, (v : Int) / 16777216 % 256, (v : Int) / 4294967296 % 256, (v : Int) / 1099511627776 % 256, (v : Int) / 281474976710656 % 256, (v : Int) / 72057594037927936] : List Int).take n
/-- string(b[:n]) of a block of eight bytes. -/
theorem conv8 (n : Nat) (hn : n ≤ 8) (x0 x1 x2 x3 x4 x5 x6 x7 : Int) (w : World) :
    (convert 65 9 (.slice (some ⟨w.heap.size, 0, none⟩) n 8)).run Tryz.prog (w.alloc (.cells #[.int .u8 x0, .int .u8 x1, .int .u8 x2, .int .u8 x3, .int .u8 x4, .int .u8 x5, .int .u8 x6, .int .u8 x7] 208)) = .ok (.string (strOfNums ([x0, x1, x2, x3, x4, x5, x6, x7].take n))) (w.alloc (.cells #[.int .u8 x0, .int .u8 x1, .int .u8 x2, .int .u8 x3, .int .u8 x4, .int .u8 x5, .int .u8 x6, .int .u8 x7] 208)) := by
  refine run_convert_bytes_arg (P := Tryz.prog) _ 65 5 Tryz.underlying65 Tryz.underlying5 w.heap.size 0 n 8 _ (by simp; omega) ?_ 9 Tryz.underlying9
  intro i hi
  have h8 : i = 0 ∨ i = 1 ∨ i = 2 ∨ i = 3 ∨ i = 4 ∨ i = 5 ∨ i = 6 ∨ i = 7 := by omega
  rw [List.getD_eq_getElem?_getD, List.getElem?_take, if_pos hi]
  rcases h8 with rfl | rfl | rfl | rfl | rfl | rfl | rfl | rfl <;> simp [go_sem]

theorem bytes_bad (v : Nat) (n : Int) (h : n < 1 ∨ 8 < n) (w : World) :
    Calls Tryz.prog 140 #[.int .u64 v, .int .i64 n] w fun e w' => e = .returned (.tuple #[.string ByteArray.empty, .int .i64 2]) ∧ w = w' := by
  by_cases h1 : n < 1
  · clear h
    go_enter Tryz.func140, Tryz.ntmps140
    go_wp2
    go_ret2
    exact ⟨rfl, rfl⟩
  · have h2 : 8 < n := by omega
    clear h
    go_enter Tryz.func140, Tryz.ntmps140
    go_wp2
    go_ret2
    exact ⟨rfl, rfl⟩
theorem bytes_1 (v : Nat) (hv : v < 18446744073709551616) (w : World) :
    Calls Tryz.prog 140 #[.int .u64 v, .int .i64 1] w fun e w' => e = .returned (.tuple #[.string (strOfNums (bl v 1)), .int .i64 0]) ∧ Below w.heap.size w w' := by
  have hc := conv8 1 (by omega)
  go_enter Tryz.func140, Tryz.ntmps140
  go_wp2
  go_rounds 2
  go_ret2
  exact ⟨rfl, (Below.refl _ _).alloc (Nat.le_refl _) _⟩
theorem bytes_2 (v : Nat) (hv : v < 18446744073709551616) (w : World) :
    Calls Tryz.prog 140 #[.int .u64 v, .int .i64 2] w fun e w' => e = .returned (.tuple #[.string (strOfNums (bl v 2)), .int .i64 0]) ∧ Below w.heap.size w w' := by
  have hc := conv8 2 (by omega)
  go_enter Tryz.func140, Tryz.ntmps140
  go_wp2
  go_rounds 3
  go_ret2
  exact ⟨rfl, (Below.refl _ _).alloc (Nat.le_refl _) _⟩
theorem bytes_3 (v : Nat) (hv : v < 18446744073709551616) (w : World) :
    Calls Tryz.prog 140 #[.int .u64 v, .int .i64 3] w fun e w' => e = .returned (.tuple #[.string (strOfNums (bl v 3)), .int .i64 0]) ∧ Below w.heap.size w w' := by
  have hc := conv8 3 (by omega)
  go_enter Tryz.func140, Tryz.ntmps140
  go_wp2
  go_rounds 4
  go_ret2
  exact ⟨rfl, (Below.refl _ _).alloc (Nat.le_refl _) _⟩
theorem bytes_4 (v : Nat) (hv : v < 18446744073709551616) (w : World) :
    Calls Tryz.prog 140 #[.int .u64 v, .int .i64 4] w fun e w' => e = .returned (.tuple #[.string (strOfNums (bl v 4)), .int .i64 0]) ∧ Below w.heap.size w w' := by
  have hc := conv8 4 (by omega)
  go_enter Tryz.func140, Tryz.ntmps140
  go_wp2
  go_rounds 5
  go_ret2
  exact ⟨rfl, (Below.refl _ _).alloc (Nat.le_refl _) _⟩
theorem bytes_5 (v : Nat) (hv : v < 18446744073709551616) (w : World) :
    Calls Tryz.prog 140 #[.int .u64 v, .int .i64 5] w fun e w' => e = .returned (.tuple #[.string (strOfNums (bl v 5)), .int .i64 0]) ∧ Below w.heap.size w w' := by
  have hc := conv8 5 (by omega)
  go_enter Tryz.func140, Tryz.ntmps140
  go_wp2
  go_rounds 6
  go_ret2
  exact ⟨rfl, (Below.refl _ _).alloc (Nat.le_refl _) _⟩
theorem bytes_6 (v : Nat) (hv : v < 18446744073709551616) (w : World) :
    Calls Tryz.prog 140 #[.int .u64 v, .int .i64 6] w fun e w' => e = .returned (.tuple #[.string (strOfNums (bl v 6)), .int .i64 0]) ∧ Below w.heap.size w w' := by
  have hc := conv8 6 (by omega)
  go_enter Tryz.func140, Tryz.ntmps140
  go_wp2
  go_rounds 7
  go_ret2
  exact ⟨rfl, (Below.refl _ _).alloc (Nat.le_refl _) _⟩
theorem bytes_7 (v : Nat) (hv : v < 18446744073709551616) (w : World) :
    Calls Tryz.prog 140 #[.int .u64 v, .int .i64 7] w fun e w' => e = .returned (.tuple #[.string (strOfNums (bl v 7)), .int .i64 0]) ∧ Below w.heap.size w w' := by
  have hc := conv8 7 (by omega)
  go_enter Tryz.func140, Tryz.ntmps140
  go_wp2
  go_rounds 8
  go_ret2
  exact ⟨rfl, (Below.refl _ _).alloc (Nat.le_refl _) _⟩
theorem bytes_8 (v : Nat) (hv : v < 18446744073709551616) (w : World) :
    Calls Tryz.prog 140 #[.int .u64 v, .int .i64 8] w fun e w' => e = .returned (.tuple #[.string (strOfNums (bl v 8)), .int .i64 0]) ∧ Below w.heap.size w w' := by
  have hc := conv8 8 (by omega)
  go_enter Tryz.func140, Tryz.ntmps140
  go_wp2
  go_rounds 9
  go_ret2
  exact ⟨rfl, (Below.refl _ _).alloc (Nat.le_refl _) _⟩
theorem bytes_any (v n : Nat) (hv : v < 18446744073709551616) (h1 : 1 ≤ n) (h2 : n ≤ 8) (w : World) :
    Calls Tryz.prog 140 #[.int .u64 v, .int .i64 n] w fun e w' => e = .returned (.tuple #[.string (strOfNums (bl v n)), .int .i64 0]) ∧ Below w.heap.size w w' := by
  have h8 : n = 1 ∨ n = 2 ∨ n = 3 ∨ n = 4 ∨ n = 5 ∨ n = 6 ∨ n = 7 ∨ n = 8 := by omega
  rcases h8 with rfl | rfl | rfl | rfl | rfl | rfl | rfl | rfl
  · exact bytes_1 v hv w
  · exact bytes_2 v hv w
  · exact bytes_3 v hv w
  · exact bytes_4 v hv w
  · exact bytes_5 v hv w
  · exact bytes_6 v hv w
  · exact bytes_7 v hv w
  · exact bytes_8 v hv w
end Go.Proofs.YtfaacmcnefbgcaaGreatDoor

/- An instruction in plain numbers; what its word is made of; contract of insn.Encode. -/
namespace Go.Proofs.YtfaacmcnefbgcaaGreatDoor
open Go.ChangeShapes Go.WideShapes Go.ChangeAt Go.RowKit
set_option linter.unusedVariables false
/-- An instruction's numbers. -/
structure In where
  op : Nat
  rd : Nat
  rs1 : Nat
  rs2 : Nat
  imm : Int
def In.wf (x : In) : Prop := x.op < 256 ∧ x.rd < 256 ∧ x.rs1 < 256 ∧ x.rs2 < 256 ∧ -9223372036854775808 ≤ x.imm ∧ x.imm < 9223372036854775808
def In.ok (x : In) : Bool := okB x.op x.rd x.rs1 x.rs2 x.imm
def In.word (x : In) : Nat := wordN x.op x.rd x.rs1 x.rs2 x.imm
/-- The bytes of all words. -/
def catB (l : List In) : List Int := l.flatMap fun x => bl x.word 4
/-- The cells of an instruction, in a block from a place on. -/
def inAt (w : World) (b o : Nat) (x : In) : Prop := w.cell? ⟨b, o, none⟩ = some (.int .u8 x.op) ∧ w.cell? ⟨b, o + 1, none⟩ = some (.int .u8 x.rd) ∧ w.cell? ⟨b, o + 2, none⟩ = some (.int .u8 x.rs1) ∧ w.cell? ⟨b, o + 3, none⟩ = some (.int .u8 x.rs2) ∧ w.cell? ⟨b, o + 4, none⟩ = some (.int .i64 x.imm)
theorem inAt.of {w w' : World} {b o B : Nat} {x : In} (h : inAt w b o x) (hb : Below B w w') (hB : b < B) : inAt w' b o x :=
  ⟨(hb.cell (p := ⟨b, o, none⟩) hB).trans h.1, (hb.cell (p := ⟨b, o + 1, none⟩) hB).trans h.2.1, (hb.cell (p := ⟨b, o + 2, none⟩) hB).trans h.2.2.1, (hb.cell (p := ⟨b, o + 3, none⟩) hB).trans h.2.2.2.1, (hb.cell (p := ⟨b, o + 4, none⟩) hB).trans h.2.2.2.2⟩
theorem infoB : (Tryz.prog.info? 5).map (fun i => (i.zero, i.size, i.bytes)) = some (some (.int .u8 0), 1, 1) := by kernel_rfl
theorem bl4 (v : Nat) : bl v 4 = [(v : Int) % 256, (v : Int) / 256 % 256, (v : Int) / 65536 % 256, (v : Int) / 16777216 % 256] := rfl
theorem bl4_size (v : Nat) : (strOfNums (bl v 4)).size = 4 := by rw [strOfNums_size, bl4]; rfl
theorem bl4_cells (v : Nat) : Lib.strCells (strOfNums (bl v 4)) = (bl v 4).map (Value.int .u8) := by
  rw [bl4]
  simp only [Lib.strCells, strOfNums_data, List.map_cons, List.map_nil, List.cons.injEq, Value.int.injEq, true_and, and_true, UInt8.toNat_ofNat']
  refine ⟨?_, ?_, ?_, ?_⟩ <;> omega
theorem catB_snoc (l : List In) (x : In) : catB (l ++ [x]) = catB l ++ bl x.word 4 := by simp [catB]
theorem catB_length (l : List In) : (catB l).length = 4 * l.length := by
  induction l with
  | nil => rfl
  | cons x l ih => rw [catB, List.flatMap_cons, List.length_append]; rw [catB] at ih; rw [ih, bl4]; simp only [List.length_cons, List.length_nil]; omega
theorem enc_yes (x : In) (h : x.wf) (ho : x.ok = true) (w : World) (hr : RowsOk w) (hs : ShapesOk w) :
    Calls Tryz.prog 91 #[.agg #[.int .u8 x.op, .int .u8 x.rd, .int .u8 x.rs1, .int .u8 x.rs2, .int .i64 x.imm]] w fun e w' => e = .returned (.tuple #[.int .u32 (x.word : Nat), .int .i64 0]) ∧ Below w.heap.size w w' := by
  obtain ⟨h1, h2, h3, h4, h5, h6⟩ := h
  have hc := enc_any x.op x.rd x.rs1 x.rs2 x.imm h1 h2 h3 h4 h5 h6 w hr hs
  have eW : encW x.op x.rd x.rs1 x.rs2 x.imm = x.word := by unfold In.ok at ho; rw [encW, if_pos ho]; rfl
  have eE : encE x.op x.rd x.rs1 x.rs2 x.imm = 0 := by unfold In.ok at ho; rw [encE, if_pos ho]
  rw [eW, eE] at hc
  exact hc
theorem enc_no (x : In) (h : x.wf) (ho : x.ok = false) (w : World) (hr : RowsOk w) (hs : ShapesOk w) :
    Calls Tryz.prog 91 #[.agg #[.int .u8 x.op, .int .u8 x.rd, .int .u8 x.rs1, .int .u8 x.rs2, .int .i64 x.imm]] w fun e w' => e = .returned (.tuple #[.int .u32 0, .int .i64 2]) ∧ Below w.heap.size w w' := by
  obtain ⟨h1, h2, h3, h4, h5, h6⟩ := h
  have hc := enc_any x.op x.rd x.rs1 x.rs2 x.imm h1 h2 h3 h4 h5 h6 w hr hs
  have eW : encW x.op x.rd x.rs1 x.rs2 x.imm = 0 := by unfold In.ok at ho; rw [encW, if_neg (by simp [ho])]
  have eE : encE x.op x.rd x.rs1 x.rs2 x.imm = 2 := by unfold In.ok at ho; rw [encE, if_neg (by simp [ho])]
  rw [eW, eE] at hc
  exact hc
theorem bytes_row (w : World) (base g n cap : Nat) (xs : List Int) (hx : xs.length = n)
    (h : w.ownsRow base 5 1 (.slice (some ⟨g, 0, none⟩) n cap) n (xs.map (Value.int .u8))) :
    (convert 65 9 (.slice (some ⟨g, 0, none⟩) n cap)).run Tryz.prog w = .ok (.string (strOfNums xs)) w := by
  refine run_convert_bytes_arg (P := Tryz.prog) _ 65 5 Tryz.underlying65 Tryz.underlying5 g 0 n cap xs hx ?_ 9 Tryz.underlying9
  intro i hi
  rw [Nat.zero_add, h.cellAt i (by omega), List.getElem?_map, List.getD_eq_getElem?_getD, List.getElem?_eq_getElem (by omega)]
  rfl
theorem own_of {w w' : World} {base size n : Nat} {e : TypeId} {v : Value} {xs : List Value} (h : w.ownsRow base e size v n xs) (hb : Below w.heap.size w w') : w'.ownsRow base e size v n xs := by
  refine ⟨h.1, ?_⟩
  rcases h.2 with h0 | ⟨g, cap, cur, hv, hg, hh, hr⟩
  · exact Or.inl h0
  · refine Or.inr ⟨g, cap, cur, hv, hg, ?_, hr⟩
    have hlt : g < w.heap.size := (Array.getElem?_eq_some_iff.1 hh).1
    rw [hb.block g hlt]; exact hh
end Go.Proofs.YtfaacmcnefbgcaaGreatDoor
