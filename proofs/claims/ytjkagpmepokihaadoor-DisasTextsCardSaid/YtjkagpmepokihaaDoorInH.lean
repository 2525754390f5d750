/- Contract of insn.All: for any instructions. -/
import Derived.Test.YtjkagpmepokihaaDoorInG
import Derived.Test.YtjkagpmepokihaaDoorWordY
import Derived.Lib.AppendStr
import Derived.Lib.SmallJoins
import Derived.Handy
namespace Go.Proofs.YtjkagpmepokihaaDoor
open Go.ChangeShapes Go.WideShapes Go.ChangeAt Go.RowKit
set_option linter.unusedVariables false
/-- An instruction's numbers. -/
structure In where
  op : Nat
  rd : Nat
  rs1 : Nat
  rs2 : Nat
  imm : Int
def In.wf (x : In) : Prop := x.op < 256 ∧ x.rd < 256 ∧ x.rs1 < 256 ∧ x.rs2 < 256 ∧ -9223372036854775808 ≤ x.imm ∧ x.imm < 9223372036854775808
def In.ok (x : In) : Bool := okB x.op x.rd x.rs1 x.rs2 x.imm
def In.word (x : In) : Nat := wordN x.op x.rd x.rs1 x.rs2 x.imm
/-- The bytes of all words. -/
def catB (l : List In) : List Int := l.flatMap fun x => bl x.word 4
/-- The cells of an instruction, in a block from a place on. -/
def inAt (w : World) (b o : Nat) (x : In) : Prop := w.cell? ⟨b, o, none⟩ = some (.int .u8 x.op) ∧ w.cell? ⟨b, o + 1, none⟩ = some (.int .u8 x.rd) ∧ w.cell? ⟨b, o + 2, none⟩ = some (.int .u8 x.rs1) ∧ w.cell? ⟨b, o + 3, none⟩ = some (.int .u8 x.rs2) ∧ w.cell? ⟨b, o + 4, none⟩ = some (.int .i64 x.imm)
theorem inAt.of {w w' : World} {b o B : Nat} {x : In} (h : inAt w b o x) (hb : Below B w w') (hB : b < B) : inAt w' b o x :=
  ⟨(hb.cell (p := ⟨b, o, none⟩) hB).trans h.1, (hb.cell (p := ⟨b, o + 1, none⟩) hB).trans h.2.1, (hb.cell (p := ⟨b, o + 2, none⟩) hB).trans h.2.2.1, (hb.cell (p := ⟨b, o + 3, none⟩) hB).trans h.2.2.2.1, (hb.cell (p := ⟨b, o + 4, none⟩) hB).trans h.2.2.2.2⟩
theorem infoB : (Tryd.prog.info? 5).map (fun i => (i.zero, i.size, i.bytes)) = some (some (.int .u8 0), 1, 1) := by kernel_rfl
theorem bl4 (v : Nat) : bl v 4 = [(v : Int) % 256, (v : Int) / 256 % 256, (v : Int) / 65536 % 256, (v : Int) / 16777216 % 256] := rfl
theorem bl4_size (v : Nat) : (strOfNums (bl v 4)).size = 4 := by rw [strOfNums_size, bl4]; rfl
theorem bl4_cells (v : Nat) : Lib.strCells (strOfNums (bl v 4)) = (bl v 4).map (Value.int .u8) := by
  rw [bl4]
  simp only [Lib.strCells, strOfNums_data, List.map_cons, List.map_nil, List.cons.injEq, Value.int.injEq, true_and, and_true, UInt8.toNat_ofNat']
  refine ⟨?_, ?_, ?_, ?_⟩ <;> omega
theorem catB_snoc (l : List In) (x : In) : catB (l ++ [x]) = catB l ++ bl x.word 4 := by simp [catB]
theorem catB_length (l : List In) : (catB l).length = 4 * l.length := by
  induction l with
  | nil => rfl
  | cons x l ih => rw [catB, List.flatMap_cons, List.length_append]; rw [catB] at ih; rw [ih, bl4]; simp only [List.length_cons, List.length_nil]; omega
theorem enc_yes (x : In) (h : x.wf) (ho : x.ok = true) (w : World) (hr : RowsOk w) (hs : ShapesOk w) :
    Calls Tryd.prog 15 #[.agg #[.int .u8 x.op, .int .u8 x.rd, .int .u8 x.rs1, .int .u8 x.rs2, .int .i64 x.imm]] w fun e w' => e = .returned (.tuple #[.int .u32 (x.word : Nat), .int .i64 0]) ∧ Below w.heap.size w w' := by
  obtain ⟨h1, h2, h3, h4, h5, h6⟩ := h
  have hc := enc_any x.op x.rd x.rs1 x.rs2 x.imm h1 h2 h3 h4 h5 h6 w hr hs
  have eW : encW x.op x.rd x.rs1 x.rs2 x.imm = x.word := by unfold In.ok at ho; rw [encW, if_pos ho]; rfl
  have eE : encE x.op x.rd x.rs1 x.rs2 x.imm = 0 := by unfold In.ok at ho; rw [encE, if_pos ho]
  rw [eW, eE] at hc
  exact hc
theorem enc_no (x : In) (h : x.wf) (ho : x.ok = false) (w : World) (hr : RowsOk w) (hs : ShapesOk w) :
    Calls Tryd.prog 15 #[.agg #[.int .u8 x.op, .int .u8 x.rd, .int .u8 x.rs1, .int .u8 x.rs2, .int .i64 x.imm]] w fun e w' => e = .returned (.tuple #[.int .u32 0, .int .i64 2]) ∧ Below w.heap.size w w' := by
  obtain ⟨h1, h2, h3, h4, h5, h6⟩ := h
  have hc := enc_any x.op x.rd x.rs1 x.rs2 x.imm h1 h2 h3 h4 h5 h6 w hr hs
  have eW : encW x.op x.rd x.rs1 x.rs2 x.imm = 0 := by unfold In.ok at ho; rw [encW, if_neg (by simp [ho])]
  have eE : encE x.op x.rd x.rs1 x.rs2 x.imm = 2 := by unfold In.ok at ho; rw [encE, if_neg (by simp [ho])]
  rw [eW, eE] at hc
  exact hc
theorem bytes_row (w : World) (base g n cap : Nat) (xs : List Int) (hx : xs.length = n)
    (h : w.ownsRow base 5 1 (.slice (some ⟨g, 0, none⟩) n cap) n (xs.map (Value.int .u8))) :
    (convert 67 9 (.slice (some ⟨g, 0, none⟩) n cap)).run Tryd.prog w = .ok (.string (strOfNums xs)) w := by
  refine run_convert_bytes_arg (P := Tryd.prog) _ 67 5 Tryd.underlying67 Tryd.underlying5 g 0 n cap xs hx ?_ 9 Tryd.underlying9
  intro i hi
  rw [Nat.zero_add, h.cellAt i (by omega), List.getElem?_map, List.getD_eq_getElem?_getD, List.getElem?_eq_getElem (by omega)]
  rfl
theorem own_of {w w' : World} {base size n : Nat} {e : TypeId} {v : Value} {xs : List Value} (h : w.ownsRow base e size v n xs) (hb : Below w.heap.size w w') : w'.ownsRow base e size v n xs := by
  refine ⟨h.1, ?_⟩
  rcases h.2 with h0 | ⟨g, cap, cur, hv, hg, hh, hr⟩
  · exact Or.inl h0
  · refine Or.inr ⟨g, cap, cur, hv, hg, ?_, hr⟩
    have hlt : g < w.heap.size := (Array.getElem?_eq_some_iff.1 hh).1
    rw [hb.block g hlt]; exact hh
set_option maxHeartbeats 1600000 in
set_option maxRecDepth 1000000 in
theorem all_yes (l : List In) (b cap : Nat) (hl : l.length ≤ 2147483648) (hwf : ∀ x ∈ l, x.wf) (hok : ∀ x ∈ l, x.ok = true) (w : World)
    (hc : ∀ i (h : i < l.length), inAt w b (i * 5) l[i]) (hb : b < w.heap.size) (hr : RowsOk w) (hs : ShapesOk w) :
    Calls Tryd.prog 16 #[.slice (some ⟨b, 0, none⟩) l.length cap] w fun e w' => e = .returned (.tuple #[.string (strOfNums (catB l)), .int .i64 0]) ∧ Below w.heap.size w w' := by
  obtain ⟨i0, hi, hz0, hz1, hz2⟩ := info_parts infoB
  go_enter Tryd.func16, Tryd.ntmps16
  go_wp2
  go_loopw [4, 12] (fun t i wr => ∃ k : Nat, k ≤ l.length ∧ i = .int .i64 k ∧ wr.ownsRow w.heap.size 5 1 t (4 * k) ((catB (l.take k)).map (Value.int .u8)) ∧ Below w.heap.size w wr) (fun _ i _ => l.length - (intOf i).toNat)
  case atStart => exact ⟨0, Nat.zero_le _, rfl, World.ownsRow_nil _ _ _ _, Below.refl _ _⟩
  case round =>
    obtain ⟨k, hk, rfl, hown, hB⟩ := hrel
    by_cases hlt : k < l.length
    · obtain ⟨g0, g1, g2, g3, g4⟩ := (hc k hlt).of hB hb
      have hb' : b < wr.heap.size := Nat.lt_of_lt_of_le hb hB.size
      have hE := enc_yes l[k] (hwf _ (List.getElem_mem hlt)) (hok _ (List.getElem_mem hlt)) (wr.alloc (.cells #[.int .u8 l[k].op, .int .u8 l[k].rd, .int .u8 l[k].rs1, .int .u8 l[k].rs2, .int .i64 l[k].imm] 24)) (hr.of ((hB.alloc hB.size _))) (hs.of (hB.alloc hB.size _))
      have hY := bytes_4 l[k].word (Nat.lt_trans (wordN_lt _ _ _ _ _) (by omega))
      have hwl : l[k].word < 4294967296 := wordN_lt _ _ _ _ _
      have HS := Lib.hid (show l.take (k + 1) = l.take k ++ [l[k]] from List.take_succ_eq_append_getElem hlt)
      go_wp2_with (first | (go_at_call 15; ((with_reducible refine hE.mono ?_); rintro e w1 ⟨rfl, hb1⟩)) | (go_at_call 30; ((with_reducible refine (hY _).mono ?_); rintro e w2 ⟨rfl, hb2⟩)) | (at_builtin; refine Lib.wpList_append_own_string _ rfl _ _ 67 9 rfl w.heap.size 5 i0 Tryd.underlying67 Tryd.underlying9 hi hz0 hz1 hz2 _ (4 * k) _ rfl (own_of (own_of (hown.alloc _) hb1) hb2) (strOfNums (bl l[k].word 4)) rfl ?c1 ?c2 ?c3 ?_))
      case c1 => rw [bl4_size]; unfold maxLen; omega
      case c2 => rw [bl4_size]; omega
      case c3 => have h1 := hB.size; have h2 := hb1.size; have h3 := hb2.size; simp at h2; omega
      intro v' w3 hown' hgrow _
      have hB2 : Below w.heap.size w w2 := ((hB.alloc hB.size _).trans (hb1.mono (by have := hB.size; simp; omega))).trans (hb2.mono (by have h1 := hB.size; have h2 := hb1.size; simp at h2; omega))
      have hB3 : Below w.heap.size w w3 := hB2.grown hgrow hB2.size (fun j hj => (hown.lt j hj).1)
      rw [bl4_size, bl4_cells, ← List.map_append, ← catB_snoc, ← HS.out] at hown'
      have ho1 : w3.ownsRow w.heap.size 5 1 v' (4 * (k + 1)) ((catB (l.take (k + 1))).map (Value.int .u8)) := hown'
      clear hown' hgrow hown hE hY
      go_wp2
      go_roundw
      case rel => exact ⟨k + 1, by omega, by go_num, ho1, hB3⟩
      case measure => first | (simp [intOf]; done) | (simp [intOf]; omega)
    · obtain rfl : k = l.length := by omega
      rw [List.take_length] at hown
      rcases Joins.ownsRow_forms hown with ⟨rfl, h0⟩ | ⟨g, cp, rfl⟩
      · have hl0 : l = [] := List.length_eq_zero_iff.1 (by omega)
        subst hl0
        clear hown
        have hcv : ∀ w, (convert 67 9 (.slice none 0 0)).run Tryd.prog w = .ok (.string ByteArray.empty) w := fun _ => by kernel_rfl
        go_wp2
        go_ret2
        exact ⟨rfl, hB⟩
      · have hcv := bytes_row wr w.heap.size g (4 * l.length) cp (catB l) (catB_length l) hown
        clear hown
        go_wp2
        go_ret2
        exact ⟨rfl, hB⟩
set_option maxHeartbeats 1600000 in
set_option maxRecDepth 1000000 in
theorem all_no (l : List In) (b cap m : Nat) (hm : m < l.length) (hbad : l[m].ok = false) (hl : l.length ≤ 2147483648) (hwf : ∀ x ∈ l, x.wf) (hok : ∀ i (h : i < m), (l[i]'(by omega)).ok = true) (w : World)
    (hc : ∀ i (h : i < l.length), inAt w b (i * 5) l[i]) (hb : b < w.heap.size) (hr : RowsOk w) (hs : ShapesOk w) :
    Calls Tryd.prog 16 #[.slice (some ⟨b, 0, none⟩) l.length cap] w fun e w' => e = .returned (.tuple #[.string ByteArray.empty, .int .i64 2]) ∧ Below w.heap.size w w' := by
  obtain ⟨i0, hi, hz0, hz1, hz2⟩ := info_parts infoB
  go_enter Tryd.func16, Tryd.ntmps16
  go_wp2
  go_loopw [4, 12] (fun t i wr => ∃ k : Nat, k ≤ m ∧ i = .int .i64 k ∧ wr.ownsRow w.heap.size 5 1 t (4 * k) ((catB (l.take k)).map (Value.int .u8)) ∧ Below w.heap.size w wr) (fun _ i _ => l.length - (intOf i).toNat)
  case atStart => exact ⟨0, Nat.zero_le _, rfl, World.ownsRow_nil _ _ _ _, Below.refl _ _⟩
  case round =>
    obtain ⟨k, hk, rfl, hown, hB⟩ := hrel
    have hlt : k < l.length := by omega
    by_cases hkm : k < m
    · obtain ⟨g0, g1, g2, g3, g4⟩ := (hc k hlt).of hB hb
      have hb' : b < wr.heap.size := Nat.lt_of_lt_of_le hb hB.size
      have hE := enc_yes l[k] (hwf _ (List.getElem_mem hlt)) (hok k hkm) (wr.alloc (.cells #[.int .u8 l[k].op, .int .u8 l[k].rd, .int .u8 l[k].rs1, .int .u8 l[k].rs2, .int .i64 l[k].imm] 24)) (hr.of ((hB.alloc hB.size _))) (hs.of (hB.alloc hB.size _))
      have hY := bytes_4 l[k].word (Nat.lt_trans (wordN_lt _ _ _ _ _) (by omega))
      have hwl : l[k].word < 4294967296 := wordN_lt _ _ _ _ _
      have HS := Lib.hid (show l.take (k + 1) = l.take k ++ [l[k]] from List.take_succ_eq_append_getElem hlt)
      go_wp2_with (first | (go_at_call 15; ((with_reducible refine hE.mono ?_); rintro e w1 ⟨rfl, hb1⟩)) | (go_at_call 30; ((with_reducible refine (hY _).mono ?_); rintro e w2 ⟨rfl, hb2⟩)) | (at_builtin; refine Lib.wpList_append_own_string _ rfl _ _ 67 9 rfl w.heap.size 5 i0 Tryd.underlying67 Tryd.underlying9 hi hz0 hz1 hz2 _ (4 * k) _ rfl (own_of (own_of (hown.alloc _) hb1) hb2) (strOfNums (bl l[k].word 4)) rfl ?c1 ?c2 ?c3 ?_))
      case c1 => rw [bl4_size]; unfold maxLen; omega
      case c2 => rw [bl4_size]; omega
      case c3 => have h1 := hB.size; have h2 := hb1.size; have h3 := hb2.size; simp at h2; omega
      intro v' w3 hown' hgrow _
      have hB2 : Below w.heap.size w w2 := ((hB.alloc hB.size _).trans (hb1.mono (by have := hB.size; simp; omega))).trans (hb2.mono (by have h1 := hB.size; have h2 := hb1.size; simp at h2; omega))
      have hB3 : Below w.heap.size w w3 := hB2.grown hgrow hB2.size (fun j hj => (hown.lt j hj).1)
      rw [bl4_size, bl4_cells, ← List.map_append, ← catB_snoc, ← HS.out] at hown'
      have ho1 : w3.ownsRow w.heap.size 5 1 v' (4 * (k + 1)) ((catB (l.take (k + 1))).map (Value.int .u8)) := hown'
      clear hown' hgrow hown hE hY
      go_wp2
      go_roundw
      case rel => exact ⟨k + 1, by omega, by go_num, ho1, hB3⟩
      case measure => first | (simp [intOf]; done) | (simp [intOf]; omega)
    · obtain rfl : k = m := by omega
      obtain ⟨g0, g1, g2, g3, g4⟩ := (hc k hlt).of hB hb
      have hb' : b < wr.heap.size := Nat.lt_of_lt_of_le hb hB.size
      have hE := enc_no l[k] (hwf _ (List.getElem_mem hlt)) hbad (wr.alloc (.cells #[.int .u8 l[k].op, .int .u8 l[k].rd, .int .u8 l[k].rs1, .int .u8 l[k].rs2, .int .i64 l[k].imm] 24)) (hr.of ((hB.alloc hB.size _))) (hs.of (hB.alloc hB.size _))
      go_wp2_with (go_at_call 15; ((with_reducible refine hE.mono ?_); rintro e w1 ⟨rfl, hb1⟩))
      go_ret2
      exact ⟨rfl, (hB.alloc hB.size _).trans (hb1.mono (by have := hB.size; simp; omega))⟩
theorem all_nil (w : World) : Calls Tryd.prog 16 #[.slice none 0 0] w fun e w' => e = .returned (.tuple #[.string ByteArray.empty, .int .i64 0]) ∧ Below w.heap.size w w' := by
  have hcv : ∀ w, (convert 67 9 (.slice none 0 0)).run Tryd.prog w = .ok (.string ByteArray.empty) w := fun _ => by kernel_rfl
  go_enter Tryd.func16, Tryd.ntmps16
  go_wp2
  go_rounds 1
  go_ret2
  exact ⟨rfl, Below.refl _ _⟩
end Go.Proofs.YtjkagpmepokihaaDoor
