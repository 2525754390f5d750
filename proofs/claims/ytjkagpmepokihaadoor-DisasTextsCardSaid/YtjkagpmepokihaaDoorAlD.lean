/- Words of a text; contract of disas.All: for any text. -/
import Derived.Test.YtjkagpmepokihaaDoorDec
import Derived.Test.YtjkagpmepokihaaDoorSli
import Derived.Test.YtjkagpmepokihaaDoorWordW
namespace Go.Proofs.YtjkagpmepokihaaDoor
open Go.ChangeShapes Go.WideShapes Go.ChangeAt Go.RowKit
set_option linter.unusedVariables false
/-- The word of a text's bytes from 4 k on. -/
def wdAt (s : ByteArray) (k : Nat) : Nat := wordv (s.extract (4 * k) (4 * k + 4)).data.toList
theorem ext_size (s : ByteArray) (k : Nat) (h : 4 * k + 4 ≤ s.size) : (s.extract (4 * k) (4 * k + 4)).size = 4 := by rw [ByteArray.size_extract]; omega
theorem wdAt_lt (s : ByteArray) (k : Nat) (h : 4 * k + 4 ≤ s.size) : wdAt s k < 4294967296 := by
  have h1 := wordv_lt (s.extract (4 * k) (4 * k + 4)).data.toList
  have h2 : (s.extract (4 * k) (4 * k + 4)).data.toList.length = 4 := ext_size s k h
  rw [h2] at h1
  exact h1
theorem inC_list (x : In) : (inC x).toList = [.int .u8 x.op, .int .u8 x.rd, .int .u8 x.rs1, .int .u8 x.rs2, .int .i64 x.imm] := rfl
theorem cellsL_snoc (l : List In) (x : In) : cellsL (l ++ [x]) = cellsL l ++ [.int .u8 x.op, .int .u8 x.rd, .int .u8 x.rs1, .int .u8 x.rs2, .int .i64 x.imm] := by simp [cellsL]
theorem dec_is {v : Nat} {x : In} (hv : v < 4294967296) (h : isW v x) (w : World) (hT : Tb w) :
    Calls Tryd.prog 7 #[.int .u32 v] w fun e w' => e = .returned (.tuple #[.agg #[.int .u8 x.op, .int .u8 x.rd, .int .u8 x.rs1, .int .u8 x.rs2, .int .i64 x.imm], .int .i64 0]) ∧ Below w.heap.size w w' := by
  have hc := dec_any v hv w hT
  obtain ⟨eA, eE⟩ := dec_yes h
  rw [eA, eE] at hc
  exact hc
theorem dec_isnt {v : Nat} (hv : v < 4294967296) (h : decN v = none) (w : World) (hT : Tb w) :
    Calls Tryd.prog 7 #[.int .u32 v] w fun e w' => e = .returned (.tuple #[.agg #[.int .u8 0, .int .u8 0, .int .u8 0, .int .u8 0, .int .i64 0], .int .i64 7]) ∧ Below w.heap.size w w' := by
  have hc := dec_any v hv w hT
  obtain ⟨eA, eE⟩ := dec_no h
  rw [eA, eE] at hc
  exact hc
theorem cut4 (s : ByteArray) (k : Nat) (h : 4 * k + 4 ≤ s.size) (W : World) :
    (Instr.slice 9 (.string s) (some (.int .i64 (4 * (k : Int)))) (some (.int .i64 (4 * (k : Int) + 4))) none).run Tryd.prog W = .ok (.string (s.extract (4 * k) (4 * k + 4))) W := by
  have h1 := run_slice_string (P := Tryd.prog) W 9 s .i64 .i64 (4 * (k : Int)) (4 * (k : Int) + 4) Tryd.underlying9 (by omega) (by omega) (by omega)
  rw [h1]
  have e1 : (4 * (k : Int)).toNat = 4 * k := by omega
  have e2 : (4 * (k : Int) + 4).toNat = 4 * k + 4 := by omega
  rw [e1, e2]
theorem news_ok (x : In) (W : World) : ∀ j u, ([.int .u8 x.op, .int .u8 x.rd, .int .u8 x.rs1, .int .u8 x.rs2, .int .i64 x.imm] : List Value)[j]? = some u → (W.alloc (.cells #[.int .u8 x.op, .int .u8 x.rd, .int .u8 x.rs1, .int .u8 x.rs2, .int .i64 x.imm] 24)).cell? ((⟨W.heap.size, 0, none⟩ : Addr).add j) = some u := by
  intro j u hu
  have hj : j < 5 := by
    have := (List.getElem?_eq_some_iff.1 hu).1
    simpa using this
  rw [addp, Nat.zero_add, (rowG_new #[.int .u8 x.op, .int .u8 x.rd, .int .u8 x.rs1, .int .u8 x.rs2, .int .i64 x.imm] 24 W).1 j (by simpa using hj)]
  simpa using hu
theorem dall_odd (s : ByteArray) (h : s.size % 4 ≠ 0) (hm : s.size ≤ 9223372036854775807) (w : World) :
    Calls Tryd.prog 12 #[.string s] w fun e w' => e = .returned (.tuple #[.slice none 0 0, .int .i64 7]) ∧ Below w.heap.size w w' := by
  have hne : (((s.size : Int).tmod 4) == 0) = false := by rw [Int.tmod_eq_emod_of_nonneg (Int.natCast_nonneg _)]; simp only [beq_eq_false_iff_ne]; omega
  go_enter Tryd.func12, Tryd.ntmps12
  go_wp2
  go_ret2
  exact ⟨rfl, Below.refl _ _⟩
set_option maxHeartbeats 4000000 in
set_option maxRecDepth 1000000 in
theorem dall_yes (s : ByteArray) (xs : List In) (hn : s.size = 4 * xs.length) (hm : s.size ≤ 1073741824) (hx : ∀ i (h : i < xs.length), isW (wdAt s i) xs[i]) (w : World) (hT : Tb w) :
    Calls Tryd.prog 12 #[.string s] w fun e w' => (∃ v, e = .returned (.tuple #[v, .int .i64 0]) ∧ w'.ownsRow w.heap.size 24 5 v xs.length (cellsL xs)) ∧ Below w.heap.size w w' := by
  obtain ⟨i0, hi, hz0, hz1, hz2⟩ := info_parts infoI
  have h4 : (((s.size : Int).tmod 4) == 0) = true := by rw [Int.tmod_eq_emod_of_nonneg (Int.natCast_nonneg _)]; simp only [beq_iff_eq]; omega
  go_enter Tryd.func12, Tryd.ntmps12
  go_wp2
  go_loopw [4, 5] (fun t i wr => ∃ k : Nat, k ≤ xs.length ∧ i = .int .i64 (4 * k : Nat) ∧ wr.ownsRow w.heap.size 24 5 t k (cellsL (xs.take k)) ∧ Below w.heap.size w wr) (fun _ i _ => s.size - (intOf i).toNat)
  case atStart => exact ⟨0, Nat.zero_le _, rfl, World.ownsRow_nil _ _ _ _, Below.refl _ _⟩
  case round =>
    obtain ⟨k, hk, rfl, hown, hB⟩ := hrel
    by_cases hlt : k < xs.length
    · have hb4 : 4 * k + 4 ≤ s.size := by omega
      have hwd := wdAt_lt s k hb4
      have hs4 := ext_size s k hb4
      have hD := dec_is hwd (hx k hlt) wr (hT.of hB)
      have hW := word_any (s.extract (4 * k) (4 * k + 4)) (by omega) (by omega)
      have HS := Lib.hid (show xs.take (k + 1) = xs.take k ++ [xs[k]] from List.take_succ_eq_append_getElem hlt)
      rw [show wordv (s.extract (4 * k) (4 * k + 4)).data.toList = wdAt s k from rfl] at hW
      generalize wdAt s k = wd at *
      have hl1 : ((4 * k : Nat) : Int) < (s.size : Int) := by omega
      have hcut := cut4 s k hb4
      go_wp2_with (first | (go_at_call 26; ((with_reducible refine (hW _).mono ?_); rintro e w1 ⟨rfl, rfl⟩)) | (go_at_call 7; ((with_reducible refine hD.mono ?_); rintro e w1 ⟨rfl, hb1⟩)) | (at_builtin; refine wpList_append_own _ rfl _ _ 31 rfl w.heap.size 24 i0 _ 5 16 Tryd.underlying31 hi hz0 hz1 hz2 rfl (by decide) _ k _ rfl (((own_of hown hb1).alloc _).alloc _) ⟨w1.heap.size + 1, 0, none⟩ 1 1 [.int .u8 xs[k].op, .int .u8 xs[k].rd, .int .u8 xs[k].rs1, .int .u8 xs[k].rs2, .int .i64 xs[k].imm] rfl rfl ?cN ?c0 ?c1 ?c2 ?c3 ?_))
      case cN =>
        have hN := news_ok xs[k] (w1.alloc (.cells #[.int .u8 xs[k].op, .int .u8 xs[k].rd, .int .u8 xs[k].rs1, .int .u8 xs[k].rs2, .int .i64 xs[k].imm] 24))
        rw [World.size_alloc] at hN
        exact hN
      case c0 => intro u hu; simp at hu; rcases hu with rfl | rfl | rfl | rfl | rfl <;> rfl
      case c1 => unfold maxLen; omega
      case c2 => omega
      case c3 => have h1 := hB.size; have h2 := hb1.size; simp; omega
      intro v' w3 hown' hgrow _
      have hB2 : Below w.heap.size w ((w1.alloc (.cells #[.int .u8 xs[k].op, .int .u8 xs[k].rd, .int .u8 xs[k].rs1, .int .u8 xs[k].rs2, .int .i64 xs[k].imm] 24)).alloc (.cells #[.int .u8 xs[k].op, .int .u8 xs[k].rd, .int .u8 xs[k].rs1, .int .u8 xs[k].rs2, .int .i64 xs[k].imm] 24)) := ((hB.trans (hb1.mono hB.size)).alloc (by have h1 := hB.size; have h2 := hb1.size; omega) _).alloc (by have h1 := hB.size; have h2 := hb1.size; simp; omega) _
      have hB3 : Below w.heap.size w w3 := hB2.grown hgrow hB2.size (fun j hj => (hown.lt j hj).1)
      have ho1 : w3.ownsRow w.heap.size 24 5 v' (k + 1) (cellsL (xs.take (k + 1))) := by rw [HS.out, cellsL_snoc]; exact hown'
      clear hown' hgrow hown hD hW
      go_wp2
      go_roundw
      case rel => exact ⟨k + 1, by omega, by go_num, ho1, hB3⟩
      case measure => first | (simp [intOf]; done) | (simp [intOf]; omega)
    · obtain rfl : k = xs.length := by omega
      rw [List.take_length] at hown
      go_wp2
      go_ret2
      exact ⟨⟨_, rfl, hown⟩, hB⟩
set_option maxHeartbeats 4000000 in
set_option maxRecDepth 1000000 in
theorem dall_no (s : ByteArray) (m : Nat) (xs : List In) (hn : s.size = 4 * m) (hl : xs.length < m) (hbad : decN (wdAt s xs.length) = none) (hm : s.size ≤ 1073741824) (hx : ∀ i (h : i < xs.length), isW (wdAt s i) xs[i]) (w : World) (hT : Tb w) :
    Calls Tryd.prog 12 #[.string s] w fun e w' => e = .returned (.tuple #[.slice none 0 0, .int .i64 7]) ∧ Below w.heap.size w w' := by
  obtain ⟨i0, hi, hz0, hz1, hz2⟩ := info_parts infoI
  have h4 : (((s.size : Int).tmod 4) == 0) = true := by rw [Int.tmod_eq_emod_of_nonneg (Int.natCast_nonneg _)]; simp only [beq_iff_eq]; omega
  go_enter Tryd.func12, Tryd.ntmps12
  go_wp2
  go_loopw [4, 5] (fun t i wr => ∃ k : Nat, k ≤ xs.length ∧ i = .int .i64 (4 * k : Nat) ∧ wr.ownsRow w.heap.size 24 5 t k (cellsL (xs.take k)) ∧ Below w.heap.size w wr) (fun _ i _ => s.size - (intOf i).toNat)
  case atStart => exact ⟨0, Nat.zero_le _, rfl, World.ownsRow_nil _ _ _ _, Below.refl _ _⟩
  case round =>
    obtain ⟨k, hk, rfl, hown, hB⟩ := hrel
    by_cases hlt : k < xs.length
    · have hb4 : 4 * k + 4 ≤ s.size := by omega
      have hwd := wdAt_lt s k hb4
      have hs4 := ext_size s k hb4
      have hD := dec_is hwd (hx k hlt) wr (hT.of hB)
      have hW := word_any (s.extract (4 * k) (4 * k + 4)) (by omega) (by omega)
      have HS := Lib.hid (show xs.take (k + 1) = xs.take k ++ [xs[k]] from List.take_succ_eq_append_getElem hlt)
      rw [show wordv (s.extract (4 * k) (4 * k + 4)).data.toList = wdAt s k from rfl] at hW
      generalize wdAt s k = wd at *
      have hl1 : ((4 * k : Nat) : Int) < (s.size : Int) := by omega
      have hcut := cut4 s k hb4
      go_wp2_with (first | (go_at_call 26; ((with_reducible refine (hW _).mono ?_); rintro e w1 ⟨rfl, rfl⟩)) | (go_at_call 7; ((with_reducible refine hD.mono ?_); rintro e w1 ⟨rfl, hb1⟩)) | (at_builtin; refine wpList_append_own _ rfl _ _ 31 rfl w.heap.size 24 i0 _ 5 16 Tryd.underlying31 hi hz0 hz1 hz2 rfl (by decide) _ k _ rfl (((own_of hown hb1).alloc _).alloc _) ⟨w1.heap.size + 1, 0, none⟩ 1 1 [.int .u8 xs[k].op, .int .u8 xs[k].rd, .int .u8 xs[k].rs1, .int .u8 xs[k].rs2, .int .i64 xs[k].imm] rfl rfl ?cN ?c0 ?c1 ?c2 ?c3 ?_))
      case cN =>
        have hN := news_ok xs[k] (w1.alloc (.cells #[.int .u8 xs[k].op, .int .u8 xs[k].rd, .int .u8 xs[k].rs1, .int .u8 xs[k].rs2, .int .i64 xs[k].imm] 24))
        rw [World.size_alloc] at hN
        exact hN
      case c0 => intro u hu; simp at hu; rcases hu with rfl | rfl | rfl | rfl | rfl <;> rfl
      case c1 => unfold maxLen; omega
      case c2 => omega
      case c3 => have h1 := hB.size; have h2 := hb1.size; simp; omega
      intro v' w3 hown' hgrow _
      have hB2 : Below w.heap.size w ((w1.alloc (.cells #[.int .u8 xs[k].op, .int .u8 xs[k].rd, .int .u8 xs[k].rs1, .int .u8 xs[k].rs2, .int .i64 xs[k].imm] 24)).alloc (.cells #[.int .u8 xs[k].op, .int .u8 xs[k].rd, .int .u8 xs[k].rs1, .int .u8 xs[k].rs2, .int .i64 xs[k].imm] 24)) := ((hB.trans (hb1.mono hB.size)).alloc (by have h1 := hB.size; have h2 := hb1.size; omega) _).alloc (by have h1 := hB.size; have h2 := hb1.size; simp; omega) _
      have hB3 : Below w.heap.size w w3 := hB2.grown hgrow hB2.size (fun j hj => (hown.lt j hj).1)
      have ho1 : w3.ownsRow w.heap.size 24 5 v' (k + 1) (cellsL (xs.take (k + 1))) := by rw [HS.out, cellsL_snoc]; exact hown'
      clear hown' hgrow hown hD hW
      go_wp2
      go_roundw
      case rel => exact ⟨k + 1, by omega, by go_num, ho1, hB3⟩
      case measure => first | (simp [intOf]; done) | (simp [intOf]; omega)
    · obtain rfl : k = xs.length := by omega
      have hwd := wdAt_lt s xs.length (by omega)
      have hs4 := ext_size s xs.length (by omega)
      have hD := dec_isnt hwd hbad wr (hT.of hB)
      have hW := word_any (s.extract (4 * xs.length) (4 * xs.length + 4)) (by omega) (by omega)
      rw [show wordv (s.extract (4 * xs.length) (4 * xs.length + 4)).data.toList = wdAt s xs.length from rfl] at hW
      generalize wdAt s xs.length = wd at *
      have hl1 : ((4 * xs.length : Nat) : Int) < (s.size : Int) := by omega
      have hcut := cut4 s xs.length (by omega)
      clear hown
      go_wp2_with (first | (go_at_call 26; ((with_reducible refine (hW _).mono ?_); rintro e w1 ⟨rfl, rfl⟩)) | (go_at_call 7; ((with_reducible refine hD.mono ?_); rintro e w1 ⟨rfl, hb1⟩)))
      go_ret2
      exact ⟨rfl, (hB.trans (hb1.mono hB.size)).alloc (by have h1 := hB.size; have h2 := hb1.size; omega) _⟩
end Go.Proofs.YtjkagpmepokihaaDoor
