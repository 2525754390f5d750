/- Contract of the document's own answer All of layer 2: for any instructions. -/
import Derived.Test.YthlmdcokiamfkaaDoorR2D
import Derived.Test.YthlmdcokiamfkaaDoorRefD
namespace Go.Proofs.YthlmdcokiamfkaaDoor
open Go.ChangeShapes Go.WideShapes Go.ChangeAt Go.RowKit
set_option linter.unusedVariables false
theorem rency (x : In) (h : x.wf) (ho : x.ok = true) (w : World) :
    Calls Tryd.prog 9 #[.agg #[.int .u8 x.op, .int .u8 x.rd, .int .u8 x.rs1, .int .u8 x.rs2, .int .i64 x.imm]] w fun e w' => e = .returned (.tuple #[.int .u32 (x.word : Nat), .int .i64 0]) ∧ Below w.heap.size w w' := by
  obtain ⟨h1, h2, h3, h4, h5, h6⟩ := h
  have hc := renc_any x.op x.rd x.rs1 x.rs2 x.imm h1 h2 h3 h4 h5 h6 w
  have eW : encW x.op x.rd x.rs1 x.rs2 x.imm = x.word := by unfold In.ok at ho; rw [encW, if_pos ho]; rfl
  have eE : encE x.op x.rd x.rs1 x.rs2 x.imm = 0 := by unfold In.ok at ho; rw [encE, if_pos ho]
  rw [eW, eE] at hc
  exact hc
theorem rencn (x : In) (h : x.wf) (ho : x.ok = false) (w : World) :
    Calls Tryd.prog 9 #[.agg #[.int .u8 x.op, .int .u8 x.rd, .int .u8 x.rs1, .int .u8 x.rs2, .int .i64 x.imm]] w fun e w' => e = .returned (.tuple #[.int .u32 0, .int .i64 2]) ∧ Below w.heap.size w w' := by
  obtain ⟨h1, h2, h3, h4, h5, h6⟩ := h
  have hc := renc_any x.op x.rd x.rs1 x.rs2 x.imm h1 h2 h3 h4 h5 h6 w
  have eW : encW x.op x.rd x.rs1 x.rs2 x.imm = 0 := by unfold In.ok at ho; rw [encW, if_neg (by simp [ho])]
  have eE : encE x.op x.rd x.rs1 x.rs2 x.imm = 2 := by unfold In.ok at ho; rw [encE, if_neg (by simp [ho])]
  rw [eW, eE] at hc
  exact hc
theorem rbytes_4 (v : Nat) (hv : v < 18446744073709551616) (w : World) :
    Calls Tryd.prog 20 #[.int .u64 v, .int .i64 4] w fun e w' => e = .returned (.tuple #[.string (strOfNums (bl v 4)), .int .i64 0]) ∧ Below w.heap.size w w' := rbytes_any v 4 hv (by omega) (by omega) w
theorem str_append (a b : List Int) : strOfNums a ++ strOfNums b = strOfNums (a ++ b) := by
  apply ByteArray.ext
  rw [ByteArray.data_append]
  apply Array.ext'
  simp [strOfNums]
set_option maxHeartbeats 1600000 in
set_option maxRecDepth 1000000 in
theorem rall_yes (l : List In) (b off cap : Nat) (hl : l.length ≤ 2147483648) (hwf : ∀ x ∈ l, x.wf) (hok : ∀ x ∈ l, x.ok = true) (w : World)
    (hc : ∀ i (h : i < l.length), inAt w b (off + i * 5) l[i]) (hb : b < w.heap.size) :
    Calls Tryd.prog 12 #[.slice (some ⟨b, off, none⟩) l.length cap] w fun e w' => e = .returned (.tuple #[.string (strOfNums (catB l)), .int .i64 0]) ∧ Below w.heap.size w w' := by
  go_enter Tryd.func12, Tryd.ntmps12
  go_wp2
  go_loopw [4, 5] (fun t i wr => ∃ k : Nat, k ≤ l.length ∧ i = .int .i64 k ∧ t = .string (strOfNums (catB (l.take k))) ∧ Below w.heap.size w wr) (fun _ i _ => l.length - (intOf i).toNat)
  case atStart => exact ⟨0, Nat.zero_le _, rfl, rfl, Below.refl _ _⟩
  case round =>
    obtain ⟨k, hk, rfl, rfl, hB⟩ := hrel
    by_cases hlt : k < l.length
    · obtain ⟨g0, g1, g2, g3, g4⟩ := (hc k hlt).of hB hb
      have hE := rency l[k] (hwf _ (List.getElem_mem hlt)) (hok _ (List.getElem_mem hlt))
      have hY := rbytes_4 l[k].word (Nat.lt_trans (wordN_lt _ _ _ _ _) (by omega))
      have hwl : l[k].word < 4294967296 := wordN_lt _ _ _ _ _
      have HS := Lib.hid (show l.take (k + 1) = l.take k ++ [l[k]] from List.take_succ_eq_append_getElem hlt)
      have hs1 : (strOfNums (catB (l.take k))).size ≤ 8589934592 := by rw [strOfNums_size, catB_length, List.length_take]; omega
      have hs2 : (strOfNums (bl l[k].word 4)).size ≤ 4 := by rw [bl4_size]; omega
      go_wp2_with (first | (go_at_call 9; ((with_reducible refine (hE _).mono ?_); rintro e w1 ⟨rfl, hb1⟩)) | (go_at_call 20; ((with_reducible refine (hY _).mono ?_); rintro e w2 ⟨rfl, hb2⟩)))
      go_roundw
      case rel => exact ⟨k + 1, by omega, by go_num, by rw [HS.out, catB_snoc, str_append], hB.trans ((hb1.mono hB.size).trans (hb2.mono (Nat.le_trans hB.size hb1.size)))⟩
      case measure => first | (simp [intOf]; done) | (simp [intOf]; omega)
    · obtain rfl : k = l.length := by omega
      go_wp2
      go_ret2
      exact ⟨by rw [List.take_length]; rfl, hB⟩
set_option maxHeartbeats 1600000 in
set_option maxRecDepth 1000000 in
theorem rall_no (l : List In) (b off cap m : Nat) (hm : m < l.length) (hbad : l[m].ok = false) (hl : l.length ≤ 2147483648) (hwf : ∀ x ∈ l, x.wf) (hok : ∀ i (h : i < m), (l[i]'(by omega)).ok = true) (w : World)
    (hc : ∀ i (h : i < l.length), inAt w b (off + i * 5) l[i]) (hb : b < w.heap.size) :
    Calls Tryd.prog 12 #[.slice (some ⟨b, off, none⟩) l.length cap] w fun e w' => e = .returned (.tuple #[.string ByteArray.empty, .int .i64 2]) ∧ Below w.heap.size w w' := by
  go_enter Tryd.func12, Tryd.ntmps12
  go_wp2
  go_loopw [4, 5] (fun t i wr => ∃ k : Nat, k ≤ m ∧ i = .int .i64 k ∧ t = .string (strOfNums (catB (l.take k))) ∧ Below w.heap.size w wr) (fun _ i _ => l.length - (intOf i).toNat)
  case atStart => exact ⟨0, Nat.zero_le _, rfl, rfl, Below.refl _ _⟩
  case round =>
    obtain ⟨k, hk, rfl, rfl, hB⟩ := hrel
    have hlt : k < l.length := by omega
    by_cases hkm : k < m
    · obtain ⟨g0, g1, g2, g3, g4⟩ := (hc k hlt).of hB hb
      have hE := rency l[k] (hwf _ (List.getElem_mem hlt)) (hok k hkm)
      have hY := rbytes_4 l[k].word (Nat.lt_trans (wordN_lt _ _ _ _ _) (by omega))
      have hwl : l[k].word < 4294967296 := wordN_lt _ _ _ _ _
      have HS := Lib.hid (show l.take (k + 1) = l.take k ++ [l[k]] from List.take_succ_eq_append_getElem hlt)
      have hs1 : (strOfNums (catB (l.take k))).size ≤ 8589934592 := by rw [strOfNums_size, catB_length, List.length_take]; omega
      have hs2 : (strOfNums (bl l[k].word 4)).size ≤ 4 := by rw [bl4_size]; omega
      go_wp2_with (first | (go_at_call 9; ((with_reducible refine (hE _).mono ?_); rintro e w1 ⟨rfl, hb1⟩)) | (go_at_call 20; ((with_reducible refine (hY _).mono ?_); rintro e w2 ⟨rfl, hb2⟩)))
      go_roundw
      case rel => exact ⟨k + 1, by omega, by go_num, by rw [HS.out, catB_snoc, str_append], hB.trans ((hb1.mono hB.size).trans (hb2.mono (Nat.le_trans hB.size hb1.size)))⟩
      case measure => first | (simp [intOf]; done) | (simp [intOf]; omega)
    · obtain rfl : k = m := by omega
      obtain ⟨g0, g1, g2, g3, g4⟩ := (hc k hlt).of hB hb
      have hE := rencn l[k] (hwf _ (List.getElem_mem hlt)) hbad
      go_wp2_with (go_at_call 9; ((with_reducible refine (hE _).mono ?_); rintro e w1 ⟨rfl, hb1⟩))
      go_ret2
      exact ⟨rfl, hB.trans (hb1.mono hB.size)⟩
theorem rall_nil (w : World) : Calls Tryd.prog 12 #[.slice none 0 0] w fun e w' => e = .returned (.tuple #[.string ByteArray.empty, .int .i64 0]) ∧ Below w.heap.size w w' := by
  go_enter Tryd.func12, Tryd.ntmps12
  go_wp2
  go_rounds 1
  go_ret2
  exact ⟨rfl, Below.refl _ _⟩
theorem rall_zero (a : Addr) (cap : Nat) (w : World) : Calls Tryd.prog 12 #[.slice (some a) 0 cap] w fun e w' => e = .returned (.tuple #[.string ByteArray.empty, .int .i64 0]) ∧ Below w.heap.size w w' := by
  go_enter Tryd.func12, Tryd.ntmps12
  go_wp2
  go_rounds 1
  go_ret2
  exact ⟨rfl, Below.refl _ _⟩
end Go.Proofs.YthlmdcokiamfkaaDoor
