/- Contracts of the document's own answers of layer 6: bytes, tables, numbers. -/
import Derived.Test.YtmccnoimnieldaaGreatDoorVn
import Derived.Test.YtmccnoimnieldaaGreatDoorVs
namespace Go.Proofs.YtmccnoimnieldaaGreatDoor
open Go.ChangeShapes Go.WideShapes Go.ChangeAt Go.RowKit
set_option linter.unusedVariables false
theorem rletter_any (c : UInt8) (w : World) : Calls Tryz.prog 16 #[.int .u8 (c.toNat : Int)] w fun e w' => e = .returned (.bool (isL c)) ∧ w = w' := by
  go_enter Tryz.func16, Tryz.ntmps16
  go_wp2
  all_goals
    go_ret
    refine ⟨ret_b ?_, rfl⟩
    unfold isL
    rw [Bool.eq_iff_iff]
    simp
    omega
theorem rdigit_any (c : UInt8) (w : World) : Calls Tryz.prog 18 #[.int .u8 (c.toNat : Int)] w fun e w' => e = .returned (.bool (isD c)) ∧ w = w' := by
  go_enter Tryz.func18, Tryz.ntmps18
  go_wp2
  all_goals
    go_ret
    refine ⟨ret_b ?_, rfl⟩
    unfold isD
    rw [Bool.eq_iff_iff]
    simp
    omega
/-- A row of texts. -/
def TxAt (w : World) (b : Nat) (L : List (List UInt8)) : Prop := ∀ j, j < L.length → w.cell? ⟨b, j, none⟩ = some (.string (str (L.getD j [])))
theorem txs_new (w : World) (L : List (List UInt8)) : TxAt (w.alloc (.cells ((L.map fun x => Value.string (str x)).toArray) 9)) w.heap.size L := fun j hj => by
  rw [new_cell]
  simp [List.getD_eq_getElem?_getD, hj]
theorem TxAt.of {w w' : World} {b : Nat} {L : List (List UInt8)} (h : TxAt w b L) (hb : Below w.heap.size w w') : TxAt w' b L := fun j hj => stay hb (h j hj)
def ctB (L : List (List UInt8)) (l : List UInt8) : Bool := L.contains l
set_option maxRecDepth 100000 in
theorem in_any (L : List (List UInt8)) (b : Nat) (s : ByteArray) (w : World) (hL : L.length ≤ 100) (h : TxAt w b L) (hbl : b < w.heap.size) :
    Calls Tryz.prog 38 #[.slice (some ⟨b, 0, none⟩) L.length L.length, .string s] w fun e w' => e = .returned (.bool (ctB L s.data.toList)) ∧ w = w' := by
  obtain ⟨n, hn⟩ : ∃ n, L.length = n := ⟨_, rfl⟩
  have HC := Lib.hid h
  have HN := Lib.hid hn
  rw [hn] at hL ⊢
  clear h hn
  go_enter Tryz.func38, Tryz.ntmps38
  go_wp2
  go_loop [5] (fun i => ∃ k : Nat, k ≤ n ∧ i = .int .i64 k ∧ ∀ j, j < k → L.getD j [] ≠ s.data.toList) (fun i => n - (intOf i).toNat)
  case atStart => exact ⟨0, by omega, rfl, fun j hj => by omega⟩
  case round =>
    obtain ⟨k, hk, rfl, hno⟩ := hrel
    have HO := Lib.hid hno
    clear hno
    by_cases hlt : k < n
    · have hc := HC.out k (by rw [HN.out]; exact hlt)
      have hq := str_eq_iff (L.getD k []) s
      generalize hz : str (L.getD k []) = z at hc hq
      have HZ := Lib.hid hz
      clear hz
      by_cases he : L.getD k [] = s.data.toList
      · rw [decide_eq_true he] at hq
        have HE := Lib.hid he
        clear he
        go_wp2
        go_ret
        refine ⟨ret_b (Eq.symm ?_), rfl⟩
        exact (mem_getD n HN.out).2 ⟨k, hlt, HE.out⟩
      · rw [decide_eq_false he] at hq
        go_wp2
        go_round
        case rel => exact ⟨k + 1, by omega, by go_num, fun j hj => by
          by_cases e : j = k
          · rw [e]; exact he
          · exact HO.out j (by omega)⟩
        case measure => simp [intOf]; omega
    · obtain rfl : k = n := by omega
      go_wp2
      go_ret
      refine ⟨ret_b (Eq.symm ?_), rfl⟩
      rw [Bool.eq_false_iff]
      intro h
      obtain ⟨j, hj, e⟩ := (mem_getD k HN.out).1 h
      exact HO.out j hj e
theorem words_any (w : World) : Calls Tryz.prog 39 #[] w fun e w' => e = .returned (.slice (some ⟨w.heap.size, 0, none⟩) 16 16) ∧ w' = w.alloc (.cells ((wordsL.map fun x => Value.string (str x)).toArray) 9) := by
  go_enter Tryz.func39, Tryz.ntmps39
  go_wp2
  go_ret
  exact ⟨rfl, rfl⟩
theorem signs_any (w : World) : Calls Tryz.prog 50 #[] w fun e w' => e = .returned (.slice (some ⟨w.heap.size, 0, none⟩) 25 25) ∧ w' = w.alloc (.cells ((signsR.map fun x => Value.string (str x)).toArray) 9) := by
  go_enter Tryz.func50, Tryz.ntmps50
  go_wp2
  go_ret
  exact ⟨rfl, rfl⟩
theorem word_any (s : ByteArray) (w : World) : Calls Tryz.prog 17 #[.string s] w fun e w' => e = .returned (.bool (isWd s.data.toList)) ∧ Below w.heap.size w w' := by
  have hI := in_any wordsL w.heap.size s (w.alloc (.cells ((wordsL.map fun x => Value.string (str x)).toArray) 9)) (by decide) (txs_new w wordsL) (by simp)
  have hl : wordsL.length = 16 := rfl
  rw [hl] at hI
  have hW := words_any w
  generalize hX : (w.alloc (.cells ((wordsL.map fun x => Value.string (str x)).toArray) 9)) = W1 at hI hW
  have hB : Below w.heap.size w W1 := by rw [← hX]; exact (Below.refl _ _).alloc (Nat.le_refl _) _
  clear hX hl
  have hct : ctB wordsL s.data.toList = isWd s.data.toList := rfl
  rw [hct] at hI
  go_enter Tryz.func17, Tryz.ntmps17
  go_wp2_with (first | (go_at_call 39; ((with_reducible refine hW.mono ?_); rintro e w1 ⟨rfl, rfl⟩)) | (go_at_call 38; ((with_reducible refine hI.mono ?_); rintro e w2 ⟨rfl, rfl⟩)))
  go_ret
  exact ⟨rfl, hB⟩
/-! ### Numbers -/
def numV : Rd → Value
  | .ok t _ => .tuple #[.int .u64 (t.n : Int), .bool true]
  | .er _ => .tuple #[.int .u64 0, .bool false]
def nuV : Option Nat → Value
  | some u => .tuple #[.int .u64 (u : Int), .bool true]
  | none => .tuple #[.int .u64 0, .bool false]
def oneV (a : Nat) : Rd → Value
  | .ok t m => .tuple #[.agg #[.int .u8 (t.k : Int), .string (str t.t), .int .u64 (t.n : Int), .int .i64 (a : Int)], .int .i64 (m.length : Int), .int .i64 0]
  | .er e0 => .tuple #[.agg #[.int .u8 0, .string ⟨#[]⟩, .int .u64 0, .int .i64 0], .int .i64 0, .int .i64 (e0 : Int)]
set_option maxRecDepth 100000 in
theorem num_any (s : ByteArray) (hne : 0 < s.size) (hs : s.size ≤ 16384) (hd : ∀ i (h : i < s.size), isD (s[i]'h) = true) (w : World) :
    Calls Tryz.prog 34 #[.string s] w fun e w' => e = .returned (numV (numP s.data.toList)) ∧ w = w' := by
  have hdl : ∀ c ∈ s.data.toList, isD c = true := fun c hc => by
    obtain ⟨i, hi, rfl⟩ := List.getElem_of_mem hc
    have hi' : i < s.size := by simpa using hi
    exact hd i hi'
  have hnl : s.data.toList ≠ [] := by
    intro e
    have h : s.data.toList.length = s.size := by simp
    rw [e] at h
    simp at h
    omega
  have hsl : s.data.toList.length = s.size := by simp
  have hhd : s.data.toList.head? = some (s[0]'hne) := by
    have := drop_cons s 0 hne
    rw [List.drop_zero] at this
    rw [this]; rfl
  have key : numV (numP s.data.toList) = if 1 < s.size ∧ s.data.toList.head? = some 48 then nuV none else nuV (numR 0 s.data.toList) := by
    rw [numP_digits _ hnl hdl, hsl]
    split
    · rfl
    · cases numR 0 s.data.toList <;> rfl
  rw [key, hhd]
  have HD := Lib.hid hd
  clear hdl hnl hsl hhd hd key
  by_cases hlead : 1 < s.size ∧ s[0]'hne = 48
  · rw [if_pos ⟨hlead.1, by rw [hlead.2]⟩]
    obtain ⟨h1, h2⟩ := hlead
    have h3 : ((s[0]'hne).toNat : Int) = 48 := by rw [h2]; rfl
    clear h2
    go_enter Tryz.func34, Tryz.ntmps34
    go_wp2
    go_ret2
    exact ⟨rfl, rfl⟩
  · rw [if_neg (fun h => hlead ⟨h.1, Option.some.inj h.2⟩)]
    have hl2 : 1 < s.size → (((s[0]'hne).toNat : Int) == 48) = false := fun h => by
      simp only [beq_eq_false_iff_ne]
      intro e
      exact hlead ⟨h, UInt8.toNat_inj.1 (by show _ = 48; omega)⟩
    clear hlead
    have hX : ∃ R, R = numR 0 s.data.toList := ⟨_, rfl⟩
    obtain ⟨R, hR⟩ := hX
    rw [← hR]
    have HR := Lib.hid hR
    clear hR
    go_enter Tryz.func34, Tryz.ntmps34
    by_cases h1 : 1 < s.size
    · have hl3 := hl2 h1
      clear hl2
      go_wp2
      go_loop [4, 5] (fun n i => ∃ (k m : Nat), k ≤ s.size ∧ i = .int .i64 k ∧ n = .int .u64 m ∧ m ≤ 18446744073709551615 ∧ Hid (numR m (s.data.toList.drop k) = R)) (fun _ i => s.size - (intOf i).toNat)
      case atStart => exact ⟨0, 0, by omega, rfl, rfl, by omega, Lib.hid (by rw [HR.out]; rfl)⟩
      case round =>
        obtain ⟨k, m, hk, rfl, rfl, hm, hq⟩ := hrel
        by_cases hlt : k < s.size
        · have hdk := isD_iff.1 (HD.out k hlt)
          have HS := Lib.hid (show numR m (s.data.toList.drop k) = if (18446744073709551615 - ((s[k]'hlt).toNat - 48)) / 10 < m then none else numR (10 * m + ((s[k]'hlt).toNat - 48)) (s.data.toList.drop (k + 1)) by rw [drop_cons s k hlt, numR])
          have c1 : (48 : Int) ≤ ((s[k]'hlt).toNat : Int) := by omega
          have c2 : ((s[k]'hlt).toNat : Int) ≤ 57 := by omega
          by_cases hov : (18446744073709551615 - ((s[k]'hlt).toNat - 48)) / 10 < m
          · have ho1 : (18446744073709551615 - (((s[k]'hlt).toNat : Int) - 48)) / 10 < (m : Int) := by omega
            have HRe := Lib.hid (show R = none by rw [← hq.out, HS.out, if_pos hov])
            clear hdk hov
            go_wp2
            go_ret2
            exact ⟨by rw [HRe.out]; rfl, rfl⟩
          · have ho1 : (m : Int) ≤ (18446744073709551615 - (((s[k]'hlt).toNat : Int) - 48)) / 10 := by omega
            have hm1 : 10 * (m : Int) ≤ 18446744073709551615 := by omega
            have hm2 : 10 * (m : Int) + (((s[k]'hlt).toNat : Int) - 48) ≤ 18446744073709551615 := by omega
            have hm3 : 10 * m + ((s[k]'hlt).toNat - 48) ≤ 18446744073709551615 := by omega
            have hm4 : ((10 * m + ((s[k]'hlt).toNat - 48) : Nat) : Int) = 10 * (m : Int) + (((s[k]'hlt).toNat : Int) - 48) := by omega
            have HRe := Lib.hid (show numR (10 * m + ((s[k]'hlt).toNat - 48)) (s.data.toList.drop (k + 1)) = R by rw [← hq.out, HS.out, if_neg hov])
            have HM4 := Lib.hid hm4
            clear hdk hov hm4
            go_wp2
            go_round
            case rel => exact ⟨k + 1, 10 * m + ((s[k]'hlt).toNat - 48), by omega, by go_num, by rw [HM4.out], hm3, HRe⟩
            case measure => simp [intOf]; omega
        · obtain rfl : k = s.size := by omega
          have HRe := Lib.hid (show R = some m by rw [← hq.out, List.drop_of_length_le (by simp)]; rfl)
          go_wp2
          go_ret2
          exact ⟨by rw [HRe.out]; rfl, rfl⟩
    · clear hl2
      go_wp2
      go_loop [4, 5] (fun n i => ∃ (k m : Nat), k ≤ s.size ∧ i = .int .i64 k ∧ n = .int .u64 m ∧ m ≤ 18446744073709551615 ∧ Hid (numR m (s.data.toList.drop k) = R)) (fun _ i => s.size - (intOf i).toNat)
      case atStart => exact ⟨0, 0, by omega, rfl, rfl, by omega, Lib.hid (by rw [HR.out]; rfl)⟩
      case round =>
        obtain ⟨k, m, hk, rfl, rfl, hm, hq⟩ := hrel
        by_cases hlt : k < s.size
        · have hdk := isD_iff.1 (HD.out k hlt)
          have HS := Lib.hid (show numR m (s.data.toList.drop k) = if (18446744073709551615 - ((s[k]'hlt).toNat - 48)) / 10 < m then none else numR (10 * m + ((s[k]'hlt).toNat - 48)) (s.data.toList.drop (k + 1)) by rw [drop_cons s k hlt, numR])
          have c1 : (48 : Int) ≤ ((s[k]'hlt).toNat : Int) := by omega
          have c2 : ((s[k]'hlt).toNat : Int) ≤ 57 := by omega
          by_cases hov : (18446744073709551615 - ((s[k]'hlt).toNat - 48)) / 10 < m
          · have ho1 : (18446744073709551615 - (((s[k]'hlt).toNat : Int) - 48)) / 10 < (m : Int) := by omega
            have HRe := Lib.hid (show R = none by rw [← hq.out, HS.out, if_pos hov])
            clear hdk hov
            go_wp2
            go_ret2
            exact ⟨by rw [HRe.out]; rfl, rfl⟩
          · have ho1 : (m : Int) ≤ (18446744073709551615 - (((s[k]'hlt).toNat : Int) - 48)) / 10 := by omega
            have hm1 : 10 * (m : Int) ≤ 18446744073709551615 := by omega
            have hm2 : 10 * (m : Int) + (((s[k]'hlt).toNat : Int) - 48) ≤ 18446744073709551615 := by omega
            have hm3 : 10 * m + ((s[k]'hlt).toNat - 48) ≤ 18446744073709551615 := by omega
            have hm4 : ((10 * m + ((s[k]'hlt).toNat - 48) : Nat) : Int) = 10 * (m : Int) + (((s[k]'hlt).toNat : Int) - 48) := by omega
            have HRe := Lib.hid (show numR (10 * m + ((s[k]'hlt).toNat - 48)) (s.data.toList.drop (k + 1)) = R by rw [← hq.out, HS.out, if_neg hov])
            have HM4 := Lib.hid hm4
            clear hdk hov hm4
            go_wp2
            go_round
            case rel => exact ⟨k + 1, 10 * m + ((s[k]'hlt).toNat - 48), by omega, by go_num, by rw [HM4.out], hm3, HRe⟩
            case measure => simp [intOf]; omega
        · obtain rfl : k = s.size := by omega
          have HRe := Lib.hid (show R = some m by rw [← hq.out, List.drop_of_length_le (by simp)]; rfl)
          go_wp2
          go_ret2
          exact ⟨by rw [HRe.out]; rfl, rfl⟩
end Go.Proofs.YtmccnoimnieldaaGreatDoor
