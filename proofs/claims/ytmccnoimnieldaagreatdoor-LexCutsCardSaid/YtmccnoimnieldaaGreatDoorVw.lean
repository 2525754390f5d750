/- Contracts of the document's own answers of layer 6: the longest sign, the token at a place. -/
import Derived.Test.YtmccnoimnieldaaGreatDoorVv
namespace Go.Proofs.YtmccnoimnieldaaGreatDoor
open Go.ChangeShapes Go.WideShapes Go.ChangeAt Go.RowKit
set_option linter.unusedVariables false
theorem pre_iff (s : ByteArray) (a : Nat) (x : List UInt8) (ha : a ≤ s.size) : x.isPrefixOf (s.data.toList.drop a) = decide (a + x.length ≤ s.size ∧ (s.extract a (a + x.length)).data.toList = x) := by
  have hsl : s.data.toList.length = s.size := by simp
  rw [Bool.eq_iff_iff, decide_eq_true_eq, List.isPrefixOf_iff_prefix, List.prefix_iff_eq_take]
  constructor
  · intro h
    have hl : a + x.length ≤ s.size := by
      have := congrArg List.length h
      rw [List.length_take, List.length_drop, hsl] at this
      omega
    exact ⟨hl, by rw [ext_list s a _ hl, Nat.add_sub_cancel_left]; exact h.symm⟩
  · rintro ⟨hl, h⟩
    rw [ext_list s a _ hl, Nat.add_sub_cancel_left] at h
    exact h.symm
set_option maxRecDepth 100000 in
set_option maxHeartbeats 2000000 in
theorem rsign_any (s : ByteArray) (a : Nat) (ha : a ≤ s.size) (hs : s.size ≤ 16384) (w : World) :
    Calls Tryz.prog 35 #[.string s, .int .i64 (a : Int)] w fun e w' => e = .returned (.string (str (ls (s.data.toList.drop a)))) ∧ Below w.heap.size w w' := by
  have hW := signs_any w
  have hTx := txs_new w signsR
  obtain ⟨W1, hX⟩ : ∃ W1, w.alloc (.cells ((signsR.map fun x => Value.string (str x)).toArray) 9) = W1 := ⟨_, rfl⟩
  rw [hX] at hW hTx
  have hB : Below w.heap.size w W1 := by rw [← hX]; exact (Below.refl _ _).alloc (Nat.le_refl _) _
  have hbl : w.heap.size < W1.heap.size := by rw [← hX]; simp
  have HT := Lib.hid hTx
  clear hX hTx
  obtain ⟨R, hR⟩ : ∃ R, R = ls (s.data.toList.drop a) := ⟨_, rfl⟩
  rw [← hR]
  have HR := Lib.hid hR
  clear hR
  go_enter Tryz.func35, Tryz.ntmps35
  go_wp2_with (go_at_call 50; ((with_reducible refine hW.mono ?_); rintro e w1 ⟨rfl, rfl⟩))
  go_loopw [6] (fun i wr => ∃ k : Nat, k ≤ 25 ∧ i = .int .i64 k ∧ (∃ n, wr = w1.drewN n) ∧ Hid (∀ j, j < k → (signsR.getD j []).isPrefixOf (s.data.toList.drop a) = false)) (fun i _ => 25 - (intOf i).toNat)
  case atStart => exact ⟨0, by omega, rfl, ⟨0, rfl⟩, Lib.hid (fun j hj => by omega)⟩
  case round =>
    obtain ⟨k, hk, rfl, ⟨n, rfl⟩, hno⟩ := hrel
    by_cases hlt : k < 25
    · have hc := HT.out k hlt
      have hpi := pre_iff s a (signsR.getD k []) ha
      have hxl : (signsR.getD k []).length ≤ 3 := by
        have : ∀ k < 25, (signsR.getD k []).length ≤ 3 := by decide +kernel
        exact this k hlt
      have hfi := fun h => sign_first_at (s.data.toList.drop a) k hlt h hno.out
      have hq := fun u : ByteArray => str_eq_iff (signsR.getD k []) u
      obtain ⟨x, hx⟩ : ∃ x, signsR.getD k [] = x := ⟨_, rfl⟩
      rw [hx] at hc hpi hxl
      simp only [hx] at hfi hq
      have HXX := Lib.hid hx
      have hzs : (str x).size = x.length := str_size x
      have hzl : (str x).data.toList = x := str_list x
      obtain ⟨z, hz⟩ : ∃ z, str x = z := ⟨_, rfl⟩
      rw [hz] at hc hzs hzl
      rw [← hzs] at hpi hxl
      have HZ := Lib.hid hz
      clear hx hz hzs hq
      have hwr : IntKind.i64.wrap ((a : Int) + (z.size : Int)) = (a : Int) + (z.size : Int) := by rw [IntWalk.i64_in _ (by omega)]
      by_cases hle : a + z.size ≤ s.size
      · have hcut := cut_run s a z.size hle
        have hle' : (a : Int) + (z.size : Int) ≤ (s.size : Int) := by omega
        have hee : ((s.extract a (a + z.size)).toList == z.toList) = decide ((s.extract a (a + z.size)).data.toList = x) := by
          rw [ByteArray.toList_eq, ByteArray.toList_eq, hzl, Bool.eq_iff_iff]; simp
        by_cases he : (s.extract a (a + z.size)).data.toList = x
        · rw [decide_eq_true he] at hee
          have HRe := Lib.hid (show z = str R by rw [HR.out, hfi (by rw [hpi]; exact decide_eq_true ⟨hle, he⟩), HZ.out])
          clear he hpi hfi hno hzl
          go_wp2
          go_quiet (fail)
          go_wp2
          go_ret
          exact ⟨by rw [← HRe.out]; rfl, bdN hB _⟩
        · rw [decide_eq_false he] at hee
          have hN := Lib.hid (show ∀ j, j < k + 1 → (signsR.getD j []).isPrefixOf (s.data.toList.drop a) = false from fun j hj => by
            by_cases e : j = k
            · rw [e, HXX.out, hpi]; exact decide_eq_false (fun h => he h.2)
            · exact hno.out j (by omega))
          clear he hpi hfi hno hzl
          go_wp2
          go_quiet (fail)
          go_wp2
          go_roundw
          case rel => exact ⟨k + 1, by omega, by go_num, ⟨_, rfl⟩, hN⟩
          case measure => simp [intOf]; omega
      · have hle' : decide ((a : Int) + (z.size : Int) ≤ (s.size : Int)) = false := by simp only [decide_eq_false_iff_not]; omega
        have hN := Lib.hid (show ∀ j, j < k + 1 → (signsR.getD j []).isPrefixOf (s.data.toList.drop a) = false from fun j hj => by
          by_cases e : j = k
          · rw [e, HXX.out, hpi]; exact decide_eq_false (fun h => hle h.1)
          · exact hno.out j (by omega))
        clear hle hpi hfi hno hzl
        go_wp2
        go_quiet (fail)
        go_wp2
        go_roundw
        case rel => exact ⟨k + 1, by omega, by go_num, ⟨_, rfl⟩, hN⟩
        case measure => simp [intOf]; omega
    · obtain rfl : k = 25 := by omega
      have HRe := Lib.hid (show R = [] by rw [HR.out]; exact sign_none_at _ hno.out)
      go_wp2
      go_ret
      exact ⟨by rw [HRe.out]; rfl, bdN hB _⟩
set_option maxRecDepth 100000 in
set_option maxHeartbeats 4000000 in
theorem one_dig (s : ByteArray) (a : Nat) (ha : a < s.size) (hs : s.size ≤ 16384) (hD : isD (s[a]'ha) = true) (w : World) :
    Calls Tryz.prog 14 #[.string s, .int .i64 (a : Int)] w fun e w' => e = .returned (oneV a (tok (s.data.toList.drop a))) ∧ Below w.heap.size w w' := by
  have hL : isL (s[a]'ha) = false := by
    cases h : isL (s[a]'ha)
    · rfl
    · rw [isL_D h] at hD; cases hD
  have htk := tok_at s a ha
  rw [if_neg (by rw [hL]; simp), if_pos hD] at htk
  have hcut2 := span_le isD s a (Nat.le_of_lt ha)
  have hel := ext_span isD s a hcut2
  rw [← hel] at htk
  have hsz := ext_sz s a (spanL isD s a) hcut2
  have hpos : 0 < spanL isD s a := by
    unfold spanL; rw [drop_cons s a ha, List.takeWhile_cons, hD]; simp
  have hall : ∀ i (h : i < (s.extract a (a + spanL isD s a)).size), isD ((s.extract a (a + spanL isD s a))[i]'h) = true := fun i h => by
    have hm := takeWhile_mem isD (s.data.toList.drop a) ((s.extract a (a + spanL isD s a))[i]'h) (by
      rw [← hel]; exact List.mem_of_getElem? (byte_at _ i h))
    exact hm
  have hNu := num_any (s.extract a (a + spanL isD s a)) (by omega) (by omega) hall
  obtain ⟨P, hP⟩ : ∃ P, P = s.extract a (a + spanL isD s a) := ⟨_, rfl⟩
  rw [← hP] at hNu htk hsz
  rw [htk]
  have HP := Lib.hid hP
  have HSZ := Lib.hid hsz
  have HDD := Lib.hid hD
  clear htk hel hall hP hsz hD hcut2
  go_enter Tryz.func14, Tryz.ntmps14
  go_wp2
  go_loop [7] (fun e => ∃ k : Nat, a + k ≤ s.size ∧ e = .int .i64 ((a + k : Nat) : Int) ∧ Hid (∀ j, j < k → ∀ h : a + j < s.size, isD (s[a + j]'h) = true)) (fun e => s.size - (intOf e).toNat)
  case atStart => exact ⟨0, by omega, rfl, Lib.hid (fun j hj => by omega)⟩
  case round =>
    obtain ⟨k, hk, rfl, hall⟩ := hrel
    by_cases hlt : a + k < s.size
    · have hB := rdigit_any (s[a + k]'hlt)
      cases hp : isD (s[a + k]'hlt)
      · rw [hp] at hB
        have HSP := Lib.hid (span_on isD s a k hlt hall.out hp)
        clear hp hall
        have hk1 : 0 < k := by rw [← HSP.out]; exact hpos
        have hcut := cut_run s a k hk
        have HPk := Lib.hid (show s.extract a (a + k) = P by rw [HP.out, HSP.out])
        rw [HPk.out] at hcut
        have hgt : (a : Int) < (a : Int) + (k : Int) := by omega
        have hpm : P.data.toList.length = k := by rw [← HSP.out, ← HSZ.out]; simp
        cases hN : numP P.data.toList with
        | ok t m =>
          obtain ⟨hm, tk, tt, _, tn⟩ := numP_ok hN
          rw [hN] at hNu
          have hNu : ∀ w, Calls Tryz.prog 34 #[.string P] w fun e w' => e = .returned (.tuple #[.int .u64 (t.n : Int), .bool true]) ∧ w = w' := hNu
          have HN := Lib.hid hN
          have hml : (m.length : Int) = (k : Int) := by rw [hm, hpm]
          have HML := Lib.hid hml
          have HTK := Lib.hid tk
          have HTT := Lib.hid tt
          clear hN hm tk tt hml hpm
          go_wp2_with (first | (go_at_call 18; ((with_reducible refine (hB _).mono ?_); rintro e w1 ⟨rfl, rfl⟩)) | (go_at_call 34; ((with_reducible refine (hNu _).mono ?_); rintro e w5 ⟨rfl, rfl⟩)))
          refine bodyPost_ret (v := .tuple #[.agg #[.int .u8 3, .string ⟨#[]⟩, .int .u64 (t.n : Int), .int .i64 (a : Int)], .int .i64 (k : Int), .int .i64 0]) (by simp [results, Tryz.results14, go_sem]; omega) rfl ⟨?_, ?_⟩
          · rw [HN.out]; unfold oneV; simp only [HML.out, HTK.out, HTT.out]; rfl
          · exact (Below.refl _ _).alloc (Nat.le_refl _) _
        | er e0 =>
          have he : e0 = 7 := (er_of hN).1
          subst he
          rw [hN] at hNu
          have hNu : ∀ w, Calls Tryz.prog 34 #[.string P] w fun e w' => e = .returned (.tuple #[.int .u64 0, .bool false]) ∧ w = w' := hNu
          have HN := Lib.hid hN
          clear hN hpm
          go_wp2_with (first | (go_at_call 18; ((with_reducible refine (hB _).mono ?_); rintro e w1 ⟨rfl, rfl⟩)) | (go_at_call 34; ((with_reducible refine (hNu _).mono ?_); rintro e w5 ⟨rfl, rfl⟩)))
          refine bodyPost_ret (v := .tuple #[.agg #[.int .u8 0, .string ⟨#[]⟩, .int .u64 0, .int .i64 0], .int .i64 0, .int .i64 7]) (by simp [results, Tryz.results14, go_sem]) rfl ⟨by rw [HN.out]; rfl, ?_⟩
          exact (Below.refl _ _).alloc (Nat.le_refl _) _
      · rw [hp] at hB
        have HP2 := Lib.hid hp
        clear hp
        go_wp2_with (go_at_call 18; ((with_reducible refine (hB _).mono ?_); rintro e w1 ⟨rfl, rfl⟩))
        go_round
        case rel => exact ⟨k + 1, by omega, by go_num, Lib.hid (fun j hj h => by
          by_cases e : j = k
          · subst e; exact HP2.out
          · exact hall.out j (by omega) h)⟩
        case measure => simp [intOf]; omega
    · have hk' : a + k = s.size := by omega
      have HSP := Lib.hid (show spanL isD s a = k by rw [span_all isD s a (Nat.le_of_lt ha) (fun j h => hall.out j (by omega) h)]; omega)
      have HK := Lib.hid hk'
      clear hk' hall
      have hk1 : 0 < k := by rw [← HSP.out]; exact hpos
      have hcut := cut_run s a k hk
      have HPk := Lib.hid (show s.extract a (a + k) = P by rw [HP.out, HSP.out])
      rw [HPk.out] at hcut
      have hgt : (a : Int) < (a : Int) + (k : Int) := by omega
      have hpm : P.data.toList.length = k := by rw [← HSP.out, ← HSZ.out]; simp
      cases hN : numP P.data.toList with
      | ok t m =>
        obtain ⟨hm, tk, tt, _, tn⟩ := numP_ok hN
        rw [hN] at hNu
        have hNu : ∀ w, Calls Tryz.prog 34 #[.string P] w fun e w' => e = .returned (.tuple #[.int .u64 (t.n : Int), .bool true]) ∧ w = w' := hNu
        have HN := Lib.hid hN
        have hml : (m.length : Int) = (k : Int) := by rw [hm, hpm]
        have HML := Lib.hid hml
        have HTK := Lib.hid tk
        have HTT := Lib.hid tt
        clear hN hm tk tt hml hpm
        go_wp2_with (go_at_call 34; ((with_reducible refine (hNu _).mono ?_); rintro e w5 ⟨rfl, rfl⟩))
        refine bodyPost_ret (v := .tuple #[.agg #[.int .u8 3, .string ⟨#[]⟩, .int .u64 (t.n : Int), .int .i64 (a : Int)], .int .i64 (k : Int), .int .i64 0]) (by simp [results, Tryz.results14, go_sem]; omega) rfl ⟨?_, ?_⟩
        · rw [HN.out]; unfold oneV; simp only [HML.out, HTK.out, HTT.out]; rfl
        · exact (Below.refl _ _).alloc (Nat.le_refl _) _
      | er e0 =>
        have he : e0 = 7 := (er_of hN).1
        subst he
        rw [hN] at hNu
        have hNu : ∀ w, Calls Tryz.prog 34 #[.string P] w fun e w' => e = .returned (.tuple #[.int .u64 0, .bool false]) ∧ w = w' := hNu
        have HN := Lib.hid hN
        clear hN hpm
        go_wp2_with (go_at_call 34; ((with_reducible refine (hNu _).mono ?_); rintro e w5 ⟨rfl, rfl⟩))
        refine bodyPost_ret (v := .tuple #[.agg #[.int .u8 0, .string ⟨#[]⟩, .int .u64 0, .int .i64 0], .int .i64 0, .int .i64 7]) (by simp [results, Tryz.results14, go_sem]) rfl ⟨by rw [HN.out]; rfl, ?_⟩
        exact (Below.refl _ _).alloc (Nat.le_refl _) _
end Go.Proofs.YtmccnoimnieldaaGreatDoor
