/- Contracts of the small functions of package lex: which bytes belong together, pieces, tokens. -/
import Derived.Test.YtfpoflddnlbpjaaGreatDoorZbP
import Derived.Lib.ItoaLen
import Derived.Shelf.Strconv.Itoa3
import Derived.Lib.AppendIntMem
namespace Go.Proofs.YtfpoflddnlbpjaaGreatDoor
open Go.ChangeShapes Go.WideShapes Go.ChangeAt Go.RowKit
set_option linter.unusedVariables false
theorem ret_b {a b : Bool} (h : a = b) : Ending.returned (.bool a) = .returned (.bool b) := by rw [h]
theorem blank_any (c : UInt8) (w : World) : Calls Tryz.prog 89 #[.int .u8 (c.toNat : Int)] w fun e w' => e = .returned (.bool (isB c)) ∧ w = w' := by
  go_enter Tryz.func89, Tryz.ntmps89
  go_wp2
  all_goals
    go_ret
    refine ⟨ret_b ?_, rfl⟩
    unfold isB
    rw [Bool.eq_iff_iff]
    simp
    omega
theorem letter_any (c : UInt8) (w : World) : Calls Tryz.prog 90 #[.int .u8 (c.toNat : Int)] w fun e w' => e = .returned (.bool (isL c)) ∧ w = w' := by
  go_enter Tryz.func90, Tryz.ntmps90
  go_wp2
  all_goals
    go_ret
    refine ⟨ret_b ?_, rfl⟩
    unfold isL
    rw [Bool.eq_iff_iff]
    simp
    omega
theorem digit_any (c : UInt8) (w : World) : Calls Tryz.prog 93 #[.int .u8 (c.toNat : Int)] w fun e w' => e = .returned (.bool (isD c)) ∧ w = w' := by
  go_enter Tryz.func93, Tryz.ntmps93
  go_wp2
  all_goals
    go_ret
    refine ⟨ret_b ?_, rfl⟩
    unfold isD
    rw [Bool.eq_iff_iff]
    simp
    omega
theorem ld_any (c : UInt8) (w : World) : Calls Tryz.prog 91 #[.int .u8 (c.toNat : Int)] w fun e w' => e = .returned (.bool (isLD c)) ∧ w = w' := by
  have h1 := letter_any c
  have h2 := digit_any c
  have e : isLD c = (isL c || isD c) := rfl
  generalize isLD c = x at *
  generalize isL c = y at *
  generalize isD c = z at *
  subst e
  go_enter Tryz.func91, Tryz.ntmps91
  cases y
  all_goals
    go_wp2_with (first | (go_at_call 90; ((with_reducible refine (h1 _).mono ?_); rintro e w1 ⟨rfl, rfl⟩)) | (go_at_call 93; ((with_reducible refine (h2 _).mono ?_); rintro e w1 ⟨rfl, rfl⟩)))
    go_ret
    exact ⟨rfl, rfl⟩
theorem cut_run (s : ByteArray) (a k : Nat) (h : a + k ≤ s.size) (W : World) :
    (Instr.slice 9 (.string s) (some (.int .i64 (a : Int))) (some (.int .i64 ((a : Int) + (k : Int)))) none).run Tryz.prog W = .ok (.string (s.extract a (a + k))) W := by
  rw [run_slice_string (P := Tryz.prog) W 9 s .i64 .i64 (a : Int) ((a : Int) + (k : Int)) Tryz.underlying9 (by omega) (by omega) (by omega)]
  have e1 : ((a : Int)).toNat = a := by omega
  have e2 : ((a : Int) + (k : Int)).toNat = a + k := by omega
  rw [e1, e2]
def spanL (p : UInt8 → Bool) (s : ByteArray) (a : Nat) : Nat := ((s.data.toList.drop a).takeWhile p).length
theorem byte_at (s : ByteArray) (k : Nat) (h : k < s.size) : s.data.toList[k]? = some (s[k]'h) := by
  rw [Array.getElem?_toList]
  exact Array.getElem?_eq_getElem h
theorem drop_cons (s : ByteArray) (k : Nat) (h : k < s.size) : s.data.toList.drop k = s[k]'h :: s.data.toList.drop (k + 1) := by
  have h' : k < s.data.toList.length := by simpa using h
  rw [List.drop_eq_getElem_cons h']
  congr 1
theorem span_on (p : UInt8 → Bool) (s : ByteArray) (a k : Nat) (h : a + k < s.size) (hk : ∀ j, j < k → ∀ h : a + j < s.size, p (s[a + j]'h) = true) (hp : p (s[a + k]'h) = false) : spanL p s a = k := by
  unfold spanL
  induction k generalizing a with
  | zero => rw [drop_cons s a (by omega), List.takeWhile_cons]; simp only [Nat.add_zero] at hp; rw [hp]; rfl
  | succ k ih =>
    have h0 := hk 0 (by omega) (by omega)
    simp only [Nat.add_zero] at h0
    rw [drop_cons s a (by omega), List.takeWhile_cons, h0]
    simp only [if_true, List.length_cons]
    rw [ih (a + 1) (by omega) (fun j hj hh => by have := hk (j + 1) (by omega) (by omega); simpa [show a + (j + 1) = a + 1 + j by omega] using this) (by simpa [show a + (k + 1) = a + 1 + k by omega] using hp)]
theorem span_all (p : UInt8 → Bool) (s : ByteArray) (a : Nat) (ha : a ≤ s.size) (hk : ∀ j, ∀ h : a + j < s.size, p (s[a + j]'h) = true) : spanL p s a = s.size - a := by
  unfold spanL
  have : (s.data.toList.drop a).takeWhile p = s.data.toList.drop a := by
    have hall : ∀ x ∈ s.data.toList.drop a, p x = true := by
      intro x hx
      obtain ⟨i, hi, rfl⟩ := List.getElem_of_mem hx
      rw [List.getElem_drop]
      simp at hi
      have := hk i (by have : s.data.size = s.size := rfl; omega)
      exact this
    have := takeWhile_ext p _ [] hall (by simp)
    rwa [List.append_nil] at this
  rw [this]
  simp
theorem ext_list (s : ByteArray) (a b : Nat) (h : b ≤ s.size) : (s.extract a b).data.toList = (s.data.toList.drop a).take (b - a) := by
  rw [ByteArray.data_extract, Array.toList_extract, List.extract_eq_take_drop]
theorem take_span (p : UInt8 → Bool) (l : List UInt8) : l.take (l.takeWhile p).length = l.takeWhile p := by
  obtain ⟨r, h, _⟩ := takeWhile_pre p l
  generalize l.takeWhile p = m at h ⊢
  rw [h, List.take_left]
set_option maxRecDepth 100000 in
theorem tog_blank (s : ByteArray) (a ga gs : Nat) (w : World) (hs : s.size ≤ 16384) (ha : a ≤ s.size) (ca : w.cell? ⟨ga, 0, none⟩ = some (.int .i64 (a : Int))) (cs : w.cell? ⟨gs, 0, none⟩ = some (.string s)) :
    Calls Tryz.prog 88 #[.func (.func 89) #[] #[], .pointer (some ⟨ga, 0, none⟩), .pointer (some ⟨gs, 0, none⟩)] w fun e w' => e = .returned (.string (s.extract a (a + spanL isB s a))) ∧ w = w' := by
  have hga := World.block_lt_of_cell? w _ ca
  have hgs := World.block_lt_of_cell? w _ cs
  simp only at hga hgs
  go_enter Tryz.func88, Tryz.ntmps88
  go_wp2
  go_loop [5] (fun e => ∃ k : Nat, a + k ≤ s.size ∧ e = .int .i64 ((a + k : Nat) : Int) ∧ ∀ j, j < k → ∀ h : a + j < s.size, isB (s[a + j]'h) = true) (fun e => s.size - (intOf e).toNat)
  case atStart => exact ⟨0, by omega, rfl, fun j hj => by omega⟩
  case round =>
    obtain ⟨k, hk, rfl, hall⟩ := hrel
    have HA := Lib.hid hall
    clear hall
    by_cases hlt : a + k < s.size
    · have hB := blank_any (s[a + k]'hlt)
      have hcut := cut_run s a k hk
      cases hp : isB (s[a + k]'hlt)
      · rw [hp] at hB
        have HP := Lib.hid hp
        clear hp
        go_wp2_with (go_at_call 89; ((with_reducible refine (hB _).mono ?_); rintro e w1 ⟨rfl, rfl⟩))
        go_ret
        exact ⟨by rw [span_on isB s a k hlt HA.out HP.out]; rfl, rfl⟩
      · rw [hp] at hB
        have HP := Lib.hid hp
        clear hp
        go_wp2_with (go_at_call 89; ((with_reducible refine (hB _).mono ?_); rintro e w1 ⟨rfl, rfl⟩))
        go_round
        case rel => exact ⟨k + 1, by omega, by go_num, fun j hj h => by
          by_cases e : j = k
          · subst e; exact HP.out
          · exact HA.out j (by omega) h⟩
        case measure => simp [intOf]; omega
    · obtain ⟨k, rfl⟩ : ∃ m, m = k := ⟨_, rfl⟩
      have hk' : a + k = s.size := by omega
      have HE := Lib.hid (span_all isB s a ha (fun j h => HA.out j (by omega) h))
      have HK := Lib.hid hk'
      have hcut := cut_run s a k hk
      clear hk'
      go_wp2
      go_ret
      exact ⟨by rw [HE.out, show a + (s.size - a) = a + k by have := HK.out; omega]; rfl, rfl⟩
set_option maxRecDepth 100000 in
theorem tog_ld (s : ByteArray) (a ga gs : Nat) (w : World) (hs : s.size ≤ 16384) (ha : a ≤ s.size) (ca : w.cell? ⟨ga, 0, none⟩ = some (.int .i64 (a : Int))) (cs : w.cell? ⟨gs, 0, none⟩ = some (.string s)) :
    Calls Tryz.prog 88 #[.func (.func 91) #[] #[], .pointer (some ⟨ga, 0, none⟩), .pointer (some ⟨gs, 0, none⟩)] w fun e w' => e = .returned (.string (s.extract a (a + spanL isLD s a))) ∧ w = w' := by
  have hga := World.block_lt_of_cell? w _ ca
  have hgs := World.block_lt_of_cell? w _ cs
  simp only at hga hgs
  go_enter Tryz.func88, Tryz.ntmps88
  go_wp2
  go_loop [5] (fun e => ∃ k : Nat, a + k ≤ s.size ∧ e = .int .i64 ((a + k : Nat) : Int) ∧ ∀ j, j < k → ∀ h : a + j < s.size, isLD (s[a + j]'h) = true) (fun e => s.size - (intOf e).toNat)
  case atStart => exact ⟨0, by omega, rfl, fun j hj => by omega⟩
  case round =>
    obtain ⟨k, hk, rfl, hall⟩ := hrel
    have HA := Lib.hid hall
    clear hall
    by_cases hlt : a + k < s.size
    · have hB := ld_any (s[a + k]'hlt)
      have hcut := cut_run s a k hk
      cases hp : isLD (s[a + k]'hlt)
      · rw [hp] at hB
        have HP := Lib.hid hp
        clear hp
        go_wp2_with (go_at_call 91; ((with_reducible refine (hB _).mono ?_); rintro e w1 ⟨rfl, rfl⟩))
        go_ret
        exact ⟨by rw [span_on isLD s a k hlt HA.out HP.out]; rfl, rfl⟩
      · rw [hp] at hB
        have HP := Lib.hid hp
        clear hp
        go_wp2_with (go_at_call 91; ((with_reducible refine (hB _).mono ?_); rintro e w1 ⟨rfl, rfl⟩))
        go_round
        case rel => exact ⟨k + 1, by omega, by go_num, fun j hj h => by
          by_cases e : j = k
          · subst e; exact HP.out
          · exact HA.out j (by omega) h⟩
        case measure => simp [intOf]; omega
    · obtain ⟨k, rfl⟩ : ∃ m, m = k := ⟨_, rfl⟩
      have hk' : a + k = s.size := by omega
      have HE := Lib.hid (span_all isLD s a ha (fun j h => HA.out j (by omega) h))
      have HK := Lib.hid hk'
      have hcut := cut_run s a k hk
      clear hk'
      go_wp2
      go_ret
      exact ⟨by rw [HE.out, show a + (s.size - a) = a + k by have := HK.out; omega]; rfl, rfl⟩
set_option maxRecDepth 100000 in
theorem tog_digit (s : ByteArray) (a ga gs : Nat) (w : World) (hs : s.size ≤ 16384) (ha : a ≤ s.size) (ca : w.cell? ⟨ga, 0, none⟩ = some (.int .i64 (a : Int))) (cs : w.cell? ⟨gs, 0, none⟩ = some (.string s)) :
    Calls Tryz.prog 88 #[.func (.func 93) #[] #[], .pointer (some ⟨ga, 0, none⟩), .pointer (some ⟨gs, 0, none⟩)] w fun e w' => e = .returned (.string (s.extract a (a + spanL isD s a))) ∧ w = w' := by
  have hga := World.block_lt_of_cell? w _ ca
  have hgs := World.block_lt_of_cell? w _ cs
  simp only at hga hgs
  go_enter Tryz.func88, Tryz.ntmps88
  go_wp2
  go_loop [5] (fun e => ∃ k : Nat, a + k ≤ s.size ∧ e = .int .i64 ((a + k : Nat) : Int) ∧ ∀ j, j < k → ∀ h : a + j < s.size, isD (s[a + j]'h) = true) (fun e => s.size - (intOf e).toNat)
  case atStart => exact ⟨0, by omega, rfl, fun j hj => by omega⟩
  case round =>
    obtain ⟨k, hk, rfl, hall⟩ := hrel
    have HA := Lib.hid hall
    clear hall
    by_cases hlt : a + k < s.size
    · have hB := digit_any (s[a + k]'hlt)
      have hcut := cut_run s a k hk
      cases hp : isD (s[a + k]'hlt)
      · rw [hp] at hB
        have HP := Lib.hid hp
        clear hp
        go_wp2_with (go_at_call 93; ((with_reducible refine (hB _).mono ?_); rintro e w1 ⟨rfl, rfl⟩))
        go_ret
        exact ⟨by rw [span_on isD s a k hlt HA.out HP.out]; rfl, rfl⟩
      · rw [hp] at hB
        have HP := Lib.hid hp
        clear hp
        go_wp2_with (go_at_call 93; ((with_reducible refine (hB _).mono ?_); rintro e w1 ⟨rfl, rfl⟩))
        go_round
        case rel => exact ⟨k + 1, by omega, by go_num, fun j hj h => by
          by_cases e : j = k
          · subst e; exact HP.out
          · exact HA.out j (by omega) h⟩
        case measure => simp [intOf]; omega
    · obtain ⟨k, rfl⟩ : ∃ m, m = k := ⟨_, rfl⟩
      have hk' : a + k = s.size := by omega
      have HE := Lib.hid (span_all isD s a ha (fun j h => HA.out j (by omega) h))
      have HK := Lib.hid hk'
      have hcut := cut_run s a k hk
      clear hk'
      go_wp2
      go_ret
      exact ⟨by rw [HE.out, show a + (s.size - a) = a + k by have := HK.out; omega]; rfl, rfl⟩
end Go.Proofs.YtfpoflddnlbpjaaGreatDoor

/- Contracts: strconv.FormatUint at base 10; the tokens of package lex: named, number, sign. -/
namespace Go.Proofs.YtfpoflddnlbpjaaGreatDoor
open Go.ChangeShapes Go.WideShapes Go.ChangeAt Go.RowKit
set_option linter.unusedVariables false
theorem grow_below {w w' : World} (h : ∃ k os, w' = Sort.grow (w.drewN k) os) : Below w.heap.size w w' := by
  obtain ⟨k, os, rfl⟩ := h
  exact ⟨rfl, rfl, rfl, by simp [Sort.grow, World.drewN], fun j hj => by simp [Sort.grow, World.drewN]; rw [Array.getElem?_append_left (by simpa using hj)]⟩
set_option maxHeartbeats 4000000 in
set_option maxRecDepth 100000 in
theorem ifmt_any (u : Nat) (hu64 : u < 18446744073709551616) (w : World) (htab : PowOk w) :
    Calls Tryz.prog 153 #[.int .u64 (u : Int), .int .i64 10] w fun e w' => e = .returned (.string ⟨(Lib.decDigits u).toArray⟩) ∧ Below w.heap.size w w' := by
  by_cases h100 : u < 100
  · have hS := Linternal_strconv_small u h100
    go_enter Tryz.func153, Tryz.ntmps153
    go_wp2_with (go_at_call 166; ((with_reducible refine (hS _).mono ?_); rintro e w1 ⟨rfl, rfl⟩))
    go_ret
    exact ⟨rfl, Below.refl _ _⟩
  · have hu1 : 1 ≤ u := by omega
    have hnd20 : Lib.nDigits u ≤ 20 := by have := Lib.numDigits_eq u hu1 hu64; split at this <;> omega
    have hb3 : Lib.nDigits u ≤ 24 := by omega
    have hal : Tryz.prog.arrayLen 223 = 24 := by kernel_rfl
    have hsl1 : ∀ W, (Instr.sliceAt 223 (.pointer (some ⟨w.heap.size, 0, none⟩)) none (some (.int .i64 (Lib.nDigits u : Int))) none).run Tryz.prog W = .ok (.slice (some ⟨w.heap.size, 0, none⟩) (Lib.nDigits u) 24) W := fun W => by
      rw [run_sliceAt_array_h W 223 ⟨w.heap.size, 0, none⟩ (by kernel_rfl) .i64 (Lib.nDigits u : Int) (by omega) (by rw [hal]; omega)]
      go_simp
    have hH0 := Lib.holds_zero0 w 223 (Lib.nDigits u) hb3
    have hfmt := Linternal_strconv_formatBase10 w.heap.size 0 24 u (Array.replicate (Lib.nDigits u) 0) (w.alloc (.cells Lib.zeros24 223)) hH0 (by rw [Array.size_replicate]; exact Lib.lt_pow_nDigits u) hu64 (by rw [Array.size_replicate]; omega)
    rw [Array.size_replicate] at hfmt
    have HH0 := Lib.hid hH0
    clear hH0 hal
    have hn := Linternal_strconv_numDigits u hu1 hu64
    go_enter Tryz.func153, Tryz.ntmps153
    go_wp2_with (go_at_call 167; refine (hn _ (Lib.tabIs_alloc htab _)).mono ?_; rintro e w' ⟨rfl, rfl⟩)
    go_at_call 168
    refine hfmt.mono ?_
    rintro e w' ⟨rfl, k, v', dk, rfl, hF⟩
    have hcv : (convert 85 9 (.slice (some ⟨w.heap.size, 0, none⟩) (Lib.nDigits u) 24)).run Tryz.prog ((Sort.putRow (fun (b : UInt8) => Value.int .u8 (b.toNat : Int)) (w.alloc (.cells Lib.zeros24 223)) w.heap.size 0 dk).drewN k) = .ok (.string ⟨(Lib.decDigits u).toArray⟩) ((Sort.putRow (fun (b : UInt8) => Value.int .u8 (b.toNat : Int)) (w.alloc (.cells Lib.zeros24 223)) w.heap.size 0 dk).drewN k) := by
      have h := run_convert_bytes_back (P := Tryz.prog) ((Sort.putRow (fun (b : UInt8) => Value.int .u8 (b.toNat : Int)) (w.alloc (.cells Lib.zeros24 223)) w.heap.size 0 dk).drewN k) 85 9 5 ⟨w.heap.size, 0, none⟩ 24 (Lib.decDigits u) Tryz.underlying85 Tryz.underlying5 Tryz.underlying9 (fun j hj => by
        rw [Lib.row_is_numeral hF j hj, Lib.add_plain, World.cell?_drewN]
        exact Sort.cell?_putRow (fun (b : UInt8) => Value.int .u8 (b.toNat : Int)) _ w.heap.size 0 _ dk HH0.out (by rw [hF.size, Array.size_replicate]) j (by rw [hF.size]; rw [Lib.decDigits_length] at hj; exact hj))
      rw [Lib.decDigits_length] at h
      exact h
    go_wp2
    go_ret
    obtain ⟨os, eo⟩ := Lib.fin_at w (.cells Lib.zeros24 223) dk k 0
    exact ⟨rfl, grow_below ⟨k, os, eo⟩⟩
theorem digitsOf_any (u : Nat) (hu64 : u < 18446744073709551616) (w : World) (htab : PowOk w) :
    Calls Tryz.prog 73 #[.int .u64 (u : Int)] w fun e w' => e = .returned (.string (str (Lib.decDigits u))) ∧ Below w.heap.size w w' := by
  have h1 := ifmt_any u hu64 w htab
  have h2 : Calls Tryz.prog 119 #[.int .u64 (u : Int), .int .i64 10] w fun e w' => e = .returned (.string (str (Lib.decDigits u))) ∧ Below w.heap.size w w' := by
    go_enter Tryz.func119, Tryz.ntmps119
    go_wp2_with (go_at_call 153; ((with_reducible refine h1.mono ?_); rintro e w1 ⟨rfl, hb⟩))
    go_ret
    exact ⟨rfl, hb⟩
  clear h1
  go_enter Tryz.func73, Tryz.ntmps73
  go_wp2_with (go_at_call 119; ((with_reducible refine h2.mono ?_); rintro e w1 ⟨rfl, hb⟩))
  go_ret
  exact ⟨rfl, hb⟩
theorem clone_any (s : ByteArray) (hs : s.size ≤ 281474976710656) (w : World) : Calls Tryz.prog 131 #[.string s] w fun e w' => e = .returned (.string s) ∧ Below w.heap.size w w' := by
  have h1 := Lstringslite_Clone s w hs
  go_enter Tryz.func131, Tryz.ntmps131
  go_wp2_with (go_at_call 158; ((with_reducible refine h1.mono ?_); rintro e w1 ⟨rfl, hb⟩))
  go_ret
  exact ⟨rfl, hb⟩
def tkV (t : Tk) (a : Int) : Array Value := #[.int .u8 (t.k : Int), .string (str t.t), .int .u64 (t.n : Int), .int .i64 a]
theorem list_ne {s : ByteArray} (h : s.data.toList ≠ []) : (s.toList == []) = false ∧ s.toList.isEmpty = false := by
  rw [ByteArray.toList_eq]
  constructor
  · simpa using h
  · simpa using h
theorem sign_ok (s : ByteArray) (t : Tk) (m : List UInt8) (h : signP s.data.toList = .ok t m) (w : World) :
    Calls Tryz.prog 96 #[.string s] w fun e w' => e = .returned (.tuple #[.agg #[.int .u8 (t.k : Int), .string (str t.t), .int .u64 (t.n : Int), .int .i64 0], .nilIface]) ∧ Below w.heap.size w w' := by
  obtain ⟨rfl, hne, hk, ht, hn⟩ := signP_ok h
  obtain ⟨h1, h2⟩ := list_ne hne
  rw [hk, hn, ht, str_of]
  clear hk hn ht h hne
  go_enter Tryz.func96, Tryz.ntmps96
  go_wp2
  exact bodyPost_ret (v := .tuple #[.agg #[.int .u8 4, .string s, .int .u64 0, .int .i64 0], .nilIface]) (by simp [results, Tryz.results96, go_sem]) rfl ⟨rfl, ((Below.refl _ _).alloc (Nat.le_refl _) _)⟩
theorem sign_er (s : ByteArray) (e0 : Nat) (h : signP s.data.toList = .er e0) (w : World) :
    Calls Tryz.prog 96 #[.string s] w fun e w' => e = .returned (.tuple #[.agg #[.int .u8 0, .string ⟨#[]⟩, .int .u64 0, .int .i64 0], .iface 28 (.int .i64 (e0 : Int))]) ∧ Below w.heap.size w w' := by
  have : s.data.toList = [] ∧ e0 = 7 := by
    unfold signP at h
    split at h
    · rename_i h0; cases h; exact ⟨h0, rfl⟩
    · cases h
  obtain ⟨h0, rfl⟩ := this
  have hs : s = ⟨#[]⟩ := by rw [← str_of s, h0]; rfl
  subst hs
  clear h h0
  go_enter Tryz.func96, Tryz.ntmps96
  go_wp2
  exact bodyPost_ret (v := .tuple #[.agg #[.int .u8 0, .string ⟨#[]⟩, .int .u64 0, .int .i64 0], .iface 28 (.int .i64 7)]) (by simp [results, Tryz.results96, go_sem]) rfl ⟨rfl, ((Below.refl _ _).alloc (Nat.le_refl _) _)⟩
theorem named_er (s : ByteArray) (e0 : Nat) (h : nameP s.data.toList = .er e0) (hs : s.size ≤ 16384) (w : World) :
    Calls Tryz.prog 92 #[.string s] w fun e w' => e = .returned (.tuple #[.agg #[.int .u8 0, .string ⟨#[]⟩, .int .u64 0, .int .i64 0], .iface 28 (.int .i64 (e0 : Int))]) ∧ Below w.heap.size w w' := by
  have : 16 < s.size ∧ e0 = 5 := by
    unfold nameP at h
    split at h
    · rename_i h0; cases h; exact ⟨h0, rfl⟩
    · cases h
  obtain ⟨h0, rfl⟩ := this
  clear h
  go_enter Tryz.func92, Tryz.ntmps92
  go_wp2
  exact bodyPost_ret (v := .tuple #[.agg #[.int .u8 0, .string ⟨#[]⟩, .int .u64 0, .int .i64 0], .iface 28 (.int .i64 5)]) (by simp [results, Tryz.results92, go_sem]) rfl ⟨rfl, ((Below.refl _ _).alloc (Nat.le_refl _) _)⟩
theorem bcell {W w1 : World} (hb : Below W.heap.size W w1) : (∀ b o, b < W.heap.size → w1.cell? ⟨b, o, none⟩ = W.cell? ⟨b, o, none⟩) ∧ (∀ b o, b < W.heap.size → w1.frozen? ⟨b, o, none⟩ = W.frozen? ⟨b, o, none⟩) :=
  ⟨fun b o h => hb.cell (p := ⟨b, o, none⟩) h, fun b o h => hb.frozen (p := ⟨b, o, none⟩) h⟩
theorem named_ok (s : ByteArray) (t : Tk) (m : List UInt8) (h : nameP s.data.toList = .ok t m) (hs : s.size ≤ 16384) (w : World) (hT : WordsOk w) :
    Calls Tryz.prog 92 #[.string s] w fun e w' => e = .returned (.tuple #[.agg #[.int .u8 (t.k : Int), .string (str t.t), .int .u64 (t.n : Int), .int .i64 0], .nilIface]) ∧ Below w.heap.size w w' := by
  have : s.size ≤ 16 ∧ t = ⟨if isWd s.data.toList then 2 else 1, s.data.toList, 0⟩ := by
    unfold nameP at h
    split at h
    · cases h
    · rename_i h0; cases h; exact ⟨Nat.le_of_not_lt h0, rfl⟩
  obtain ⟨h16, rfl⟩ := this
  simp only
  rw [str_of]
  have hW := isWord_any s (w.alloc (.cells #[.int .u8 0, .string ⟨#[]⟩, .int .u64 0, .int .i64 0] 148)) (fun j hj => by
    have hb : Below w.heap.size w (w.alloc (.cells #[.int .u8 0, .string ⟨#[]⟩, .int .u64 0, .int .i64 0] 148)) := (Below.refl _ _).alloc (Nat.le_refl _) _
    exact stay hb (hT j hj))
  have hC := clone_any s (by omega)
  clear h hT
  cases hw : isWd s.data.toList
  all_goals
    rw [hw] at hW
    clear hw
    go_enter Tryz.func92, Tryz.ntmps92
    go_wp2_with (first | (go_at_call 130; ((with_reducible refine hW.mono ?_); rintro e w1 ⟨rfl, rfl⟩)) | (go_at_call 131; ((with_reducible refine (hC _).mono ?_); (rintro e w1 ⟨rfl, hb⟩); obtain ⟨hc, hf⟩ := bcell hb; have hz : w.heap.size < w1.heap.size := (by have := hb.size; simp at this; omega))))
  · exact bodyPost_ret (v := .tuple #[.agg #[.int .u8 1, .string s, .int .u64 0, .int .i64 0], .nilIface]) (by simp [results, Tryz.results92, go_sem, hc]) rfl ⟨rfl, ((((((Below.refl _ _).alloc (Nat.le_refl _) _).trans (hb.mono (by simp))).setCell (by simp) _).setCell (by simp) _).setCell (by simp) _).setCell (by simp) _⟩
  · exact bodyPost_ret (v := .tuple #[.agg #[.int .u8 2, .string s, .int .u64 0, .int .i64 0], .nilIface]) (by simp [results, Tryz.results92, go_sem, hc]) rfl ⟨rfl, ((((((Below.refl _ _).alloc (Nat.le_refl _) _).trans (hb.mono (by simp))).setCell (by simp) _).setCell (by simp) _).setCell (by simp) _).setCell (by simp) _⟩
theorem ok_of {s : ByteArray} {t : Tk} {m : List UInt8} (h : numP s.data.toList = .ok t m) : Lib.parseUintB 64 s.data.toList = .ok t.n ∧ t.k = 3 ∧ t.t = [] ∧ str (Lib.decDigits t.n) = s := by
  unfold numP at h
  split at h
  · rename_i u hu
    split at h
    · rename_i hd; cases h; exact ⟨hu, rfl, rfl, by simp only; rw [hd, str_of]⟩
    · cases h
  · cases h
theorem er_of {s : ByteArray} {e : Nat} (h : numP s.data.toList = .er e) : e = 7 ∧ ((∃ u, Lib.parseUintB 64 s.data.toList = .ok u ∧ Lib.decDigits u ≠ s.data.toList) ∨ ∀ u, Lib.parseUintB 64 s.data.toList ≠ .ok u) := by
  unfold numP at h
  split at h
  · rename_i u hu
    split at h
    · cases h
    · rename_i hd; cases h; exact ⟨rfl, Or.inl ⟨u, hu, hd⟩⟩
  · rename_i hx
    cases h
    exact ⟨rfl, Or.inr fun u hu => hx u hu⟩
theorem number_ok (s : ByteArray) (t : Tk) (m : List UInt8) (h : numP s.data.toList = .ok t m) (hs : s.size ≤ 16384) (w : World) (hT : Tb w) :
    Calls Tryz.prog 94 #[.string s] w fun e w' => e = .returned (.tuple #[.agg #[.int .u8 (t.k : Int), .string (str t.t), .int .u64 (t.n : Int), .int .i64 0], .nilIface]) ∧ Below w.heap.size w w' := by
  obtain ⟨hp, hk, ht, hd⟩ := ok_of h
  have hlt := (numP_ok h).2.2.2.2
  have hP := Lstrconv_ParseUint_10_at64_ok s (by omega) t.n hp
  have hP' : ∀ w, Calls Tryz.prog 132 #[.string s, .int .i64 10, .int .i64 64] w fun e w' => e = .returned (.tuple #[.int .u64 (t.n : Int), .nilIface]) ∧ Below w.heap.size w w' := fun w => (hP w).mono fun e w' h => ⟨h.1, by rcases h.2 with h | h <;> rw [h]; exact Below.refl _ _; exact Lib.bytesWorld_below _ _ _⟩
  have hD := digitsOf_any t.n hlt
  rw [hk, ht]
  clear hk ht hp h hP
  rw [hd] at hD
  go_enter Tryz.func94, Tryz.ntmps94
  go_wp2_with (first | (go_at_call 132; ((with_reducible refine (hP' _).mono ?_); (rintro e w1 ⟨rfl, hb⟩); obtain ⟨hc, hf⟩ := bcell hb; have hz : w.heap.size < w1.heap.size := (by have := hb.size; simp at this; omega); have hT1 : Tb w1 := ((hT.alloc _).of hb))) | (go_at_call 73; ((with_reducible refine (hD _ hT1.pow).mono ?_); (rintro e w2 ⟨rfl, hb2⟩); obtain ⟨hc2, hf2⟩ := bcell hb2; have hz2 : w.heap.size < w2.heap.size := (by have := hb2.size; omega))))
  refine bodyPost_ret (v := .tuple #[.agg #[.int .u8 3, .string ⟨#[]⟩, .int .u64 t.n, .int .i64 0], .nilIface]) (by simp [results, Tryz.results94, go_sem, hc, hc2, hz]) rfl ⟨rfl, ?_⟩
  have hB : Below w.heap.size w w2 := (((Below.refl _ _).alloc (Nat.le_refl _) _).trans (hb.mono (by simp))).trans (hb2.mono (Nat.le_of_lt hz))
  exact (((hB.setCell (by simp) _).setCell (by simp) _).setCell (by simp) _).setCell (by simp) _
theorem pu_err (s : ByteArray) (hs : s.size ≤ 16384) (h : ∀ u, Lib.parseUintB 64 s.data.toList ≠ .ok u) (w : World) (hT : Tb w) :
    Calls Tryz.prog 132 #[.string s, .int .i64 10, .int .i64 64] w fun e w' => (∃ (v : Int) (t : TypeId) (N : Nat), e = .returned (.tuple #[.int .u64 v, .iface t (.pointer (some ⟨N, 0, none⟩))])) ∧ Below w.heap.size w w' := by
  by_cases hr : Lib.parseUintB 64 s.data.toList = .range
  · obtain ⟨tp, p, hv⟩ := hT.ran
    exact (Lstrconv_ParseUint_10_at64_range_var s (by omega) hr tp p w hv).mono fun e w' ⟨N, he, _, _, hb⟩ => ⟨⟨_, _, N, he⟩, hb⟩
  · obtain ⟨tp, p, hv⟩ := hT.syn
    exact (Any.strconv_ParseUint_10_at64_syntax_var LlaysPu14 s (by omega) (by
      cases hq : Lib.parseUintB 64 s.data.toList
      all_goals first | rfl | exact absurd hq hr | exact absurd hq (h _)) tp p w hv).mono fun e w' ⟨N, he, _, _, hb⟩ => ⟨⟨_, _, N, he⟩, hb⟩
theorem number_er (s : ByteArray) (e0 : Nat) (h : numP s.data.toList = .er e0) (hs : s.size ≤ 16384) (w : World) (hT : Tb w) :
    Calls Tryz.prog 94 #[.string s] w fun e w' => e = .returned (.tuple #[.agg #[.int .u8 0, .string ⟨#[]⟩, .int .u64 0, .int .i64 0], .iface 28 (.int .i64 (e0 : Int))]) ∧ Below w.heap.size w w' := by
  obtain ⟨rfl, ⟨u, hp, hd⟩ | h2⟩ := er_of h
  · have hlt : u < 18446744073709551616 := by have := Lib.parseUintB_le hp; omega
    have hP := Lstrconv_ParseUint_10_at64_ok s (by omega) u hp
    have hP' : ∀ w, Calls Tryz.prog 132 #[.string s, .int .i64 10, .int .i64 64] w fun e w' => e = .returned (.tuple #[.int .u64 (u : Int), .nilIface]) ∧ Below w.heap.size w w' := fun w => (hP w).mono fun e w' h => ⟨h.1, by rcases h.2 with h | h <;> rw [h]; exact Below.refl _ _; exact Lib.bytesWorld_below _ _ _⟩
    have hD := digitsOf_any u hlt
    have hne : ((str (Lib.decDigits u)).toList == s.toList) = false := by
      rw [ByteArray.toList_eq, ByteArray.toList_eq, str_list]
      simpa using hd
    generalize str (Lib.decDigits u) = d at hD hne
    clear hd hp h hP
    go_enter Tryz.func94, Tryz.ntmps94
    go_wp2_with (first | (go_at_call 132; ((with_reducible refine (hP' _).mono ?_); (rintro e w1 ⟨rfl, hb⟩); obtain ⟨hc, hf⟩ := bcell hb; have hz : w.heap.size < w1.heap.size := (by have := hb.size; simp at this; omega); have hT1 : Tb w1 := ((hT.alloc _).of hb))) | (go_at_call 73; ((with_reducible refine (hD _ hT1.pow).mono ?_); (rintro e w2 ⟨rfl, hb2⟩); obtain ⟨hc2, hf2⟩ := bcell hb2; have hz2 : w.heap.size < w2.heap.size := (by have := hb2.size; omega))))
    refine bodyPost_ret (v := .tuple #[.agg #[.int .u8 0, .string ⟨#[]⟩, .int .u64 0, .int .i64 0], .iface 28 (.int .i64 7)]) (by simp [results, Tryz.results94, go_sem, hc, hc2, hz]) rfl ⟨rfl, ?_⟩
    have hB : Below w.heap.size w w2 := (((Below.refl _ _).alloc (Nat.le_refl _) _).trans (hb.mono (by simp))).trans (hb2.mono (Nat.le_of_lt hz))
    exact (((hB.setCell (by simp) _).setCell (by simp) _).setCell (by simp) _).setCell (by simp) _
  · have hP := pu_err s hs h2
    clear h h2
    go_enter Tryz.func94, Tryz.ntmps94
    go_wp2_with (go_at_call 132; ((with_reducible refine (hP _ (hT.alloc _)).mono ?_); (rintro e w1 ⟨⟨v, t, N, rfl⟩, hb⟩); obtain ⟨hc, hf⟩ := bcell hb; have hz : w.heap.size < w1.heap.size := (by have := hb.size; simp at this; omega)))
    refine bodyPost_ret (v := .tuple #[.agg #[.int .u8 0, .string ⟨#[]⟩, .int .u64 0, .int .i64 0], .iface 28 (.int .i64 7)]) (by simp [results, Tryz.results94, go_sem, hc]) rfl ⟨rfl, ?_⟩
    have hB : Below w.heap.size w w1 := ((Below.refl _ _).alloc (Nat.le_refl _) _).trans (hb.mono (by simp))
    exact (((hB.setCell (by simp) _).setCell (by simp) _).setCell (by simp) _).setCell (by simp) _
end Go.Proofs.YtfpoflddnlbpjaaGreatDoor
