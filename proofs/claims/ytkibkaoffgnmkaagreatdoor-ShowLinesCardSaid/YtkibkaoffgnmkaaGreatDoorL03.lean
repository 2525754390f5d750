/- Contracts: strconv.FormatUint at base 10; the tokens of package lex: named, number, sign. -/
import Derived.Test.YtkibkaoffgnmkaaGreatDoorL02
import Derived.Lib.ItoaLen
import Derived.Shelf.Strconv.Itoa3
import Derived.Lib.AppendIntMem
namespace Go.Proofs.YtkibkaoffgnmkaaGreatDoor
set_option linter.unusedVariables false
set_option linter.unusedSimpArgs false
set_option maxRecDepth 100000
set_option maxHeartbeats 200000000
open Go.ChangeShapes Go.WideShapes Go.ChangeAt Go.RowKit
theorem grow_below {w w' : World} (h : ∃ k os, w' = Sort.grow (w.drewN k) os) : Below w.heap.size w w' := by
 obtain ⟨k, os, rfl⟩ := h
 exact ⟨rfl, rfl, rfl, by simp [Sort.grow, World.drewN], fun j hj => by simp [Sort.grow, World.drewN]; rw [Array.getElem?_append_left (by simpa using hj)]⟩
theorem ifmt_any (u : Nat) (hu64 : u < 18446744073709551616) (w : World) (htab : PowOk w) :
  Calls Tryz.prog 124 #[.int .u64 (u : Int), .int .i64 10] w fun e w' => e = .returned (.string ⟨(Lib.decDigits u).toArray⟩) ∧ Below w.heap.size w w' := by
 by_cases h100 : u < 100
 ·have hS := Linternal_strconv_small u h100
  go_enter Tryz.func124, Tryz.ntmps124
  go_wp2_with (go_at_call 151; ((with_reducible refine (hS _).mono ?_); rintro e w1 ⟨rfl, rfl⟩))
  go_ret
  exact ⟨rfl, Below.refl _ _⟩
 ·have hu1 : 1 ≤ u := by omega
  have hnd20 : Lib.nDigits u ≤ 20 := by have := Lib.numDigits_eq u hu1 hu64; split at this <;> omega
  have hb3 : Lib.nDigits u ≤ 24 := by omega
  have hal : Tryz.prog.arrayLen 211 = 24 := by kernel_rfl
  have hsl1 : ∀ W, (Instr.sliceAt 211 (.pointer (some ⟨w.heap.size, 0, none⟩)) none (some (.int .i64 (Lib.nDigits u : Int))) none).run Tryz.prog W = .ok (.slice (some ⟨w.heap.size, 0, none⟩) (Lib.nDigits u) 24) W := fun W => by
   rw [run_sliceAt_array_h W 211 ⟨w.heap.size, 0, none⟩ (by kernel_rfl) .i64 (Lib.nDigits u : Int) (by omega) (by rw [hal]; omega)]
   go_simp
  have hH0 := Lib.holds_zero0 w 211 (Lib.nDigits u) hb3
  have hfmt := Linternal_strconv_formatBase10 w.heap.size 0 24 u (Array.replicate (Lib.nDigits u) 0) (w.alloc (.cells Lib.zeros24 211)) hH0 (by rw [Array.size_replicate]; exact Lib.lt_pow_nDigits u) hu64 (by rw [Array.size_replicate]; omega)
  rw [Array.size_replicate] at hfmt
  have HH0 := Lib.hid hH0
  clear hH0 hal
  have hn := Linternal_strconv_numDigits u hu1 hu64
  go_enter Tryz.func124, Tryz.ntmps124
  go_wp2_with (go_at_call 152; refine (hn _ (Lib.tabIs_alloc htab _)).mono ?_; rintro e w' ⟨rfl, rfl⟩)
  go_at_call 153
  refine hfmt.mono ?_
  rintro e w' ⟨rfl, k, v', dk, rfl, hF⟩
  have hcv : (convert 56 9 (.slice (some ⟨w.heap.size, 0, none⟩) (Lib.nDigits u) 24)).run Tryz.prog ((Sort.putRow (fun (b : UInt8) => Value.int .u8 (b.toNat : Int)) (w.alloc (.cells Lib.zeros24 211)) w.heap.size 0 dk).drewN k) = .ok (.string ⟨(Lib.decDigits u).toArray⟩) ((Sort.putRow (fun (b : UInt8) => Value.int .u8 (b.toNat : Int)) (w.alloc (.cells Lib.zeros24 211)) w.heap.size 0 dk).drewN k) := by
   have h := run_convert_bytes_back (P := Tryz.prog) ((Sort.putRow (fun (b : UInt8) => Value.int .u8 (b.toNat : Int)) (w.alloc (.cells Lib.zeros24 211)) w.heap.size 0 dk).drewN k) 56 9 5 ⟨w.heap.size, 0, none⟩ 24 (Lib.decDigits u) Tryz.underlying56 Tryz.underlying5 Tryz.underlying9 (fun j hj => by
    rw [Lib.row_is_numeral hF j hj, Lib.add_plain, World.cell?_drewN]
    exact Sort.cell?_putRow (fun (b : UInt8) => Value.int .u8 (b.toNat : Int)) _ w.heap.size 0 _ dk HH0.out (by rw [hF.size, Array.size_replicate]) j (by rw [hF.size]; rw [Lib.decDigits_length] at hj; exact hj))
   rw [Lib.decDigits_length] at h
   exact h
  go_wp2
  go_ret
  obtain ⟨os, eo⟩ := Lib.fin_at w (.cells Lib.zeros24 211) dk k 0
  exact ⟨rfl, grow_below ⟨k, os, eo⟩⟩
theorem digitsOf_any (u : Nat) (hu64 : u < 18446744073709551616) (w : World) (htab : PowOk w) :
  Calls Tryz.prog 45 #[.int .u64 (u : Int)] w fun e w' => e = .returned (.string (str (Lib.decDigits u))) ∧ Below w.heap.size w w' := by
 have h1 := ifmt_any u hu64 w htab
 have h2 : Calls Tryz.prog 73 #[.int .u64 (u : Int), .int .i64 10] w fun e w' => e = .returned (.string (str (Lib.decDigits u))) ∧ Below w.heap.size w w' := by
  go_enter Tryz.func73, Tryz.ntmps73
  go_wp2_with (go_at_call 124; ((with_reducible refine h1.mono ?_); rintro e w1 ⟨rfl, hb⟩))
  go_ret
  exact ⟨rfl, hb⟩
 clear h1
 go_enter Tryz.func45, Tryz.ntmps45
 go_wp2_with (go_at_call 73; ((with_reducible refine h2.mono ?_); rintro e w1 ⟨rfl, hb⟩))
 go_ret
 exact ⟨rfl, hb⟩
theorem clone_any (s : ByteArray) (hs : s.size ≤ 281474976710656) (w : World) : Calls Tryz.prog 132 #[.string s] w fun e w' => e = .returned (.string s) ∧ Below w.heap.size w w' := by
 have h1 := Lstringslite_Clone s w hs
 go_enter Tryz.func132, Tryz.ntmps132
 go_wp2_with (go_at_call 158; ((with_reducible refine h1.mono ?_); rintro e w1 ⟨rfl, hb⟩))
 go_ret
 exact ⟨rfl, hb⟩
def tkV (t : Tk) (a : Int) : Array Value := #[.int .u8 (t.k : Int), .string (str t.t), .int .u64 (t.n : Int), .int .i64 a]
theorem list_ne {s : ByteArray} (h : s.data.toList ≠ []) : (s.toList == []) = false ∧ s.toList.isEmpty = false := by
 rw [ByteArray.toList_eq]
 constructor
 ·simpa using h
 ·simpa using h
theorem sign_ok (s : ByteArray) (t : Tk) (m : List UInt8) (h : signP s.data.toList = .ok t m) (w : World) :
  Calls Tryz.prog 96 #[.string s] w fun e w' => e = .returned (.tuple #[.agg #[.int .u8 (t.k : Int), .string (str t.t), .int .u64 (t.n : Int), .int .i64 0], .nilIface]) ∧ Below w.heap.size w w' := by
 obtain ⟨rfl, hne, hk, ht, hn⟩ := signP_ok h
 obtain ⟨h1, h2⟩ := list_ne hne
 rw [hk, hn, ht, str_of]
 clear hk hn ht h hne
 go_enter Tryz.func96, Tryz.ntmps96
 go_wp2
 exact bodyPost_ret (v := .tuple #[.agg #[.int .u8 4, .string s, .int .u64 0, .int .i64 0], .nilIface]) (by simp [results, Tryz.results96, go_sem]) rfl ⟨rfl, ((Below.refl _ _).alloc (Nat.le_refl _) _)⟩
theorem sign_er (s : ByteArray) (e0 : Nat) (h : signP s.data.toList = .er e0) (w : World) :
  Calls Tryz.prog 96 #[.string s] w fun e w' => e = .returned (.tuple #[.agg #[.int .u8 0, .string ⟨#[]⟩, .int .u64 0, .int .i64 0], .iface 28 (.int .i64 (e0 : Int))]) ∧ Below w.heap.size w w' := by
 have : s.data.toList = [] ∧ e0 = 7 := by
  unfold signP at h
  split at h
  ·rename_i h0; cases h; exact ⟨h0, rfl⟩
  ·cases h
 obtain ⟨h0, rfl⟩ := this
 have hs : s = ⟨#[]⟩ := by rw [← str_of s, h0]; rfl
 subst hs
 clear h h0
 go_enter Tryz.func96, Tryz.ntmps96
 go_wp2
 exact bodyPost_ret (v := .tuple #[.agg #[.int .u8 0, .string ⟨#[]⟩, .int .u64 0, .int .i64 0], .iface 28 (.int .i64 7)]) (by simp [results, Tryz.results96, go_sem]) rfl ⟨rfl, ((Below.refl _ _).alloc (Nat.le_refl _) _)⟩
theorem named_er (s : ByteArray) (e0 : Nat) (h : nameP s.data.toList = .er e0) (hs : s.size ≤ 16384) (w : World) :
  Calls Tryz.prog 92 #[.string s] w fun e w' => e = .returned (.tuple #[.agg #[.int .u8 0, .string ⟨#[]⟩, .int .u64 0, .int .i64 0], .iface 28 (.int .i64 (e0 : Int))]) ∧ Below w.heap.size w w' := by
 have : 16 < s.size ∧ e0 = 5 := by
  unfold nameP at h
  split at h
  ·rename_i h0; cases h; exact ⟨h0, rfl⟩
  ·cases h
 obtain ⟨h0, rfl⟩ := this
 clear h
 go_enter Tryz.func92, Tryz.ntmps92
 go_wp2
 exact bodyPost_ret (v := .tuple #[.agg #[.int .u8 0, .string ⟨#[]⟩, .int .u64 0, .int .i64 0], .iface 28 (.int .i64 5)]) (by simp [results, Tryz.results92, go_sem]) rfl ⟨rfl, ((Below.refl _ _).alloc (Nat.le_refl _) _)⟩
theorem bcell {W w1 : World} (hb : Below W.heap.size W w1) : (∀ b o, b < W.heap.size → w1.cell? ⟨b, o, none⟩ = W.cell? ⟨b, o, none⟩) ∧ (∀ b o, b < W.heap.size → w1.frozen? ⟨b, o, none⟩ = W.frozen? ⟨b, o, none⟩) :=
 ⟨fun b o h => hb.cell (p := ⟨b, o, none⟩) h, fun b o h => hb.frozen (p := ⟨b, o, none⟩) h⟩
theorem named_ok (s : ByteArray) (t : Tk) (m : List UInt8) (h : nameP s.data.toList = .ok t m) (hs : s.size ≤ 16384) (w : World) (hT : WordsOk w) :
  Calls Tryz.prog 92 #[.string s] w fun e w' => e = .returned (.tuple #[.agg #[.int .u8 (t.k : Int), .string (str t.t), .int .u64 (t.n : Int), .int .i64 0], .nilIface]) ∧ Below w.heap.size w w' := by
 have : s.size ≤ 16 ∧ t = ⟨if isWd s.data.toList then 2 else 1, s.data.toList, 0⟩ := by
  unfold nameP at h
  split at h
  ·cases h
  ·rename_i h0; cases h; exact ⟨Nat.le_of_not_lt h0, rfl⟩
 obtain ⟨h16, rfl⟩ := this
 simp only
 rw [str_of]
 have hW := isWord_any s (w.alloc (.cells #[.int .u8 0, .string ⟨#[]⟩, .int .u64 0, .int .i64 0] 95)) (fun j hj => by
  have hb : Below w.heap.size w (w.alloc (.cells #[.int .u8 0, .string ⟨#[]⟩, .int .u64 0, .int .i64 0] 95)) := (Below.refl _ _).alloc (Nat.le_refl _) _
  exact stay hb (hT j hj))
 have hC := clone_any s (by omega)
 clear h hT
 cases hw : isWd s.data.toList
 all_goals
  rw [hw] at hW
  clear hw
  go_enter Tryz.func92, Tryz.ntmps92
  go_wp2_with (first | (go_at_call 131; ((with_reducible refine hW.mono ?_); rintro e w1 ⟨rfl, rfl⟩)) | (go_at_call 132; ((with_reducible refine (hC _).mono ?_); (rintro e w1 ⟨rfl, hb⟩); obtain ⟨hc, hf⟩ := bcell hb; have hz : w.heap.size < w1.heap.size := (by have := hb.size; simp at this; omega))))
 ·exact bodyPost_ret (v := .tuple #[.agg #[.int .u8 1, .string s, .int .u64 0, .int .i64 0], .nilIface]) (by simp [results, Tryz.results92, go_sem, hc]) rfl ⟨rfl, ((((((Below.refl _ _).alloc (Nat.le_refl _) _).trans (hb.mono (by simp))).setCell (by simp) _).setCell (by simp) _).setCell (by simp) _).setCell (by simp) _⟩
 ·exact bodyPost_ret (v := .tuple #[.agg #[.int .u8 2, .string s, .int .u64 0, .int .i64 0], .nilIface]) (by simp [results, Tryz.results92, go_sem, hc]) rfl ⟨rfl, ((((((Below.refl _ _).alloc (Nat.le_refl _) _).trans (hb.mono (by simp))).setCell (by simp) _).setCell (by simp) _).setCell (by simp) _).setCell (by simp) _⟩
theorem ok_of {s : ByteArray} {t : Tk} {m : List UInt8} (h : numP s.data.toList = .ok t m) : Lib.parseUintB 64 s.data.toList = .ok t.n ∧ t.k = 3 ∧ t.t = [] ∧ str (Lib.decDigits t.n) = s := by
 unfold numP at h
 split at h
 ·rename_i u hu
  split at h
  ·rename_i hd; cases h; exact ⟨hu, rfl, rfl, by simp only; rw [hd, str_of]⟩
  ·cases h
 ·cases h
theorem er_of {s : ByteArray} {e : Nat} (h : numP s.data.toList = .er e) : e = 7 ∧ ((∃ u, Lib.parseUintB 64 s.data.toList = .ok u ∧ Lib.decDigits u ≠ s.data.toList) ∨ ∀ u, Lib.parseUintB 64 s.data.toList ≠ .ok u) := by
 unfold numP at h
 split at h
 ·rename_i u hu
  split at h
  ·cases h
  ·rename_i hd; cases h; exact ⟨rfl, Or.inl ⟨u, hu, hd⟩⟩
 ·rename_i hx
  cases h
  exact ⟨rfl, Or.inr fun u hu => hx u hu⟩
theorem number_ok (s : ByteArray) (t : Tk) (m : List UInt8) (h : numP s.data.toList = .ok t m) (hs : s.size ≤ 16384) (w : World) (hT : Tb w) :
  Calls Tryz.prog 94 #[.string s] w fun e w' => e = .returned (.tuple #[.agg #[.int .u8 (t.k : Int), .string (str t.t), .int .u64 (t.n : Int), .int .i64 0], .nilIface]) ∧ Below w.heap.size w w' := by
 obtain ⟨hp, hk, ht, hd⟩ := ok_of h
 have hlt := (numP_ok h).2.2.2.2
 have hP := Lstrconv_ParseUint_10_at64_ok s (by omega) t.n hp
 have hP' : ∀ w, Calls Tryz.prog 133 #[.string s, .int .i64 10, .int .i64 64] w fun e w' => e = .returned (.tuple #[.int .u64 (t.n : Int), .nilIface]) ∧ Below w.heap.size w w' := fun w => (hP w).mono fun e w' h => ⟨h.1, by rcases h.2 with h | h <;> rw [h]; exact Below.refl _ _; exact Lib.bytesWorld_below _ _ _⟩
 have hD := digitsOf_any t.n hlt
 rw [hk, ht]
 clear hk ht hp h hP
 rw [hd] at hD
 go_enter Tryz.func94, Tryz.ntmps94
 go_wp2_with (first | (go_at_call 133; ((with_reducible refine (hP' _).mono ?_); (rintro e w1 ⟨rfl, hb⟩); obtain ⟨hc, hf⟩ := bcell hb; have hz : w.heap.size < w1.heap.size := (by have := hb.size; simp at this; omega); have hT1 : Tb w1 := ((hT.alloc _).of hb))) | (go_at_call 45; ((with_reducible refine (hD _ hT1.pow).mono ?_); (rintro e w2 ⟨rfl, hb2⟩); obtain ⟨hc2, hf2⟩ := bcell hb2; have hz2 : w.heap.size < w2.heap.size := (by have := hb2.size; omega))))
 refine bodyPost_ret (v := .tuple #[.agg #[.int .u8 3, .string ⟨#[]⟩, .int .u64 t.n, .int .i64 0], .nilIface]) (by simp [results, Tryz.results94, go_sem, hc, hc2, hz]) rfl ⟨rfl, ?_⟩
 have hB : Below w.heap.size w w2 := (((Below.refl _ _).alloc (Nat.le_refl _) _).trans (hb.mono (by simp))).trans (hb2.mono (Nat.le_of_lt hz))
 exact (((hB.setCell (by simp) _).setCell (by simp) _).setCell (by simp) _).setCell (by simp) _
theorem pu_err (s : ByteArray) (hs : s.size ≤ 16384) (h : ∀ u, Lib.parseUintB 64 s.data.toList ≠ .ok u) (w : World) (hT : Tb w) :
  Calls Tryz.prog 133 #[.string s, .int .i64 10, .int .i64 64] w fun e w' => (∃ (v : Int) (t : TypeId) (N : Nat), e = .returned (.tuple #[.int .u64 v, .iface t (.pointer (some ⟨N, 0, none⟩))])) ∧ Below w.heap.size w w' := by
 by_cases hr : Lib.parseUintB 64 s.data.toList = .range
 ·obtain ⟨tp, p, hv⟩ := hT.ran
  exact (Lstrconv_ParseUint_10_at64_range_var s (by omega) hr tp p w hv).mono fun e w' ⟨N, he, _, _, hb⟩ => ⟨⟨_, _, N, he⟩, hb⟩
 ·obtain ⟨tp, p, hv⟩ := hT.syn
  exact (Any.strconv_ParseUint_10_at64_syntax_var LlaysPu14 s (by omega) (by
   cases hq : Lib.parseUintB 64 s.data.toList
   all_goals first | rfl | exact absurd hq hr | exact absurd hq (h _)) tp p w hv).mono fun e w' ⟨N, he, _, _, hb⟩ => ⟨⟨_, _, N, he⟩, hb⟩
theorem number_er (s : ByteArray) (e0 : Nat) (h : numP s.data.toList = .er e0) (hs : s.size ≤ 16384) (w : World) (hT : Tb w) :
  Calls Tryz.prog 94 #[.string s] w fun e w' => e = .returned (.tuple #[.agg #[.int .u8 0, .string ⟨#[]⟩, .int .u64 0, .int .i64 0], .iface 28 (.int .i64 (e0 : Int))]) ∧ Below w.heap.size w w' := by
 obtain ⟨rfl, ⟨u, hp, hd⟩ | h2⟩ := er_of h
 ·have hlt : u < 18446744073709551616 := by have := Lib.parseUintB_le hp; omega
  have hP := Lstrconv_ParseUint_10_at64_ok s (by omega) u hp
  have hP' : ∀ w, Calls Tryz.prog 133 #[.string s, .int .i64 10, .int .i64 64] w fun e w' => e = .returned (.tuple #[.int .u64 (u : Int), .nilIface]) ∧ Below w.heap.size w w' := fun w => (hP w).mono fun e w' h => ⟨h.1, by rcases h.2 with h | h <;> rw [h]; exact Below.refl _ _; exact Lib.bytesWorld_below _ _ _⟩
  have hD := digitsOf_any u hlt
  have hne : ((str (Lib.decDigits u)).toList == s.toList) = false := by
   rw [ByteArray.toList_eq, ByteArray.toList_eq, str_list]
   simpa using hd
  generalize str (Lib.decDigits u) = d at hD hne
  clear hd hp h hP
  go_enter Tryz.func94, Tryz.ntmps94
  go_wp2_with (first | (go_at_call 133; ((with_reducible refine (hP' _).mono ?_); (rintro e w1 ⟨rfl, hb⟩); obtain ⟨hc, hf⟩ := bcell hb; have hz : w.heap.size < w1.heap.size := (by have := hb.size; simp at this; omega); have hT1 : Tb w1 := ((hT.alloc _).of hb))) | (go_at_call 45; ((with_reducible refine (hD _ hT1.pow).mono ?_); (rintro e w2 ⟨rfl, hb2⟩); obtain ⟨hc2, hf2⟩ := bcell hb2; have hz2 : w.heap.size < w2.heap.size := (by have := hb2.size; omega))))
  refine bodyPost_ret (v := .tuple #[.agg #[.int .u8 0, .string ⟨#[]⟩, .int .u64 0, .int .i64 0], .iface 28 (.int .i64 7)]) (by simp [results, Tryz.results94, go_sem, hc, hc2, hz]) rfl ⟨rfl, ?_⟩
  have hB : Below w.heap.size w w2 := (((Below.refl _ _).alloc (Nat.le_refl _) _).trans (hb.mono (by simp))).trans (hb2.mono (Nat.le_of_lt hz))
  exact (((hB.setCell (by simp) _).setCell (by simp) _).setCell (by simp) _).setCell (by simp) _
 ·have hP := pu_err s hs h2
  clear h h2
  go_enter Tryz.func94, Tryz.ntmps94
  go_wp2_with (go_at_call 133; ((with_reducible refine (hP _ (hT.alloc _)).mono ?_); (rintro e w1 ⟨⟨v, t, N, rfl⟩, hb⟩); obtain ⟨hc, hf⟩ := bcell hb; have hz : w.heap.size < w1.heap.size := (by have := hb.size; simp at this; omega)))
  refine bodyPost_ret (v := .tuple #[.agg #[.int .u8 0, .string ⟨#[]⟩, .int .u64 0, .int .i64 0], .iface 28 (.int .i64 7)]) (by simp [results, Tryz.results94, go_sem, hc]) rfl ⟨rfl, ?_⟩
  have hB : Below w.heap.size w w1 := ((Below.refl _ _).alloc (Nat.le_refl _) _).trans (hb.mono (by simp))
  exact (((hB.setCell (by simp) _).setCell (by simp) _).setCell (by simp) _).setCell (by simp) _
end Go.Proofs.YtkibkaoffgnmkaaGreatDoor
