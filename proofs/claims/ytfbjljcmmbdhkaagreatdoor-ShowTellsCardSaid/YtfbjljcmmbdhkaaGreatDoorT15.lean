/- Plain: small expressions; how long shown texts are. -/
import Derived.Test.YtfbjljcmmbdhkaaGreatDoorT06
import Derived.Test.YtfbjljcmmbdhkaaGreatDoorT11
import Derived.Lib.ItoaNum
import Derived.Test.YtfbjljcmmbdhkaaGreatDoorT14
namespace Go.Proofs.YtfbjljcmmbdhkaaGreatDoor
set_option linter.unusedVariables false
set_option linter.unusedSimpArgs false
set_option maxRecDepth 100000
set_option maxHeartbeats 200000000
section
mutual
def St.nd : St → Prop
 | .mk _ _ _ _ _ ex _ bd el => (∀ x ∈ ex, x.nodes ≤ 9000) ∧ ndS bd ∧ ndS el
def ndS : List St → Prop
 | [] => True
 | s :: r => s.nd ∧ ndS r
end
theorem ndS_iff : ∀ {l : List St}, ndS l ↔ ∀ x ∈ l, x.nd
 | [] => by rw [ndS]; simp
 | x :: l => by rw [ndS, ndS_iff (l := l)]; simp
theorem xp_len {x : Xp} (h : mayB 40 x = true) (hn : x.nodes ≤ 9000) : (xpT x).length ≤ 45000 := Nat.le_trans (tell_len 40 x h) (by omega)
theorem tkk_len {t : Tk} {m : List UInt8} (h : TkOk t m) : m.length ≤ 20 := by
 rcases h with ⟨_, _, _, h, _⟩ | ⟨_, _, _, h, hn, _⟩ | ⟨_, _, _, h⟩
 ·unfold nameP at h
  by_cases c : 16 < m.length
  ·rw [if_pos c] at h; cases h
  ·omega
 ·rw [← h, Lib.decDigits_length]; exact Lib.nDigits_le20 _ hn
 ·have : ∀ s ∈ signsL, s.length ≤ 20 := by decide
  exact this _ h
theorem ljoin_len : ∀ (l : List (List UInt8)), (∀ x ∈ l, x.length ≤ 20) → (Lib.join l [32]).length ≤ 21 * l.length
 | [], _ => by simp [Lib.join]
 | [x], h => by
   have := h x (by simp)
   simp [Lib.join]
   omega
 | x :: y :: r, h => by
   have h1 := h x (by simp)
   have h2 := ljoin_len (y :: r) (fun z hz => h z (List.mem_cons_of_mem _ hz))
   rw [join_two]
   simp only [List.length_append, List.length_cons] at h2 ⊢
   omega
theorem pcs_le (r : List Tk) : (pcs r).length ≤ r.length := by
 induction r with
 | nil => simp [pcs]
 | cons t r ih =>
  have e : pcs (t :: r) = (if 1 ≤ t.k ∧ t.k ≤ 4 then [t.piece] else []) ++ pcs r := by simp [pcs]
  rw [e, List.length_append, List.length_cons]
  split <;> simp <;> omega
theorem joinT_len {r : List Tk} (h : Toks r) : (joinT r).length ≤ 21 * r.length := by
 have h1 : ∀ x ∈ pcs r, x.length ≤ 20 := by
  intro x hx
  unfold pcs at hx
  obtain ⟨t, ht, hx⟩ := List.mem_flatMap.1 hx
  obtain ⟨m, hm⟩ := h t ht
  rw [if_pos hm.k, List.mem_singleton] at hx
  rw [hx, hm.piece]
  exact tkk_len hm
 have h2 := ljoin_len (pcs r) h1
 have h3 := pcs_le r
 unfold joinT
 omega
end
section
open Go.ChangeShapes Go.WideShapes Go.ChangeAt Go.RowKit
theorem conv1u (c : Nat) (hc : c < 256) (g : Nat) (W : World) (h : W.cell? ⟨g, 0, none⟩ = some (.int .u8 c)) :
 (convert 56 9 (.slice (some ⟨g, 0, none⟩) 1 1)).run Tryz.prog W = .ok (.string (str [UInt8.ofNat c])) W := by
 have e : str [UInt8.ofNat c] = strOfNums [(c : Int)] := by
  apply ByteArray.ext
  simp [str, strOfNums]
 rw [e]
 refine run_convert_bytes_arg (P := Tryz.prog) _ 56 5 Tryz.underlying56 Tryz.underlying5 g 0 1 1 [(c : Int)] rfl ?_ 9 Tryz.underlying9
 intro i hi
 obtain rfl : i = 0 := by omega
 exact h
theorem conv1m (c : Nat) (hc : c < 256) (w : World) :
 (convert 56 9 (.slice (some ⟨w.heap.size, 0, none⟩) 1 1)).run Tryz.prog (w.alloc (.cells #[.int .u8 c] 5)) = .ok (.string (str [UInt8.ofNat c])) (w.alloc (.cells #[.int .u8 c] 5)) :=
 conv1u c hc _ _ ((rowG_at #[.int .u8 c] 5 w w.heap.size rfl).1 0 (by simp))
theorem dd_more (u : Nat) (hu : ¬ u < 10) : Lib.decDigits u = Lib.decDigits (u / 10) ++ [UInt8.ofNat (48 + u % 10)] := by rw [Lib.decDigits, dif_neg hu]
theorem dd_len : ∀ (k u : Nat), u < 10 ^ (k + 1) → (Lib.decDigits u).length ≤ k + 1 := by
 intro k
 induction k with
 | zero => intro u h; rw [Lib.decDigits_one (by simpa using h)]; simp
 | succ k ih =>
  intro u h
  by_cases c : u < 10
  ·rw [Lib.decDigits_one c]; simp
  ·rw [dd_more u c, List.length_append]
   have := ih (u / 10) (by rw [Nat.pow_succ] at h; omega)
   simpa using this
theorem rdigits_any (n : Nat) (hn : n < 18446744073709551616) (w : World) :
 Calls Tryz.prog 82 #[.int .u64 (n : Int)] w fun e w' => e = .returned (.string (str (Lib.decDigits n))) ∧ Below w.heap.size w w' := by
 have hln := dd_len 19 n (by omega)
 go_enter Tryz.func82, Tryz.ntmps82
 go_wp2
 go_loopw [0, 3] (fun nv sv wr => ∃ (m : Nat) (s : List UInt8), nv = .int .u64 (m : Int) ∧ sv = .string (str s) ∧ m ≤ n ∧ Lib.decDigits m ++ s = Lib.decDigits n ∧ Below w.heap.size w wr) (fun nv _ _ => (intOf nv).toNat)
 case atStart => exact ⟨n, [], rfl, rfl, Nat.le_refl _, List.append_nil _, Below.refl _ _⟩
 case round =>
  obtain ⟨m, s, rfl, rfl, hm, hd, hB⟩ := hrel
  have hls : s.length ≤ 20 := by have := congrArg List.length hd; rw [List.length_append] at this; omega
  by_cases hlt : m < 10
  ·have hge : ¬ (10 : Int) ≤ (m : Int) := by omega
   have hcv := conv1m (48 + m) (by omega) wr
   have e1 : ((48 + m : Nat) : Int) = 48 + (m : Int) := by omega
   rw [e1] at hcv
   rw [Lib.decDigits_one hlt] at hd
   have hap : str (Lib.decDigits n) = str [UInt8.ofNat (48 + m)] ++ str s := by rw [← hd, str_app]
   clear hd
   have hz := str_size s
   have hz2 : (str [UInt8.ofNat (48 + m)]).size = 1 := by rw [str_size]; rfl
   have hn2 : ¬ 9223372036854775807 < (str [UInt8.ofNat (48 + m)]).size + (str s).size := by rw [hz, hz2]; omega
   generalize str [UInt8.ofNat (48 + m)] = sd at *
   generalize str s = ss at *
   have ha2 : IntKind.u64.wrap (48 + (m : Int)) = 48 + (m : Int) := by rw [IntKind.wrap_u64]; omega
   have ha3 : IntKind.u8.wrap (48 + (m : Int)) = 48 + (m : Int) := by rw [IntKind.wrap_u8']; omega
   go_wp2
   go_ret
   exact ⟨rfl, hB.alloc hB.size _⟩
  ·have hge : (10 : Int) ≤ (m : Int) := by omega
   have hcv := conv1m (48 + m % 10) (by omega) wr
   have e1 : ((48 + m % 10 : Nat) : Int) = 48 + ((m % 10 : Nat) : Int) := by omega
   rw [e1] at hcv
   rw [dd_more m hlt] at hd
   have hq : (m : Int).tdiv 10 = ((m / 10 : Nat) : Int) := by rw [Int.tdiv_eq_ediv_of_nonneg (Int.natCast_nonneg _)]; omega
   have hr : (m : Int).tmod 10 = ((m % 10 : Nat) : Int) := by rw [Int.tmod_eq_emod_of_nonneg (Int.natCast_nonneg _)]; omega
   have hz := str_size s
   have hz2 : (str [UInt8.ofNat (48 + m % 10)]).size = 1 := by rw [str_size]; rfl
   have hn2 : ¬ 9223372036854775807 < (str [UInt8.ofNat (48 + m % 10)]).size + (str s).size := by rw [hz, hz2]; omega
   have hap : str ([UInt8.ofNat (48 + m % 10)] ++ s) = str [UInt8.ofNat (48 + m % 10)] ++ str s := (str_app _ _).symm
   have hd' : Lib.decDigits (m / 10) ++ ([UInt8.ofNat (48 + m % 10)] ++ s) = Lib.decDigits n := by rw [← List.append_assoc]; exact hd
   obtain ⟨s2, hs2⟩ : ∃ s2, [UInt8.ofNat (48 + m % 10)] ++ s = s2 := ⟨_, rfl⟩
   rw [hs2] at hap hd'
   clear hs2 hd
   generalize str [UInt8.ofNat (48 + m % 10)] = sd at *
   have hm10 : m % 10 < 10 := by omega
   have hmq : m / 10 < m := by omega
   generalize m % 10 = r at *
   generalize m / 10 = q at *
   have ha2 : IntKind.u64.wrap (48 + (r : Int)) = 48 + (r : Int) := by rw [IntKind.wrap_u64]; omega
   have ha3 : IntKind.u8.wrap (48 + (r : Int)) = 48 + (r : Int) := by rw [IntKind.wrap_u8']; omega
   have ha4 : IntKind.u64.wrap (q : Int) = q := by rw [IntKind.wrap_u64]; omega
   have ha5 : IntKind.u64.wrap (r : Int) = r := by rw [IntKind.wrap_u64]; omega
   go_wp2
   go_roundw
   case rel => exact ⟨q, s2, rfl, by rw [hap], by omega, hd', hB.alloc hB.size _⟩
   case measure => simp [intOf]; omega
end
end Go.Proofs.YtfbjljcmmbdhkaaGreatDoor
