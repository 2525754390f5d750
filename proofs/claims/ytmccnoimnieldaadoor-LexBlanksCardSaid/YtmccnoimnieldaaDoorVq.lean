/- LexBlanks' walk: plain part. -/
import Derived.Test.YtmccnoimnieldaaDoorVo
namespace Go.Proofs.YtmccnoimnieldaaDoor
open Go.ChangeShapes Go.WideShapes Go.ChangeAt Go.RowKit
set_option linter.unusedVariables false
/-- Which blanks stand ahead of the k-th token more. -/
def bkF (xs : List Nat) (k : Nat) : List UInt8 := if k < xs.length then (List.range (xs.getD k 0 % 4)).map fun n => if (xs.getD k 0 / 4 + n) % 2 = 0 then 32 else 10 else []
theorem bkF_blank (xs : List Nat) (k : Nat) : ∀ c ∈ bkF xs k, isB c = true := by
  intro c hc
  unfold bkF at hc
  split at hc
  · simp only [List.mem_map, List.mem_range] at hc
    obtain ⟨n, _, rfl⟩ := hc
    split <;> decide
  · simp at hc
theorem bkF_len (xs : List Nat) (k : Nat) : (bkF xs k).length ≤ 3 := by
  unfold bkF
  split
  · simp; omega
  · simp
theorem bkF_no (xs : List Nat) (k : Nat) (h : xs.length ≤ k) : bkF xs k = [] := by unfold bkF; rw [if_neg (by omega)]
theorem bkF_take (xs : List Nat) (k n : Nat) (hk : k < xs.length) (hn : n < xs.getD k 0 % 4) : (bkF xs k).take (n + 1) = (bkF xs k).take n ++ [if (xs.getD k 0 / 4 + n) % 2 = 0 then 32 else 10] := by
  have hl : n < (bkF xs k).length := by unfold bkF; rw [if_pos hk]; simpa using hn
  rw [List.take_succ_eq_append_getElem hl]
  congr 2
  unfold bkF
  simp only [if_pos hk, List.getElem_map, List.getElem_range]
theorem bkF_all (xs : List Nat) (k n : Nat) (h : ¬ (k < xs.length ∧ n < xs.getD k 0 % 4)) : (bkF xs k).take n = bkF xs k := by
  rw [List.take_of_length_le]
  unfold bkF
  split
  · rename_i hk
    have : ¬ n < xs.getD k 0 % 4 := fun hn => h ⟨hk, hn⟩
    rw [List.length_map, List.length_range]; omega
  · simp
theorem ats_drop (T : List (Tk × Nat)) (k : Nat) (h : k < T.length) : (ats T).drop k = T[k].2 :: (ats T).drop (k + 1) := by
  have h' : k < (ats T).length := by simpa [ats] using h
  rw [List.drop_eq_getElem_cons h']
  simp [ats]
theorem ins_tok {bk : Nat → List UInt8} {s : ByteArray} {T : List (Tk × Nat)} {bs full : List UInt8} {i k : Nat} (hi : i < s.size) (hk : k < T.length) (he : T[k].2 = i) (h : bs ++ ins bk (s.data.toList.drop i) i ((ats T).drop k) k = full) :
    (bs ++ bk k) ++ ins bk (s.data.toList.drop i) i ((ats T).drop (k + 1)) (k + 1) = full := by
  rw [← h, ats_drop T k hk, he, drop_cons s i hi, ins_at, List.append_assoc]
theorem ins_no {bk : Nat → List UInt8} {s : ByteArray} {T : List (Tk × Nat)} {bs full : List UInt8} {i k : Nat} (hi : i < s.size) (he : ∀ h : k < T.length, T[k].2 ≠ i) (h : bs ++ ins bk (s.data.toList.drop i) i ((ats T).drop k) k = full) :
    (bs ++ [s[i]'hi]) ++ ins bk (s.data.toList.drop (i + 1)) (i + 1) ((ats T).drop k) k = full := by
  rw [← h, drop_cons s i hi, ins_on]
  · simp
  · intro p q e
    by_cases hk : k < T.length
    · rw [ats_drop T k hk] at e; cases e; exact he hk
    · rw [List.drop_of_length_le (by simp [ats]; omega)] at e; cases e
theorem ins_done {bk : Nat → List UInt8} {s : ByteArray} {ps : List Nat} {bs full : List UInt8} {k : Nat} (h : bs ++ ins bk (s.data.toList.drop s.size) s.size ps k = full) : bs = full := by
  have e : s.data.toList.drop s.size = [] := by rw [List.drop_of_length_le (by simp)]
  rw [e, ins_nil, List.append_nil] at h
  exact h
theorem lexT_ins {s : ByteArray} {T : List (Tk × Nat)} (xs : List Nat) (hx : xs.length ≤ 200) (hs : s.size ≤ 2048) (h : lexT s.data.toList = .ok T) :
    (ins (bkF xs) s.data.toList 0 (ats T) 0).length ≤ 2700 ∧ ∃ T', lexT (ins (bkF xs) s.data.toList 0 (ats T) 0 ++ [10, 32]) = .ok T' ∧ bare T' = bare T := by
  have hsl : s.data.toList.length = s.size := by simp
  have hl := ins_len (bkF xs) 200 (bkF_len xs) (fun k hk => bkF_no xs k (by omega)) _ s.data.toList 0 (ats T) 0 (Nat.le_refl _)
  rw [hsl] at hl
  refine ⟨by omega, ?_⟩
  obtain ⟨T', h1, h2⟩ := lex_ins (bkF xs) (bkF_blank xs) [10, 32] (by intro c hc; simp at hc; rcases hc with rfl | rfl <;> decide) _ _ _ _ (lexT_ok h).2 0 ((ins (bkF xs) s.data.toList 0 (ats T) 0 ++ [10, 32]).length + 1) 0 (by omega)
  refine ⟨T', ?_, h2⟩
  unfold lexT
  rw [if_neg (by simp only [List.length_append, List.length_cons, List.length_nil]; omega)]
  exact h1
end Go.Proofs.YtmccnoimnieldaaDoor
