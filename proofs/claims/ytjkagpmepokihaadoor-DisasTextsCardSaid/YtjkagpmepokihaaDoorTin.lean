/- Unlike instructions have unlike texts (plain); the words of a text are its instructions'. -/
import Derived.Test.YtjkagpmepokihaaDoorAlD
import Derived.Test.YtjkagpmepokihaaDoorTxt
namespace Go.Proofs.YtjkagpmepokihaaDoor
open Go
set_option linter.unusedVariables false
def Hd (l : List UInt8) : Prop := l = [] ∨ ∃ t, l = 32 :: t
theorem span_inj : ∀ (a b r q : List UInt8), (∀ c ∈ a, c ≠ 32) → (∀ c ∈ b, c ≠ 32) → Hd r → Hd q → a ++ r = b ++ q → a = b ∧ r = q
  | [], [], r, q, _, _, _, _, h => ⟨rfl, h⟩
  | [], c :: b, r, q, _, hb, hr, _, h => by
    rcases hr with rfl | ⟨t, rfl⟩
    · simp at h
    · simp at h; exact absurd h.1.symm (hb c (by simp))
  | c :: a, [], r, q, ha, _, _, hq, h => by
    rcases hq with rfl | ⟨t, rfl⟩
    · simp at h
    · simp at h; exact absurd h.1 (ha c (by simp))
  | c :: a, d :: b, r, q, ha, hb, hr, hq, h => by
    simp only [List.cons_append, List.cons.injEq] at h
    obtain ⟨h1, h2⟩ := span_inj a b r q (fun x hx => ha x (by simp [hx])) (fun x hx => hb x (by simp [hx])) hr hq h.2
    exact ⟨by rw [h.1, h1], h2⟩
theorem dig_byte (d : Nat) (h : d < 10) : UInt8.ofNat (48 + d) ≠ 32 ∧ UInt8.ofNat (48 + d) ≠ 45 := by
  have : ∀ d < 10, UInt8.ofNat (48 + d) ≠ 32 ∧ UInt8.ofNat (48 + d) ≠ 45 := by decide
  exact this d h
theorem dig_inj (d e : Nat) (h : d < 10) (k : e < 10) (hh : UInt8.ofNat (48 + d) = UInt8.ofNat (48 + e)) : d = e := by
  have : ∀ d < 10, ∀ e < 10, UInt8.ofNat (48 + d) = UInt8.ofNat (48 + e) → d = e := by decide
  exact this d h e k hh
theorem dec_small (n : Nat) (h : n < 10) : Lib.decDigits n = [UInt8.ofNat (48 + n)] := by rw [Lib.decDigits, dif_pos h]
theorem dec_big (u : Nat) (hu : ¬ u < 10) : Lib.decDigits u = Lib.decDigits (u / 10) ++ [UInt8.ofNat (48 + u % 10)] := by rw [Lib.decDigits, dif_neg hu]
theorem dec_bytes (u : Nat) : ∀ c ∈ Lib.decDigits u, c ≠ 32 ∧ c ≠ 45 := by
  induction u using Nat.strongRecOn with
  | ind u ih =>
    intro c hc
    by_cases h : u < 10
    · rw [dec_small u h] at hc
      rw [List.mem_singleton] at hc; subst hc; exact dig_byte u h
    · rw [dec_big u h] at hc
      rcases List.mem_append.1 hc with hc | hc
      · exact ih (u / 10) (by omega) c hc
      · rw [List.mem_singleton] at hc; subst hc; exact dig_byte (u % 10) (by omega)
theorem dec_pos (u : Nat) : 1 ≤ (Lib.decDigits u).length := by
  rw [Lib.decDigits_length]; exact Lib.nDigits_pos u
theorem dec_inj (u : Nat) : ∀ v, Lib.decDigits u = Lib.decDigits v → u = v := by
  induction u using Nat.strongRecOn with
  | ind u ih =>
    intro v h
    by_cases hu : u < 10
    · by_cases hv : v < 10
      · rw [dec_small u hu, dec_small v hv] at h
        exact dig_inj u v hu hv (by simpa using h)
      · rw [dec_small u hu, dec_big v hv] at h
        have hl := congrArg List.length h
        have hp := dec_pos (v / 10)
        rw [List.length_append, List.length_singleton, List.length_singleton] at hl; omega
    · by_cases hv : v < 10
      · rw [dec_big u hu, dec_small v hv] at h
        have hl := congrArg List.length h
        have hp := dec_pos (u / 10)
        rw [List.length_append, List.length_singleton, List.length_singleton] at hl; omega
      · rw [dec_big u hu, dec_big v hv] at h
        obtain ⟨h1, h2⟩ := List.append_inj' h rfl
        have e1 := ih (u / 10) (by omega) (v / 10) h1
        have e2 := dig_inj (u % 10) (v % 10) (by omega) (by omega) (by simpa using h2)
        omega
theorem itoa_bytes (n : Int) : ∀ c ∈ Lib.itoa n, c ≠ 32 := by
  intro c hc
  unfold Lib.itoa at hc
  split at hc
  · rcases List.mem_cons.1 hc with rfl | hc
    · decide
    · exact (dec_bytes _ c hc).1
  · exact (dec_bytes _ c hc).1
theorem itoa_inj (n m : Int) (h : Lib.itoa n = Lib.itoa m) : n = m := by
  have neg : ∀ (u : Nat) (r : List UInt8), 45 :: r = Lib.decDigits u → False := fun u r h => by
    have : (45 : UInt8) ∈ Lib.decDigits u := by rw [← h]; simp
    exact (dec_bytes u 45 this).2 rfl
  unfold Lib.itoa at h
  split at h <;> split at h
  · have := dec_inj _ _ (by simpa using h); omega
  · exact (neg _ _ h).elim
  · exact (neg _ _ h.symm).elim
  · have := dec_inj _ _ h; omega
theorem name_tab : ∀ k < 35, ∀ j < 35, (k == 0 || j == 0 || nameB k != nameB j || k == j) = true := by decide +kernel
theorem name_sp : ∀ k < 35, (nameB k).all (fun c => c != 32) = true := by decide +kernel
theorem hd_reg (b : Bool) (r : Nat) (R : List UInt8) (h : Hd R) : Hd (regT b r ++ R) := by
  cases b
  · simpa [regT] using h
  · exact Or.inr ⟨_, rfl⟩
theorem reg_part (b : Bool) (r q : Nat) (R Q : List UInt8) (hR : Hd R) (hQ : Hd Q) (hr : regB b r = true) (hq : regB b q = true) (h : regT b r ++ R = regT b q ++ Q) : r = q ∧ R = Q := by
  cases b
  · have h1 := (reg_f r).1 hr
    have h2 := (reg_f q).1 hq
    exact ⟨by omega, by simpa [regT] using h⟩
  · simp only [regT, if_true, List.cons_append, List.cons.injEq, true_and] at h
    obtain ⟨h1, h2⟩ := span_inj _ _ R Q (fun c hc => (dec_bytes r c hc).1) (fun c hc => (dec_bytes q c hc).1) hR hQ h
    exact ⟨dec_inj r q h1, h2⟩
theorem imm_none (f : Nat) (hf : f ≤ 8) (h0 : f ≠ 0) (ht : immT f = false) (v : Int) (h : immB f v = true) : v = 0 := by
  rcases form_cases hf h0 with rfl | rfl | rfl | rfl | rfl | rfl | rfl | rfl
  · exact (imm1 v).1 h
  · simp [immT] at ht
  · simp [immT] at ht
  · simp [immT] at ht
  · simp [immT] at ht
  · simp [immT] at ht
  · simp [immT] at ht
  · exact (imm8 v).1 h
/-- Unlike instructions that have words have unlike texts. -/
theorem txt_inj {x y : In} (hx : x.ok = true) (hy : y.ok = true) (h : txtB x = txtB y) : x = y := by
  obtain ⟨h1, h2, h3, h4, h5, h6⟩ := ok_parts hx
  obtain ⟨g1, g2, g3, g4, g5, g6⟩ := ok_parts hy
  have px := op_of hx
  have py := op_of hy
  have hI : ∀ (b : Bool) (v : Int), Hd (if b then 32 :: Lib.itoa v else []) := fun b v => by
    cases b
    · exact Or.inl rfl
    · exact Or.inr ⟨_, rfl⟩
  unfold txtB at h
  simp only [List.append_assoc] at h
  have nx : ∀ c ∈ nameB x.op, c ≠ 32 := fun c hc => by simpa using List.all_eq_true.1 (name_sp x.op h1) c hc
  have ny : ∀ c ∈ nameB y.op, c ≠ 32 := fun c hc => by simpa using List.all_eq_true.1 (name_sp y.op g1) c hc
  obtain ⟨e0, h⟩ := span_inj _ _ _ _ nx ny (hd_reg _ _ _ (hd_reg _ _ _ (hd_reg _ _ _ (hI _ _)))) (hd_reg _ _ _ (hd_reg _ _ _ (hd_reg _ _ _ (hI _ _)))) h
  have eo : x.op = y.op := by
    have := name_tab x.op h1 y.op g1
    simp only [Bool.or_eq_true, beq_iff_eq, bne_iff_ne] at this
    rcases this with ((h0 | h0) | h0) | h0
    · omega
    · omega
    · exact absurd e0 h0
    · exact h0
  rw [← eo] at h g2 g3 g4 g5 g6
  obtain ⟨e1, h⟩ := reg_part _ _ _ _ _ (hd_reg _ _ _ (hd_reg _ _ _ (hI _ _))) (hd_reg _ _ _ (hd_reg _ _ _ (hI _ _))) h3 g3 h
  obtain ⟨e2, h⟩ := reg_part _ _ _ _ _ (hd_reg _ _ _ (hI _ _)) (hd_reg _ _ _ (hI _ _)) h4 g4 h
  obtain ⟨e3, h⟩ := reg_part _ _ _ _ _ (hI _ _) (hI _ _) h5 g5 h
  have e4 : x.imm = y.imm := by
    cases ht : immT (formT x.op)
    · have hf8 := form_le x.op h1
      rw [imm_none _ hf8 h2 ht _ h6, imm_none _ hf8 h2 ht _ g6]
    · rw [ht, if_pos rfl, if_pos rfl] at h
      exact itoa_inj _ _ (by simpa using h)
  cases x; cases y; simp_all
theorem str_toList (l : List UInt8) : (str l).toList = l := by rw [ByteArray.toList_eq]; rfl
theorem txt_ne {x y : In} (hx : x.ok = true) (hy : y.ok = true) (h : x ≠ y) : ((str (txtB x)).toList == (str (txtB y)).toList) = false := by
  rw [beq_eq_false_iff_ne, str_toList, str_toList]
  exact fun e => h (txt_inj hx hy e)
/-- The words of instructions' bytes. -/
theorem word4 (v : Nat) (h : v < 4294967296) : wordv [UInt8.ofNat (v % 256), UInt8.ofNat (v / 256 % 256), UInt8.ofNat (v / 65536 % 256), UInt8.ofNat (v / 16777216 % 256)] = v := by
  simp only [wordv, UInt8.toNat_ofNat']
  omega
end Go.Proofs.YtjkagpmepokihaaDoor
