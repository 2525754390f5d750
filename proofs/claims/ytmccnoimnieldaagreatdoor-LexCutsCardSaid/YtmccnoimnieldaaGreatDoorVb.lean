/- Plain: a text with more blanks ahead of its tokens has the same tokens, but for their places. -/
import Derived.Test.YtmccnoimnieldaaGreatDoorVa
namespace Go.Proofs.YtmccnoimnieldaaGreatDoor
set_option linter.unusedVariables false
/-- The text with more blanks: ahead of the byte at place i those of each token, the k-th one on, that begins there. -/
def ins (bk : Nat → List UInt8) (l : List UInt8) (i : Nat) (ps : List Nat) (k : Nat) : List UInt8 :=
  match l, ps with
  | [], _ => []
  | c :: s, [] => c :: ins bk s (i + 1) [] k
  | c :: s, p :: ps => if p = i then bk k ++ ins bk (c :: s) i ps (k + 1) else c :: ins bk s (i + 1) (p :: ps) k
termination_by l.length + ps.length
theorem ins_nil (bk : Nat → List UInt8) (i : Nat) (ps : List Nat) (k : Nat) : ins bk [] i ps k = [] := by rw [ins]
theorem ins_at (bk : Nat → List UInt8) (c : UInt8) (s : List UInt8) (i : Nat) (ps : List Nat) (k : Nat) : ins bk (c :: s) i (i :: ps) k = bk k ++ ins bk (c :: s) i ps (k + 1) := by rw [ins, if_pos rfl]
theorem ins_on (bk : Nat → List UInt8) (c : UInt8) (s : List UInt8) (i : Nat) (ps : List Nat) (k : Nat) (h : ∀ p q, ps = p :: q → p ≠ i) : ins bk (c :: s) i ps k = c :: ins bk s (i + 1) ps k := by
  cases ps with
  | nil => rw [ins]
  | cons p q => rw [ins, if_neg (h p q rfl)]
theorem ins_skip (bk : Nat → List UInt8) (r : List UInt8) (ps : List Nat) (k : Nat) : ∀ (m : List UInt8) (i : Nat), (∀ p ∈ ps, i + m.length ≤ p) → ins bk (m ++ r) i ps k = m ++ ins bk r (i + m.length) ps k := by
  intro m
  induction m with
  | nil => intro i _; rfl
  | cons c m ih =>
    intro i h
    rw [List.cons_append, ins_on _ _ _ _ _ _ (fun p q e => by have := h p (by rw [e]; simp); simp only [List.length_cons] at this; omega), ih (i + 1) (fun p hp => by have := h p hp; simp only [List.length_cons] at this; omega)]
    simp only [List.length_cons, List.cons_append]
    rw [show i + 1 + m.length = i + (m.length + 1) by omega]
theorem ins_head (bk : Nat → List UInt8) (hbk : ∀ k, ∀ c ∈ bk k, isB c = true) (tail : List UInt8) (ht : ∀ c ∈ tail, isB c = true) (r : List UInt8) (c : UInt8) (r' : List UInt8) :
    ∀ (ps : List Nat) (j k : Nat), ins bk r j ps k ++ tail = c :: r' → isB c = true ∨ ∃ r'', r = c :: r'' := by
  intro ps
  cases r with
  | nil => intro j k h; rw [ins_nil, List.nil_append] at h; exact Or.inl (ht c (by rw [h]; simp))
  | cons d s =>
    induction ps with
    | nil =>
      intro j k h
      rw [ins_on _ _ _ _ _ _ (by simp), List.cons_append] at h
      cases h
      exact Or.inr ⟨s, rfl⟩
    | cons p ps ih =>
      intro j k h
      by_cases e : p = j
      · subst e
        rw [ins_at, List.append_assoc] at h
        cases hb : bk k with
        | nil => rw [hb, List.nil_append] at h; exact ih _ _ h
        | cons x y =>
          rw [hb, List.cons_append] at h
          cases h
          exact Or.inl (hbk k c (by rw [hb]; simp))
      · rw [ins_on _ _ _ _ _ _ (fun p' q e' => by cases e'; exact e), List.cons_append] at h
        cases h
        exact Or.inr ⟨s, rfl⟩
theorem ins_len (bk : Nat → List UInt8) (N : Nat) (h3 : ∀ k, (bk k).length ≤ 3) (h0 : ∀ k, N ≤ k → bk k = []) : ∀ (n : Nat) (l : List UInt8) (i : Nat) (ps : List Nat) (k : Nat), l.length + ps.length ≤ n → (ins bk l i ps k).length ≤ l.length + 3 * (N - k) := by
  intro n
  induction n with
  | zero => intro l i ps k h; cases l with
    | nil => rw [ins_nil]; simp
    | cons c s => simp at h
  | succ n ih =>
    intro l i ps k h
    cases l with
    | nil => rw [ins_nil]; simp
    | cons c s =>
      by_cases hp : ∀ p q, ps = p :: q → p ≠ i
      · rw [ins_on _ _ _ _ _ _ hp]
        have := ih s (i + 1) ps k (by simp at h; omega)
        simp only [List.length_cons]
        omega
      · have : ∃ q, ps = i :: q := by
          cases ps with
          | nil => exact absurd (by simp) hp
          | cons p q =>
            by_cases e : p = i
            · exact ⟨q, by rw [e]⟩
            · exact absurd (fun p' q' e' => by cases e'; exact e) hp
        obtain ⟨q, rfl⟩ := this
        rw [ins_at, List.length_append]
        have := ih (c :: s) i q (k + 1) (by simp at h ⊢; omega)
        have h3k := h3 k
        by_cases hk : N ≤ k
        · rw [h0 k hk]; simp only [List.length_nil]; omega
        · omega
def ats (T : List (Tk × Nat)) : List Nat := T.map (·.2)
theorem ats_ge (f : Nat) : ∀ (l : List UInt8) (a : Nat) (T : List (Tk × Nat)), lexN f l a = .ok T → ∀ p ∈ ats T, a ≤ p := by
  induction f with
  | zero => intro l a T h; cases h
  | succ f ih =>
    intro l a T h p hp
    obtain ⟨f', hf, h | ⟨b, t, m, r, T', hl, hb, hok, hs, hx, rfl⟩⟩ := lex_inv h
    · rw [h.2] at hp; simp [ats] at hp; omega
    · cases hf
      rcases List.mem_cons.1 hp with rfl | hp
      · simp
      · have := ih _ _ _ hx p hp; omega
theorem ats_le (f : Nat) : ∀ (l : List UInt8) (a : Nat) (T : List (Tk × Nat)), lexN f l a = .ok T → ∀ p ∈ ats T, p ≤ a + l.length := by
  induction f with
  | zero => intro l a T h; cases h
  | succ f ih =>
    intro l a T h p hp
    obtain ⟨f', hf, h | ⟨b, t, m, r, T', hl, hb, hok, hs, hx, rfl⟩⟩ := lex_inv h
    · rw [h.2] at hp; simp [ats] at hp; omega
    · cases hf
      have hll : l.length = b.length + (m.length + r.length) := by rw [hl]; simp
      rcases List.mem_cons.1 hp with rfl | hp
      · simp only; omega
      · have := ih _ _ _ hx p hp; omega
theorem lex_count (f : Nat) : ∀ (l : List UInt8) (a : Nat) (T : List (Tk × Nat)), lexN f l a = .ok T → T.length ≤ l.length + 1 := by
  induction f with
  | zero => intro l a T h; cases h
  | succ f ih =>
    intro l a T h
    obtain ⟨f', hf, h | ⟨b, t, m, r, T', hl, hb, hok, hs, hx, rfl⟩⟩ := lex_inv h
    · rw [h.2]; simp
    · cases hf
      have := ih _ _ _ hx
      have hm1 : 0 < m.length := List.length_pos_iff.2 hok.ne
      rw [hl]
      simp only [List.length_cons, List.length_append]
      omega
theorem lex_ins (bk : Nat → List UInt8) (hbk : ∀ k, ∀ c ∈ bk k, isB c = true) (tail : List UInt8) (ht : ∀ c ∈ tail, isB c = true) (f : Nat) :
    ∀ (l : List UInt8) (i : Nat) (T : List (Tk × Nat)), lexN f l i = .ok T → ∀ (k g a' : Nat) , (ins bk l i (ats T) k ++ tail).length < g → ∃ T', lexN g (ins bk l i (ats T) k ++ tail) a' = .ok T' ∧ bare T' = bare T := by
  induction f with
  | zero => intro l a T h; cases h
  | succ f ih =>
    intro l i T h k g a' hg
    cases g with
    | zero => simp at hg
    | succ g =>
    obtain ⟨f', hf, h | ⟨b, t, m, r, T', hl, hb, hok, hs, hx, rfl⟩⟩ := lex_inv h
    · have e : ins bk l i (ats T) k = l := by
        have := ins_skip bk [] (ats T) k l i (by rw [h.2]; simp [ats])
        rw [List.append_nil, ins_nil, List.append_nil] at this
        exact this
      rw [e, lex_end g _ (fun c hc => by rcases List.mem_append.1 hc with hc | hc; exact h.1 c hc; exact ht c hc)]
      exact ⟨_, rfl, by rw [h.2]; rfl⟩
    · cases hf
      have hge := ats_ge _ _ _ _ hx
      have ha : ats ((t, i + b.length) :: T') = (i + b.length) :: ats T' := rfl
      obtain ⟨c, q, hm, _⟩ := hok.first
      have e : ins bk l i (ats ((t, i + b.length) :: T')) k = (b ++ bk k) ++ (m ++ ins bk r (i + b.length + m.length) (ats T') (k + 1)) := by
        rw [hl, ha, ins_skip bk (m ++ r) _ k b i (fun p hp => by rcases List.mem_cons.1 hp with rfl | hp; exact Nat.le_refl _; have := hge p hp; omega), hm, List.cons_append, ins_at, ← List.cons_append, ← hm, ins_skip bk r _ (k + 1) m _ hge]
        simp
      rw [e] at hg ⊢
      have h1 := lex_tok g (b ++ bk k) (fun c hc => by rcases List.mem_append.1 hc with hc | hc; exact hb c hc; exact hbk k c hc) hok (ins bk r (i + b.length + m.length) (ats T') (k + 1) ++ tail) (fun c r' e => by
        rcases ins_head bk hbk tail ht r c r' _ _ _ e with h | ⟨r'', h⟩
        · exact stop_blank hok h
        · exact hs c r'' h) a'
      rw [show (b ++ bk k) ++ (m ++ ins bk r (i + b.length + m.length) (ats T') (k + 1)) ++ tail = (b ++ bk k) ++ (m ++ (ins bk r (i + b.length + m.length) (ats T') (k + 1) ++ tail)) by simp, h1]
      have hm1 : 0 < m.length := List.length_pos_iff.2 hok.ne
      obtain ⟨T'', hx'', hb''⟩ := ih r (i + b.length + m.length) T' hx (k + 1) g (a' + (b ++ bk k).length + m.length) (by simp only [List.length_append] at hg ⊢; omega)
      rw [hx'']
      exact ⟨_, rfl, by show t :: bare T'' = t :: bare T'; rw [hb'']⟩
end Go.Proofs.YtmccnoimnieldaaGreatDoor
