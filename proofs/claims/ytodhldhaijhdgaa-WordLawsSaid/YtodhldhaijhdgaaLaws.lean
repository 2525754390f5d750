/- What is proved: WordLaws returns true for any three words (its own statement, whole). Conditions: none beyond the row's own. -/
import Derived.Test.YtodhldhaijhdgaaWordE
import Derived.Test.YtodhldhaijhdgaaPl2
namespace Go.Proofs.Ytodhldhaijhdgaa.wordLaws
open Go.ChangeShapes Go.WideShapes Go.ChangeAt Go.RowKit
set_option linter.unusedVariables false

theorem own : ownKnob Try.prog.godebug = none := by kernel_rfl
theorem o1 (a b : Nat) (ha : a < 18446744073709551616) (hb : b < 18446744073709551616) (w : World) : Calls Try.prog 18 #[.int .u8 1, .int .u64 a, .int .u64 b] w fun e w' => e = .returned (.int .u64 (opv 1 a b : Nat)) ∧ Grown w w' := op_any 1 a b (by omega) ha hb w
theorem o2 (a b : Nat) (ha : a < 18446744073709551616) (hb : b < 18446744073709551616) (w : World) : Calls Try.prog 18 #[.int .u8 2, .int .u64 a, .int .u64 b] w fun e w' => e = .returned (.int .u64 (opv 2 a b : Nat)) ∧ Grown w w' := op_any 2 a b (by omega) ha hb w
theorem o3 (a b : Nat) (ha : a < 18446744073709551616) (hb : b < 18446744073709551616) (w : World) : Calls Try.prog 18 #[.int .u8 3, .int .u64 a, .int .u64 b] w fun e w' => e = .returned (.int .u64 (opv 3 a b : Nat)) ∧ Grown w w' := op_any 3 a b (by omega) ha hb w
theorem o4 (a b : Nat) (ha : a < 18446744073709551616) (hb : b < 18446744073709551616) (w : World) : Calls Try.prog 18 #[.int .u8 4, .int .u64 a, .int .u64 b] w fun e w' => e = .returned (.int .u64 (opv 4 a b : Nat)) ∧ Grown w w' := op_any 4 a b (by omega) ha hb w
theorem o5 (a b : Nat) (ha : a < 18446744073709551616) (hb : b < 18446744073709551616) (w : World) : Calls Try.prog 18 #[.int .u8 5, .int .u64 a, .int .u64 b] w fun e w' => e = .returned (.int .u64 (opv 5 a b : Nat)) ∧ Grown w w' := op_any 5 a b (by omega) ha hb w
theorem o6 (a b : Nat) (ha : a < 18446744073709551616) (hb : b < 18446744073709551616) (w : World) : Calls Try.prog 18 #[.int .u8 6, .int .u64 a, .int .u64 b] w fun e w' => e = .returned (.int .u64 (opv 6 a b : Nat)) ∧ Grown w w' := op_any 6 a b (by omega) ha hb w
theorem o7 (a b : Nat) (ha : a < 18446744073709551616) (hb : b < 18446744073709551616) (w : World) : Calls Try.prog 18 #[.int .u8 7, .int .u64 a, .int .u64 b] w fun e w' => e = .returned (.int .u64 (opv 7 a b : Nat)) ∧ Grown w w' := op_any 7 a b (by omega) ha hb w
theorem o8 (a b : Nat) (ha : a < 18446744073709551616) (hb : b < 18446744073709551616) (w : World) : Calls Try.prog 18 #[.int .u8 8, .int .u64 a, .int .u64 b] w fun e w' => e = .returned (.int .u64 (opv 8 a b : Nat)) ∧ Grown w w' := op_any 8 a b (by omega) ha hb w
theorem o9 (a b : Nat) (ha : a < 18446744073709551616) (hb : b < 18446744073709551616) (w : World) : Calls Try.prog 18 #[.int .u8 9, .int .u64 a, .int .u64 b] w fun e w' => e = .returned (.int .u64 (opv 9 a b : Nat)) ∧ Grown w w' := op_any 9 a b (by omega) ha hb w
theorem o10 (a b : Nat) (ha : a < 18446744073709551616) (hb : b < 18446744073709551616) (w : World) : Calls Try.prog 18 #[.int .u8 10, .int .u64 a, .int .u64 b] w fun e w' => e = .returned (.int .u64 (opv 10 a b : Nat)) ∧ Grown w w' := op_any 10 a b (by omega) ha hb w
theorem o11 (a b : Nat) (ha : a < 18446744073709551616) (hb : b < 18446744073709551616) (w : World) : Calls Try.prog 18 #[.int .u8 11, .int .u64 a, .int .u64 b] w fun e w' => e = .returned (.int .u64 (opv 11 a b : Nat)) ∧ Grown w w' := op_any 11 a b (by omega) ha hb w
theorem o12 (a b : Nat) (ha : a < 18446744073709551616) (hb : b < 18446744073709551616) (w : World) : Calls Try.prog 18 #[.int .u8 12, .int .u64 a, .int .u64 b] w fun e w' => e = .returned (.int .u64 (opv 12 a b : Nat)) ∧ Grown w w' := op_any 12 a b (by omega) ha hb w
theorem o13 (a b : Nat) (ha : a < 18446744073709551616) (hb : b < 18446744073709551616) (w : World) : Calls Try.prog 18 #[.int .u8 13, .int .u64 a, .int .u64 b] w fun e w' => e = .returned (.int .u64 (opv 13 a b : Nat)) ∧ Grown w w' := op_any 13 a b (by omega) ha hb w
theorem o14 (a b : Nat) (ha : a < 18446744073709551616) (hb : b < 18446744073709551616) (w : World) : Calls Try.prog 18 #[.int .u8 14, .int .u64 a, .int .u64 b] w fun e w' => e = .returned (.int .u64 (opv 14 a b : Nat)) ∧ Grown w w' := op_any 14 a b (by omega) ha hb w
theorem q_flip (a : Nat) (ha : a < 18446744073709551616) : bits .xor .u64 (a : Int) 9223372036854775808 = ((a ^^^ 9223372036854775808 : Nat) : Int) := bits_xor_u64_nat a 9223372036854775808 ha (by omega)
theorem flip_lt (a : Nat) (ha : a < 18446744073709551616) : a ^^^ 9223372036854775808 < 18446744073709551616 := Nat.xor_lt_two_pow (n := 64) ha (by omega)
theorem q_two (c : Nat) : IntKind.u64.wrap (2 ^ (c % 64)) = ((2 ^ (c % 64) : Nat) : Int) := by
  have h := wrap_nat _ (two_lt c)
  rw [← h, Int.natCast_pow]; rfl
theorem o11p (a c : Nat) (ha : a < 18446744073709551616) (w : World) : Calls Try.prog 18 #[.int .u8 11, .int .u64 a, .int .u64 (IntKind.u64.wrap (2 ^ (c % 64)))] w fun e w' => e = .returned (.int .u64 (opv 11 a (2 ^ (c % 64)) : Nat)) ∧ Grown w w' := by
  have h := o11 a (2 ^ (c % 64)) ha (two_lt c) w
  rw [← q_two c] at h; exact h
theorem o13p (a c : Nat) (ha : a < 18446744073709551616) (w : World) : Calls Try.prog 18 #[.int .u8 13, .int .u64 a, .int .u64 (IntKind.u64.wrap (2 ^ (c % 64)))] w fun e w' => e = .returned (.int .u64 (opv 13 a (2 ^ (c % 64)) : Nat)) ∧ Grown w w' := by
  have h := o13 a (2 ^ (c % 64)) ha (two_lt c) w
  rw [← q_two c] at h; exact h
theorem cst {x y : Nat} (h : x = y) : (x : Int) = (y : Int) := by rw [h]
set_option maxHeartbeats 2000000 in
set_option maxRecDepth 100000 in
/-- The walk where less, more are known. -/
theorem walkP (a b c L M : Nat) (ha : a < 18446744073709551616) (hb : b < 18446744073709551616) (hc : c < 18446744073709551616) (w : World)
    (hL : opv 5 a b = L) (hM : opv 5 b a = M) (hLM : (L = 1 ∧ M = 0 ∧ a ≠ b) ∨ (L = 0 ∧ M = 1 ∧ a ≠ b) ∨ (L = 0 ∧ M = 0 ∧ a = b)) :
    Calls Try.prog 5 #[.int .u64 a, .int .u64 b, .int .u64 c] w fun e w' => e = .returned (.bool true) ∧ Grown w w' := by
  have b1 := opv_lt 1 a b ha hb
  have b2 := opv_lt 1 b c hb hc
  have b3 := opv_lt 11 a b ha hb
  have b4 := opv_lt 11 a c ha hc
  have b5 := opv_lt 13 a b ha hb
  have b6 := opv_lt 14 a b ha hb
  have b7 := opv_lt 11 _ b b5 hb
  have b8 := opv_lt 9 a b ha hb
  have b9 := opv_lt 10 a b ha hb
  have b11 := flip_lt a ha
  have b12 := flip_lt b hb
  have r1 := cst (law1 a b ha hb)
  have r2 := cst (law2 a b)
  have r3 := cst (law3 a b)
  have r4 := cst (law4 a b c)
  have r5 := cst (law5 a b ha hb)
  have r8 := cst (law8 a c)
  have r9 := cst (law9 a c)
  have r12 := cst (law12 a b ha hb)
  have r13 := cst (law13 a b ha hb)
  have r14 := cst (law14 a b)
  have q1 := add_eq a b
  have q2 := q_flip a ha
  have q3 := q_flip b hb
  by_cases h0 : b = 0
  · have t0 : ((b : Int) != 0) = false := by simpa using h0
    clear h0
    rcases hLM with ⟨rfl, rfl, hn⟩ | ⟨rfl, rfl, hn⟩ | ⟨rfl, rfl, rfl⟩
    · have rL := cst hL
      have rM := cst hM
      have t1 : ((a : Int) == b) = false := by simp; omega
      clear hL hM hn
      go_enter Try.func5, Try.ntmps5
      go_wp2_with (first | (go_at_call 18; (first | (with_reducible refine (o1 _ _ (by assumption) (by assumption) _).mono ?_) | (with_reducible refine (o2 _ _ (by assumption) (by assumption) _).mono ?_) | (with_reducible refine (o3 _ _ (by assumption) (by assumption) _).mono ?_) | (with_reducible refine (o4 _ _ (by assumption) (by assumption) _).mono ?_) | (with_reducible refine (o5 _ _ (by assumption) (by assumption) _).mono ?_) | (with_reducible refine (o6 _ _ (by assumption) (by assumption) _).mono ?_) | (with_reducible refine (o7 _ _ (by assumption) (by assumption) _).mono ?_) | (with_reducible refine (o8 _ _ (by assumption) (by assumption) _).mono ?_) | (with_reducible refine (o9 _ _ (by assumption) (by assumption) _).mono ?_) | (with_reducible refine (o10 _ _ (by assumption) (by assumption) _).mono ?_) | (with_reducible refine (o11 _ _ (by assumption) (by assumption) _).mono ?_) | (with_reducible refine (o12 _ _ (by assumption) (by assumption) _).mono ?_) | (with_reducible refine (o13 _ _ (by assumption) (by assumption) _).mono ?_) | (with_reducible refine (o14 _ _ (by assumption) (by assumption) _).mono ?_) | (with_reducible refine (o11p _ _ (by assumption) _).mono ?_) | (with_reducible refine (o13p _ _ (by assumption) _).mono ?_)); rintro e w' ⟨rfl, hg⟩) | (go_at_call 9; (with_reducible refine (alive_any _).mono ?_); rintro e w' ⟨rfl, hg⟩))
      go_ret
      exact ⟨rfl, by repeat (first | assumption | refine grown_trans ?_ (by assumption))⟩
    · have rL := cst hL
      have rM := cst hM
      have t1 : ((a : Int) == b) = false := by simp; omega
      clear hL hM hn
      go_enter Try.func5, Try.ntmps5
      go_wp2_with (first | (go_at_call 18; (first | (with_reducible refine (o1 _ _ (by assumption) (by assumption) _).mono ?_) | (with_reducible refine (o2 _ _ (by assumption) (by assumption) _).mono ?_) | (with_reducible refine (o3 _ _ (by assumption) (by assumption) _).mono ?_) | (with_reducible refine (o4 _ _ (by assumption) (by assumption) _).mono ?_) | (with_reducible refine (o5 _ _ (by assumption) (by assumption) _).mono ?_) | (with_reducible refine (o6 _ _ (by assumption) (by assumption) _).mono ?_) | (with_reducible refine (o7 _ _ (by assumption) (by assumption) _).mono ?_) | (with_reducible refine (o8 _ _ (by assumption) (by assumption) _).mono ?_) | (with_reducible refine (o9 _ _ (by assumption) (by assumption) _).mono ?_) | (with_reducible refine (o10 _ _ (by assumption) (by assumption) _).mono ?_) | (with_reducible refine (o11 _ _ (by assumption) (by assumption) _).mono ?_) | (with_reducible refine (o12 _ _ (by assumption) (by assumption) _).mono ?_) | (with_reducible refine (o13 _ _ (by assumption) (by assumption) _).mono ?_) | (with_reducible refine (o14 _ _ (by assumption) (by assumption) _).mono ?_) | (with_reducible refine (o11p _ _ (by assumption) _).mono ?_) | (with_reducible refine (o13p _ _ (by assumption) _).mono ?_)); rintro e w' ⟨rfl, hg⟩) | (go_at_call 9; (with_reducible refine (alive_any _).mono ?_); rintro e w' ⟨rfl, hg⟩))
      go_ret
      exact ⟨rfl, by repeat (first | assumption | refine grown_trans ?_ (by assumption))⟩
    · have rL := cst hL
      have rM := cst hM
      clear hL hM
      go_enter Try.func5, Try.ntmps5
      go_wp2_with (first | (go_at_call 18; (first | (with_reducible refine (o1 _ _ (by assumption) (by assumption) _).mono ?_) | (with_reducible refine (o2 _ _ (by assumption) (by assumption) _).mono ?_) | (with_reducible refine (o3 _ _ (by assumption) (by assumption) _).mono ?_) | (with_reducible refine (o4 _ _ (by assumption) (by assumption) _).mono ?_) | (with_reducible refine (o5 _ _ (by assumption) (by assumption) _).mono ?_) | (with_reducible refine (o6 _ _ (by assumption) (by assumption) _).mono ?_) | (with_reducible refine (o7 _ _ (by assumption) (by assumption) _).mono ?_) | (with_reducible refine (o8 _ _ (by assumption) (by assumption) _).mono ?_) | (with_reducible refine (o9 _ _ (by assumption) (by assumption) _).mono ?_) | (with_reducible refine (o10 _ _ (by assumption) (by assumption) _).mono ?_) | (with_reducible refine (o11 _ _ (by assumption) (by assumption) _).mono ?_) | (with_reducible refine (o12 _ _ (by assumption) (by assumption) _).mono ?_) | (with_reducible refine (o13 _ _ (by assumption) (by assumption) _).mono ?_) | (with_reducible refine (o14 _ _ (by assumption) (by assumption) _).mono ?_) | (with_reducible refine (o11p _ _ (by assumption) _).mono ?_) | (with_reducible refine (o13p _ _ (by assumption) _).mono ?_)); rintro e w' ⟨rfl, hg⟩) | (go_at_call 9; (with_reducible refine (alive_any _).mono ?_); rintro e w' ⟨rfl, hg⟩))
      go_ret
      exact ⟨rfl, by repeat (first | assumption | refine grown_trans ?_ (by assumption))⟩
  · have t0 : ((b : Int) != 0) = true := by simpa using h0
    have t2 : ¬ ((b : Int) ≤ (opv 14 a b : Nat)) := by have := law6 a b h0; omega
    have r7 := cst (law7 a b ha h0)
    clear h0
    rcases hLM with ⟨rfl, rfl, hn⟩ | ⟨rfl, rfl, hn⟩ | ⟨rfl, rfl, rfl⟩
    · have rL := cst hL
      have rM := cst hM
      have t1 : ((a : Int) == b) = false := by simp; omega
      clear hL hM hn
      go_enter Try.func5, Try.ntmps5
      go_wp2_with (first | (go_at_call 18; (first | (with_reducible refine (o1 _ _ (by assumption) (by assumption) _).mono ?_) | (with_reducible refine (o2 _ _ (by assumption) (by assumption) _).mono ?_) | (with_reducible refine (o3 _ _ (by assumption) (by assumption) _).mono ?_) | (with_reducible refine (o4 _ _ (by assumption) (by assumption) _).mono ?_) | (with_reducible refine (o5 _ _ (by assumption) (by assumption) _).mono ?_) | (with_reducible refine (o6 _ _ (by assumption) (by assumption) _).mono ?_) | (with_reducible refine (o7 _ _ (by assumption) (by assumption) _).mono ?_) | (with_reducible refine (o8 _ _ (by assumption) (by assumption) _).mono ?_) | (with_reducible refine (o9 _ _ (by assumption) (by assumption) _).mono ?_) | (with_reducible refine (o10 _ _ (by assumption) (by assumption) _).mono ?_) | (with_reducible refine (o11 _ _ (by assumption) (by assumption) _).mono ?_) | (with_reducible refine (o12 _ _ (by assumption) (by assumption) _).mono ?_) | (with_reducible refine (o13 _ _ (by assumption) (by assumption) _).mono ?_) | (with_reducible refine (o14 _ _ (by assumption) (by assumption) _).mono ?_) | (with_reducible refine (o11p _ _ (by assumption) _).mono ?_) | (with_reducible refine (o13p _ _ (by assumption) _).mono ?_)); rintro e w' ⟨rfl, hg⟩) | (go_at_call 9; (with_reducible refine (alive_any _).mono ?_); rintro e w' ⟨rfl, hg⟩))
      go_ret
      exact ⟨rfl, by repeat (first | assumption | refine grown_trans ?_ (by assumption))⟩
    · have rL := cst hL
      have rM := cst hM
      have t1 : ((a : Int) == b) = false := by simp; omega
      clear hL hM hn
      go_enter Try.func5, Try.ntmps5
      go_wp2_with (first | (go_at_call 18; (first | (with_reducible refine (o1 _ _ (by assumption) (by assumption) _).mono ?_) | (with_reducible refine (o2 _ _ (by assumption) (by assumption) _).mono ?_) | (with_reducible refine (o3 _ _ (by assumption) (by assumption) _).mono ?_) | (with_reducible refine (o4 _ _ (by assumption) (by assumption) _).mono ?_) | (with_reducible refine (o5 _ _ (by assumption) (by assumption) _).mono ?_) | (with_reducible refine (o6 _ _ (by assumption) (by assumption) _).mono ?_) | (with_reducible refine (o7 _ _ (by assumption) (by assumption) _).mono ?_) | (with_reducible refine (o8 _ _ (by assumption) (by assumption) _).mono ?_) | (with_reducible refine (o9 _ _ (by assumption) (by assumption) _).mono ?_) | (with_reducible refine (o10 _ _ (by assumption) (by assumption) _).mono ?_) | (with_reducible refine (o11 _ _ (by assumption) (by assumption) _).mono ?_) | (with_reducible refine (o12 _ _ (by assumption) (by assumption) _).mono ?_) | (with_reducible refine (o13 _ _ (by assumption) (by assumption) _).mono ?_) | (with_reducible refine (o14 _ _ (by assumption) (by assumption) _).mono ?_) | (with_reducible refine (o11p _ _ (by assumption) _).mono ?_) | (with_reducible refine (o13p _ _ (by assumption) _).mono ?_)); rintro e w' ⟨rfl, hg⟩) | (go_at_call 9; (with_reducible refine (alive_any _).mono ?_); rintro e w' ⟨rfl, hg⟩))
      go_ret
      exact ⟨rfl, by repeat (first | assumption | refine grown_trans ?_ (by assumption))⟩
    · have rL := cst hL
      have rM := cst hM
      clear hL hM
      go_enter Try.func5, Try.ntmps5
      go_wp2_with (first | (go_at_call 18; (first | (with_reducible refine (o1 _ _ (by assumption) (by assumption) _).mono ?_) | (with_reducible refine (o2 _ _ (by assumption) (by assumption) _).mono ?_) | (with_reducible refine (o3 _ _ (by assumption) (by assumption) _).mono ?_) | (with_reducible refine (o4 _ _ (by assumption) (by assumption) _).mono ?_) | (with_reducible refine (o5 _ _ (by assumption) (by assumption) _).mono ?_) | (with_reducible refine (o6 _ _ (by assumption) (by assumption) _).mono ?_) | (with_reducible refine (o7 _ _ (by assumption) (by assumption) _).mono ?_) | (with_reducible refine (o8 _ _ (by assumption) (by assumption) _).mono ?_) | (with_reducible refine (o9 _ _ (by assumption) (by assumption) _).mono ?_) | (with_reducible refine (o10 _ _ (by assumption) (by assumption) _).mono ?_) | (with_reducible refine (o11 _ _ (by assumption) (by assumption) _).mono ?_) | (with_reducible refine (o12 _ _ (by assumption) (by assumption) _).mono ?_) | (with_reducible refine (o13 _ _ (by assumption) (by assumption) _).mono ?_) | (with_reducible refine (o14 _ _ (by assumption) (by assumption) _).mono ?_) | (with_reducible refine (o11p _ _ (by assumption) _).mono ?_) | (with_reducible refine (o13p _ _ (by assumption) _).mono ?_)); rintro e w' ⟨rfl, hg⟩) | (go_at_call 9; (with_reducible refine (alive_any _).mono ?_); rintro e w' ⟨rfl, hg⟩))
      go_ret
      exact ⟨rfl, by repeat (first | assumption | refine grown_trans ?_ (by assumption))⟩
theorem walk (a0 : Int) (a1 : Int) (a2 : Int) (w0 : (Lit.int .u64 a0).wf = true) (w1 : (Lit.int .u64 a1).wf = true) (w2 : (Lit.int .u64 a2).wf = true) (w : World) :
    Calls Try.prog 5 #[.int .u64 a0, .int .u64 a1, .int .u64 a2] w fun e w' => e = .returned (.bool true) ∧ Grown w w' := by
  have d0 := bounds_u64 w0
  have d1 := bounds_u64 w1
  have d2 := bounds_u64 w2
  obtain ⟨a, rfl⟩ := Int.eq_ofNat_of_zero_le d0.1
  obtain ⟨b, rfl⟩ := Int.eq_ofNat_of_zero_le d1.1
  obtain ⟨c, rfl⟩ := Int.eq_ofNat_of_zero_le d2.1
  have ha : a < 18446744073709551616 := by omega
  have hb : b < 18446744073709551616 := by omega
  have hc : c < 18446744073709551616 := by omega
  rcases Nat.lt_trichotomy a b with h | h | h
  · exact walkP a b c 1 0 ha hb hc w (law10 a b h) (law11 b a (by omega)) (Or.inl ⟨rfl, rfl, by omega⟩)
  · exact walkP a b c 0 0 ha hb hc w (law11 a b (by omega)) (law11 b a (by omega)) (Or.inr (Or.inr ⟨rfl, rfl, h⟩))
  · exact walkP a b c 0 1 ha hb hc w (law11 a b (by omega)) (law10 b a h) (Or.inr (Or.inl ⟨rfl, rfl, by omega⟩))
/-! ### THE ROW's STEP: WRITTEN OUT: LEAVE IT -/
set_option maxRecDepth 100000 in
theorem lifted (os : Os) (started : os.Started) (H : Type) (enc : TypeId × Value → H) :
    ReturnsInHanded {} Try.checked os 5 .any (Rows.wordLawsSpec.pre6 enc Try.prog Try.f5 Rows.wordLawsRow.domain false) (Rows.wordLawsSpec.post enc Try.prog Try.f5 false true false false) := by
  refine returnsInHanded_of_change (C := Try.checked) own started (by kernel_rfl) Try.func5
    (ChangeSpec.witness6 (enc := enc) (C := Try.checked) false ⟨#[], #[.int .u64 0, .int .u64 0, .int .u64 0], []⟩ 8 (by kernel_rfl) (by kernel_rfl) (by kernel_rfl) (by kernel_rfl)) ?_
  intro W base args ds gs before hval0 hW hcnd _
  have hval : ∀ (j : Nat) t v, Try.f5.params[j]? = some t → args[j]? = some v → Value.okWide Try.prog W .any base t v := hval0
  have hW' := hW
  obtain ⟨p, q, hA0, hV, rfl, hfz, hnd⟩ := hW
  have hA : DataW.TrodAll enc Try.prog W 0 (fun _ => true) true Try.f5.params.toList args.toList ds p := hA0
  rw [Try.params5] at hA hval
  obtain ⟨v0, vs0, d0, ds0, p0, q0, hargs, rfl, rfl, h0, r0⟩ := trodAll_cons hA
  obtain ⟨v1, vs1, d1, ds1, p1, q1, rfl, rfl, rfl, h1, r1⟩ := trodAll_cons r0
  obtain ⟨v2, vs2, d2, ds2, p2, q2, rfl, rfl, rfl, h2, r2⟩ := trodAll_cons r1
  obtain ⟨rfl, rfl, rfl⟩ := trodAll_nil r2
  obtain rfl : args = #[v0, v1, v2] := by cases args; simp_all
  obtain ⟨rfl, rfl⟩ := trodVars_none hV
  obtain ⟨a0, rfl, rfl, rfl, w0⟩ := open_int Try.underlying22 (hval 0 22 v0 rfl rfl) h0
  obtain ⟨a1, rfl, rfl, rfl, w1⟩ := open_int Try.underlying22 (hval 1 22 v1 rfl rfl) h1
  obtain ⟨a2, rfl, rfl, rfl, w2⟩ := open_int Try.underlying22 (hval 2 22 v2 rfl rfl) h2
  clear hA0 hval0
  simp only [List.append_nil] at hW'
  refine (walk a0 a1 a2 w0 w1 w2 W).mono fun e W' ⟨he, hg⟩ => ?_
  subst he
  exact ⟨_, rfl, post_of_same (pa := []) (pv := []) hW' (fun _ _ _ => (trodAll_cons_mk (shut_bool Try.underlying4 _) trodAll_mk0)) (fun sp _ => (trodAll_cons_mk (shut_int Try.underlying22 w0) (trodAll_cons_mk (shut_int Try.underlying22 w1) (trodAll_cons_mk (shut_int Try.underlying22 w2) trodAll_mk0)))) (fun _ _ => rfl) rfl
    (hg.frame _) hg.2.1 (ok_one (by kernel_rfl) rfl (okWide_bool_mk Try.underlying4 _))⟩

theorem over : Rows.wordLawsRow.holds Try.pinned (OpenSpec.ofChange Rows.wordLawsSpec) :=
  OpenClaim.holds_of_wide 5 Try.f5 rfl rfl rfl rfl rfl rfl rfl ⟨rfl, rfl, rfl, rfl, rfl⟩ rfl rfl rfl rfl rfl (by kernel_rfl) Try.func5 (by kernel_rfl)
    (of_decide_eq_true (by kernel_rfl)) (by unfold Func.isWrapper; first | (rw [if_pos (by decide +kernel)]; kernel_rfl) | (rw [if_neg (by decide +kernel)]; exact ⟨rfl, rfl⟩))
    (fun os started H enc _ => lifted os started H enc)

/-- ████ THE STATEMENT ████ -/
theorem proved : Rows.WordLawsSaid :=
  over
end Go.Proofs.Ytodhldhaijhdgaa.wordLaws
