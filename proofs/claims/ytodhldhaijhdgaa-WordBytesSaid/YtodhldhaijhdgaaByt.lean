/- What is proved: WordBytes returns true for any word, any numbers, any text (its own statement, whole). Conditions: none beyond the row's own. -/
import Derived.Test.YtodhldhaijhdgaaRefD
import Derived.ShutString
namespace Go.Proofs.Ytodhldhaijhdgaa.wordBytes
open Go.ChangeShapes Go.WideShapes Go.ChangeAt Go.RowKit
open Go.ChangeMaps (open_string shut_string)
set_option linter.unusedVariables false

theorem own : ownKnob Try.prog.godebug = none := by kernel_rfl
/-- What Sign, Fits, Bytes, Word answer, whatever they are given. -/
def sgnA (v : Nat) (n : Int) : Nat := if 1 ≤ n ∧ n ≤ 64 then signv v n.toNat else 0
def sgnE (n : Int) : Int := if 1 ≤ n ∧ n ≤ 64 then 0 else 2
def fitB (u : Nat) (n : Int) : Bool := if 1 ≤ n ∧ n ≤ 64 then decide (signv u n.toNat = u) else false
def bytA (v : Nat) (n : Int) : ByteArray := if 1 ≤ n ∧ n ≤ 8 then strOfNums (bl v n.toNat) else ByteArray.empty
def bytE (n : Int) : Int := if 1 ≤ n ∧ n ≤ 8 then 0 else 2
def wrdA (s : ByteArray) : Nat := if 1 ≤ s.size ∧ s.size ≤ 8 then wordv s.data.toList else 0
def wrdE (s : ByteArray) : Int := if 1 ≤ s.size ∧ s.size ≤ 8 then 0 else 2
def Kp (w w' : World) : Prop := w.keptBut w' (fun _ => False)
theorem kp_trans {a b c : World} (h : Kp a b) (k : Kp b c) : Kp a c := World.keptBut_trans h k
theorem kp_grown {a b : World} (h : Grown a b) : Kp a b := h.1
theorem kp_below {a b : World} (h : Below a.heap.size a b) : Kp a b := h.frame _
theorem ssign (v : Nat) (hv : v < 18446744073709551616) (n : Int) (w : World) :
    Calls Try.prog 10 #[.int .u64 v, .int .i64 n] w fun e w' => e = .returned (.tuple #[.int .u64 (sgnA v n : Nat), .int .i64 (sgnE n)]) ∧ w = w' := by
  unfold sgnA sgnE
  by_cases h : 1 ≤ n ∧ n ≤ 64
  · rw [if_pos h, if_pos h]
    obtain ⟨k, rfl⟩ := Int.eq_ofNat_of_zero_le (show 0 ≤ n by omega)
    exact sign_any v k hv (by omega) (by omega) w
  · rw [if_neg h, if_neg h]
    exact sign_bad v n (by omega) w
theorem sfits (u : Nat) (hu : u < 18446744073709551616) (n : Int) (w : World) :
    Calls Try.prog 16 #[.int .i64 (wrap64 (u : Int)), .int .i64 n] w fun e w' => e = .returned (.bool (fitB u n)) ∧ w = w' := by
  unfold fitB
  by_cases h : 1 ≤ n ∧ n ≤ 64
  · rw [if_pos h]
    obtain ⟨k, rfl⟩ := Int.eq_ofNat_of_zero_le (show 0 ≤ n by omega)
    exact fits_any u k hu (by omega) (by omega) w
  · rw [if_neg h]
    exact fits_bad u hu n (by omega) w
theorem sbytes (v : Nat) (hv : v < 18446744073709551616) (n : Int) (w : World) :
    Calls Try.prog 12 #[.int .u64 v, .int .i64 n] w fun e w' => e = .returned (.tuple #[.string (bytA v n), .int .i64 (bytE n)]) ∧ Kp w w' := by
  unfold bytA bytE
  by_cases h : 1 ≤ n ∧ n ≤ 8
  · rw [if_pos h, if_pos h]
    obtain ⟨k, rfl⟩ := Int.eq_ofNat_of_zero_le (show 0 ≤ n by omega)
    exact (bytes_any v k hv (by omega) (by omega) w).mono fun e w' ⟨h1, h2⟩ => ⟨h1, kp_grown h2⟩
  · rw [if_neg h, if_neg h]
    exact (bytes_bad v n (by omega) w).mono fun e w' ⟨h1, h2⟩ => ⟨h1, by subst h2; exact World.keptBut_refl _ _⟩
theorem sword (s : ByteArray) (hs : s.size ≤ maxLen) (w : World) :
    Calls Try.prog 14 #[.string s] w fun e w' => e = .returned (.tuple #[.int .u64 (wrdA s : Nat), .int .i64 (wrdE s)]) ∧ w = w' := by
  unfold wrdA wrdE
  by_cases h : 1 ≤ s.size ∧ s.size ≤ 8
  · rw [if_pos h, if_pos h]
    exact word_any s h.1 h.2 w
  · rw [if_neg h, if_neg h]
    exact word_bad s (by omega) hs w
theorem rsign (v : Nat) (hv : v < 18446744073709551616) (n : Int) (w : World) :
    Calls Try.prog 11 #[.int .u64 v, .int .i64 n] w fun e w' => e = .returned (.tuple #[.int .u64 (sgnA v n : Nat), .int .i64 (sgnE n)]) ∧ w = w' := by
  unfold sgnA sgnE
  by_cases h : 1 ≤ n ∧ n ≤ 64
  · rw [if_pos h, if_pos h]
    obtain ⟨k, rfl⟩ := Int.eq_ofNat_of_zero_le (show 0 ≤ n by omega)
    exact rsign_any v k hv (by omega) (by omega) w
  · rw [if_neg h, if_neg h]
    exact rsign_bad v n (by omega) w
theorem rfits (u : Nat) (hu : u < 18446744073709551616) (n : Int) (w : World) :
    Calls Try.prog 17 #[.int .i64 (wrap64 (u : Int)), .int .i64 n] w fun e w' => e = .returned (.bool (fitB u n)) ∧ w = w' := by
  unfold fitB
  by_cases h : 1 ≤ n ∧ n ≤ 64
  · rw [if_pos h]
    obtain ⟨k, rfl⟩ := Int.eq_ofNat_of_zero_le (show 0 ≤ n by omega)
    exact rfits_any u k hu (by omega) (by omega) w
  · rw [if_neg h]
    exact rfits_bad u hu n (by omega) w
theorem rbytes (v : Nat) (hv : v < 18446744073709551616) (n : Int) (w : World) :
    Calls Try.prog 13 #[.int .u64 v, .int .i64 n] w fun e w' => e = .returned (.tuple #[.string (bytA v n), .int .i64 (bytE n)]) ∧ Kp w w' := by
  unfold bytA bytE
  by_cases h : 1 ≤ n ∧ n ≤ 8
  · rw [if_pos h, if_pos h]
    obtain ⟨k, rfl⟩ := Int.eq_ofNat_of_zero_le (show 0 ≤ n by omega)
    exact (rbytes_any v k hv (by omega) (by omega) w).mono fun e w' ⟨h1, h2⟩ => ⟨h1, kp_below h2⟩
  · rw [if_neg h, if_neg h]
    exact (rbytes_bad v n (by omega) w).mono fun e w' ⟨h1, h2⟩ => ⟨h1, by subst h2; exact World.keptBut_refl _ _⟩
theorem rword (s : ByteArray) (hs : s.size ≤ maxLen) (w : World) :
    Calls Try.prog 15 #[.string s] w fun e w' => e = .returned (.tuple #[.int .u64 (wrdA s : Nat), .int .i64 (wrdE s)]) ∧ w = w' := by
  unfold wrdA wrdE
  by_cases h : 1 ≤ s.size ∧ s.size ≤ 8
  · rw [if_pos h, if_pos h]
    exact rword_any s h.1 h.2 w
  · rw [if_neg h, if_neg h]
    exact rword_bad s (by omega) hs w
theorem walkN (v u : Nat) (b n : Int) (s : ByteArray) (hv : v < 18446744073709551616) (hu : u < 18446744073709551616) (hs : s.size ≤ maxLen) (w : World) :
    Calls Try.prog 4 #[.int .u64 v, .int .i64 (wrap64 (u : Int)), .int .i64 b, .int .i64 n, .string s] w fun e w' => e = .returned (.bool true) ∧ Kp w w' := by
  go_enter Try.func4, Try.ntmps4
  go_wp2_with (first
    | (go_at_call 10; (with_reducible refine (ssign v hv b _).mono ?_); rintro e w' ⟨rfl, rfl⟩)
    | (go_at_call 11; (with_reducible refine (rsign v hv b _).mono ?_); rintro e w' ⟨rfl, rfl⟩)
    | (go_at_call 12; (with_reducible refine (sbytes v hv n _).mono ?_); rintro e w' ⟨rfl, hg⟩)
    | (go_at_call 13; (with_reducible refine (rbytes v hv n _).mono ?_); rintro e w' ⟨rfl, hg⟩)
    | (go_at_call 14; (with_reducible refine (sword s hs _).mono ?_); rintro e w' ⟨rfl, rfl⟩)
    | (go_at_call 15; (with_reducible refine (rword s hs _).mono ?_); rintro e w' ⟨rfl, rfl⟩)
    | (go_at_call 16; (with_reducible refine (sfits u hu b _).mono ?_); rintro e w' ⟨rfl, rfl⟩)
    | (go_at_call 17; (with_reducible refine (rfits u hu b _).mono ?_); rintro e w' ⟨rfl, rfl⟩)
    | (go_at_call 9; (with_reducible refine (alive_any _).mono ?_); rintro e w' ⟨rfl, hga⟩; have hg := kp_grown hga; clear hga))
  go_ret
  exact ⟨rfl, by repeat (first | assumption | refine kp_trans ?_ (by assumption))⟩
theorem walk (a0 : Int) (a1 : Int) (a2 : Int) (a3 : Int) (a4 : ByteArray) (w0 : (Lit.int .u64 a0).wf = true) (w1 : (Lit.int .i64 a1).wf = true) (w2 : (Lit.int .i64 a2).wf = true) (w3 : (Lit.int .i64 a3).wf = true) (w4 : a4.size ≤ maxLen) (w : World) :
    Calls Try.prog 4 #[.int .u64 a0, .int .i64 a1, .int .i64 a2, .int .i64 a3, .string a4] w fun e w' => e = .returned (.bool true) ∧ Kp w w' := by
  have d0 := bounds_u64 w0
  have d1 := bounds_i64 w1
  obtain ⟨v, rfl⟩ := Int.eq_ofNat_of_zero_le d0.1
  have hu : (a1 % 18446744073709551616).toNat < 18446744073709551616 := by omega
  have e1 : a1 = wrap64 (((a1 % 18446744073709551616).toNat : Nat) : Int) := by
    rw [wrap64_nat _ hu]; split <;> omega
  rw [e1]
  exact walkN v _ a2 a3 a4 (by omega) hu w4 w
/-! ### THE ROW's STEP: WRITTEN OUT: LEAVE IT -/
set_option maxRecDepth 100000 in
theorem lifted (os : Os) (started : os.Started) (H : Type) (enc : TypeId × Value → H) :
    ReturnsInHanded {} Try.checked os 4 .any (Rows.wordBytesSpec.pre6 enc Try.prog Try.f4 Rows.wordBytesRow.domain false) (Rows.wordBytesSpec.post enc Try.prog Try.f4 false true false false) := by
  refine returnsInHanded_of_change (C := Try.checked) own started (by kernel_rfl) Try.func4
    (ChangeSpec.witness6 (enc := enc) (C := Try.checked) false ⟨#[], #[.int .u64 0, .int .i64 0, .int .i64 0, .int .i64 0, .string ByteArray.empty], []⟩ 8 (by kernel_rfl) (by kernel_rfl) (by kernel_rfl) (by kernel_rfl)) ?_
  intro W base args ds gs before hval0 hW hcnd _
  have hval : ∀ (j : Nat) t v, Try.f4.params[j]? = some t → args[j]? = some v → Value.okWide Try.prog W .any base t v := hval0
  have hW' := hW
  obtain ⟨p, q, hA0, hV, rfl, hfz, hnd⟩ := hW
  have hA : DataW.TrodAll enc Try.prog W 0 (fun _ => true) true Try.f4.params.toList args.toList ds p := hA0
  rw [Try.params4] at hA hval
  obtain ⟨v0, vs0, d0, ds0, p0, q0, hargs, rfl, rfl, h0, r0⟩ := trodAll_cons hA
  obtain ⟨v1, vs1, d1, ds1, p1, q1, rfl, rfl, rfl, h1, r1⟩ := trodAll_cons r0
  obtain ⟨v2, vs2, d2, ds2, p2, q2, rfl, rfl, rfl, h2, r2⟩ := trodAll_cons r1
  obtain ⟨v3, vs3, d3, ds3, p3, q3, rfl, rfl, rfl, h3, r3⟩ := trodAll_cons r2
  obtain ⟨v4, vs4, d4, ds4, p4, q4, rfl, rfl, rfl, h4, r4⟩ := trodAll_cons r3
  obtain ⟨rfl, rfl, rfl⟩ := trodAll_nil r4
  obtain rfl : args = #[v0, v1, v2, v3, v4] := by cases args; simp_all
  obtain ⟨rfl, rfl⟩ := trodVars_none hV
  obtain ⟨a0, rfl, rfl, rfl, w0⟩ := open_int Try.underlying22 (hval 0 22 v0 rfl rfl) h0
  obtain ⟨a1, rfl, rfl, rfl, w1⟩ := open_int Try.underlying2 (hval 1 2 v1 rfl rfl) h1
  obtain ⟨a2, rfl, rfl, rfl, w2⟩ := open_int Try.underlying3 (hval 2 3 v2 rfl rfl) h2
  obtain ⟨a3, rfl, rfl, rfl, w3⟩ := open_int Try.underlying3 (hval 3 3 v3 rfl rfl) h3
  obtain ⟨a4, rfl, rfl, rfl, w4⟩ := open_string Try.underlying9 (hval 4 9 v4 rfl rfl) h4
  clear hA0 hval0
  simp only [List.append_nil] at hW'
  refine (walk a0 a1 a2 a3 a4 w0 w1 w2 w3 w4 W).mono fun e W' ⟨he, hg⟩ => ?_
  subst he
  exact ⟨_, rfl, _, _, _, [], _, [], hW', trodAll_mk1 (shut_bool Try.underlying4 _), (trodAll_cons_mk (shut_int Try.underlying22 w0) (trodAll_cons_mk (shut_int Try.underlying2 w1) (trodAll_cons_mk (shut_int Try.underlying3 w2) (trodAll_cons_mk (shut_int Try.underlying3 w3) (trodAll_cons_mk (shut_string Try.underlying9 w4) trodAll_mk0))))), rfl, World.keptBut_mono (fun _ q => q.elim) hg, fun h => by cases h⟩

theorem over : Rows.wordBytesRow.holds Try.pinned (OpenSpec.ofChange Rows.wordBytesSpec) :=
  OpenClaim.holds_of_wide 4 Try.f4 rfl rfl rfl rfl rfl rfl rfl ⟨rfl, rfl, rfl, rfl, rfl⟩ rfl rfl rfl rfl rfl (by kernel_rfl) Try.func4 (by kernel_rfl)
    (of_decide_eq_true (by kernel_rfl)) (by unfold Func.isWrapper; first | (rw [if_pos (by decide +kernel)]; kernel_rfl) | (rw [if_neg (by decide +kernel)]; exact ⟨rfl, rfl⟩))
    (fun os started H enc _ => lifted os started H enc)

/-- ████ THE STATEMENT ████ -/
theorem proved : Rows.WordBytesSaid :=
  over
end Go.Proofs.Ytodhldhaijhdgaa.wordBytes
