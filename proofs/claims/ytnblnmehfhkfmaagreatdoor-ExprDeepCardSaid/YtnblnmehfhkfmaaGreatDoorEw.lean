/- Plain: expressions, one within the other: how deep they may be. -/
import Derived.Test.YtnblnmehfhkfmaaGreatDoorEg
namespace Go.Proofs.YtnblnmehfhkfmaaGreatDoor
set_option linter.unusedVariables false
def chX (b : Bool) : Nat → Xp
  | 0 => .mk 1 1 [] 0 []
  | n + 1 => if b then .mk 5 0 [98] 0 [chX b n] else .mk 3 0 [] 2 [chX b n, .mk 4 0 [98] 0 []]
theorem nmb : nmdB [98] = true := by decide +kernel
theorem op2 : opS 2 = [45] := rfl
theorem may_ch (b : Bool) : ∀ (n d : Nat), mayB d (chX b n) = decide (n < d) := by
  intro n
  induction n with
  | zero =>
    intro d
    cases d with
    | zero => rfl
    | succ d => simp [chX, mayB, fitB]
  | succ n ih =>
    intro d
    cases d with
    | zero => rfl
    | succ d =>
      cases b with
      | true =>
        have h := ih d
        show (fitB 5 0 [98] 0 1 && [chX true n].all (mayB d)) = _
        rw [show fitB 5 0 [98] 0 1 = true by simp [fitB, nmb]]
        simp only [List.all_cons, List.all_nil, Bool.and_true, Bool.true_and, h]
        simp
      | false =>
        have h := ih d
        show (fitB 3 0 [] 2 2 && [chX false n, .mk 4 0 [98] 0 []].all (mayB d)) = _
        rw [show fitB 3 0 [] 2 2 = true by simp [fitB, op2]]
        simp only [List.all_cons, List.all_nil, Bool.and_true, Bool.true_and, h]
        cases d with
        | zero => simp
        | succ d =>
          have : mayB (d + 1) (.mk 4 0 [98] 0 []) = true := by simp [mayB, fitB, nmb]
          rw [this]
          simp
theorem tell_fuel : ∀ (d : Nat) (e : Xp), mayB d e = true → ∀ d', d ≤ d' → tellF d' e = tellF d e := by
  intro d
  induction d with
  | zero => intro e h; simp [mayB] at h
  | succ d ih =>
    intro e h d' hd
    obtain ⟨d'', rfl⟩ : ∃ d'', d' = d'' + 1 := ⟨d' - 1, by omega⟩
    obtain ⟨k, n, s, o, l⟩ := e
    rw [mayB, Bool.and_eq_true] at h
    obtain ⟨hf, hl⟩ := h
    rcases fit_k hf with rfl | rfl | rfl | rfl | rfl
    · simp [tellF]
    · simp [tellF]
    · obtain ⟨rfl, rfl, ho, hm⟩ := fit3 hf
      match l, hm with
      | [a, b], _ =>
        simp only [List.all_cons, List.all_nil, Bool.and_true, Bool.and_eq_true] at hl
        show sg [40] :: (tellF d'' a ++ sg (opS o) :: (tellF d'' b ++ [sg [41]])) = sg [40] :: (tellF d a ++ sg (opS o) :: (tellF d b ++ [sg [41]]))
        rw [ih a hl.1 d'' (by omega), ih b hl.2 d'' (by omega)]
    · simp [tellF]
    · obtain ⟨rfl, hn, rfl, hm⟩ := fit5 hf
      match l, hm with
      | [a], _ =>
        simp only [List.all_cons, List.all_nil, Bool.and_true] at hl
        show nmT s :: sg [91] :: (tellF d'' a ++ [sg [93]]) = nmT s :: sg [91] :: (tellF d a ++ [sg [93]])
        rw [ih a hl d'' (by omega)]
theorem rd_ch (b : Bool) : ∀ (d n D : Nat), d ≤ n → n < D → ∀ A C : List Tk, ∃ q, rdE d (A ++ (tellF D (chX b n) ++ C)) A.length = .er 70 q := by
  intro d
  induction d with
  | zero => intro n D _ _ A C; exact ⟨_, rfl⟩
  | succ d ih =>
    intro n D hn hD A C
    obtain ⟨m, rfl⟩ : ∃ m, n = m + 1 := ⟨n - 1, by omega⟩
    obtain ⟨D', rfl⟩ : ∃ D', D = D' + 1 := ⟨D - 1, by omega⟩
    cases b with
    | true =>
      have ht : tellF (D' + 1) (chX true (m + 1)) = nmT [98] :: sg [91] :: (tellF D' (chX true m) ++ [sg [93]]) := rfl
      obtain ⟨q, hq⟩ := ih m D' (by omega) (by omega) (A ++ [nmT [98], sg [91]]) (sg [93] :: C)
      refine ⟨q, ?_⟩
      rw [ht]
      have hT : A ++ ((nmT [98] :: sg [91] :: (tellF D' (chX true m) ++ [sg [93]])) ++ C) = A ++ nmT [98] :: sg [91] :: (tellF D' (chX true m) ++ sg [93] :: C) := by simp
      have hTa : (A ++ [nmT [98], sg [91]]) ++ (tellF D' (chX true m) ++ sg [93] :: C) = A ++ nmT [98] :: sg [91] :: (tellF D' (chX true m) ++ sg [93] :: C) := by simp
      rw [hTa, show (A ++ [nmT [98], sg [91]]).length = A.length + 2 by simp] at hq
      rw [hT, rdE]
      have e1 : (A ++ nmT [98] :: sg [91] :: (tellF D' (chX true m) ++ sg [93] :: C))[A.length]? = some (nmT [98]) := at_mid A _ _
      have e2 : (A ++ nmT [98] :: sg [91] :: (tellF D' (chX true m) ++ sg [93] :: C))[A.length + 1]? = some (sg [91]) := at_mid1 A _ _ _
      have e4 : nameT (nmT [98]) = true := by simp [nameT, nmT, nmb]
      simp only [e1]
      rw [if_neg (by simp [nmT]), if_neg (nmT_ne _ _), if_neg (nmT_ne _ _), if_pos e4, if_pos e2]
      simp only [hq]
    | false =>
      obtain ⟨X, hX⟩ : ∃ X, tellF (D' + 1) (chX false (m + 1)) = sg [40] :: (tellF D' (chX false m) ++ X) := ⟨_, rfl⟩
      obtain ⟨q, hq⟩ := ih m D' (by omega) (by omega) (A ++ [sg [40]]) (X ++ C)
      refine ⟨q, ?_⟩
      rw [hX]
      have hT : A ++ ((sg [40] :: (tellF D' (chX false m) ++ X)) ++ C) = A ++ sg [40] :: (tellF D' (chX false m) ++ (X ++ C)) := by simp
      have hTa : (A ++ [sg [40]]) ++ (tellF D' (chX false m) ++ (X ++ C)) = A ++ sg [40] :: (tellF D' (chX false m) ++ (X ++ C)) := by simp
      rw [hTa, show (A ++ [sg [40]]).length = A.length + 1 by simp] at hq
      rw [hT, rdE]
      have e1 : (A ++ sg [40] :: (tellF D' (chX false m) ++ (X ++ C)))[A.length]? = some (sg [40]) := at_mid A _ _
      simp only [e1]
      rw [if_neg (by simp [sg]), if_neg sgne1]
      simp only [if_true, hq]
end Go.Proofs.YtnblnmehfhkfmaaGreatDoor
