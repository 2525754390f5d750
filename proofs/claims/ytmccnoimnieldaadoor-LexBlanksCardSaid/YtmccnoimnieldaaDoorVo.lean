/- LexAgain's walk. -/
import Derived.Test.YtmccnoimnieldaaDoorVn
import Derived.Test.YtmccnoimnieldaaDoorVb
namespace Go.Proofs.YtmccnoimnieldaaDoor
open Go.ChangeShapes Go.WideShapes Go.ChangeAt Go.RowKit
set_option linter.unusedVariables false
theorem tk_kok {t : Tk} {m : List UInt8} (h : TkOk t m) : (t.k = 1 ∨ t.k = 2 ∨ t.k = 3 ∨ t.k = 4 ∨ t.k = 5) ∧ t.n < 18446744073709551616 := by
  rcases h with ⟨hk, _, hn, _⟩ | ⟨hk, _, _, _, hn, _⟩ | ⟨hk, _, hn, _⟩ <;> omega
theorem lex_kok (f : Nat) : ∀ (l : List UInt8) (a : Nat) (T : List (Tk × Nat)), lexN f l a = .ok T → KOk T := by
  induction f with
  | zero => intro l a T h; cases h
  | succ f ih =>
    intro l a T h
    obtain ⟨f', hf, h | ⟨b, t, m, r, T', hl, hb, hok, hs, hx, rfl⟩⟩ := lex_inv h
    · rw [h.2]
      intro x hx
      simp only [List.mem_singleton] at hx
      subst hx
      simp
    · cases hf
      intro x hx'
      rcases List.mem_cons.1 hx' with rfl | hx'
      · exact tk_kok hok
      · exact ih _ _ _ hx x hx'
theorem join_le (f : Nat) : ∀ (l : List UInt8) (a : Nat) (T : List (Tk × Nat)), lexN f l a = .ok T → (joinT (bare T)).length ≤ 2 * l.length := by
  induction f with
  | zero => intro l a T h; cases h
  | succ f ih =>
    intro l a T h
    obtain ⟨f', hf, h | ⟨b, t, m, r, T', hl, hb, hok, hs, hx, rfl⟩⟩ := lex_inv h
    · rw [h.2]; show ([] : List UInt8).length ≤ _; simp
    · cases hf
      have hb1 : bare ((t, a + b.length) :: T') = t :: bare T' := rfl
      have hpc : pcs (t :: bare T') = m :: pcs (bare T') := pcs_tok hok _
      have hm1 : 0 < m.length := List.length_pos_iff.2 hok.ne
      have h1 := ih _ _ _ hx
      have hll : l.length = b.length + (m.length + r.length) := by rw [hl]; simp
      rw [hb1]
      obtain ⟨f'', hf'', h2 | ⟨b2, t2, m2, r2, T2, hl2, hb2, hok2, hs2, hx2, hT2⟩⟩ := lex_inv hx
      · have hT : bare T' = [⟨5, [], 0⟩] := by rw [h2.2]; rfl
        have hj : joinT (t :: bare T') = m := by unfold joinT; rw [hpc, hT, pcs_end]; exact Lib.join_one _ _
        rw [hj]; omega
      · have hne : pcs (bare T') = m2 :: pcs (bare T2) := by rw [hT2]; exact pcs_tok hok2 _
        have hj : joinT (t :: bare T') = m ++ 32 :: joinT (bare T') := by
          unfold joinT
          rw [hpc, hne]
          exact join_two _ _ _
        rw [hj]
        simp only [List.length_append, List.length_cons]
        omega
theorem lexT_ok {l : List UInt8} {T : List (Tk × Nat)} (h : lexT l = .ok T) : l.length ≤ 16384 ∧ lexN (l.length + 1) l 0 = .ok T := by
  unfold lexT at h
  split at h
  · cases h
  · exact ⟨by omega, h⟩
theorem lexT_again {l : List UInt8} {T : List (Tk × Nat)} (h : lexT l = .ok T) (hj : (joinT (bare T)).length ≤ 16384) : ∃ T', lexT (joinT (bare T)) = .ok T' ∧ bare T' = bare T := by
  obtain ⟨T', h1, h2⟩ := lex_again _ _ _ _ (lexT_ok h).2 [] (by simp) ((joinT (bare T)).length + 1) 0 (by simp)
  refine ⟨T', ?_, h2⟩
  unfold lexT
  rw [if_neg (by omega)]
  exact h1
theorem cut_row (s : ByteArray) (T : List (Tk × Nat)) (w : World) (hT : Tb w) (hR : lexT s.data.toList = .ok T) :
    Calls Tryd.prog 6 #[.string s] w fun e w' => (∃ v, e = .returned (.tuple #[v, .nilIface]) ∧ RowAt w' v T) ∧ Below w.heap.size w w' :=
  (cut_ok s T w hT hR).mono fun e w' ⟨⟨v, he, hv⟩, hb⟩ => ⟨⟨v, he, hv.at (lex_ne (lexT_ok hR).2)⟩, hb⟩
set_option maxRecDepth 100000 in
set_option maxHeartbeats 4000000 in
theorem again_walk (s : ByteArray) (w : World) (hs : s.size ≤ maxLen) (hT : Tb w) : Calls Tryd.prog 3 #[.string s] w fun e w' => e = .returned (.bool true) ∧ Below w.heap.size w w' := by
  unfold maxLen at hs
  by_cases h4 : 4096 < s.size
  · have hA := alive_yes w hT
    go_enter Tryd.func3, Tryd.ntmps3
    go_wp2_with (go_at_call 5; ((with_reducible refine hA.mono ?_); rintro e w1 ⟨rfl, hb⟩))
    go_ret
    exact ⟨rfl, hb⟩
  · have h4' : s.size ≤ 4096 := by omega
    clear h4
    cases hl : lexT s.data.toList with
    | er e0 a =>
      have hC := cut_er s e0 a w hT hl
      clear hl
      go_enter Tryd.func3, Tryd.ntmps3
      go_wp2_with (first | (go_at_call 6; ((with_reducible refine hC.mono ?_); (rintro e w1 ⟨rfl, hb⟩); have hT1 := hT.of hb)) | (go_at_call 5; ((with_reducible refine (alive_yes _ hT1).mono ?_); rintro e w2 ⟨rfl, hb2⟩)))
      go_ret
      exact ⟨rfl, tr hb hb2⟩
    | ok T =>
      have hC := cut_row s T w hT hl
      obtain ⟨hl1, hl2⟩ := lexT_ok hl
      have hsl : s.data.toList.length = s.size := by simp
      have hTl := lex_count _ _ _ _ hl2
      have hjl := join_le _ _ _ _ hl2
      have hK := lex_kok _ _ _ _ hl2
      rw [hsl] at hTl hjl
      obtain ⟨T', hl', hbr⟩ := lexT_again hl (by omega)
      have hK' := lex_kok _ _ _ _ (lexT_ok hl').2
      have hT'l : T'.length = T.length := by have := congrArg List.length hbr; simpa [bare] using this
      have hJ := fun v w (h : RowAt w v T) hT => join_any v T w h (by omega) hK (by omega) hT
      have hJ' := fun v w (h : RowAt w v T') hT => join_any v T' w h (by omega) hK' (by rw [hbr]; omega) hT
      have hBy := fun v1 v2 w (h1 : RowAt w v1 T) (h2 : RowAt w v2 T') => bare_yes v1 v2 T T' w h1 h2 (by omega) hbr
      rw [hbr] at hJ'
      have hC' := fun w hT => cut_row (str (joinT (bare T))) T' w hT (by rw [str_list]; exact hl')
      have hjz : (str (joinT (bare T))).size ≤ 8192 := by rw [str_size]; omega
      generalize str (joinT (bare T)) = tj at hJ hJ' hC' hjz
      clear hl hl1 hl2 hsl hTl hjl hK hl' hbr hK' hT'l
      go_enter Tryd.func3, Tryd.ntmps3
      go_wp2_with (first | (go_at_call 6; ((with_reducible refine hC.mono ?_); (rintro e w1 ⟨⟨v, rfl, hr1⟩, hb1⟩); have hT1 := hT.of hb1)) | (go_at_call 7; ((with_reducible refine (hJ _ _ hr1 hT1).mono ?_); (rintro e w2 ⟨rfl, hb2⟩); have hT2 := hT1.of hb2; have hr2 := hr1.of hb2)) | (go_at_call 6; ((with_reducible refine (hC' _ hT2).mono ?_); (rintro e w3 ⟨⟨v3, rfl, hq3⟩, hb3⟩); have hT3 := hT2.of hb3; have hr3 := hr2.of hb3)) | (go_at_call 8; ((with_reducible refine (hBy _ _ _ hr3 hq3).mono ?_); (rintro e w4 ⟨rfl, n, rfl⟩); have hb4 := bwn (Below.refl w3.heap.size w3) n; have hT4 := hT3.of hb4; have hq4 := hq3.of hb4)) | (go_at_call 7; ((with_reducible refine (hJ' _ _ hq4 hT4).mono ?_); (rintro e w5 ⟨rfl, hb5⟩); have hT5 := hT4.of hb5)) | (go_at_call 5; ((with_reducible refine (alive_yes _ hT5).mono ?_); rintro e w6 ⟨rfl, hb6⟩)))
      go_ret
      exact ⟨rfl, tr (tr (tr (tr (tr hb1 hb2) hb3) hb4) hb5) hb6⟩
end Go.Proofs.YtmccnoimnieldaaDoor
