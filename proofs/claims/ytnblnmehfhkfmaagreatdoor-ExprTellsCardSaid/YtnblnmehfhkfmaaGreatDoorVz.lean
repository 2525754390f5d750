/- Contract of the document's own answer of layer 6: Named; it is what lex.Named answers. -/
import Derived.Test.YtnblnmehfhkfmaaGreatDoorVv
namespace Go.Proofs.YtnblnmehfhkfmaaGreatDoor
open Go.ChangeShapes Go.WideShapes Go.ChangeAt Go.RowKit
set_option linter.unusedVariables false
structure NameOk (l : List UInt8) : Prop where
  len : l.length ≤ 16
  first : ∃ c r, l = c :: r ∧ isL c = true
  word : isWd l = false
  all : ∀ c ∈ l, isLD c = true
theorem nmdB_yes {l : List UInt8} (h : NameOk l) : nmdB l = true := by
  obtain ⟨c, r, e, hc⟩ := h.first
  have hn : nameP l = .ok ⟨1, l, 0⟩ l := by unfold nameP; rw [if_neg (by have := h.len; omega), h.word]; rfl
  have hok : TkOk ⟨1, l, 0⟩ l := Or.inl ⟨Or.inl rfl, rfl, rfl, hn, h.all, c, r, e, hc⟩
  have hl : 0 < l.length := by rw [e]; simp
  obtain ⟨n, hnl⟩ : ∃ n, l.length = n + 1 := ⟨l.length - 1, by omega⟩
  have h1 := lex_tok l.length [] (by simp) hok [] (by simp) 0
  rw [List.append_nil, List.nil_append] at h1
  have h2 := lex_end n [] (by simp) (0 + ([] : List UInt8).length + l.length)
  rw [← hnl] at h2
  rw [h2] at h1
  unfold nmdB lexT
  rw [if_neg (by have := h.len; omega), h1]
  show (decide (1 = 1) && decide (l = l)) = true
  simp
theorem nmdB_no {l : List UInt8} (h : nmdB l = true) : NameOk l := by
  unfold nmdB at h
  split at h
  · rename_i t a T hx
    simp only [Bool.and_eq_true, decide_eq_true_eq] at h
    obtain ⟨hk, ht⟩ := h
    unfold lexT at hx
    split at hx
    · cases hx
    · obtain ⟨f', hf, h2 | ⟨b, t', m, r, T', hl, hb, hok, hs, hx', e⟩⟩ := lex_inv hx
      · have := h2.2; cases this; simp at hk
      · cases e
        rcases hok with ⟨_, htm, _, hN, hall, c, q, hm, hL⟩ | ⟨h3, _⟩ | ⟨h4, _⟩
        · have hml : m = l := by rw [← htm, ht]
          subst hml
          unfold nameP at hN
          split at hN
          · cases hN
          · rename_i h16
            refine ⟨by omega, ⟨c, q, hm, hL⟩, ?_, hall⟩
            cases hw : isWd m
            · rfl
            · rw [hw] at hN; cases hN; simp at hk
        · omega
        · omega
  · cases h
set_option maxRecDepth 100000 in
set_option maxHeartbeats 4000000 in
theorem rnmd_any (s : ByteArray) (hs : s.size ≤ 140737488355328) (w : World) : Calls Tryz.prog 56 #[.string s] w fun e w' => e = .returned (.bool (nmdB s.data.toList)) ∧ Below w.heap.size w w' := by
  have hsl : s.data.toList.length = s.size := by simp
  obtain ⟨B, hBd⟩ : ∃ B, B = nmdB s.data.toList := ⟨_, rfl⟩
  rw [← hBd]
  have no : ¬ NameOk s.data.toList → B = false := fun h => by
    rw [hBd]
    cases hq : nmdB s.data.toList
    · rfl
    · exact absurd (nmdB_no hq) h
  have yes : NameOk s.data.toList → B = true := fun h => by rw [hBd]; exact nmdB_yes h
  have NO := Lib.hid no
  have YES := Lib.hid yes
  clear no yes hBd
  by_cases h0 : s.size = 0
  · have hse : s = ⟨#[]⟩ := by
      apply ByteArray.ext
      exact Array.eq_empty_of_size_eq_zero h0
    subst hse
    have hf := Lib.hid (NO.out (fun h => by obtain ⟨c, r, e, _⟩ := h.first; cases e))
    clear NO YES hsl h0
    go_enter Tryz.func56, Tryz.ntmps56
    go_wp2
    go_ret
    exact ⟨by rw [hf.out]; rfl, Below.refl _ _⟩
  · have hne : s.data.toList ≠ [] := by intro e; rw [e] at hsl; simp at hsl; omega
    obtain ⟨e1, e2⟩ := list_ne hne
    have hpos : 0 < s.size := by omega
    have hdc := drop_cons s 0 hpos
    rw [List.drop_zero] at hdc
    clear hne h0
    by_cases h16 : 16 < s.size
    · have hf := Lib.hid (NO.out (fun h => by have := h.len; omega))
      clear NO YES hsl hdc
      go_enter Tryz.func56, Tryz.ntmps56
      go_wp2
      go_ret
      exact ⟨by rw [hf.out]; rfl, Below.refl _ _⟩
    · have h16' : s.size ≤ 16 := by omega
      have hl0 := rletter_any (s[0]'hpos)
      have hW := word_any s
      clear h16
      cases hL : isL (s[0]'hpos)
      · rw [hL] at hl0
        have hf := Lib.hid (NO.out (fun h => by obtain ⟨c, r, e, hc⟩ := h.first; rw [hdc] at e; cases e; rw [hL] at hc; cases hc))
        clear NO YES hsl hL hdc
        go_enter Tryz.func56, Tryz.ntmps56
        go_wp2_with (go_at_call 70; ((with_reducible refine (hl0 _).mono ?_); rintro e w1 ⟨rfl, rfl⟩))
        go_ret
        exact ⟨by rw [hf.out]; rfl, Below.refl _ _⟩
      · rw [hL] at hl0
        cases hw : isWd s.data.toList
        · rw [hw] at hW
          have FST := Lib.hid (show ∃ c r, s.data.toList = c :: r ∧ isL c = true from ⟨_, _, hdc, hL⟩)
          have HW := Lib.hid hw
          have HSL := Lib.hid hsl
          clear hL hw hdc hsl
          go_enter Tryz.func56, Tryz.ntmps56
          go_wp2_with (first | (go_at_call 70; ((with_reducible refine (hl0 _).mono ?_); rintro e w1 ⟨rfl, rfl⟩)) | (go_at_call 71; ((with_reducible refine (hW _).mono ?_); rintro e w2 ⟨rfl, hb2⟩)))
          clear hl0 hW
          go_loop [3] (fun i => ∃ k : Nat, k ≤ s.size ∧ i = .int .i64 k ∧ Hid (∀ j, ∀ h : j < s.size, j < k → isLD (s[j]'h) = true)) (fun i => s.size - (intOf i).toNat)
          case atStart => exact ⟨0, Nat.zero_le _, rfl, Lib.hid (fun j h hj => by omega)⟩
          case round =>
            obtain ⟨k, hk, rfl, hall⟩ := hrel
            by_cases hlt : k < s.size
            · have hl2 := rletter_any (s[k]'hlt)
              have hd2 := rdigit_any (s[k]'hlt)
              cases hp : isLD (s[k]'hlt)
              · have hpl : isL (s[k]'hlt) = false ∧ isD (s[k]'hlt) = false := by unfold isLD at hp; simpa using hp
                rw [hpl.1] at hl2
                rw [hpl.2] at hd2
                have hf := Lib.hid (NO.out (fun h => by
                  have := h.all (s[k]'hlt) (List.mem_of_getElem? (byte_at s k hlt))
                  rw [hp] at this; cases this))
                clear hp hpl
                go_wp2_with (first | (go_at_call 70; ((with_reducible refine (hl2 _).mono ?_); rintro e w1 ⟨rfl, rfl⟩)) | (go_at_call 72; ((with_reducible refine (hd2 _).mono ?_); rintro e w1 ⟨rfl, rfl⟩)))
                go_ret
                exact ⟨by rw [hf.out]; rfl, hb2⟩
              · have HP2 := Lib.hid hp
                have hallk : ∀ j, ∀ h : j < s.size, j < k + 1 → isLD (s[j]'h) = true := fun j h hj => by
                  by_cases e : j = k
                  · subst e; exact HP2.out
                  · exact hall.out j h (by omega)
                have HAK := Lib.hid hallk
                clear hallk
                cases hpl : isL (s[k]'hlt)
                · have hpd : isD (s[k]'hlt) = true := by unfold isLD at hp; rw [hpl] at hp; simpa using hp
                  rw [hpl] at hl2
                  rw [hpd] at hd2
                  clear hp hpl hpd
                  go_wp2_with (first | (go_at_call 70; ((with_reducible refine (hl2 _).mono ?_); rintro e w1 ⟨rfl, rfl⟩)) | (go_at_call 72; ((with_reducible refine (hd2 _).mono ?_); rintro e w1 ⟨rfl, rfl⟩)))
                  go_round
                  case rel => exact ⟨k + 1, by omega, by go_num, HAK⟩
                  case measure => simp [intOf]; omega
                · rw [hpl] at hl2
                  clear hp hpl
                  go_wp2_with (first | (go_at_call 70; ((with_reducible refine (hl2 _).mono ?_); rintro e w1 ⟨rfl, rfl⟩)) | (go_at_call 72; ((with_reducible refine (hd2 _).mono ?_); rintro e w1 ⟨rfl, rfl⟩)))
                  go_round
                  case rel => exact ⟨k + 1, by omega, by go_num, HAK⟩
                  case measure => simp [intOf]; omega
            · obtain rfl : k = s.size := by omega
              have hf := Lib.hid (YES.out ⟨by rw [HSL.out]; exact h16', FST.out, HW.out, fun c hc => by
                obtain ⟨i, hi, rfl⟩ := List.getElem_of_mem hc
                have hi' : i < s.size := by rw [← HSL.out]; exact hi
                exact hall.out i hi' hi'⟩)
              go_wp2
              go_ret
              exact ⟨by rw [hf.out]; rfl, hb2⟩
        · rw [hw] at hW
          have hf := Lib.hid (NO.out (fun h => by have := h.word; rw [hw] at this; cases this))
          clear NO YES hsl hL hdc hw
          go_enter Tryz.func56, Tryz.ntmps56
          go_wp2_with (first | (go_at_call 70; ((with_reducible refine (hl0 _).mono ?_); rintro e w1 ⟨rfl, rfl⟩)) | (go_at_call 71; ((with_reducible refine (hW _).mono ?_); rintro e w2 ⟨rfl, hb2⟩)))
          go_ret
          exact ⟨by rw [hf.out]; rfl, hb2⟩
end Go.Proofs.YtnblnmehfhkfmaaGreatDoor
