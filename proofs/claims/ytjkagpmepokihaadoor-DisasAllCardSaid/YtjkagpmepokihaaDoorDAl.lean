/- What is proved: DisasAll returns true for any text, which stays as it was (its own card). Conditions: none beyond the row's own; the laid tables are tied to the program's text. -/
import Derived.Test.YtjkagpmepokihaaDoorAlv
import Derived.Test.YtjkagpmepokihaaDoorAlR
import Derived.Test.YtjkagpmepokihaaDoorSam
import Derived.Test.YtjkagpmepokihaaDoorCards
import Derived.Test.YtjkagpmepokihaaDoorTie
import Derived.SevenTiedAt
import Derived.ChangeMaps5
namespace Go.Proofs.YtjkagpmepokihaaDoor.disasAll
open Go.ChangeShapes Go.WideShapes Go.ChangeAt Go.RowKit
open Go.ChangeMaps (open_string shut_string)
set_option linter.unusedVariables false
/-- The words of a text: all are instructions', or there is a first one that is none's. -/
theorem words_of (s : ByteArray) : ∀ m : Nat, (∃ xs : List In, xs.length = m ∧ ∀ i (h : i < xs.length), isW (wdAt s i) xs[i]) ∨ (∃ xs : List In, xs.length < m ∧ (∀ i (h : i < xs.length), isW (wdAt s i) xs[i]) ∧ decN (wdAt s xs.length) = none)
  | 0 => Or.inl ⟨[], rfl, fun i h => by simp at h⟩
  | m + 1 => by
    rcases words_of s m with ⟨xs, hl, hx⟩ | ⟨xs, hl, hx, hb⟩
    · cases hd : decN (wdAt s m) with
      | none => exact Or.inr ⟨xs, by omega, hx, by rw [hl]; exact hd⟩
      | some y =>
        refine Or.inl ⟨xs ++ [y], by simp [hl], fun i hi => ?_⟩
        by_cases e : i < xs.length
        · rw [List.getElem_append_left e]; exact hx i e
        · have : i = m := by simp at hi; omega
          subst this
          rw [List.getElem_append_right (by omega)]
          simpa [hl] using decN_is hd
    · exact Or.inr ⟨xs, by omega, hx, hb⟩
theorem walk_big (s : ByteArray) (hn : 2048 < s.size) (hm : s.size ≤ 9223372036854775807) (w : World) (h : Tb w) :
    Calls Tryd.prog 4 #[.string s] w fun e w' => e = .returned (.bool true) ∧ Below w.heap.size w w' := by
  go_enter Tryd.func4, Tryd.ntmps4
  go_wp2_with (go_at_call 11; (with_reducible refine (alive_any _ h).mono ?_); rintro e w3 ⟨rfl, hb3⟩)
  go_ret
  exact ⟨rfl, hb3⟩
theorem walk_none (s : ByteArray) (hn : s.size ≤ 2048) (hA : ∀ w, Tb w → Calls Tryd.prog 12 #[.string s] w fun e w' => e = .returned (.tuple #[.slice none 0 0, .int .i64 7]) ∧ Below w.heap.size w w')
    (hR : ∀ w, Calls Tryd.prog 13 #[.string s] w fun e w' => e = .returned (.tuple #[.slice none 0 0, .int .i64 7]) ∧ Below w.heap.size w w') (w : World) (h : Tb w) :
    Calls Tryd.prog 4 #[.string s] w fun e w' => e = .returned (.bool true) ∧ Below w.heap.size w w' := by
  have hS := same_nil none none 0 0
  have hn1 : ¬ (2048 : Int) < (s.size : Int) := by omega
  go_enter Tryd.func4, Tryd.ntmps4
  go_wp2_with (first | (go_at_call 12; (with_reducible refine (hA _ h).mono ?_); (rintro e w1 ⟨rfl, b1⟩)) | (go_at_call 13; (with_reducible refine (hR _).mono ?_); (rintro e w2 ⟨rfl, b2⟩); have B2 := below_trans' b1 (Nat.le_refl _) b2) | (go_at_call 14; (with_reducible refine (hS _).mono ?_); (rintro e w3 ⟨rfl, b3⟩); have B3 := below_trans' B2 (Nat.le_refl _) b3; have T3 := h.of B3) | (go_at_call 11; (with_reducible refine (alive_any _ T3).mono ?_); rintro e w4 ⟨rfl, b4⟩))
  go_ret
  exact ⟨rfl, below_trans' B3 (Nat.le_refl _) b4⟩
theorem row_slice {w : World} {base : Nat} {v : Value} {l : List In} (h : w.ownsRow base 24 5 v l.length (cellsL l)) : (l.length = 0 ∧ ∃ a c, v = .slice a 0 c) ∨ ∃ g c, v = .slice (some ⟨g, 0, none⟩) l.length c ∧ g < w.heap.size ∧ 0 < l.length := by
  rcases Joins.ownsRow_forms h with ⟨rfl, h0⟩ | ⟨g, cp, rfl⟩
  · exact Or.inl ⟨h0, _, _, rfl⟩
  · by_cases h0 : l.length = 0
    · exact Or.inl ⟨h0, some ⟨g, 0, none⟩, cp, by rw [h0]⟩
    · exact Or.inr ⟨g, cp, rfl, (h.lt g rfl).2, by omega⟩
set_option maxHeartbeats 1000000 in
theorem walk_yes (s : ByteArray) (xs : List In) (hn : s.size = 4 * xs.length) (hm : s.size ≤ 2048) (hx : ∀ i (h : i < xs.length), isW (wdAt s i) xs[i]) (w : World) (h : Tb w) :
    Calls Tryd.prog 4 #[.string s] w fun e w' => e = .returned (.bool true) ∧ Below w.heap.size w w' := by
  have hA := dall_yes s xs hn (by omega) hx
  have hR := rall_yes s xs hn (by omega) hx
  have hn1 : ¬ (2048 : Int) < 4 * (xs.length : Int) := by omega
  have hS : ∀ w1 w2 : World, ∀ v1 v2 : Value, w1.ownsRow w.heap.size 24 5 v1 xs.length (cellsL xs) → Below w1.heap.size w1 w2 → w2.ownsRow w1.heap.size 24 5 v2 xs.length (cellsL xs) →
      Calls Tryd.prog 14 #[v1, v2] w2 fun e w' => e = .returned (.bool true) ∧ Below w2.heap.size w2 w' := fun w1 w2 v1 v2 o1 b o2 => by
    rcases row_slice o1 with ⟨h0, a, c, rfl⟩ | ⟨g, c, rfl, hg, hp⟩
    · rcases row_slice o2 with ⟨_, a', c', rfl⟩ | ⟨g', c', rfl, hg', hp'⟩
      · exact same_nil a a' c c' w2
      · omega
    · rcases row_slice o2 with ⟨h0, a', c', rfl⟩ | ⟨g', c', rfl, hg', hp'⟩
      · omega
      · exact same_yes xs g c g' 0 c' (by omega) w2 (fun i hi => (inAt_own rfl o1 i hi).of b hg) (fun i hi => by rw [Nat.zero_add]; exact inAt_own rfl o2 i hi) (Nat.lt_of_lt_of_le hg b.size) hg'
  have HS := Lib.hid hS
  clear hS
  go_enter Tryd.func4, Tryd.ntmps4
  go_wp2_with (first | (go_at_call 12; (with_reducible refine (hA _ h).mono ?_); (rintro e w1 ⟨⟨v1, rfl, o1⟩, b1⟩)) | (go_at_call 13; (with_reducible refine (hR _).mono ?_); (rintro e w2 ⟨⟨v2, rfl, o2⟩, b2⟩); have B2 := below_trans' b1 (Nat.le_refl _) b2; have kS := HS.out w1 w2 v1 v2 o1 b2 o2; clear o1 o2) | (go_at_call 14; (with_reducible refine kS.mono ?_); (rintro e w3 ⟨rfl, b3⟩); have B3 := below_trans' B2 (Nat.le_refl _) b3; have T3 := h.of B3) | (go_at_call 11; (with_reducible refine (alive_any _ T3).mono ?_); rintro e w4 ⟨rfl, b4⟩))
  go_ret
  exact ⟨rfl, below_trans' B3 (Nat.le_refl _) b4⟩
theorem walkI (s : ByteArray) (hs : s.size ≤ maxLen) (w : World) (h : Tb w) :
    Calls Tryd.prog 4 #[.string s] w fun e w' => e = .returned (.bool true) ∧ Below w.heap.size w w' := by
  unfold maxLen at hs
  by_cases hb : 2048 < s.size
  · exact walk_big s hb (by omega) w h
  by_cases h4 : s.size % 4 = 0
  · obtain ⟨m, hm⟩ : ∃ m, s.size = 4 * m := ⟨s.size / 4, by omega⟩
    rcases words_of s m with ⟨xs, rfl, hx⟩ | ⟨xs, hl, hx, hbad⟩
    · exact walk_yes s xs hm (by omega) hx w h
    · exact walk_none s (by omega) (fun w hT => dall_no s m xs hm hl hbad (by omega) hx w hT) (fun w => rall_no s m xs hm hl hbad (by omega) hx w) w h
  · exact walk_none s (by omega) (fun w _ => dall_odd s h4 (by omega) w) (fun w => rall_odd s h4 (by omega) w) w h
theorem own : ownKnob Tryd.prog.godebug = none := by kernel_rfl
set_option maxRecDepth 100000 in
theorem lifted (os : Os) (started : os.Started) (H : Type) (enc : TypeId × Value → H) :
    ReturnsInHanded {} Tryd.checked os 4 .any (fun w args => (Rows.disasAllSpec.pre enc Tryd.prog Tryd.f4 [] false w args ∧ laidMetH Tryd.prog laidAll w) ∧ sizedMet enc Tryd.prog Tryd.f4 (OpenSpec.ofChange Rows.disasAllSpec) false w args)
      (Rows.disasAllSpec.post enc Tryd.prog Tryd.f4 false true false false) := by
  refine returnsInHanded_of_change_and (C := Tryd.checked) (X := fun w _ => laidMetH Tryd.prog laidAll w) (fun _ _ _ hh h => h.of_heap hh) own started (by kernel_rfl) Tryd.func4
    (ChangeSpec.witness_shaped (enc := enc) (C := Tryd.checked) (os := os) (X := fun w _ => laidMetH Tryd.prog laidAll w) false (World.doorLaid Tryd.prog 400 os) #[.string ByteArray.empty] 8 rfl (World.shaped_of_RefB (by kernel_rfl) (by kernel_rfl)) (by kernel_rfl) (by kernel_rfl) (by kernel_rfl) (door_met os _)) ?_
  intro W base args ds gs before hval0 hW _ _ hL _
  have hval : ∀ (j : Nat) t v, Tryd.f4.params[j]? = some t → args[j]? = some v → Value.okWide Tryd.prog W .any base t v := hval0
  have hW' := hW
  obtain ⟨p, q, hA0, hV, rfl, hfz, hnd⟩ := hW
  have hA : DataW.TrodAll enc Tryd.prog W 0 (fun _ => true) true Tryd.f4.params.toList args.toList ds p := hA0
  rw [Tryd.params4] at hA hval
  obtain ⟨v0, vs0, d0, ds0, p0, q0, hargs, rfl, rfl, h0, r0⟩ := trodAll_cons hA
  obtain ⟨rfl, rfl, rfl⟩ := trodAll_nil r0
  obtain rfl : args = #[v0] := by cases args; simp_all
  obtain ⟨rfl, rfl⟩ := trodVars_none hV
  obtain ⟨m0, rfl, rfl, rfl, y0⟩ := open_string Tryd.underlying9 (hval 0 9 v0 rfl rfl) h0
  clear hA0 hval0
  simp only [List.append_nil] at hW'
  refine (walkI m0 y0 W (tb_of_laid hL)).mono fun e W' ⟨he, hg⟩ => ?_
  subst he
  exact ⟨_, rfl, _, _, _, [], _, [], hW', trodAll_mk1 (shut_bool Tryd.underlying4 _), (trodAll_cons_mk (shut_string Tryd.underlying9 y0) trodAll_mk0), rfl, hg.frame _, fun h => by cases h⟩
theorem over : Rows.DisasAllSaid :=
  OpenClaim.holds_of_wide 4 Tryd.f4 rfl rfl rfl rfl rfl rfl rfl ⟨rfl, rfl, rfl, rfl, rfl⟩ rfl rfl rfl rfl rfl (by kernel_rfl) Tryd.func4 (by kernel_rfl)
    (of_decide_eq_true (by kernel_rfl)) (by unfold Func.isWrapper; first | (rw [if_pos (by decide +kernel)]; kernel_rfl) | (rw [if_neg (by decide +kernel)]; exact ⟨rfl, rfl⟩))
    (fun os started H enc _ => lifted os started H enc)
/-- The card: the row, its listed tables tied to the text of the program. -/
theorem proved : Rows.DisasAllCardSaid :=
  Claim7.holds_tied_plain_at .later [] [.data, .data, .data, .data, .data, .data, .data] true Rows.disasAllCard.stood.harness Rows.disasAllCard.stood.looks
    over (fun _ h => by cases h) (by kernel_rfl) (fun _ h => by cases h) disasAll_row_tie rfl ⟨rfl, rfl⟩ (by kernel_rfl) rfl
    (fun f fn hf hfn => by
      obtain rfl : f = 4 := Option.some.inj ((show Tryd.prog.funcNamed "sacristy/sacristylaw03.DisasAll" = some 4 by kernel_rfl).symm.trans hf) |>.symm
      obtain rfl : fn = Tryd.f4 := (Option.some.inj (Tryd.func4.symm.trans hfn)).symm
      exact ⟨by kernel_rfl, fun j t ht => by
        rw [Tryd.params4] at ht
        have hm : t ∈ [9] := by simpa using Array.mem_of_getElem? ht
        have hall : ([9].all fun u => !Tryd.prog.wantsStandIn u) = true := by kernel_rfl
        exact (show Tryd.prog.wantsStandIn t = false by simpa using List.all_eq_true.1 hall t hm)⟩)
    (by kernel_rfl)
end Go.Proofs.YtjkagpmepokihaaDoor.disasAll
