/- What is proved: LexCuts returns true for any text and any word, which stay as they were (its own card): which tokens any text has, or where it has none, and which texts are names, by the document's own answer. Conditions: none beyond the card's own: the listed package-level variables (the tables of package lex, those of the library's numbers, errors.errorType, strconv's two errors) hold what the program's text lays in them, which the card ties to that text. -/
import Derived.Test.YtmccnoimnieldaaGreatDoorVy
import Derived.Test.YtmccnoimnieldaaGreatDoorVz
import Derived.Test.YtmccnoimnieldaaGreatDoorVb
import Derived.Test.YtmccnoimnieldaaGreatDoorCards
import Derived.Test.YtmccnoimnieldaaGreatDoorTie
import Derived.SevenTiedAt
import Derived.ChangeMaps5
namespace Go.Proofs.YtmccnoimnieldaaGreatDoor.lexCuts
open Go.ChangeShapes Go.WideShapes Go.ChangeAt Go.RowKit
open Go.ChangeMaps (open_string shut_string)
set_option linter.unusedVariables false
theorem lex_er_ne (f : Nat) : ∀ (l : List UInt8) (a e a' : Nat), l.length < f → lexN f l a = .er e a' → e ≠ 0 := by
  induction f with
  | zero => intro l a e a' h; omega
  | succ f ih =>
    intro l a e a' hl h
    rw [lexN] at h
    split at h
    · cases h
    · split at h
      · rename_i e1 ht
        cases h
        rcases tok_er_val ht with rfl | rfl <;> omega
      · rename_i t m ht
        have hm := tok_len ht
        cases hx : lexN f ((l.drop (bl l)).drop m.length) (a + bl l + m.length) with
        | er e2 a2 =>
          rw [hx] at h
          cases h
          refine ih _ _ _ _ ?_ hx
          have := hm.2
          rw [List.length_drop] at this ⊢
          rw [List.length_drop]
          omega
        | ok T => rw [hx] at h; cases h
theorem lexT_ne {l : List UInt8} {e a : Nat} (h : lexT l = .er e a) : e ≠ 0 := by
  unfold lexT at h
  split at h
  · cases h; omega
  · exact lex_er_ne _ _ _ _ _ (by omega) h
theorem rcut_er (s : ByteArray) (e0 a : Nat) (w : World) (hR : lexT s.data.toList = .er e0 a) :
    Calls Tryz.prog 6 #[.string s] w fun e w' => e = .returned (.tuple #[.slice none 0 0, .agg #[.int .i64 (a : Int), .int .i64 (e0 : Int)]]) ∧ Below w.heap.size w w' := by
  have hl : s.data.toList.length = s.size := by simp
  unfold lexT at hR
  rw [hl] at hR
  split at hR
  · rename_i h
    cases hR
    exact rcut_long s w h
  · rename_i h
    exact rcut_any s _ w (by omega) hR
theorem rcut_ok (s : ByteArray) (T : List (Tk × Nat)) (w : World) (hR : lexT s.data.toList = .ok T) :
    Calls Tryz.prog 6 #[.string s] w fun e w' => (∃ v, e = .returned (.tuple #[v, .agg #[.int .i64 0, .int .i64 0]]) ∧ RowAt w' v T) ∧ Below w.heap.size w w' := by
  have hl : s.data.toList.length = s.size := by simp
  have hne : T ≠ [] := by
    unfold lexT at hR
    split at hR
    · cases hR
    · exact lex_ne hR
  unfold lexT at hR
  rw [hl] at hR
  split at hR
  · cases hR
  · rename_i h
    exact (rcut_any s _ w (by omega) hR).mono fun e w' ⟨⟨v, he, hv⟩, hb⟩ => ⟨⟨v, he, TokV.at hv hne⟩, hb⟩
theorem cut_row (s : ByteArray) (T : List (Tk × Nat)) (w : World) (hT : Tb w) (hR : lexT s.data.toList = .ok T) :
    Calls Tryz.prog 5 #[.string s] w fun e w' => (∃ v, e = .returned (.tuple #[v, .nilIface]) ∧ RowAt w' v T) ∧ Below w.heap.size w w' := by
  have hne : T ≠ [] := by
    unfold lexT at hR
    split at hR
    · cases hR
    · exact lex_ne hR
  exact (cut_ok s T w hT hR).mono fun e w' ⟨⟨v, he, hv⟩, hb⟩ => ⟨⟨v, he, hv.at hne⟩, hb⟩
set_option maxRecDepth 100000 in
set_option maxHeartbeats 4000000 in
theorem walkI (s x : ByteArray) (hs : s.size ≤ maxLen) (hx : x.size ≤ maxLen) (w : World) (hT : Tb w) :
    Calls Tryz.prog 3 #[.string s, .string x] w fun e w' => e = .returned (.bool true) ∧ Below w.heap.size w w' := by
  unfold maxLen at hs hx
  by_cases hbig : 16484 < s.size
  · have hA := alive_yes w hT
    go_enter Tryz.func3, Tryz.ntmps3
    go_wp2_with (go_at_call 4; ((with_reducible refine hA.mono ?_); rintro e w1 ⟨rfl, hb⟩))
    go_ret
    exact ⟨rfl, hb⟩
  · have hs' : s.size ≤ 16484 := by omega
    clear hbig hs
    by_cases hbx : 100 < x.size
    · have hA := alive_yes w hT
      go_enter Tryz.func3, Tryz.ntmps3
      go_wp2_with (go_at_call 4; ((with_reducible refine hA.mono ?_); rintro e w1 ⟨rfl, hb⟩))
      go_ret
      exact ⟨rfl, hb⟩
    · have hx' : x.size ≤ 100 := by omega
      clear hbx hx
      have hN := nmd_any x
      have hM := rnmd_any x hx'
      cases hl : lexT s.data.toList with
      | er e0 a =>
        have hC := cut_er s e0 a w hT hl
        have hD := fun w => rcut_er s e0 a w hl
        have hne := lexT_ne hl
        have hTd := fun w hT => told_er (a : Int) (e0 : Int) (by omega) w hT
        have hnz : (((e0 : Nat) : Int) == 0) = false := by simp only [beq_eq_false_iff_ne]; omega
        clear hl hne
        go_enter Tryz.func3, Tryz.ntmps3
        go_wp2_with (first | (go_at_call 5; ((with_reducible refine hC.mono ?_); (rintro e w1 ⟨rfl, hb1⟩); have hT1 := hT.of hb1)) | (go_at_call 6; ((with_reducible refine (hD _).mono ?_); (rintro e w2 ⟨rfl, hb2⟩); have hT2 := (hT1.of hb2).alloc (.cells #[.int .i64 (a : Int), .int .i64 (e0 : Int)] 30))) | (go_at_call 7; ((with_reducible refine (same_nil _).mono ?_); rintro e w3 ⟨rfl, rfl⟩)) | (go_at_call 8; ((with_reducible refine (hTd _ hT2).mono ?_); (rintro e w4 ⟨rfl, hb4⟩); have hT4 := hT2.of hb4)) | (go_at_call 9; ((with_reducible refine (hN _ hT4).mono ?_); (rintro e w5 ⟨rfl, hb5⟩); have hT5 := hT4.of hb5)) | (go_at_call 10; ((with_reducible refine (hM _).mono ?_); (rintro e w6 ⟨rfl, hb6⟩); have hT6 := hT5.of hb6)) | (go_at_call 4; ((with_reducible refine (alive_yes _ hT6).mono ?_); rintro e w7 ⟨rfl, hb7⟩)))
        go_ret
        exact ⟨rfl, tr (tr (tr (tr (aB (tr hb1 hb2) _) hb4) hb5) hb6) hb7⟩
      | ok T =>
        have hC := cut_row s T w hT hl
        have hD := fun w => rcut_ok s T w hl
        have hTl : T.length ≤ 100000 := by
          have hsl : s.data.toList.length = s.size := by simp
          unfold lexT at hl
          split at hl
          · cases hl
          · have := lex_count _ _ _ _ hl; omega
        have hSy := fun v1 v2 w h1 h2 => same_yes v1 v2 T w h1 h2 hTl
        clear hl hTl
        go_enter Tryz.func3, Tryz.ntmps3
        go_wp2_with (first | (go_at_call 5; ((with_reducible refine hC.mono ?_); (rintro e w1 ⟨⟨v1, rfl, hr1⟩, hb1⟩); have hT1 := hT.of hb1)) | (go_at_call 6; ((with_reducible refine (hD _).mono ?_); (rintro e w2 ⟨⟨v2, rfl, hq2⟩, hb2⟩); have hA2 := aB (Below.refl w2.heap.size w2) (.cells #[.int .i64 0, .int .i64 0] 30); have hT2 := (hT1.of hb2).of hA2; have hr2 := (hr1.of hb2).of hA2; have hq3 := hq2.of hA2)) | (go_at_call 7; ((with_reducible refine (hSy _ _ _ hr2 hq3).mono ?_); (rintro e w3 ⟨rfl, n, rfl⟩); have hb3 := bwn hA2 n; have hT3 := (hT1.of hb2).of hb3)) | (go_at_call 8; ((with_reducible refine (told_ok _).mono ?_); (rintro e w4 ⟨rfl, hb4⟩); have hT4 := hT3.of hb4)) | (go_at_call 9; ((with_reducible refine (hN _ hT4).mono ?_); (rintro e w5 ⟨rfl, hb5⟩); have hT5 := hT4.of hb5)) | (go_at_call 10; ((with_reducible refine (hM _).mono ?_); (rintro e w6 ⟨rfl, hb6⟩); have hT6 := hT5.of hb6)) | (go_at_call 4; ((with_reducible refine (alive_yes _ hT6).mono ?_); rintro e w7 ⟨rfl, hb7⟩)))
        go_ret
        exact ⟨rfl, tr (tr (tr (tr (tr (tr hb1 hb2) hb3) hb4) hb5) hb6) hb7⟩
theorem own : ownKnob Tryz.prog.godebug = none := by kernel_rfl
set_option maxRecDepth 100000 in
theorem lifted (os : Os) (started : os.Started) (H : Type) (enc : TypeId × Value → H) :
    ReturnsInHanded {} Tryz.checked os 3 .any (fun w args => (Rows.lexCutsSpec.pre enc Tryz.prog Tryz.f3 [] false w args ∧ laidMetH Tryz.prog laidAll w) ∧ sizedMet enc Tryz.prog Tryz.f3 (OpenSpec.ofChange Rows.lexCutsSpec) false w args)
      (Rows.lexCutsSpec.post enc Tryz.prog Tryz.f3 false true false false) := by
  refine returnsInHanded_of_change_and (C := Tryz.checked) (X := fun w _ => laidMetH Tryz.prog laidAll w) (fun _ _ _ hh h => h.of_heap hh) own started (by kernel_rfl) Tryz.func3
    (ChangeSpec.witness_shaped (enc := enc) (C := Tryz.checked) (os := os) (X := fun w _ => laidMetH Tryz.prog laidAll w) false (World.doorLaid Tryz.prog 400 os) #[.string ByteArray.empty, .string ByteArray.empty] 8 rfl (World.shaped_of_RefB (by kernel_rfl) (by kernel_rfl)) (by kernel_rfl) (by kernel_rfl) (by kernel_rfl) (door_met os _)) ?_
  intro W base args ds gs before hval0 hW _ _ hL _
  have hval : ∀ (j : Nat) t v, Tryz.f3.params[j]? = some t → args[j]? = some v → Value.okWide Tryz.prog W .any base t v := hval0
  have hW' := hW
  obtain ⟨p, q, hA0, hV, rfl, hfz, hnd⟩ := hW
  have hA : DataW.TrodAll enc Tryz.prog W 0 (fun _ => true) true Tryz.f3.params.toList args.toList ds p := hA0
  rw [Tryz.params3] at hA hval
  obtain ⟨v0, vs0, d0, ds0, p0, q0, hargs, rfl, rfl, h0, r0⟩ := trodAll_cons hA
  obtain ⟨v1, vs1, d1, ds1, p1, q1, rfl, rfl, rfl, h1, r1⟩ := trodAll_cons r0
  obtain ⟨rfl, rfl, rfl⟩ := trodAll_nil r1
  obtain rfl : args = #[v0, v1] := by cases args; simp_all
  obtain ⟨rfl, rfl⟩ := trodVars_none hV
  obtain ⟨m0, rfl, rfl, rfl, y0⟩ := open_string Tryz.underlying9 (hval 0 9 v0 rfl rfl) h0
  obtain ⟨m1, rfl, rfl, rfl, y1⟩ := open_string Tryz.underlying9 (hval 1 9 v1 rfl rfl) h1
  clear hA0 hval0
  simp only [List.append_nil] at hW'
  refine (walkI m0 m1 y0 y1 W (tb_of_laid hL)).mono fun e W' ⟨he, hg⟩ => ?_
  subst he
  exact ⟨_, rfl, _, _, _, [], _, [], hW', trodAll_mk1 (shut_bool Tryz.underlying4 _), (trodAll_cons_mk (shut_string Tryz.underlying9 y0) (trodAll_cons_mk (shut_string Tryz.underlying9 y1) trodAll_mk0)), rfl, hg.frame _, fun h => by cases h⟩
theorem over : Rows.LexCutsSaid :=
  OpenClaim.holds_of_wide 3 Tryz.f3 rfl rfl rfl rfl rfl rfl rfl ⟨rfl, rfl, rfl, rfl, rfl⟩ rfl rfl rfl rfl rfl (by kernel_rfl) Tryz.func3 (by kernel_rfl)
    (of_decide_eq_true (by kernel_rfl)) (by unfold Func.isWrapper; first | (rw [if_pos (by decide +kernel)]; kernel_rfl) | (rw [if_neg (by decide +kernel)]; exact ⟨rfl, rfl⟩))
    (fun os started H enc _ => lifted os started H enc)
/-- The card: the row, its listed tables tied to the text of the program. -/
theorem proved : Rows.LexCutsCardSaid :=
  Claim7.holds_tied_plain_at .later [] [.data, .data, .data, .handle, .sentinel, .sentinel, .data, .data] true Rows.lexCutsCard.stood.harness Rows.lexCutsCard.stood.looks
    over (fun _ h => by cases h) (by kernel_rfl) (fun _ h => by cases h) lexCuts_row_tie rfl ⟨rfl, rfl⟩ (by kernel_rfl) rfl
    (fun f fn hf hfn => by
      obtain rfl : f = 3 := Option.some.inj ((show Tryz.prog.funcNamed "sacristy/sacristylaw06.LexCuts" = some 3 by kernel_rfl).symm.trans hf) |>.symm
      obtain rfl : fn = Tryz.f3 := (Option.some.inj (Tryz.func3.symm.trans hfn)).symm
      exact ⟨by kernel_rfl, fun j t ht => by
        rw [Tryz.params3] at ht
        have hm : t ∈ [9, 9] := by simpa using Array.mem_of_getElem? ht
        have hall : ([9, 9].all fun u => !Tryz.prog.wantsStandIn u) = true := by kernel_rfl
        exact (show Tryz.prog.wantsStandIn t = false by simpa using List.all_eq_true.1 hall t hm)⟩)
    (by kernel_rfl)
end Go.Proofs.YtmccnoimnieldaaGreatDoor.lexCuts
