/- What is proved: ExprBack returns true for any expression, any tokens around, any place (its own card): what is told is read again, whatever stands ahead of it and behind it, and what is read is told by its tokens. Conditions: none beyond the card's own: the listed package-level variables (the tables of packages expr and lex, those of the library's numbers, errors.errorType, strconv's two errors) hold what the program's text lays in them, which the card ties to that text. -/
import Derived.Test.YtnblnmehfhkfmaaGreatDoorFn
import Derived.Test.YtnblnmehfhkfmaaGreatDoorFo
import Derived.Test.YtnblnmehfhkfmaaGreatDoorCards
import Derived.Test.YtnblnmehfhkfmaaGreatDoorTie
import Derived.SevenTiedAt
import Derived.ChangeMaps5
namespace Go.Proofs.YtnblnmehfhkfmaaGreatDoor.exprBack
open Go.ChangeShapes Go.WideShapes Go.ChangeAt Go.RowKit
open Go.ChangeMaps (open_string shut_string)
set_option linter.unusedVariables false
theorem walk_back (e : Xp) (v : Value) (m1 m2 : Option Addr) (NA c1 NB c2 : Nat) (A B : List (Tk × Int)) (at0 : Int) (w : World) (hE : IsB w v e) (ha : RowZ w (.slice m1 NA c1) A) (hv : RowZ w (.slice m2 NB c2) B) (hNA : NA = A.length) (hNB : NB = B.length) (hla : NA ≤ 140737488355328) (hlb : NB ≤ 140737488355328) (hcap : NB ≤ c2) (ha1 : -9223372036854775808 ≤ at0) (ha2 : at0 < 9223372036854775808) (hT : Tb w) :
    Calls Tryz.prog 4 #[v, .slice m1 NA c1, .slice m2 NB c2, .int .i64 at0] w fun r w' => r = .returned (.bool true) ∧ Below w.heap.size w w' := by
  have HE := Lib.hid hE
  cases hE with
  | @mk k n s o l ma cap ho hl hk =>
    obtain ⟨e0, he0⟩ : ∃ e0, e0 = Xp.mk k n s o l := ⟨_, rfl⟩
    have hek : e0.k = k := by rw [he0]; rfl
    rw [← he0] at HE
    have hE0 := HE.out
    by_cases hR : ∃ p q x, at0 = ((p : Nat) : Int) ∧ rdE 40 (bareZ B) p = .ok x q
    · obtain ⟨p, q, x, rfl, hR⟩ := hR
      obtain ⟨_, hpq, hqB, _⟩ := tell_rd 40 _ _ _ _ hR
      rw [bareZ_len] at hqB
      have hm2 : ∃ bb bo, m2 = some ⟨bb, bo, none⟩ := by
        obtain ⟨ma', c', he, hc⟩ := hv.row
        simp only [Value.slice.injEq] at he
        obtain ⟨rfl, -, -⟩ := he
        obtain ⟨b, o', e1, _⟩ := hc 0 (by omega)
        exact ⟨b, o', e1⟩
      obtain ⟨bb, bo, rfl⟩ := hm2
      cases hm : mayB 40 e0
      · exact back_nO e0 k n s o ma _ cap m1 bb bo NA c1 NB c2 A B p q x hR hcap w hE0 ha hv hNA hNB hla hlb hT hm
      · by_cases h2 : k = 2
        · exact back_vO e0 k n s o ma _ cap m1 bb bo NA c1 NB c2 A B p q x hR hcap w hE0 ha hv hNA hNB hla hlb hT hm (hek.trans h2) h2
        · exact back_yO e0 k n s o ma _ cap m1 bb bo NA c1 NB c2 A B p q x hR hcap w hE0 ha hv hNA hNB hla hlb hT hm hek h2
    · have hRd : ∀ W, RowZ W (.slice m2 NB c2) B → Tb W → Calls Tryz.prog 16 #[.slice m2 NB c2, .int .i64 at0] W (ReadEr W) := fun W hv hT => by
        by_cases h0 : at0 < 0
        · exact (read_neg hv (by omega) hT at0 h0 ha1).mono fun r w' ⟨h1, h2⟩ => ⟨⟨_, _, h1⟩, h2⟩
        · obtain ⟨p, rfl⟩ := Int.eq_ofNat_of_zero_le (show 0 ≤ at0 by omega)
          have := read_any hv (by omega) hT p (by omega)
          cases h9 : rdE 40 (bareZ B) p with
          | ok x q => exact absurd ⟨p, q, x, rfl, h9⟩ hR
          | er c q =>
            rw [h9] at this
            exact this.mono fun r w' ⟨h1, h2⟩ => ⟨⟨_, _, h1⟩, h2⟩
      cases hm : mayB 40 e0
      · exact back_nE e0 k n s o ma _ cap m1 m2 NA c1 NB c2 A B at0 w hE0 ha hv hNA hNB hla hlb hT hm hRd
      · by_cases h2 : k = 2
        · exact back_vE e0 k n s o ma _ cap m1 m2 NA c1 NB c2 A B at0 w hE0 ha hv hNA hNB hla hlb hT hm (hek.trans h2) h2 hRd
        · exact back_yE e0 k n s o ma _ cap m1 m2 NA c1 NB c2 A B at0 w hE0 ha hv hNA hNB hla hlb hT hm hek h2 hRd
theorem laidOut : laidOutB Tryz.prog = true := by kernel_rfl
theorem own : ownKnob Tryz.prog.godebug = none := by kernel_rfl
set_option maxRecDepth 100000 in
theorem lifted (os : Os) (started : os.Started) (H : Type) (enc : TypeId × Value → H) :
    ReturnsInHanded {} Tryz.checked os 4 .any (fun w args => (Rows.exprBackSpec.pre enc Tryz.prog Tryz.f4 [] false w args ∧ laidMetH Tryz.prog laidAll w) ∧ sizedMet enc Tryz.prog Tryz.f4 (OpenSpec.ofChange Rows.exprBackSpec) false w args)
      (Rows.exprBackSpec.post enc Tryz.prog Tryz.f4 false true false false) := by
  refine returnsInHanded_of_change_and (C := Tryz.checked) (X := fun w _ => laidMetH Tryz.prog laidAll w) (fun _ _ _ hh h => h.of_heap hh) own started (by kernel_rfl) Tryz.func4
    (ChangeSpec.witness_shaped (enc := enc) (C := Tryz.checked) (os := os) (X := fun w _ => laidMetH Tryz.prog laidAll w) false (World.doorLaid Tryz.prog 400 os) #[.agg #[.int .u8 0, .int .u64 0, .string ByteArray.empty, .int .u8 0, .slice none 0 0], .slice none 0 0, .slice none 0 0, .int .i64 0] 8 rfl (World.shaped_of_RefB (by kernel_rfl) (by kernel_rfl)) (by kernel_rfl) (by kernel_rfl) (by kernel_rfl) (door_met os _)) ?_
  intro W base args ds gs before hval0 hW hcnd hsz hL _
  have hval : ∀ (j : Nat) t v, Tryz.f4.params[j]? = some t → args[j]? = some v → Value.okWide Tryz.prog W .any base t v := hval0
  have hW' := hW
  obtain ⟨p, q, hA0, hV, rfl, hfz, hnd⟩ := hW
  have hA : DataW.TrodAll enc Tryz.prog W 0 (fun _ => true) true Tryz.f4.params.toList args.toList ds p := hA0
  have hsz' : (DataW.weightsEach Tryz.prog (Tryz.f4.params.toList ++ Rows.exprBackSpec.plain.varTypes Tryz.prog) (ds ++ gs)).all (· ≤ reachBytes) = true := hsz
  rw [Tryz.params4] at hA hval hsz'
  obtain ⟨v0, vs0, d0, ds0, p0, q0, hargs, rfl, rfl, h0, r0⟩ := trodAll_cons hA
  obtain ⟨v1, vs1, d1, ds1, p1, q1, rfl, rfl, rfl, h1, r1⟩ := trodAll_cons r0
  obtain ⟨v2, vs2, d2, ds2, p2, q2, rfl, rfl, rfl, h2, r2⟩ := trodAll_cons r1
  obtain ⟨v3, vs3, d3, ds3, p3, q3, rfl, rfl, rfl, h3, r3⟩ := trodAll_cons r2
  obtain ⟨rfl, rfl, rfl⟩ := trodAll_nil r3
  obtain rfl : args = #[v0, v1, v2, v3] := by cases args; simp_all
  obtain ⟨rfl, rfl⟩ := trodVars_none hV
  obtain ⟨a1, len1, cap1, rfl⟩ := okWide_slice Tryz.underlying31 (hval 1 31 v1 rfl rfl)
  obtain ⟨a2, len2, cap2, rfl⟩ := okWide_slice Tryz.underlying31 (hval 2 31 v2 rfl rfl)
  obtain ⟨m3, rfl, rfl, rfl, y3⟩ := open_int Tryz.underlying3 (hval 3 3 v3 rfl rfl) h3
  have hwt : ∀ m, (m ∈ DataW.weights Tryz.prog 25 d0 ∨ m ∈ DataW.weights Tryz.prog 31 d1 ∨ m ∈ DataW.weights Tryz.prog 31 d2) → m ≤ reachBytes := fun m hm => by
    have hm' : m ∈ DataW.weightsEach Tryz.prog ([25, 31, 31, 3] ++ Rows.exprBackSpec.plain.varTypes Tryz.prog) ([d0, d1, d2, .lit (.int .i64 m3)] ++ []) := by
      simp only [List.cons_append, DataW.weightsEach]
      rcases hm with hm | hm | hm
      · exact List.mem_append_left _ hm
      · exact List.mem_append_right _ (List.mem_append_left _ hm)
      · exact List.mem_append_right _ (List.mem_append_right _ (List.mem_append_left _ hm))
    exact of_decide_eq_true (List.all_eq_true.1 hsz' _ hm')
  obtain ⟨e, hE, hsb⟩ := open_expr (hval 0 25 v0 rfl rfl) h0 (fun m hm => hwt m (.inl hm))
  have h1k := h1
  have h2k := h2
  obtain ⟨fuel1, hf1⟩ := h1
  obtain ⟨fuel2, hf2⟩ := h2
  obtain ⟨A, hA1, hA2, _, hA3⟩ := open_toks hf1 (fun m hm => hwt m (.inr (.inl hm)))
  obtain ⟨B, hB1, hB2, hB4, hB3⟩ := open_toks hf2 (fun m hm => hwt m (.inr (.inr hm)))
  clear hA0 hval0
  simp only [List.append_nil] at hW'
  have hlt : ∀ x ∈ p0 ++ (p1 ++ p2), x.block < W.heap.size := fun x hx => by simpa using hW'.lt x hx
  have hlt0 : ∀ x ∈ p0, x.block < W.heap.size := fun x hx => hlt x (List.mem_append_left _ hx)
  have hlt1 : ∀ x ∈ p1, x.block < W.heap.size := fun x hx => hlt x (List.mem_append_right _ (List.mem_append_left _ hx))
  have hlt2 : ∀ x ∈ p2, x.block < W.heap.size := fun x hx => hlt x (List.mem_append_right _ (List.mem_append_right _ hx))
  have b3 := bounds_i64 y3
  refine (walk_back e v0 a1 a2 len1 cap1 len2 cap2 A B m3 W hE hA3 hB3 hA1 hB1 hA2 hB2 hB4 (by omega) (by omega) (tb_of_laid hL)).mono fun r W' ⟨he, hg⟩ => ?_
  subst he
  have hk := trodAll_cons_mk (Below.trod laidOut (by kernel_rfl) (of_decide_eq_true (by kernel_rfl)) h0 hg hlt0) (trodAll_cons_mk (Below.trod laidOut (by kernel_rfl) (of_decide_eq_true (by kernel_rfl)) h1k hg hlt1) (trodAll_cons_mk (Below.trod laidOut (by kernel_rfl) (of_decide_eq_true (by kernel_rfl)) h2k hg hlt2) (trodAll_cons_mk (shut_int Tryz.underlying3 y3) trodAll_mk0)))
  simp only [List.append_nil] at hk
  exact ⟨_, rfl, _, _, _, [], p0 ++ (p1 ++ p2), [], hW', trodAll_mk1 (shut_bool Tryz.underlying4 _), hk, rfl, hg.frame _, fun h => by cases h⟩
theorem over : Rows.ExprBackSaid :=
  OpenClaim.holds_of_wide 4 Tryz.f4 rfl rfl rfl rfl rfl rfl rfl ⟨rfl, rfl, rfl, rfl, rfl⟩ rfl rfl rfl rfl rfl (by kernel_rfl) Tryz.func4 (by kernel_rfl)
    (of_decide_eq_true (by kernel_rfl)) (by unfold Func.isWrapper; first | (rw [if_pos (by decide +kernel)]; kernel_rfl) | (rw [if_neg (by decide +kernel)]; exact ⟨rfl, rfl⟩))
    (fun os started H enc _ => lifted os started H enc)
/-- The card: the row, its listed tables tied to the text of the program. -/
theorem proved : Rows.ExprBackCardSaid :=
  Claim7.holds_tied_plain_at .later [] [.data, .data, .data, .handle, .sentinel, .sentinel, .data, .data, .data] true Rows.exprBackCard.stood.harness Rows.exprBackCard.stood.looks
    over (fun _ h => by cases h) (by kernel_rfl) (fun _ h => by cases h) exprBack_row_tie rfl ⟨rfl, rfl⟩ (by kernel_rfl) rfl
    (fun f fn hf hfn => by
      obtain rfl : f = 4 := Option.some.inj ((show Tryz.prog.funcNamed "sacristy/sacristylaw07.ExprBack" = some 4 by kernel_rfl).symm.trans hf) |>.symm
      obtain rfl : fn = Tryz.f4 := (Option.some.inj (Tryz.func4.symm.trans hfn)).symm
      exact ⟨by kernel_rfl, fun j t ht => by
        rw [Tryz.params4] at ht
        have hm : t ∈ [25, 31, 31, 3] := by simpa using Array.mem_of_getElem? ht
        have hall : ([25, 31, 31, 3].all fun u => !Tryz.prog.wantsStandIn u) = true := by kernel_rfl
        exact (show Tryz.prog.wantsStandIn t = false by simpa using List.all_eq_true.1 hall t hm)⟩)
    (by kernel_rfl)
end Go.Proofs.YtnblnmehfhkfmaaGreatDoor.exprBack
