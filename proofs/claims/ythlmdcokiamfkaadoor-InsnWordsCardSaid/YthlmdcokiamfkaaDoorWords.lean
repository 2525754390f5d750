/- What is proved: InsnWords returns true for any instruction (its own card). Conditions: none beyond the row's own; the two laid tables are tied to the program's text. -/
import Derived.Test.YthlmdcokiamfkaaDoorOpn
import Derived.Test.YthlmdcokiamfkaaDoorR2D
import Derived.Test.YthlmdcokiamfkaaDoorCards
import Derived.Test.YthlmdcokiamfkaaDoorTie
import Derived.SevenTiedAt
namespace Go.Proofs.YthlmdcokiamfkaaDoor.insnWords
open Go.ChangeShapes Go.WideShapes Go.ChangeAt Go.RowKit
set_option linter.unusedVariables false
theorem fin {w w1 w2 w3 : World} {o : Obj} (h1 : Below (w.alloc o).heap.size (w.alloc o) w1) (h2 : Below w1.heap.size w1 w2) (h3 : Below w2.heap.size w2 w3) : Below w.heap.size w w3 := by
  have h0 : Below w.heap.size w (w.alloc o) := (Below.refl _ _).alloc (Nat.le_refl _) _
  have e1 := h0.size
  have e2 := h1.size
  have e3 := h2.size
  exact h0.trans ((h1.mono e1).trans ((h2.mono (Nat.le_trans e1 e2)).trans (h3.mono (Nat.le_trans e1 (Nat.le_trans e2 e3)))))
theorem encAny (x : In) (h : x.wf) (w : World) (hT : Tb w) :
    Calls Tryd.prog 8 #[.agg #[.int .u8 x.op, .int .u8 x.rd, .int .u8 x.rs1, .int .u8 x.rs2, .int .i64 x.imm]] w fun e w' => e = .returned (.tuple #[.int .u32 (encW x.op x.rd x.rs1 x.rs2 x.imm : Nat), .int .i64 (encE x.op x.rd x.rs1 x.rs2 x.imm)]) ∧ Below w.heap.size w w' :=
  enc_any x.op x.rd x.rs1 x.rs2 x.imm h.1 h.2.1 h.2.2.1 h.2.2.2.1 h.2.2.2.2.1 h.2.2.2.2.2 w hT.1 hT.2
theorem rencAny (x : In) (h : x.wf) (w : World) :
    Calls Tryd.prog 9 #[.agg #[.int .u8 x.op, .int .u8 x.rd, .int .u8 x.rs1, .int .u8 x.rs2, .int .i64 x.imm]] w fun e w' => e = .returned (.tuple #[.int .u32 (encW x.op x.rd x.rs1 x.rs2 x.imm : Nat), .int .i64 (encE x.op x.rd x.rs1 x.rs2 x.imm)]) ∧ Below w.heap.size w w' :=
  renc_any x.op x.rd x.rs1 x.rs2 x.imm h.1 h.2.1 h.2.2.1 h.2.2.2.1 h.2.2.2.2.1 h.2.2.2.2.2 w
set_option maxHeartbeats 1000000 in
theorem walk (x : In) (hx : x.wf) (w : World) (h : Tb w) :
    Calls Tryd.prog 3 #[.agg #[.int .u8 x.op, .int .u8 x.rd, .int .u8 x.rs1, .int .u8 x.rs2, .int .i64 x.imm]] w fun e w' => e = .returned (.bool true) ∧ Below w.heap.size w w' := by
  go_enter Tryd.func3, Tryd.ntmps3
  go_wp2_with (first | (go_at_call 8; ((with_reducible refine (encAny x hx _ (h.alloc _)).mono ?_); (rintro e w1 ⟨rfl, hb1⟩); have h1 := (h.alloc _).of hb1; obtain ⟨hc1, hf1⟩ := bcell hb1; have hz0 : w.heap.size < w1.heap.size := (by have := hb1.size; simp at this; omega))) | (go_at_call 9; ((with_reducible refine (rencAny x hx _).mono ?_); (rintro e w2 ⟨rfl, hb2⟩); have h2 := h1.of hb2)) | (go_at_call 10; (with_reducible refine (alive_any _ h2).mono ?_); rintro e w3 ⟨rfl, hb3⟩))
  go_ret
  exact ⟨rfl, fin hb1 hb2 hb3⟩
theorem walkI (m00 m01 m02 m03 m04 : Int) (y00 : (Lit.int .u8 m00).wf = true) (y01 : (Lit.int .u8 m01).wf = true) (y02 : (Lit.int .u8 m02).wf = true) (y03 : (Lit.int .u8 m03).wf = true) (y04 : (Lit.int .i64 m04).wf = true) (w : World) (h : Tb w) :
    Calls Tryd.prog 3 #[.agg #[.int .u8 m00, .int .u8 m01, .int .u8 m02, .int .u8 m03, .int .i64 m04]] w fun e w' => e = .returned (.bool true) ∧ Below w.heap.size w w' := by
  obtain ⟨x, hx, rfl, rfl, rfl, rfl, rfl⟩ := to_in y00 y01 y02 y03 y04
  exact walk x hx w h
theorem own : ownKnob Tryd.prog.godebug = none := by kernel_rfl
set_option maxRecDepth 100000 in
theorem lifted (os : Os) (started : os.Started) (H : Type) (enc : TypeId × Value → H) :
    ReturnsInHanded {} Tryd.checked os 3 .any (fun w args => (Rows.insnWordsSpec.pre enc Tryd.prog Tryd.f3 [] false w args ∧ laidMetH Tryd.prog laidAll w) ∧ sizedMet enc Tryd.prog Tryd.f3 (OpenSpec.ofChange Rows.insnWordsSpec) false w args)
      (Rows.insnWordsSpec.post enc Tryd.prog Tryd.f3 false true false false) := by
  refine returnsInHanded_of_change_and (C := Tryd.checked) (X := fun w _ => laidMetH Tryd.prog laidAll w) (fun _ _ _ hh h => h.of_heap hh) own started (by kernel_rfl) Tryd.func3
    (ChangeSpec.witness_shaped (enc := enc) (C := Tryd.checked) (os := os) (X := fun w _ => laidMetH Tryd.prog laidAll w) false (World.doorLaid Tryd.prog 400 os) #[.agg #[.int .u8 0, .int .u8 0, .int .u8 0, .int .u8 0, .int .i64 0]] 8 rfl (World.shaped_of_RefB (by kernel_rfl) (by kernel_rfl)) (by kernel_rfl) (by kernel_rfl) (by kernel_rfl) (door_met os _)) ?_
  intro W base args ds gs before hval0 hW _ _ hL _
  have hval : ∀ (j : Nat) t v, Tryd.f3.params[j]? = some t → args[j]? = some v → Value.okWide Tryd.prog W .any base t v := hval0
  have hW' := hW
  obtain ⟨p, q, hA0, hV, rfl, hfz, hnd⟩ := hW
  have hA : DataW.TrodAll enc Tryd.prog W 0 (fun _ => true) true Tryd.f3.params.toList args.toList ds p := hA0
  rw [Tryd.params3] at hA hval
  obtain ⟨v0, vs0, d0, ds0, p0, q0, hargs, rfl, rfl, h0, r0⟩ := trodAll_cons hA
  obtain ⟨rfl, rfl, rfl⟩ := trodAll_nil r0
  obtain rfl : args = #[v0] := by cases args; simp_all
  obtain ⟨rfl, rfl⟩ := trodVars_none hV
  obtain ⟨m00, m01, m02, m03, m04, rfl, rfl, rfl, y00, y01, y02, y03, y04⟩ := open_insn (hval 0 23 v0 rfl rfl) h0
  clear hA0 hval0
  simp only [List.append_nil] at hW'
  refine (walkI m00 m01 m02 m03 m04 y00 y01 y02 y03 y04 W (tb_of_laid hL)).mono fun e W' ⟨he, hg⟩ => ?_
  subst he
  exact ⟨_, rfl, _, _, _, [], _, [], hW', trodAll_mk1 (shut_bool Tryd.underlying4 _), (trodAll_cons_mk (shut_insn y00 y01 y02 y03 y04) trodAll_mk0), rfl, hg.frame _, fun h => by cases h⟩
theorem over : Rows.InsnWordsSaid :=
  OpenClaim.holds_of_wide 3 Tryd.f3 rfl rfl rfl rfl rfl rfl rfl ⟨rfl, rfl, rfl, rfl, rfl⟩ rfl rfl rfl rfl rfl (by kernel_rfl) Tryd.func3 (by kernel_rfl)
    (of_decide_eq_true (by kernel_rfl)) (by unfold Func.isWrapper; first | (rw [if_pos (by decide +kernel)]; kernel_rfl) | (rw [if_neg (by decide +kernel)]; exact ⟨rfl, rfl⟩))
    (fun os started H enc _ => lifted os started H enc)
/-- The card: the row, its listed tables tied to the text of the program. -/
theorem proved : Rows.InsnWordsCardSaid :=
  Claim7.holds_tied_plain_at .later [] [.data, .data] true Rows.insnWordsCard.stood.harness Rows.insnWordsCard.stood.looks
    over (fun _ h => by cases h) (by kernel_rfl) (fun _ h => by cases h) insnWords_row_tie rfl ⟨rfl, rfl⟩ (by kernel_rfl) rfl
    (fun f fn hf hfn => by
      obtain rfl : f = 3 := Option.some.inj ((show Tryd.prog.funcNamed "sacristy/sacristylaw02.InsnWords" = some 3 by kernel_rfl).symm.trans hf) |>.symm
      obtain rfl : fn = Tryd.f3 := (Option.some.inj (Tryd.func3.symm.trans hfn)).symm
      exact ⟨by kernel_rfl, fun j t ht => by
        rw [Tryd.params3] at ht
        have hm : t ∈ [23] := by simpa using Array.mem_of_getElem? ht
        have hall : ([23].all fun u => !Tryd.prog.wantsStandIn u) = true := by kernel_rfl
        exact (show Tryd.prog.wantsStandIn t = false by simpa using List.all_eq_true.1 hall t hm)⟩)
    (by kernel_rfl)
end Go.Proofs.YthlmdcokiamfkaaDoor.insnWords
