/- Leaves of needs.met. -/
import Derived.Test.YtfpoflddnlbpjaaGreatDoorZmP
namespace Go.Proofs.YtfpoflddnlbpjaaGreatDoor
open Go.ChangeShapes Go.WideShapes Go.ChangeAt Go.RowKit
set_option linter.unusedVariables false
set_option maxRecDepth 100000
set_option maxHeartbeats 8000000
variable {a0 a1 k ne na nb nl ce ca cb cl : Nat} {lo hi ar : Int} {nm fr : List UInt8} {me ma mb ml : Option Addr} {b1 b2 b5 b6 b7 b8 b9 sc sec mx mu bd el : Bool} {w : World}
theorem met_3 (hT : Tb w) (hA1 : AskP a0 nm true) (hA2 : AskP a1 fr true) : MetS a0 a1 lo hi ar true false bd el k ne na nb nl ce ca cb cl nm fr me ma mb ml sec true w false := by
  unfold MetS
  unfold AskP at hA1 hA2
  obtain ⟨W, hW, hBW, hTW, hR0, hR1⟩ := met_pre a0 a1 lo hi ar true false bd el k ne na nb nl ce ca cb cl nm fr me ma mb ml sec true hT
  obtain ⟨w00, -⟩ := nine hR0
  obtain ⟨-, w11, -⟩ := nine hR1
  clear hT
  have hun : undef = Value.tuple #[] := rfl
  go_enter Tryz.func126, Tryz.ntmps126
  go_wp2_with first
    | (go_at_call 156; ((generalize ndV a0 a1 lo hi ar true false bd el = V0); (generalize sdV k ne na nb nl ce ca cb cl nm fr me ma mb ml sec true = V1); (clear hW); (with_reducible refine (hA1 _ hTW).mono ?_); (rintro e w1 ⟨rfl, hb1⟩); (have hT1 := hTW.of hb1); (have hS0 := rowG_b hR0 hb1); (have hS1 := rowG_b hR1 hb1); (clear hR0 hR1 w00 w11 hA1); (obtain ⟨-, x01, -⟩ := nine hS0); (obtain ⟨-, -, x12, -⟩ := nine hS1)))
    | (go_at_call 156; ((with_reducible refine (hA2 _ hT1).mono ?_); (rintro e w2 ⟨rfl, hb2⟩); (have hU0 := rowG_b hS0 hb2); (have hU1 := rowG_b hS1 hb2); (clear hS0 hS1 x01 x12 hA2); (obtain ⟨-, -, y02, y03, -, -, -, -, -⟩ := nine hU0); (obtain ⟨-, -, -, y13, y14, -, -, -, -⟩ := nine hU1)))
  go_ret
  exact ⟨rfl, (hBW.trans (hb1.mono hBW.size)).trans (hb2.mono (hBW.trans (hb1.mono hBW.size)).size)⟩
theorem met_7 (hT : Tb w) (hA1 : AskP a0 nm true) (hA2 : AskP a1 fr true) (h5 : decide (lo ≤ (ne : Int)) = true) (h6 : decide ((ne : Int) ≤ hi) = true) (h7 : decide ((na : Int) ≤ ar) = true) (h8 : ((nb : Int) == 0) = false) : MetS a0 a1 lo hi ar true true false el k ne na nb nl ce ca cb cl nm fr me ma mb ml sec mu w false := by
  unfold MetS
  unfold AskP at hA1 hA2
  obtain ⟨W, hW, hBW, hTW, hR0, hR1⟩ := met_pre a0 a1 lo hi ar true true false el k ne na nb nl ce ca cb cl nm fr me ma mb ml sec mu hT
  obtain ⟨w00, -⟩ := nine hR0
  obtain ⟨-, w11, -⟩ := nine hR1
  clear hT
  have hun : undef = Value.tuple #[] := rfl
  go_enter Tryz.func126, Tryz.ntmps126
  go_wp2_with first
    | (go_at_call 156; ((generalize ndV a0 a1 lo hi ar true true false el = V0); (generalize sdV k ne na nb nl ce ca cb cl nm fr me ma mb ml sec mu = V1); (clear hW); (with_reducible refine (hA1 _ hTW).mono ?_); (rintro e w1 ⟨rfl, hb1⟩); (have hT1 := hTW.of hb1); (have hS0 := rowG_b hR0 hb1); (have hS1 := rowG_b hR1 hb1); (clear hR0 hR1 w00 w11 hA1); (obtain ⟨-, x01, -⟩ := nine hS0); (obtain ⟨-, -, x12, -⟩ := nine hS1)))
    | (go_at_call 156; ((with_reducible refine (hA2 _ hT1).mono ?_); (rintro e w2 ⟨rfl, hb2⟩); (have hU0 := rowG_b hS0 hb2); (have hU1 := rowG_b hS1 hb2); (clear hS0 hS1 x01 x12 hA2); (obtain ⟨-, -, y02, y03, y04, y05, y06, y07, -⟩ := nine hU0); (obtain ⟨-, -, -, y13, y14, y15, y16, y17, -⟩ := nine hU1)))
  go_ret
  exact ⟨rfl, (hBW.trans (hb1.mono hBW.size)).trans (hb2.mono (hBW.trans (hb1.mono hBW.size)).size)⟩
theorem met_11 (hT : Tb w) (hA1 : AskP a0 nm true) (hA2 : AskP a1 fr true) (h5 : decide (lo ≤ (ne : Int)) = true) (h6 : decide ((ne : Int) ≤ hi) = true) (h7 : decide ((na : Int) ≤ ar) = true) (h8 : ((nb : Int) == 0) = true) (h9 : ((nl : Int) == 0) = false) : MetS a0 a1 lo hi ar true true false false k ne na nb nl ce ca cb cl nm fr me ma mb ml sec mu w false := by
  unfold MetS
  unfold AskP at hA1 hA2
  obtain ⟨W, hW, hBW, hTW, hR0, hR1⟩ := met_pre a0 a1 lo hi ar true true false false k ne na nb nl ce ca cb cl nm fr me ma mb ml sec mu hT
  obtain ⟨w00, -⟩ := nine hR0
  obtain ⟨-, w11, -⟩ := nine hR1
  clear hT
  have hun : undef = Value.tuple #[] := rfl
  go_enter Tryz.func126, Tryz.ntmps126
  go_wp2_with first
    | (go_at_call 156; ((generalize ndV a0 a1 lo hi ar true true false false = V0); (generalize sdV k ne na nb nl ce ca cb cl nm fr me ma mb ml sec mu = V1); (clear hW); (with_reducible refine (hA1 _ hTW).mono ?_); (rintro e w1 ⟨rfl, hb1⟩); (have hT1 := hTW.of hb1); (have hS0 := rowG_b hR0 hb1); (have hS1 := rowG_b hR1 hb1); (clear hR0 hR1 w00 w11 hA1); (obtain ⟨-, x01, -⟩ := nine hS0); (obtain ⟨-, -, x12, -⟩ := nine hS1)))
    | (go_at_call 156; ((with_reducible refine (hA2 _ hT1).mono ?_); (rintro e w2 ⟨rfl, hb2⟩); (have hU0 := rowG_b hS0 hb2); (have hU1 := rowG_b hS1 hb2); (clear hS0 hS1 x01 x12 hA2); (obtain ⟨-, -, y02, y03, y04, y05, y06, y07, y08⟩ := nine hU0); (obtain ⟨-, -, -, y13, y14, y15, y16, y17, y18⟩ := nine hU1)))
  go_ret
  exact ⟨rfl, (hBW.trans (hb1.mono hBW.size)).trans (hb2.mono (hBW.trans (hb1.mono hBW.size)).size)⟩
theorem met_15 (hT : Tb w) (hA1 : AskP a0 nm true) (hA2 : AskP a1 fr true) (h5 : decide (lo ≤ (ne : Int)) = true) (h6 : decide ((ne : Int) ≤ hi) = false) : MetS a0 a1 lo hi ar true false bd el k ne na nb nl ce ca cb cl nm fr me ma mb ml sec false w false := by
  unfold MetS
  unfold AskP at hA1 hA2
  obtain ⟨W, hW, hBW, hTW, hR0, hR1⟩ := met_pre a0 a1 lo hi ar true false bd el k ne na nb nl ce ca cb cl nm fr me ma mb ml sec false hT
  obtain ⟨w00, -⟩ := nine hR0
  obtain ⟨-, w11, -⟩ := nine hR1
  clear hT
  have hun : undef = Value.tuple #[] := rfl
  go_enter Tryz.func126, Tryz.ntmps126
  go_wp2_with first
    | (go_at_call 156; ((generalize ndV a0 a1 lo hi ar true false bd el = V0); (generalize sdV k ne na nb nl ce ca cb cl nm fr me ma mb ml sec false = V1); (clear hW); (with_reducible refine (hA1 _ hTW).mono ?_); (rintro e w1 ⟨rfl, hb1⟩); (have hT1 := hTW.of hb1); (have hS0 := rowG_b hR0 hb1); (have hS1 := rowG_b hR1 hb1); (clear hR0 hR1 w00 w11 hA1); (obtain ⟨-, x01, -⟩ := nine hS0); (obtain ⟨-, -, x12, -⟩ := nine hS1)))
    | (go_at_call 156; ((with_reducible refine (hA2 _ hT1).mono ?_); (rintro e w2 ⟨rfl, hb2⟩); (have hU0 := rowG_b hS0 hb2); (have hU1 := rowG_b hS1 hb2); (clear hS0 hS1 x01 x12 hA2); (obtain ⟨-, -, y02, y03, y04, y05, -, -, -⟩ := nine hU0); (obtain ⟨-, -, -, y13, y14, y15, -, -, -⟩ := nine hU1)))
  go_ret
  exact ⟨rfl, (hBW.trans (hb1.mono hBW.size)).trans (hb2.mono (hBW.trans (hb1.mono hBW.size)).size)⟩
theorem met_19 (hT : Tb w) (hA1 : AskP a0 nm true) (hA2 : AskP a1 fr true) (h5 : decide (lo ≤ (ne : Int)) = true) (h6 : decide ((ne : Int) ≤ hi) = true) (h7 : decide ((na : Int) ≤ ar) = true) : MetS a0 a1 lo hi ar true false true true k ne na nb nl ce ca cb cl nm fr me ma mb ml sec false w true := by
  unfold MetS
  unfold AskP at hA1 hA2
  obtain ⟨W, hW, hBW, hTW, hR0, hR1⟩ := met_pre a0 a1 lo hi ar true false true true k ne na nb nl ce ca cb cl nm fr me ma mb ml sec false hT
  obtain ⟨w00, -⟩ := nine hR0
  obtain ⟨-, w11, -⟩ := nine hR1
  clear hT
  have hun : undef = Value.tuple #[] := rfl
  go_enter Tryz.func126, Tryz.ntmps126
  go_wp2_with first
    | (go_at_call 156; ((generalize ndV a0 a1 lo hi ar true false true true = V0); (generalize sdV k ne na nb nl ce ca cb cl nm fr me ma mb ml sec false = V1); (clear hW); (with_reducible refine (hA1 _ hTW).mono ?_); (rintro e w1 ⟨rfl, hb1⟩); (have hT1 := hTW.of hb1); (have hS0 := rowG_b hR0 hb1); (have hS1 := rowG_b hR1 hb1); (clear hR0 hR1 w00 w11 hA1); (obtain ⟨-, x01, -⟩ := nine hS0); (obtain ⟨-, -, x12, -⟩ := nine hS1)))
    | (go_at_call 156; ((with_reducible refine (hA2 _ hT1).mono ?_); (rintro e w2 ⟨rfl, hb2⟩); (have hU0 := rowG_b hS0 hb2); (have hU1 := rowG_b hS1 hb2); (clear hS0 hS1 x01 x12 hA2); (obtain ⟨-, -, y02, y03, y04, y05, y06, y07, y08⟩ := nine hU0); (obtain ⟨-, -, -, y13, y14, y15, y16, y17, y18⟩ := nine hU1)))
  go_ret
  exact ⟨rfl, (hBW.trans (hb1.mono hBW.size)).trans (hb2.mono (hBW.trans (hb1.mono hBW.size)).size)⟩
theorem met_23 (hT : Tb w) (hA1 : AskP a0 nm true) (hA2 : AskP a1 fr true) (h5 : decide (lo ≤ (ne : Int)) = true) (h6 : decide ((ne : Int) ≤ hi) = true) (h7 : decide ((na : Int) ≤ ar) = true) (h8 : ((nb : Int) == 0) = true) (h9 : ((nl : Int) == 0) = true) : MetS a0 a1 lo hi ar true false false false k ne na nb nl ce ca cb cl nm fr me ma mb ml sec false w true := by
  unfold MetS
  unfold AskP at hA1 hA2
  obtain ⟨W, hW, hBW, hTW, hR0, hR1⟩ := met_pre a0 a1 lo hi ar true false false false k ne na nb nl ce ca cb cl nm fr me ma mb ml sec false hT
  obtain ⟨w00, -⟩ := nine hR0
  obtain ⟨-, w11, -⟩ := nine hR1
  clear hT
  have hun : undef = Value.tuple #[] := rfl
  go_enter Tryz.func126, Tryz.ntmps126
  go_wp2_with first
    | (go_at_call 156; ((generalize ndV a0 a1 lo hi ar true false false false = V0); (generalize sdV k ne na nb nl ce ca cb cl nm fr me ma mb ml sec false = V1); (clear hW); (with_reducible refine (hA1 _ hTW).mono ?_); (rintro e w1 ⟨rfl, hb1⟩); (have hT1 := hTW.of hb1); (have hS0 := rowG_b hR0 hb1); (have hS1 := rowG_b hR1 hb1); (clear hR0 hR1 w00 w11 hA1); (obtain ⟨-, x01, -⟩ := nine hS0); (obtain ⟨-, -, x12, -⟩ := nine hS1)))
    | (go_at_call 156; ((with_reducible refine (hA2 _ hT1).mono ?_); (rintro e w2 ⟨rfl, hb2⟩); (have hU0 := rowG_b hS0 hb2); (have hU1 := rowG_b hS1 hb2); (clear hS0 hS1 x01 x12 hA2); (obtain ⟨-, -, y02, y03, y04, y05, y06, y07, y08⟩ := nine hU0); (obtain ⟨-, -, -, y13, y14, y15, y16, y17, y18⟩ := nine hU1)))
  go_ret
  exact ⟨rfl, (hBW.trans (hb1.mono hBW.size)).trans (hb2.mono (hBW.trans (hb1.mono hBW.size)).size)⟩
theorem met_27 (hT : Tb w) (hA1 : AskP a0 nm true) (hA2 : AskP a1 fr true) (h5 : decide (lo ≤ (ne : Int)) = true) (h6 : decide ((ne : Int) ≤ hi) = true) (h7 : decide ((na : Int) ≤ ar) = false) : MetS a0 a1 lo hi ar false true bd el k ne na nb nl ce ca cb cl nm fr me ma mb ml false mu w false := by
  unfold MetS
  unfold AskP at hA1 hA2
  obtain ⟨W, hW, hBW, hTW, hR0, hR1⟩ := met_pre a0 a1 lo hi ar false true bd el k ne na nb nl ce ca cb cl nm fr me ma mb ml false mu hT
  obtain ⟨w00, -⟩ := nine hR0
  obtain ⟨-, w11, -⟩ := nine hR1
  clear hT
  have hun : undef = Value.tuple #[] := rfl
  go_enter Tryz.func126, Tryz.ntmps126
  go_wp2_with first
    | (go_at_call 156; ((generalize ndV a0 a1 lo hi ar false true bd el = V0); (generalize sdV k ne na nb nl ce ca cb cl nm fr me ma mb ml false mu = V1); (clear hW); (with_reducible refine (hA1 _ hTW).mono ?_); (rintro e w1 ⟨rfl, hb1⟩); (have hT1 := hTW.of hb1); (have hS0 := rowG_b hR0 hb1); (have hS1 := rowG_b hR1 hb1); (clear hR0 hR1 w00 w11 hA1); (obtain ⟨-, x01, -⟩ := nine hS0); (obtain ⟨-, -, x12, -⟩ := nine hS1)))
    | (go_at_call 156; ((with_reducible refine (hA2 _ hT1).mono ?_); (rintro e w2 ⟨rfl, hb2⟩); (have hU0 := rowG_b hS0 hb2); (have hU1 := rowG_b hS1 hb2); (clear hS0 hS1 x01 x12 hA2); (obtain ⟨-, -, y02, y03, y04, y05, y06, -, -⟩ := nine hU0); (obtain ⟨-, -, -, y13, y14, y15, y16, -, -⟩ := nine hU1)))
  go_ret
  exact ⟨rfl, (hBW.trans (hb1.mono hBW.size)).trans (hb2.mono (hBW.trans (hb1.mono hBW.size)).size)⟩
theorem met_31 (hT : Tb w) (hA1 : AskP a0 nm true) (hA2 : AskP a1 fr true) (h5 : decide (lo ≤ (ne : Int)) = true) (h6 : decide ((ne : Int) ≤ hi) = true) (h7 : decide ((na : Int) ≤ ar) = true) (h9 : ((nl : Int) == 0) = true) : MetS a0 a1 lo hi ar false true true false k ne na nb nl ce ca cb cl nm fr me ma mb ml false mu w true := by
  unfold MetS
  unfold AskP at hA1 hA2
  obtain ⟨W, hW, hBW, hTW, hR0, hR1⟩ := met_pre a0 a1 lo hi ar false true true false k ne na nb nl ce ca cb cl nm fr me ma mb ml false mu hT
  obtain ⟨w00, -⟩ := nine hR0
  obtain ⟨-, w11, -⟩ := nine hR1
  clear hT
  have hun : undef = Value.tuple #[] := rfl
  go_enter Tryz.func126, Tryz.ntmps126
  go_wp2_with first
    | (go_at_call 156; ((generalize ndV a0 a1 lo hi ar false true true false = V0); (generalize sdV k ne na nb nl ce ca cb cl nm fr me ma mb ml false mu = V1); (clear hW); (with_reducible refine (hA1 _ hTW).mono ?_); (rintro e w1 ⟨rfl, hb1⟩); (have hT1 := hTW.of hb1); (have hS0 := rowG_b hR0 hb1); (have hS1 := rowG_b hR1 hb1); (clear hR0 hR1 w00 w11 hA1); (obtain ⟨-, x01, -⟩ := nine hS0); (obtain ⟨-, -, x12, -⟩ := nine hS1)))
    | (go_at_call 156; ((with_reducible refine (hA2 _ hT1).mono ?_); (rintro e w2 ⟨rfl, hb2⟩); (have hU0 := rowG_b hS0 hb2); (have hU1 := rowG_b hS1 hb2); (clear hS0 hS1 x01 x12 hA2); (obtain ⟨-, -, y02, y03, y04, y05, y06, y07, y08⟩ := nine hU0); (obtain ⟨-, -, -, y13, y14, y15, y16, y17, y18⟩ := nine hU1)))
  go_ret
  exact ⟨rfl, (hBW.trans (hb1.mono hBW.size)).trans (hb2.mono (hBW.trans (hb1.mono hBW.size)).size)⟩
theorem met_35 (hT : Tb w) (hA1 : AskP a0 nm true) (hA2 : AskP a1 fr true) (h5 : decide (lo ≤ (ne : Int)) = false) : MetS a0 a1 lo hi ar false false bd el k ne na nb nl ce ca cb cl nm fr me ma mb ml false false w false := by
  unfold MetS
  unfold AskP at hA1 hA2
  obtain ⟨W, hW, hBW, hTW, hR0, hR1⟩ := met_pre a0 a1 lo hi ar false false bd el k ne na nb nl ce ca cb cl nm fr me ma mb ml false false hT
  obtain ⟨w00, -⟩ := nine hR0
  obtain ⟨-, w11, -⟩ := nine hR1
  clear hT
  have hun : undef = Value.tuple #[] := rfl
  go_enter Tryz.func126, Tryz.ntmps126
  go_wp2_with first
    | (go_at_call 156; ((generalize ndV a0 a1 lo hi ar false false bd el = V0); (generalize sdV k ne na nb nl ce ca cb cl nm fr me ma mb ml false false = V1); (clear hW); (with_reducible refine (hA1 _ hTW).mono ?_); (rintro e w1 ⟨rfl, hb1⟩); (have hT1 := hTW.of hb1); (have hS0 := rowG_b hR0 hb1); (have hS1 := rowG_b hR1 hb1); (clear hR0 hR1 w00 w11 hA1); (obtain ⟨-, x01, -⟩ := nine hS0); (obtain ⟨-, -, x12, -⟩ := nine hS1)))
    | (go_at_call 156; ((with_reducible refine (hA2 _ hT1).mono ?_); (rintro e w2 ⟨rfl, hb2⟩); (have hU0 := rowG_b hS0 hb2); (have hU1 := rowG_b hS1 hb2); (clear hS0 hS1 x01 x12 hA2); (obtain ⟨-, -, y02, y03, y04, -, -, -, -⟩ := nine hU0); (obtain ⟨-, -, -, y13, y14, y15, -, -, -⟩ := nine hU1)))
  go_ret
  exact ⟨rfl, (hBW.trans (hb1.mono hBW.size)).trans (hb2.mono (hBW.trans (hb1.mono hBW.size)).size)⟩
theorem met_39 (hT : Tb w) (hA1 : AskP a0 nm true) (hA2 : AskP a1 fr true) (h5 : decide (lo ≤ (ne : Int)) = true) (h6 : decide ((ne : Int) ≤ hi) = true) (h7 : decide ((na : Int) ≤ ar) = true) (h9 : ((nl : Int) == 0) = false) : MetS a0 a1 lo hi ar false false true false k ne na nb nl ce ca cb cl nm fr me ma mb ml false false w false := by
  unfold MetS
  unfold AskP at hA1 hA2
  obtain ⟨W, hW, hBW, hTW, hR0, hR1⟩ := met_pre a0 a1 lo hi ar false false true false k ne na nb nl ce ca cb cl nm fr me ma mb ml false false hT
  obtain ⟨w00, -⟩ := nine hR0
  obtain ⟨-, w11, -⟩ := nine hR1
  clear hT
  have hun : undef = Value.tuple #[] := rfl
  go_enter Tryz.func126, Tryz.ntmps126
  go_wp2_with first
    | (go_at_call 156; ((generalize ndV a0 a1 lo hi ar false false true false = V0); (generalize sdV k ne na nb nl ce ca cb cl nm fr me ma mb ml false false = V1); (clear hW); (with_reducible refine (hA1 _ hTW).mono ?_); (rintro e w1 ⟨rfl, hb1⟩); (have hT1 := hTW.of hb1); (have hS0 := rowG_b hR0 hb1); (have hS1 := rowG_b hR1 hb1); (clear hR0 hR1 w00 w11 hA1); (obtain ⟨-, x01, -⟩ := nine hS0); (obtain ⟨-, -, x12, -⟩ := nine hS1)))
    | (go_at_call 156; ((with_reducible refine (hA2 _ hT1).mono ?_); (rintro e w2 ⟨rfl, hb2⟩); (have hU0 := rowG_b hS0 hb2); (have hU1 := rowG_b hS1 hb2); (clear hS0 hS1 x01 x12 hA2); (obtain ⟨-, -, y02, y03, y04, y05, y06, y07, y08⟩ := nine hU0); (obtain ⟨-, -, -, y13, y14, y15, y16, y17, y18⟩ := nine hU1)))
  go_ret
  exact ⟨rfl, (hBW.trans (hb1.mono hBW.size)).trans (hb2.mono (hBW.trans (hb1.mono hBW.size)).size)⟩
theorem met_43 (hT : Tb w) (hA1 : AskP a0 nm true) (hA2 : AskP a1 fr true) (h5 : decide (lo ≤ (ne : Int)) = true) (h6 : decide ((ne : Int) ≤ hi) = true) (h7 : decide ((na : Int) ≤ ar) = true) (h8 : ((nb : Int) == 0) = true) : MetS a0 a1 lo hi ar false false false true k ne na nb nl ce ca cb cl nm fr me ma mb ml false false w true := by
  unfold MetS
  unfold AskP at hA1 hA2
  obtain ⟨W, hW, hBW, hTW, hR0, hR1⟩ := met_pre a0 a1 lo hi ar false false false true k ne na nb nl ce ca cb cl nm fr me ma mb ml false false hT
  obtain ⟨w00, -⟩ := nine hR0
  obtain ⟨-, w11, -⟩ := nine hR1
  clear hT
  have hun : undef = Value.tuple #[] := rfl
  go_enter Tryz.func126, Tryz.ntmps126
  go_wp2_with first
    | (go_at_call 156; ((generalize ndV a0 a1 lo hi ar false false false true = V0); (generalize sdV k ne na nb nl ce ca cb cl nm fr me ma mb ml false false = V1); (clear hW); (with_reducible refine (hA1 _ hTW).mono ?_); (rintro e w1 ⟨rfl, hb1⟩); (have hT1 := hTW.of hb1); (have hS0 := rowG_b hR0 hb1); (have hS1 := rowG_b hR1 hb1); (clear hR0 hR1 w00 w11 hA1); (obtain ⟨-, x01, -⟩ := nine hS0); (obtain ⟨-, -, x12, -⟩ := nine hS1)))
    | (go_at_call 156; ((with_reducible refine (hA2 _ hT1).mono ?_); (rintro e w2 ⟨rfl, hb2⟩); (have hU0 := rowG_b hS0 hb2); (have hU1 := rowG_b hS1 hb2); (clear hS0 hS1 x01 x12 hA2); (obtain ⟨-, -, y02, y03, y04, y05, y06, y07, y08⟩ := nine hU0); (obtain ⟨-, -, -, y13, y14, y15, y16, y17, y18⟩ := nine hU1)))
  go_ret
  exact ⟨rfl, (hBW.trans (hb1.mono hBW.size)).trans (hb2.mono (hBW.trans (hb1.mono hBW.size)).size)⟩
end Go.Proofs.YtfpoflddnlbpjaaGreatDoor
