/- Leaves of needs.met. -/
import Derived.Test.YtfbjljcmmbdhkaaGreatDoorT18
namespace Go.Proofs.YtfbjljcmmbdhkaaGreatDoor
set_option linter.unusedVariables false
set_option linter.unusedSimpArgs false
set_option maxRecDepth 100000
set_option maxHeartbeats 200000000
open Go.ChangeShapes Go.WideShapes Go.ChangeAt Go.RowKit
variable {a0 a1 k ne na nb nl ce ca cb cl : Nat} {lo hi ar : Int} {nm fr : List UInt8} {me ma mb ml : Option Addr} {b1 b2 b5 b6 b7 b8 b9 sc sec mx mu bd el r : Bool} {w : World}
theorem met_1 (hT : Tb w) (hA1 : AskP a0 nm false) : MetS a0 a1 lo hi ar sc mx bd el k ne na nb nl ce ca cb cl nm fr me ma mb ml sec mu w false := by
 unfold MetS
 unfold AskP at hA1
 obtain ⟨W, hW, hBW, hTW, hR0, hR1⟩ := met_pre a0 a1 lo hi ar sc mx bd el k ne na nb nl ce ca cb cl nm fr me ma mb ml sec mu hT
 obtain ⟨w00, -⟩ := nine hR0
 obtain ⟨-, w11, -⟩ := nine hR1
 clear hT
 have hun : undef = Value.tuple #[] := rfl
 go_enter Tryz.func130, Tryz.ntmps130
 go_wp2_with (go_at_call 157; ((generalize ndV a0 a1 lo hi ar sc mx bd el = V0); (generalize sdV k ne na nb nl ce ca cb cl nm fr me ma mb ml sec mu = V1); (clear hW); (clear hR0 hR1); (with_reducible refine (hA1 _ hTW).mono ?_); (rintro e w1 ⟨rfl, hb1⟩)))
 go_ret
 exact ⟨rfl, hBW.trans (hb1.mono hBW.size)⟩
theorem met_6 (hT : Tb w) (hA1 : AskP a0 nm true) (hA2 : AskP a1 fr true) (h5 : decide (lo ≤ (ne : Int)) = b5) (h6 : decide ((ne : Int) ≤ hi) = b6) (h : b5 = false ∨ b5 = true ∧ b6 = false) (hs : sc = true ∨ sc = false ∧ sec = false) (hm : mx = true ∨ mx = false ∧ mu = false) : MetS a0 a1 lo hi ar sc mx bd el k ne na nb nl ce ca cb cl nm fr me ma mb ml sec mu w false := by
 unfold MetS
 unfold AskP at hA1 hA2
 obtain ⟨W, hW, hBW, hTW, hR0, hR1⟩ := met_pre a0 a1 lo hi ar sc mx bd el k ne na nb nl ce ca cb cl nm fr me ma mb ml sec mu hT
 obtain ⟨V0, hV0⟩ : ∃ V0, Value.agg #[.int .u8 (a0 : Int), .int .u8 (a1 : Int), .bool sc, .bool mx, .int .i64 lo, .int .i64 hi, .int .i64 ar, .bool bd, .bool el] = V0 := ⟨_, rfl⟩
 obtain ⟨V1, hV1⟩ : ∃ V1, Value.agg #[.int .u8 (k : Int), .string (str nm), .string (str fr), .bool sec, .bool mu, .slice me ne ce, .slice ma na ca, .slice mb nb cb, .slice ml nl cl] = V1 := ⟨_, rfl⟩
 have HV0 := Lib.hid hV0
 have HV1 := Lib.hid hV1
 obtain ⟨w00, -⟩ := nine hR0
 obtain ⟨-, w11, -⟩ := nine hR1
 clear hT hV0 hV1
 have hun : undef = Value.tuple #[] := rfl
 rcases h with rfl | ⟨rfl, rfl⟩ <;> rcases hs with rfl | ⟨rfl, rfl⟩ <;> rcases hm with rfl | ⟨rfl, rfl⟩
 all_goals
  go_enter Tryz.func130, Tryz.ntmps130
  go_wp2_with first
   | (go_at_call 157; ((rw [HV0.out, HV1.out]); (clear hW HV0 HV1); (with_reducible refine (hA1 _ hTW).mono ?_); (rintro e w1 ⟨rfl, hb1⟩); (have hT1 := hTW.of hb1); (have hS0 := rowG_b hR0 hb1); (have hS1 := rowG_b hR1 hb1); (clear hR0 hR1 w00 w11 hA1); (obtain ⟨-, x01, -⟩ := nine hS0); (obtain ⟨-, -, x12, -⟩ := nine hS1)))
   | (go_at_call 157; ((with_reducible refine (hA2 _ hT1).mono ?_); (rintro e w2 ⟨rfl, hb2⟩); (have hU0 := rowG_b hS0 hb2); (have hU1 := rowG_b hS1 hb2); (clear hS0 hS1 x01 x12 hA2); (obtain ⟨-, -, y02, y03, y04, y05, -, -, -⟩ := nine hU0); (obtain ⟨-, -, -, y13, y14, y15, -, -, -⟩ := nine hU1)))
  go_ret
  exact ⟨rfl, (hBW.trans (hb1.mono hBW.size)).trans (hb2.mono (hBW.trans (hb1.mono hBW.size)).size)⟩
theorem met_4 (hT : Tb w) (hA1 : AskP a0 nm true) (hA2 : AskP a1 fr true) (hs : sc = true ∨ sc = false ∧ sec = false) : MetS a0 a1 lo hi ar sc false bd el k ne na nb nl ce ca cb cl nm fr me ma mb ml sec true w false := by
 unfold MetS
 unfold AskP at hA1 hA2
 obtain ⟨W, hW, hBW, hTW, hR0, hR1⟩ := met_pre a0 a1 lo hi ar sc false bd el k ne na nb nl ce ca cb cl nm fr me ma mb ml sec true hT
 obtain ⟨V0, hV0⟩ : ∃ V0, Value.agg #[.int .u8 (a0 : Int), .int .u8 (a1 : Int), .bool sc, .bool false, .int .i64 lo, .int .i64 hi, .int .i64 ar, .bool bd, .bool el] = V0 := ⟨_, rfl⟩
 obtain ⟨V1, hV1⟩ : ∃ V1, Value.agg #[.int .u8 (k : Int), .string (str nm), .string (str fr), .bool sec, .bool true, .slice me ne ce, .slice ma na ca, .slice mb nb cb, .slice ml nl cl] = V1 := ⟨_, rfl⟩
 have HV0 := Lib.hid hV0
 have HV1 := Lib.hid hV1
 obtain ⟨w00, -⟩ := nine hR0
 obtain ⟨-, w11, -⟩ := nine hR1
 clear hT hV0 hV1
 have hun : undef = Value.tuple #[] := rfl
 rcases hs with rfl | ⟨rfl, rfl⟩
 all_goals
  go_enter Tryz.func130, Tryz.ntmps130
  go_wp2_with first
   | (go_at_call 157; ((rw [HV0.out, HV1.out]); (clear hW HV0 HV1); (with_reducible refine (hA1 _ hTW).mono ?_); (rintro e w1 ⟨rfl, hb1⟩); (have hT1 := hTW.of hb1); (have hS0 := rowG_b hR0 hb1); (have hS1 := rowG_b hR1 hb1); (clear hR0 hR1 w00 w11 hA1); (obtain ⟨-, x01, -⟩ := nine hS0); (obtain ⟨-, -, x12, -⟩ := nine hS1)))
   | (go_at_call 157; ((with_reducible refine (hA2 _ hT1).mono ?_); (rintro e w2 ⟨rfl, hb2⟩); (have hU0 := rowG_b hS0 hb2); (have hU1 := rowG_b hS1 hb2); (clear hS0 hS1 x01 x12 hA2); (obtain ⟨-, -, y02, y03, -, -, -, -, -⟩ := nine hU0); (obtain ⟨-, -, -, y13, y14, -, -, -, -⟩ := nine hU1)))
  go_ret
  exact ⟨rfl, (hBW.trans (hb1.mono hBW.size)).trans (hb2.mono (hBW.trans (hb1.mono hBW.size)).size)⟩
theorem met_3 (hT : Tb w) (hA1 : AskP a0 nm true) (hA2 : AskP a1 fr true) : MetS a0 a1 lo hi ar false mx bd el k ne na nb nl ce ca cb cl nm fr me ma mb ml true mu w false := by
 unfold MetS
 unfold AskP at hA1 hA2
 obtain ⟨W, hW, hBW, hTW, hR0, hR1⟩ := met_pre a0 a1 lo hi ar false mx bd el k ne na nb nl ce ca cb cl nm fr me ma mb ml true mu hT
 obtain ⟨V0, hV0⟩ : ∃ V0, Value.agg #[.int .u8 (a0 : Int), .int .u8 (a1 : Int), .bool false, .bool mx, .int .i64 lo, .int .i64 hi, .int .i64 ar, .bool bd, .bool el] = V0 := ⟨_, rfl⟩
 obtain ⟨V1, hV1⟩ : ∃ V1, Value.agg #[.int .u8 (k : Int), .string (str nm), .string (str fr), .bool true, .bool mu, .slice me ne ce, .slice ma na ca, .slice mb nb cb, .slice ml nl cl] = V1 := ⟨_, rfl⟩
 have HV0 := Lib.hid hV0
 have HV1 := Lib.hid hV1
 obtain ⟨w00, -⟩ := nine hR0
 obtain ⟨-, w11, -⟩ := nine hR1
 clear hT hV0 hV1
 have hun : undef = Value.tuple #[] := rfl
 go_enter Tryz.func130, Tryz.ntmps130
 go_wp2_with first
  | (go_at_call 157; ((rw [HV0.out, HV1.out]); (clear hW HV0 HV1); (with_reducible refine (hA1 _ hTW).mono ?_); (rintro e w1 ⟨rfl, hb1⟩); (have hT1 := hTW.of hb1); (have hS0 := rowG_b hR0 hb1); (have hS1 := rowG_b hR1 hb1); (clear hR0 hR1 w00 w11 hA1); (obtain ⟨-, x01, -⟩ := nine hS0); (obtain ⟨-, -, x12, -⟩ := nine hS1)))
  | (go_at_call 157; ((with_reducible refine (hA2 _ hT1).mono ?_); (rintro e w2 ⟨rfl, hb2⟩); (have hU0 := rowG_b hS0 hb2); (have hU1 := rowG_b hS1 hb2); (clear hS0 hS1 x01 x12 hA2); (obtain ⟨-, -, y02, -, -, -, -, -, -⟩ := nine hU0); (obtain ⟨-, -, -, y13, -, -, -, -, -⟩ := nine hU1)))
 go_ret
 exact ⟨rfl, (hBW.trans (hb1.mono hBW.size)).trans (hb2.mono (hBW.trans (hb1.mono hBW.size)).size)⟩
theorem met_2 (hT : Tb w) (hA1 : AskP a0 nm true) (hA2 : AskP a1 fr false) : MetS a0 a1 lo hi ar sc mx bd el k ne na nb nl ce ca cb cl nm fr me ma mb ml sec mu w false := by
 unfold MetS
 unfold AskP at hA1 hA2
 obtain ⟨W, hW, hBW, hTW, hR0, hR1⟩ := met_pre a0 a1 lo hi ar sc mx bd el k ne na nb nl ce ca cb cl nm fr me ma mb ml sec mu hT
 obtain ⟨V0, hV0⟩ : ∃ V0, Value.agg #[.int .u8 (a0 : Int), .int .u8 (a1 : Int), .bool sc, .bool mx, .int .i64 lo, .int .i64 hi, .int .i64 ar, .bool bd, .bool el] = V0 := ⟨_, rfl⟩
 obtain ⟨V1, hV1⟩ : ∃ V1, Value.agg #[.int .u8 (k : Int), .string (str nm), .string (str fr), .bool sec, .bool mu, .slice me ne ce, .slice ma na ca, .slice mb nb cb, .slice ml nl cl] = V1 := ⟨_, rfl⟩
 have HV0 := Lib.hid hV0
 have HV1 := Lib.hid hV1
 obtain ⟨w00, -⟩ := nine hR0
 obtain ⟨-, w11, -⟩ := nine hR1
 clear hT hV0 hV1
 have hun : undef = Value.tuple #[] := rfl
 go_enter Tryz.func130, Tryz.ntmps130
 go_wp2_with first
  | (go_at_call 157; ((rw [HV0.out, HV1.out]); (clear hW HV0 HV1); (with_reducible refine (hA1 _ hTW).mono ?_); (rintro e w1 ⟨rfl, hb1⟩); (have hT1 := hTW.of hb1); (have hS0 := rowG_b hR0 hb1); (have hS1 := rowG_b hR1 hb1); (clear hR0 hR1 w00 w11 hA1); (obtain ⟨-, x01, -⟩ := nine hS0); (obtain ⟨-, -, x12, -⟩ := nine hS1)))
  | (go_at_call 157; ((with_reducible refine (hA2 _ hT1).mono ?_); (rintro e w2 ⟨rfl, hb2⟩); (have hU0 := rowG_b hS0 hb2); (have hU1 := rowG_b hS1 hb2); (clear hS0 hS1 x01 x12 hA2); (obtain ⟨-, -, -, -, -, -, -, -, -⟩ := nine hU0); (obtain ⟨-, -, -, -, -, -, -, -, -⟩ := nine hU1)))
 go_ret
 exact ⟨rfl, (hBW.trans (hb1.mono hBW.size)).trans (hb2.mono (hBW.trans (hb1.mono hBW.size)).size)⟩
end Go.Proofs.YtfbjljcmmbdhkaaGreatDoor
