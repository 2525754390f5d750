/- Leaves of needs.met. -/
import Derived.Test.YtfbjljcmmbdhkaaGreatDoorT18
namespace Go.Proofs.YtfbjljcmmbdhkaaGreatDoor
set_option linter.unusedVariables false
set_option linter.unusedSimpArgs false
set_option maxRecDepth 100000
set_option maxHeartbeats 200000000
open Go.ChangeShapes Go.WideShapes Go.ChangeAt Go.RowKit
variable {a0 a1 k ne na nb nl ce ca cb cl : Nat} {lo hi ar : Int} {nm fr : List UInt8} {me ma mb ml : Option Addr} {b1 b2 b5 b6 b7 b8 b9 sc sec mx mu bd el r : Bool} {w : World}
theorem met_8 (hT : Tb w) (hA1 : AskP a0 nm true) (hA2 : AskP a1 fr true) (h5 : decide (lo ≤ (ne : Int)) = true) (h6 : decide ((ne : Int) ≤ hi) = true) (h7 : decide ((na : Int) ≤ ar) = true) (h8 : ((nb : Int) == 0) = false) (hs : sc = true ∨ sc = false ∧ sec = false) (hm : mx = true ∨ mx = false ∧ mu = false) : MetS a0 a1 lo hi ar sc mx false el k ne na nb nl ce ca cb cl nm fr me ma mb ml sec mu w false := by
 unfold MetS
 unfold AskP at hA1 hA2
 obtain ⟨W, hW, hBW, hTW, hR0, hR1⟩ := met_pre a0 a1 lo hi ar sc mx false el k ne na nb nl ce ca cb cl nm fr me ma mb ml sec mu hT
 obtain ⟨V0, hV0⟩ : ∃ V0, Value.agg #[.int .u8 (a0 : Int), .int .u8 (a1 : Int), .bool sc, .bool mx, .int .i64 lo, .int .i64 hi, .int .i64 ar, .bool false, .bool el] = V0 := ⟨_, rfl⟩
 obtain ⟨V1, hV1⟩ : ∃ V1, Value.agg #[.int .u8 (k : Int), .string (str nm), .string (str fr), .bool sec, .bool mu, .slice me ne ce, .slice ma na ca, .slice mb nb cb, .slice ml nl cl] = V1 := ⟨_, rfl⟩
 have HV0 := Lib.hid hV0
 have HV1 := Lib.hid hV1
 obtain ⟨w00, -⟩ := nine hR0
 obtain ⟨-, w11, -⟩ := nine hR1
 clear hT hV0 hV1
 have hun : undef = Value.tuple #[] := rfl
 rcases hs with rfl | ⟨rfl, rfl⟩ <;> rcases hm with rfl | ⟨rfl, rfl⟩
 all_goals
  go_enter Tryz.func130, Tryz.ntmps130
  go_wp2_with first
   | (go_at_call 157; ((rw [HV0.out, HV1.out]); (clear hW HV0 HV1); (with_reducible refine (hA1 _ hTW).mono ?_); (rintro e w1 ⟨rfl, hb1⟩); (have hT1 := hTW.of hb1); (have hS0 := rowG_b hR0 hb1); (have hS1 := rowG_b hR1 hb1); (clear hR0 hR1 w00 w11 hA1); (obtain ⟨-, x01, -⟩ := nine hS0); (obtain ⟨-, -, x12, -⟩ := nine hS1)))
   | (go_at_call 157; ((with_reducible refine (hA2 _ hT1).mono ?_); (rintro e w2 ⟨rfl, hb2⟩); (have hU0 := rowG_b hS0 hb2); (have hU1 := rowG_b hS1 hb2); (clear hS0 hS1 x01 x12 hA2); (obtain ⟨-, -, y02, y03, y04, y05, y06, y07, -⟩ := nine hU0); (obtain ⟨-, -, -, y13, y14, y15, y16, y17, -⟩ := nine hU1)))
  go_ret
  exact ⟨rfl, (hBW.trans (hb1.mono hBW.size)).trans (hb2.mono (hBW.trans (hb1.mono hBW.size)).size)⟩
theorem met_7 (hT : Tb w) (hA1 : AskP a0 nm true) (hA2 : AskP a1 fr true) (h5 : decide (lo ≤ (ne : Int)) = true) (h6 : decide ((ne : Int) ≤ hi) = true) (h7 : decide ((na : Int) ≤ ar) = false) (hs : sc = true ∨ sc = false ∧ sec = false) (hm : mx = true ∨ mx = false ∧ mu = false) : MetS a0 a1 lo hi ar sc mx bd el k ne na nb nl ce ca cb cl nm fr me ma mb ml sec mu w false := by
 unfold MetS
 unfold AskP at hA1 hA2
 obtain ⟨W, hW, hBW, hTW, hR0, hR1⟩ := met_pre a0 a1 lo hi ar sc mx bd el k ne na nb nl ce ca cb cl nm fr me ma mb ml sec mu hT
 obtain ⟨V0, hV0⟩ : ∃ V0, Value.agg #[.int .u8 (a0 : Int), .int .u8 (a1 : Int), .bool sc, .bool mx, .int .i64 lo, .int .i64 hi, .int .i64 ar, .bool bd, .bool el] = V0 := ⟨_, rfl⟩
 obtain ⟨V1, hV1⟩ : ∃ V1, Value.agg #[.int .u8 (k : Int), .string (str nm), .string (str fr), .bool sec, .bool mu, .slice me ne ce, .slice ma na ca, .slice mb nb cb, .slice ml nl cl] = V1 := ⟨_, rfl⟩
 have HV0 := Lib.hid hV0
 have HV1 := Lib.hid hV1
 obtain ⟨w00, -⟩ := nine hR0
 obtain ⟨-, w11, -⟩ := nine hR1
 clear hT hV0 hV1
 have hun : undef = Value.tuple #[] := rfl
 rcases hs with rfl | ⟨rfl, rfl⟩ <;> rcases hm with rfl | ⟨rfl, rfl⟩
 all_goals
  go_enter Tryz.func130, Tryz.ntmps130
  go_wp2_with first
   | (go_at_call 157; ((rw [HV0.out, HV1.out]); (clear hW HV0 HV1); (with_reducible refine (hA1 _ hTW).mono ?_); (rintro e w1 ⟨rfl, hb1⟩); (have hT1 := hTW.of hb1); (have hS0 := rowG_b hR0 hb1); (have hS1 := rowG_b hR1 hb1); (clear hR0 hR1 w00 w11 hA1); (obtain ⟨-, x01, -⟩ := nine hS0); (obtain ⟨-, -, x12, -⟩ := nine hS1)))
   | (go_at_call 157; ((with_reducible refine (hA2 _ hT1).mono ?_); (rintro e w2 ⟨rfl, hb2⟩); (have hU0 := rowG_b hS0 hb2); (have hU1 := rowG_b hS1 hb2); (clear hS0 hS1 x01 x12 hA2); (obtain ⟨-, -, y02, y03, y04, y05, y06, -, -⟩ := nine hU0); (obtain ⟨-, -, -, y13, y14, y15, y16, -, -⟩ := nine hU1)))
  go_ret
  exact ⟨rfl, (hBW.trans (hb1.mono hBW.size)).trans (hb2.mono (hBW.trans (hb1.mono hBW.size)).size)⟩
end Go.Proofs.YtfbjljcmmbdhkaaGreatDoor
