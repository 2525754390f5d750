/- ShowAgain's walk. -/
import Derived.Test.YtfbjljcmmbdhkaaGreatDoorD46
import Derived.Test.YtfbjljcmmbdhkaaGreatDoorD49
import Derived.Test.YtfbjljcmmbdhkaaGreatDoorD47
import Derived.Test.YtfbjljcmmbdhkaaGreatDoorD45
namespace Go.Proofs.YtfbjljcmmbdhkaaGreatDoor
set_option linter.unusedVariables false
set_option linter.unusedSimpArgs false
set_option maxRecDepth 100000
set_option maxHeartbeats 200000000
open Go.ChangeShapes Go.WideShapes Go.ChangeAt Go.RowKit
theorem again_long (s : ByteArray) (w : World) (hT : Tb w) (hS : SwOk w) (hs : 8192 < (s.size : Int)) : Calls Tryz.prog 5 #[.string s] w fun e w' => e = .returned (.bool true) ∧ Below w.heap.size w w' := by
 have hA := yKm w hT hS
 go_enter Tryz.func5, Tryz.ntmps5
 go_wp2_with (go_at_call 8; ((with_reducible refine hA.mono ?_); (rintro e x1 ⟨rfl, hb1⟩)))
 go_ret
 exact ⟨rfl, hb1⟩
theorem again_er (s : ByteArray) (w : World) (hT : Tb w) (hS : SwOk w) (hs : ¬ 8192 < (s.size : Int)) (c a : Nat) (hp : parB s.data.toList = .er c a) :
 Calls Tryz.prog 5 #[.string s] w fun e w' => e = .returned (.bool true) ∧ Below w.heap.size w w' := by
 have hP : Calls Tryz.prog 15 #[.string s] w fun e w' => e = .returned (.tuple #[.agg #[.slice none 0 0], .iface 115 (.agg #[.int .i64 (a : Int), .int .i64 (c : Int)])]) ∧ Below w.heap.size w w' := by
  have := yXz s hT
  rw [hp] at this
  exact this.mono fun e w' ⟨hb, he⟩ => ⟨he, hb⟩
 clear hp
 go_enter Tryz.func5, Tryz.ntmps5
 go_wp2_with first
  | (go_at_call 15; ((with_reducible refine hP.mono ?_); (rintro e x1 ⟨rfl, hb1⟩); (have hA1 := aB hb1 (.cells #[.slice none 0 0] 24)); (have hAl := yKm _ (hT.of hA1) (hS.of hA1))))
  | (go_at_call 8; ((with_reducible refine hAl.mono ?_); (rintro e x3 ⟨rfl, hb3⟩)))
 go_ret
 exact ⟨rfl, tr hA1 hb3⟩
theorem again_ok (s : ByteArray) (w : World) (hT : Tb w) (hS : SwOk w) (hs : ¬ 8192 < (s.size : Int)) (l : List Fd) (hp : parB s.data.toList = .ok l) :
 Calls Tryz.prog 5 #[.string s] w fun e w' => e = .returned (.bool true) ∧ Below w.heap.size w w' := by
 have hM := xJz hp
 have hnb := jJg hp
 have hnd := par_nd (by have h8 : s.data.toList.length = s.size := rfl; omega) hp
 have hrs := fun h => read_shown hp h
 have hP : Calls Tryz.prog 15 #[.string s] w fun e w' => (∃ (ma : Option Addr) (cap : Nat), e = .returned (.tuple #[.agg #[.slice ma l.length cap], .nilIface]) ∧ l.length ≤ 16 ∧ FdsAt (fun b => b < w'.heap.size) w' l ma) ∧ Below w.heap.size w w' := by
  have := yXz s hT
  rw [hp] at this
  exact this.mono fun e w' ⟨hb, ma, cap, he, hl, hF⟩ => ⟨⟨ma, cap, he, hl, hF.mono fun b hb => hb.2⟩, hb⟩
 have hSh : ∀ x ma cap, Below w.heap.size w x → FdsAt (fun b => b < x.heap.size) x l ma → l.length ≤ 16 → Calls Tryz.prog 10 #[.agg #[.slice ma l.length cap]] x fun r w' => r = .returned (.tuple #[.string (str (shoT l)), .int .i64 0]) ∧ Below x.heap.size x w' := fun x ma cap hb hF hl => xQq l ma cap x hF (by omega) (hT.of hb) (hS.of hb) hM hnd hnb
 have hSm : ∀ x m1 m2 c1 c2, FdsAt (fun b => b < x.heap.size) x l m1 → FdsAt (fun b => b < x.heap.size) x l m2 → l.length ≤ 16 → Calls Tryz.prog 11 #[.agg #[.slice m1 l.length c1], .agg #[.slice m2 l.length c2]] x fun r w' => r = .returned (.bool true) ∧ Below x.heap.size x w' := fun x m1 m2 c1 c2 h1 h2 hl => jJa l _ _ m1 m2 c1 c2 x h1 h2 (by omega)
 have hP2 : (shoT l).length ≤ 16384 → ∀ x, Below w.heap.size w x → Calls Tryz.prog 15 #[.string (str (shoT l))] x fun e w' => (∃ (ma : Option Addr) (cap : Nat), e = .returned (.tuple #[.agg #[.slice ma l.length cap], .nilIface]) ∧ l.length ≤ 16 ∧ FdsAt (fun b => b < w'.heap.size) w' l ma) ∧ Below x.heap.size x w' := fun h x hb => by
  have := yXz (str (shoT l)) (hT.of hb)
  rw [zXj, hrs h] at this
  exact this.mono fun e w' ⟨hb, ma, cap, he, hl, hF⟩ => ⟨⟨ma, cap, he, hl, hF.mono fun b hb => hb.2⟩, hb⟩
 clear hM hnb hnd hrs hp
 generalize shoT l = ST at *
 have hz : (str ST).size = ST.length := yQj ST
 have HF : ∀ x y ma, FdsAt (fun b => b < x.heap.size) x l ma → Below x.heap.size x y → FdsAt (fun b => b < y.heap.size) y l ma := fun x y ma h hb => (h.of hb).mono (fun b hb' => Nat.lt_of_lt_of_le hb' hb.size)
 generalize hN : l.length = N at hP hSh hSm hP2
 clear hN
 by_cases hb : 16384 < ST.length
 ·have hbi : (16384 : Int) < ((str ST).size : Int) := by rw [hz]; omega
  clear hz hP2 hb
  go_enter Tryz.func5, Tryz.ntmps5
  go_wp2_with first
   | (go_at_call 15; ((with_reducible refine hP.mono ?_); clear hP; (rintro e x1 ⟨⟨ma, cap, rfl, hl1, hF1⟩, hb1⟩); (have hA1 := aB (Below.refl x1.heap.size x1) (.cells #[.slice ma N cap] 24)); (have hB1 := tr hb1 hA1); (have hC1 := hSh _ ma cap hB1 (HF _ _ _ hF1 hA1) hl1)))
   | (go_at_call 10; ((with_reducible refine hC1.mono ?_); clear hC1; (rintro e x2 ⟨rfl, hb2⟩); (have hB2 := tr hB1 hb2); (have hAl := yKm _ (hT.of hB2) (hS.of hB2))))
   | (go_at_call 8; ((with_reducible refine hAl.mono ?_); (rintro e x3 ⟨rfl, hb3⟩)))
  go_ret
  exact ⟨rfl, tr hB2 hb3⟩
 ·have hbi : ¬ (16384 : Int) < ((str ST).size : Int) := by rw [hz]; omega
  have hP3 := hP2 (by omega)
  clear hz hP2 hb
  go_enter Tryz.func5, Tryz.ntmps5
  go_wp2_with first
   | (go_at_call 15; ((with_reducible refine hP.mono ?_); clear hP; (rintro e x1 ⟨⟨ma, cap, rfl, hl1, hF1⟩, hb1⟩); (have hA1 := aB (Below.refl x1.heap.size x1) (.cells #[.slice ma N cap] 24)); (have hB1 := tr hb1 hA1); (have hr1 := zQf #[.slice ma N cap] 24 x1 _ rfl); (have hG1 := HF _ _ _ hF1 hA1); (have hC1 := hSh _ ma cap hB1 hG1 hl1)))
   | (go_at_call 10; ((with_reducible refine hC1.mono ?_); clear hC1; (rintro e x2 ⟨rfl, hb2⟩); (have hB2 := tr hB1 hb2); (have hr2 := zQh hr1 hb2); (have hG2 := HF _ _ _ hG1 hb2); (have hP4 := hP3 x2 hB2); clear hP3))
   | (go_at_call 15; ((with_reducible refine hP4.mono ?_); clear hP4; (rintro e x3 ⟨⟨mq, cq, rfl, hl3, hF3⟩, hb3⟩); (have hA3 := aB (Below.refl x3.heap.size x3) (.cells #[.slice mq N cq] 24)); (have hB3 := tr hB2 (tr hb3 hA3)); (have hq3 := zQf #[.slice mq N cq] 24 x3 _ rfl); (have hG3 := HF _ _ _ hF3 hA3); (have hC3 := hSh _ mq cq hB3 hG3 hl3); (have hr3 := zQh (zQh hr2 hb3) hA3); (have hH3 := HF _ _ _ (HF _ _ _ hG2 hb3) hA3)))
   | (go_at_call 10; ((with_reducible refine hC3.mono ?_); clear hC3; (rintro e x4 ⟨rfl, hb4⟩); (have hB4 := tr hB3 hb4); (have hr4 := zQh hr3 hb4); (have hq4 := zQh hq3 hb4); (have u4 := hr4.1 0 (by simp)); (have ul4 := hr4.2.2); (have v4 := hq4.1 0 (by simp)); (have vl4 := hq4.2.2); (have hS4 := hSm x4 ma mq cap cq (HF _ _ _ hH3 hb4) (HF _ _ _ hG3 hb4) hl1)))
   | (go_at_call 11; ((with_reducible refine hS4.mono ?_); clear hS4; (rintro e x5 ⟨rfl, hb5⟩); (have hB5 := tr hB4 hb5); (have hAl := yKm _ (hT.of hB5) (hS.of hB5))))
   | (go_at_call 8; ((with_reducible refine hAl.mono ?_); (rintro e x6 ⟨rfl, hb6⟩)))
  go_ret
  exact ⟨rfl, tr hB5 hb6⟩
theorem showAgain_any (s : ByteArray) (w : World) (hT : Tb w) (hS : SwOk w) : Calls Tryz.prog 5 #[.string s] w fun e w' => e = .returned (.bool true) ∧ Below w.heap.size w w' := by
 by_cases hs : 8192 < (s.size : Int)
 ·exact again_long s w hT hS hs
 ·cases hp : parB s.data.toList with
  | er c a => exact again_er s w hT hS hs c a hp
  | ok l => exact again_ok s w hT hS hs l hp
end Go.Proofs.YtfbjljcmmbdhkaaGreatDoor
