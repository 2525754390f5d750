/- Contract of the reader's expression, whatever stands there. -/
import Derived.Test.YtfbjljcmmbdhkaaGreatDoorT24
import Derived.Test.YtfbjljcmmbdhkaaGreatDoorT25
import Derived.Test.YtfbjljcmmbdhkaaGreatDoorT11
namespace Go.Proofs.YtfbjljcmmbdhkaaGreatDoor
set_option linter.unusedVariables false
set_option linter.unusedSimpArgs false
set_option maxRecDepth 100000
set_option maxHeartbeats 200000000
open Go.ChangeShapes Go.WideShapes Go.ChangeAt Go.RowKit
def ReadIH (D : Nat) : Prop := ∀ (w : World) (rb : Nat) (v : Value) (T : List (Tk × Int)) (p : Nat) (d : Int), d = 40 - (D : Int) → IsRd w rb v T (p : Int) d → Tb w → ¬ GB rb → Calls Tryz.prog 178 #[.pointer (some ⟨rb, 0, none⟩)] w (ExP w rb v T d (rdE D (bareZ T) p))
def RdP (w : World) (T : List (Tk × Int)) (R : Ro) (e : Ending) (w' : World) : Prop :=
 match R with
 | .er c q => e = .returned (.tuple #[zX, .int .i64 0, .iface 115 (.agg #[.int .i64 (placeZ T (q : Int)), .int .i64 (c : Int)])]) ∧ Below w.heap.size w w'
 | .ok x q => (∃ (k n : Int) (s : ByteArray) (o : Int) (mk : Option Addr) (m cap : Nat), e = .returned (.tuple #[vX k n s o mk m cap, .int .i64 (q : Int), .nilIface]) ∧ IsE (fun b => w.heap.size ≤ b ∧ b < w'.heap.size) w' (vX k n s o mk m cap) x) ∧ Below w.heap.size w w'
end Go.Proofs.YtfbjljcmmbdhkaaGreatDoor
