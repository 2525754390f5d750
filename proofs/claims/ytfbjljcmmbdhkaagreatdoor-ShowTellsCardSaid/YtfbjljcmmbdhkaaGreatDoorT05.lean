/- The laid words of package show, beside the other laid variables. -/
import Derived.Test.YtfbjljcmmbdhkaaGreatDoorT03
import Derived.Shelf.Strings.BuilderK
import Derived.Shelf.Strings.Repeat
namespace Go.Proofs.YtfbjljcmmbdhkaaGreatDoor
set_option linter.unusedVariables false
set_option linter.unusedSimpArgs false
set_option maxRecDepth 100000
set_option maxHeartbeats 200000000
section
open Go.ChangeShapes Go.WideShapes Go.ChangeAt Go.RowKit
def laidPl9 : List (String × DataW Unit) := laidPl ++ [("sacristy/show.words", Rows.laid_sacristy_show_words)]
def laidAll9 : List (String × DataW Unit) := laidAll ++ [("sacristy/show.words", Rows.laid_sacristy_show_words)]
theorem laid_split9 {W : World} (h : laidMetH Tryz.prog laidAll9 W) : laidMet Tryz.prog laidPl9 W ∧ handlesMet Tryz.prog [("errors.errorType", Rows.laid_errors_errorType)] W := h
def swL : List (List UInt8) := [[], [108, 101, 116], [], [98, 117, 102], [], [105, 102], [119, 104, 105, 108, 101], [102, 111, 114], [118, 105, 101, 119], [109, 111, 118, 101], [111, 112, 101, 110], [99, 97, 108, 108], [115, 101, 97, 108]]
def SwOk (w : World) : Prop := ∀ j < 13, w.cell? ⟨6, j, none⟩ = some (.string (str (swL.getD j [])))
def swLv : List (Nat × Value) := (List.range 13).flatMap fun j => [(j, .string (str (swL.getD j [])))]
theorem gSw : Tryz.prog.globalNamed "sacristy/show.words" = some 6 := by kernel_rfl
theorem tSw : (Tryz.prog.globals[6]?).map (·.type) = some 239 := by kernel_rfl
theorem lSw : leaves Tryz.prog 5 239 0 Rows.laid_sacristy_show_words = some swLv := by kernel_rfl
theorem sw_of {W : World} (h : laidMet Tryz.prog laidPl9 W) : SwOk W := fun k hk => by
 obtain ⟨ps, hv, _⟩ := h
 have hl := laidVars_leaves "sacristy/show.words" Rows.laid_sacristy_show_words 6 239 5 swLv gSw tSw lSw _ ps (List.mem_append_right laidPl (List.Mem.head _)) hv
 exact hl _ (List.mem_flatMap.2 ⟨k, List.mem_range.2 hk, List.Mem.head _⟩)
theorem SwOk.of {w w' : World} (h : SwOk w) (hb : Below w.heap.size w w') : SwOk w' := fun j hj => stay hb (h j hj)
theorem sub9 : ∀ x ∈ laidPl, x ∈ laidPl9 := fun x h => List.mem_append_left _ h
theorem tb_of_laid9 {W : World} (h : laidMetH Tryz.prog laidAll9 W) : Tb W ∧ SwOk W := by
 obtain ⟨h1, h2⟩ := laid_split9 h
 exact ⟨⟨words_of sub9 h1, signs_of sub9 h1, pow_of sub9 h1, ety_of h2, syn_of sub9 h1, ran_of sub9 h1, esigns_of sub9 h1, kinds_of sub9 h1⟩, sw_of h1⟩
theorem door_met9 (os : Os) (args : Array Value) : laidMetH Tryz.prog laidAll9 ((World.doorLaid Tryz.prog 400 os).forCall (fun _ _ => 0) ⟨#[], args, []⟩).memory :=
 laidMetH_of_parts3 (fuel := 8) (laidMet_of_run' 8 (by kernel_rfl) (by kernel_rfl)) (by kernel_rfl) (by kernel_rfl)
end
section
open Go.Shelf Go.RowKit
def renB : Go.Shelf.Ren := ⟨fun | 167 => 23 | n => Llays105_ren.f n, Llays105_ren.t, Llays105_ren.g⟩
theorem LWs : Go.Proofs.Lays.n166 Tryz.prog Llays105_ren := { Llays105 with }
theorem LWb : Go.Proofs.Lays.n167 Tryz.prog renB := {
 mixed := Llays105.mixed
 f167 := Tryz.func23.trans (congrArg some (by kernel_rfl))
 f240 := Tryz.func40.trans (congrArg some (by kernel_rfl))
 f276 := Tryz.func68.trans (congrArg some (by kernel_rfl))
 t0 := Llays105.t0
 a0 := Llays105.a0
 z0 := Llays105.z0
 v0 := Llays105.v0
 t4 := Llays105.t4
 a4 := Llays105.a4
 z4 := Llays105.z4
 v4 := Llays105.v4
 t5 := Llays105.t5
 a5 := Llays105.a5
 z5 := Llays105.z5
 v5 := Llays105.v5
 t9 := Llays105.t9
 a9 := Llays105.a9
 z9 := Llays105.z9
 v9 := Llays105.v9
 t20 := Llays105.t20
 a20 := Llays105.a20
 z20 := Llays105.z20
 v20 := Llays105.v20
 t37 := Llays105.t37
 a37 := Llays105.a37
 z37 := Llays105.z37
 v37 := Llays105.v37
 t70 := Llays105.t70
 a70 := Llays105.a70
 z70 := Llays105.z70
 v70 := Llays105.v70
 t72 := Llays105.t72
 a72 := Llays105.a72
 z72 := Llays105.z72
 v72 := Llays105.v72
 t75 := Llays105.t75
 a75 := Llays105.a75
 z75 := Llays105.z75
 v75 := Llays105.v75
 t164 := Llays105.t164
 a164 := Llays105.a164
 z164 := Llays105.z164
 v164 := Llays105.v164 }
theorem LXb : Go.Proofs.Builder.Extra Tryz.prog renB := {
 sizeBuilder := by kernel_rfl
 liesBuilder := by kernel_rfl
 t5 := LBuilder_Extra_105.t5
 a5 := LBuilder_Extra_105.a5
 z5 := LBuilder_Extra_105.z5
 v5 := LBuilder_Extra_105.v5
 infoByte := LBuilder_Extra_105.infoByte
 cellsByte := LBuilder_Extra_105.cellsByte
 sizeByte := LBuilder_Extra_105.sizeByte
 neB5 := by decide }
theorem bd_ws (B b : Nat) (bs : List Value) (s : ByteArray) (w : World) (h : Lib.IsBuilderF 58 5 B b bs w) (hlen : bs.length + s.size ≤ 140737488355328) (hBw : B ≤ w.heap.size) :
 Calls Tryz.prog 20 #[.pointer (some ⟨b, 0, none⟩), .string s] w fun e w' => e = .returned (.tuple #[.int .i64 s.size, .nilIface]) ∧ (Lib.BuilderAtF 58 5 B b (.pointer (some ⟨b, 0, none⟩)) (bs ++ Lib.strCells s) w' ∧ Below B w w' ∧ Lib.OthersKept 5 (some b) w w') :=
 Any.Builder_WriteString_k LWs LBuilder_Extra_105 B b bs s w h hlen hBw
theorem bd_wb (B b : Nat) (bs : List Value) (c : Int) (w : World) (h : Lib.IsBuilderF 58 5 B b bs w) (hlen : bs.length + 1 ≤ 140737488355328) (hBw : B ≤ w.heap.size) :
 Calls Tryz.prog 23 #[.pointer (some ⟨b, 0, none⟩), .int .u8 c] w fun e w' => e = .returned .nilIface ∧ (Lib.BuilderAtF 58 5 B b (.pointer (some ⟨b, 0, none⟩)) (bs ++ [.int .u8 c]) w' ∧ Below B w w' ∧ Lib.OthersKept 5 (some b) w w') :=
 Any.Builder_WriteByte_k LWb LXb B b bs c w h hlen hBw
theorem bd_rp (s : ByteArray) (c : Nat) (w : World) (hc : c ≤ 9223372036854775807) (hlen : s.size * c ≤ 140737488355328) :
 Calls Tryz.prog 21 #[.string s, .int .i64 c] w fun e w' => e = .returned (.string ⟨(Lib.repeatL s.data.toList c).toArray⟩) ∧ Below w.heap.size w w' :=
 Any.strings_Repeat Llays105 LBuilder_Extra_105 s c w hc hlen
end
end Go.Proofs.YtfbjljcmmbdhkaaGreatDoor
