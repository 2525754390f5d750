/-
  DERIVED. GIVEN WITH THE SEED: THE CARDS: each row of YtfaacmcnefbgcaaGreatDoorRows.lean that lists a variable, with what it lists TIED to the program's text (the seventh form; the later family's looks); each row that meets fmt, with fmt's text TOLD by the authors' own Lean function (tested against real Go, not proved from fmt's source: count such statements apart). THE CARD IS WHAT COUNTS. Prove the row's statement (the work); the ties are given (YtfaacmcnefbgcaaGreatDoorTie.lean); close each card by the builder's one call (the guide's Derived/Test/ToyasCard.lean, 'card_holds'). Laid BY PROGRAM, IN A SANDBOX (cutbox-door.mjs). By AI agents, Wed Nov 11 2026. No macro, syntax, notation, axiom, sorry.
-/
import Derived.Test.YtfaacmcnefbgcaaGreatDoorRows
import GoSem.ClaimSeven
namespace Go.Proofs.YtfaacmcnefbgcaaGreatDoor
namespace Rows

/-- THE TIED CARD OF 'sacristylaw05.CpuPlays'. -/
def cpuPlaysCard : Claim7 := { stood := { row := cpuPlaysRow, standIns := [], harness := (true, "ccfcfa8ddf0562ab780cc3e4b101826a38fdffce27808bb7f9f4e43a5485fb33"), looks := true }, kinds := [], alts := [], laidByText := true, laidKinds := [.data, .data, .data], laidTests := true, laidLooks := .later }
def CpuPlaysCardSaid : Prop := Claim7.holds Tryz.pinned (.plain (OpenSpec.ofChange cpuPlaysSpec)) cpuPlaysCard

/-- THE SECOND FORM's CARD OF 'sacristylaw05.CpuPlays'. -/
def cpuPlaysUptoCard : Claim7 := { stood := { row := cpuPlaysUptoRow, standIns := [], harness := (true, "ccfcfa8ddf0562ab780cc3e4b101826a38fdffce27808bb7f9f4e43a5485fb33"), looks := true }, kinds := [], alts := [], laidByText := true, laidKinds := [.data, .data, .data], laidTests := true, laidLooks := .later }
def CpuPlaysUptoCardSaid : Prop := Claim7.holds Tryz.pinned (.plain (OpenSpec.upto cpuPlaysSpec)) cpuPlaysUptoCard
end Rows
end Go.Proofs.YtfaacmcnefbgcaaGreatDoor
