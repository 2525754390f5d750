/-
  DERIVED. GIVEN WITH THE SEED: THE CARDS: each row of YtcckgfablfgknaaGreatDoorRows.lean that lists a variable, with what it lists TIED to the program's text (the seventh form; the later family's looks); each row that meets fmt, with fmt's text TOLD by the authors' own Lean function (tested against real Go, not proved from fmt's source: count such statements apart). THE CARD IS WHAT COUNTS. Prove the row's statement (the work); the ties are given (YtcckgfablfgknaaGreatDoorTie.lean); close each card by the builder's one call (the guide's Derived/Test/ToyasCard.lean, 'card_holds'). Laid BY PROGRAM, IN A SANDBOX (cutbox-door.mjs). By AI agents, Wed Nov 11 2026. No macro, syntax, notation, axiom, sorry.
-/
import Derived.Test.YtcckgfablfgknaaGreatDoorRows
import GoSem.ClaimSeven
namespace Go.Proofs.YtcckgfablfgknaaGreatDoor
namespace Rows

/-- THE TIED CARD OF 'sacristylaw05.CpuPlays'. -/
def cpuPlaysCard : Claim7 := { stood := { row := cpuPlaysRow, standIns := [], harness := (true, "33bb359e26c0bf920050ab89d1bf4023e4094cdd53b01feb4e2d47d0fcecb0d0"), looks := true }, kinds := [], alts := [], laidByText := true, laidKinds := [.data, .data, .data], laidTests := true, laidLooks := .later }
def CpuPlaysCardSaid : Prop := Claim7.holds Tryz.pinned (.plain (OpenSpec.ofChange cpuPlaysSpec)) cpuPlaysCard

/-- THE TIED CARD OF 'sacristylaw05.CpuRuns'. -/
def cpuRunsCard : Claim7 := { stood := { row := cpuRunsRow, standIns := [], harness := (true, "33bb359e26c0bf920050ab89d1bf4023e4094cdd53b01feb4e2d47d0fcecb0d0"), looks := true }, kinds := [], alts := [], laidByText := true, laidKinds := [.data, .data, .data], laidTests := true, laidLooks := .later }
def CpuRunsCardSaid : Prop := Claim7.holds Tryz.pinned (.plain (OpenSpec.ofChange cpuRunsSpec)) cpuRunsCard

/-- THE TIED CARD OF 'sacristylaw05.CpuApart'. -/
def cpuApartCard : Claim7 := { stood := { row := cpuApartRow, standIns := [], harness := (true, "33bb359e26c0bf920050ab89d1bf4023e4094cdd53b01feb4e2d47d0fcecb0d0"), looks := true }, kinds := [], alts := [], laidByText := true, laidKinds := [.data, .data, .data], laidTests := true, laidLooks := .later }
def CpuApartCardSaid : Prop := Claim7.holds Tryz.pinned (.plain (OpenSpec.ofChange cpuApartSpec)) cpuApartCard

/-- THE TIED CARD OF 'sacristylaw05.CpuOps'. -/
def cpuOpsCard : Claim7 := { stood := { row := cpuOpsRow, standIns := [], harness := (true, "33bb359e26c0bf920050ab89d1bf4023e4094cdd53b01feb4e2d47d0fcecb0d0"), looks := true }, kinds := [], alts := [], laidByText := true, laidKinds := [.data, .data, .data], laidTests := true, laidLooks := .later }
def CpuOpsCardSaid : Prop := Claim7.holds Tryz.pinned (.plain (OpenSpec.ofChange cpuOpsSpec)) cpuOpsCard

/-- THE TIED CARD OF 'sacristylaw05.CpuNil'. -/
def cpuNilCard : Claim7 := { stood := { row := cpuNilRow, standIns := [], harness := (true, "33bb359e26c0bf920050ab89d1bf4023e4094cdd53b01feb4e2d47d0fcecb0d0"), looks := true }, kinds := [], alts := [], laidByText := true, laidKinds := [.data, .data, .data], laidTests := true, laidLooks := .later }
def CpuNilCardSaid : Prop := Claim7.holds Tryz.pinned (.plain (OpenSpec.ofChange cpuNilSpec)) cpuNilCard

/-- THE SECOND FORM's CARD OF 'sacristylaw05.CpuPlays'. -/
def cpuPlaysUptoCard : Claim7 := { stood := { row := cpuPlaysUptoRow, standIns := [], harness := (true, "33bb359e26c0bf920050ab89d1bf4023e4094cdd53b01feb4e2d47d0fcecb0d0"), looks := true }, kinds := [], alts := [], laidByText := true, laidKinds := [.data, .data, .data], laidTests := true, laidLooks := .later }
def CpuPlaysUptoCardSaid : Prop := Claim7.holds Tryz.pinned (.plain (OpenSpec.upto cpuPlaysSpec)) cpuPlaysUptoCard

/-- THE SECOND FORM's CARD OF 'sacristylaw05.CpuRuns'. -/
def cpuRunsUptoCard : Claim7 := { stood := { row := cpuRunsUptoRow, standIns := [], harness := (true, "33bb359e26c0bf920050ab89d1bf4023e4094cdd53b01feb4e2d47d0fcecb0d0"), looks := true }, kinds := [], alts := [], laidByText := true, laidKinds := [.data, .data, .data], laidTests := true, laidLooks := .later }
def CpuRunsUptoCardSaid : Prop := Claim7.holds Tryz.pinned (.plain (OpenSpec.upto cpuRunsSpec)) cpuRunsUptoCard

/-- THE SECOND FORM's CARD OF 'sacristylaw05.CpuApart'. -/
def cpuApartUptoCard : Claim7 := { stood := { row := cpuApartUptoRow, standIns := [], harness := (true, "33bb359e26c0bf920050ab89d1bf4023e4094cdd53b01feb4e2d47d0fcecb0d0"), looks := true }, kinds := [], alts := [], laidByText := true, laidKinds := [.data, .data, .data], laidTests := true, laidLooks := .later }
def CpuApartUptoCardSaid : Prop := Claim7.holds Tryz.pinned (.plain (OpenSpec.upto cpuApartSpec)) cpuApartUptoCard

/-- THE SECOND FORM's CARD OF 'sacristylaw05.CpuOps'. -/
def cpuOpsUptoCard : Claim7 := { stood := { row := cpuOpsUptoRow, standIns := [], harness := (true, "33bb359e26c0bf920050ab89d1bf4023e4094cdd53b01feb4e2d47d0fcecb0d0"), looks := true }, kinds := [], alts := [], laidByText := true, laidKinds := [.data, .data, .data], laidTests := true, laidLooks := .later }
def CpuOpsUptoCardSaid : Prop := Claim7.holds Tryz.pinned (.plain (OpenSpec.upto cpuOpsSpec)) cpuOpsUptoCard

/-- THE SECOND FORM's CARD OF 'sacristylaw05.CpuNil'. -/
def cpuNilUptoCard : Claim7 := { stood := { row := cpuNilUptoRow, standIns := [], harness := (true, "33bb359e26c0bf920050ab89d1bf4023e4094cdd53b01feb4e2d47d0fcecb0d0"), looks := true }, kinds := [], alts := [], laidByText := true, laidKinds := [.data, .data, .data], laidTests := true, laidLooks := .later }
def CpuNilUptoCardSaid : Prop := Claim7.holds Tryz.pinned (.plain (OpenSpec.upto cpuNilSpec)) cpuNilUptoCard
end Rows
end Go.Proofs.YtcckgfablfgknaaGreatDoor
