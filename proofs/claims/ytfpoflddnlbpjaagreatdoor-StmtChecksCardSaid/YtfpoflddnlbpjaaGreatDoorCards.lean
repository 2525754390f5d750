/-
  DERIVED. GIVEN WITH THE SEED: THE CARDS: each row of YtfpoflddnlbpjaaGreatDoorRows.lean that lists a variable, with what it lists TIED to the program's text (the seventh form; the later family's looks); each row that meets fmt, with fmt's text TOLD by the authors' own Lean function (tested against real Go, not proved from fmt's source: count such statements apart). THE CARD IS WHAT COUNTS. Prove the row's statement (the work); the ties are given (YtfpoflddnlbpjaaGreatDoorTie.lean); close each card by the builder's one call (the guide's Derived/Test/ToyasCard.lean, 'card_holds'). Laid BY PROGRAM, IN A SANDBOX (cutbox-door.mjs). By AI agents, Wed Nov 11 2026. No macro, syntax, notation, axiom, sorry.
-/
import Derived.Test.YtfpoflddnlbpjaaGreatDoorRows
import GoSem.ClaimSeven
namespace Go.Proofs.YtfpoflddnlbpjaaGreatDoor
namespace Rows

/-- THE TIED CARD OF 'sacristylaw08.StmtChecks'. -/
def stmtChecksCard : Claim7 := { stood := { row := stmtChecksRow, standIns := [], harness := (true, "4c7a91d7d903ac31c2d9243d1e55a962e127b62c64c7685949b8aaa8a2946609"), looks := true }, kinds := [], alts := [], laidByText := true, laidKinds := [.data, .data, .data, .handle, .sentinel, .sentinel, .data, .data, .data, .wider], laidTests := true, laidLooks := .later }
def StmtChecksCardSaid : Prop := Claim7.holds Tryz.pinned (.plain (OpenSpec.ofChange stmtChecksSpec)) stmtChecksCard

/-- THE TIED CARD OF 'sacristylaw08.StmtMay'. -/
def stmtMayCard : Claim7 := { stood := { row := stmtMayRow, standIns := [], harness := (true, "4c7a91d7d903ac31c2d9243d1e55a962e127b62c64c7685949b8aaa8a2946609"), looks := true }, kinds := [], alts := [], laidByText := true, laidKinds := [.data, .data, .data, .handle, .sentinel, .sentinel, .data, .data, .data, .wider], laidTests := true, laidLooks := .later }
def StmtMayCardSaid : Prop := Claim7.holds Tryz.pinned (.plain (OpenSpec.ofChange stmtMaySpec)) stmtMayCard

/-- THE TIED CARD OF 'sacristylaw08.StmtBounds'. -/
def stmtBoundsCard : Claim7 := { stood := { row := stmtBoundsRow, standIns := [], harness := (true, "4c7a91d7d903ac31c2d9243d1e55a962e127b62c64c7685949b8aaa8a2946609"), looks := true }, kinds := [], alts := [], laidByText := true, laidKinds := [.data, .data, .data, .handle, .sentinel, .sentinel, .data, .data, .data, .wider], laidTests := true, laidLooks := .later }
def StmtBoundsCardSaid : Prop := Claim7.holds Tryz.pinned (.plain (OpenSpec.ofChange stmtBoundsSpec)) stmtBoundsCard

/-- THE TIED CARD OF 'sacristylaw09.ShowTells'. -/
def showTellsCard : Claim7 := { stood := { row := showTellsRow, standIns := [], harness := (true, "4c7a91d7d903ac31c2d9243d1e55a962e127b62c64c7685949b8aaa8a2946609"), looks := true }, kinds := [], alts := [], laidByText := true, laidKinds := [.data, .data, .data, .handle, .sentinel, .sentinel, .data, .data, .data, .wider, .data], laidTests := true, laidLooks := .later }
def ShowTellsCardSaid : Prop := Claim7.holds Tryz.pinned (.plain (OpenSpec.ofChange showTellsSpec)) showTellsCard

/-- THE TIED CARD OF 'sacristylaw09.ShowBack'. -/
def showBackCard : Claim7 := { stood := { row := showBackRow, standIns := [], harness := (true, "4c7a91d7d903ac31c2d9243d1e55a962e127b62c64c7685949b8aaa8a2946609"), looks := true }, kinds := [], alts := [], laidByText := true, laidKinds := [.data, .data, .data, .handle, .sentinel, .sentinel, .data, .data, .data, .wider, .data], laidTests := true, laidLooks := .later }
def ShowBackCardSaid : Prop := Claim7.holds Tryz.pinned (.plain (OpenSpec.ofChange showBackSpec)) showBackCard

/-- THE TIED CARD OF 'sacristylaw09.ShowAgain'. -/
def showAgainCard : Claim7 := { stood := { row := showAgainRow, standIns := [], harness := (true, "4c7a91d7d903ac31c2d9243d1e55a962e127b62c64c7685949b8aaa8a2946609"), looks := true }, kinds := [], alts := [], laidByText := true, laidKinds := [.data, .data, .data, .handle, .sentinel, .sentinel, .data, .data, .data, .wider, .data], laidTests := true, laidLooks := .later }
def ShowAgainCardSaid : Prop := Claim7.holds Tryz.pinned (.plain (OpenSpec.ofChange showAgainSpec)) showAgainCard

/-- THE TIED CARD OF 'sacristylaw09.ShowLines'. -/
def showLinesCard : Claim7 := { stood := { row := showLinesRow, standIns := [], harness := (true, "4c7a91d7d903ac31c2d9243d1e55a962e127b62c64c7685949b8aaa8a2946609"), looks := true }, kinds := [], alts := [], laidByText := true, laidKinds := [.data, .data, .data, .handle, .sentinel, .sentinel, .data, .data, .data, .wider, .data], laidTests := true, laidLooks := .later }
def ShowLinesCardSaid : Prop := Claim7.holds Tryz.pinned (.plain (OpenSpec.ofChange showLinesSpec)) showLinesCard

/-- THE SECOND FORM's CARD OF 'sacristylaw08.StmtChecks'. -/
def stmtChecksUptoCard : Claim7 := { stood := { row := stmtChecksUptoRow, standIns := [], harness := (true, "4c7a91d7d903ac31c2d9243d1e55a962e127b62c64c7685949b8aaa8a2946609"), looks := true }, kinds := [], alts := [], laidByText := true, laidKinds := [.data, .data, .data, .handle, .sentinel, .sentinel, .data, .data, .data, .wider], laidTests := true, laidLooks := .later }
def StmtChecksUptoCardSaid : Prop := Claim7.holds Tryz.pinned (.plain (OpenSpec.upto stmtChecksSpec)) stmtChecksUptoCard

/-- THE SECOND FORM's CARD OF 'sacristylaw08.StmtMay'. -/
def stmtMayUptoCard : Claim7 := { stood := { row := stmtMayUptoRow, standIns := [], harness := (true, "4c7a91d7d903ac31c2d9243d1e55a962e127b62c64c7685949b8aaa8a2946609"), looks := true }, kinds := [], alts := [], laidByText := true, laidKinds := [.data, .data, .data, .handle, .sentinel, .sentinel, .data, .data, .data, .wider], laidTests := true, laidLooks := .later }
def StmtMayUptoCardSaid : Prop := Claim7.holds Tryz.pinned (.plain (OpenSpec.upto stmtMaySpec)) stmtMayUptoCard

/-- THE SECOND FORM's CARD OF 'sacristylaw08.StmtBounds'. -/
def stmtBoundsUptoCard : Claim7 := { stood := { row := stmtBoundsUptoRow, standIns := [], harness := (true, "4c7a91d7d903ac31c2d9243d1e55a962e127b62c64c7685949b8aaa8a2946609"), looks := true }, kinds := [], alts := [], laidByText := true, laidKinds := [.data, .data, .data, .handle, .sentinel, .sentinel, .data, .data, .data, .wider], laidTests := true, laidLooks := .later }
def StmtBoundsUptoCardSaid : Prop := Claim7.holds Tryz.pinned (.plain (OpenSpec.upto stmtBoundsSpec)) stmtBoundsUptoCard

/-- THE SECOND FORM's CARD OF 'sacristylaw09.ShowTells'. -/
def showTellsUptoCard : Claim7 := { stood := { row := showTellsUptoRow, standIns := [], harness := (true, "4c7a91d7d903ac31c2d9243d1e55a962e127b62c64c7685949b8aaa8a2946609"), looks := true }, kinds := [], alts := [], laidByText := true, laidKinds := [.data, .data, .data, .handle, .sentinel, .sentinel, .data, .data, .data, .wider, .data], laidTests := true, laidLooks := .later }
def ShowTellsUptoCardSaid : Prop := Claim7.holds Tryz.pinned (.plain (OpenSpec.upto showTellsSpec)) showTellsUptoCard

/-- THE SECOND FORM's CARD OF 'sacristylaw09.ShowBack'. -/
def showBackUptoCard : Claim7 := { stood := { row := showBackUptoRow, standIns := [], harness := (true, "4c7a91d7d903ac31c2d9243d1e55a962e127b62c64c7685949b8aaa8a2946609"), looks := true }, kinds := [], alts := [], laidByText := true, laidKinds := [.data, .data, .data, .handle, .sentinel, .sentinel, .data, .data, .data, .wider, .data], laidTests := true, laidLooks := .later }
def ShowBackUptoCardSaid : Prop := Claim7.holds Tryz.pinned (.plain (OpenSpec.upto showBackSpec)) showBackUptoCard

/-- THE SECOND FORM's CARD OF 'sacristylaw09.ShowAgain'. -/
def showAgainUptoCard : Claim7 := { stood := { row := showAgainUptoRow, standIns := [], harness := (true, "4c7a91d7d903ac31c2d9243d1e55a962e127b62c64c7685949b8aaa8a2946609"), looks := true }, kinds := [], alts := [], laidByText := true, laidKinds := [.data, .data, .data, .handle, .sentinel, .sentinel, .data, .data, .data, .wider, .data], laidTests := true, laidLooks := .later }
def ShowAgainUptoCardSaid : Prop := Claim7.holds Tryz.pinned (.plain (OpenSpec.upto showAgainSpec)) showAgainUptoCard

/-- THE SECOND FORM's CARD OF 'sacristylaw09.ShowLines'. -/
def showLinesUptoCard : Claim7 := { stood := { row := showLinesUptoRow, standIns := [], harness := (true, "4c7a91d7d903ac31c2d9243d1e55a962e127b62c64c7685949b8aaa8a2946609"), looks := true }, kinds := [], alts := [], laidByText := true, laidKinds := [.data, .data, .data, .handle, .sentinel, .sentinel, .data, .data, .data, .wider, .data], laidTests := true, laidLooks := .later }
def ShowLinesUptoCardSaid : Prop := Claim7.holds Tryz.pinned (.plain (OpenSpec.upto showLinesSpec)) showLinesUptoCard
end Rows
end Go.Proofs.YtfpoflddnlbpjaaGreatDoor
