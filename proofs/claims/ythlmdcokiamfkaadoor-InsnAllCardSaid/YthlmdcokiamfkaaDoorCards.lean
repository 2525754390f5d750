/-
  DERIVED. GIVEN WITH THE SEED: THE CARDS: each row of YthlmdcokiamfkaaDoorRows.lean that lists a variable, with what it lists TIED to the program's text (the seventh form; the later family's looks); each row that meets fmt, with fmt's text TOLD by the authors' own Lean function (tested against real Go, not proved from fmt's source: count such statements apart). THE CARD IS WHAT COUNTS. Prove the row's statement (the work); the ties are given (YthlmdcokiamfkaaDoorTie.lean); close each card by the builder's one call (the guide's Derived/Test/ToyasCard.lean, 'card_holds'). Laid BY PROGRAM, IN A SANDBOX (cutbox-door.mjs). By AI agents, Wed Nov 11 2026. No macro, syntax, notation, axiom, sorry.
-/
import Derived.Test.YthlmdcokiamfkaaDoorRows
import GoSem.ClaimSeven
namespace Go.Proofs.YthlmdcokiamfkaaDoor
namespace Rows

/-- THE TIED CARD OF 'sacristylaw02.InsnWords'. -/
def insnWordsCard : Claim7 := { stood := { row := insnWordsRow, standIns := [], harness := (true, "8f81a7a92ef15f81bb898e0a12b8cf6c1e6b7e4311bec288fbeaee1265387789"), looks := false }, kinds := [], alts := [], laidByText := true, laidKinds := [.data, .data], laidTests := true, laidLooks := .later }
def InsnWordsCardSaid : Prop := Claim7.holds Tryd.pinned (.plain (OpenSpec.ofChange insnWordsSpec)) insnWordsCard

/-- THE TIED CARD OF 'sacristylaw02.InsnAll'. -/
def insnAllCard : Claim7 := { stood := { row := insnAllRow, standIns := [], harness := (true, "8f81a7a92ef15f81bb898e0a12b8cf6c1e6b7e4311bec288fbeaee1265387789"), looks := false }, kinds := [], alts := [], laidByText := true, laidKinds := [.data, .data], laidTests := true, laidLooks := .later }
def InsnAllCardSaid : Prop := Claim7.holds Tryd.pinned (.plain (OpenSpec.ofChange insnAllSpec)) insnAllCard

/-- THE TIED CARD OF 'sacristylaw02.InsnApart'. -/
def insnApartCard : Claim7 := { stood := { row := insnApartRow, standIns := [], harness := (true, "8f81a7a92ef15f81bb898e0a12b8cf6c1e6b7e4311bec288fbeaee1265387789"), looks := false }, kinds := [], alts := [], laidByText := true, laidKinds := [.data, .data], laidTests := true, laidLooks := .later }
def InsnApartCardSaid : Prop := Claim7.holds Tryd.pinned (.plain (OpenSpec.ofChange insnApartSpec)) insnApartCard

/-- THE TIED CARD OF 'sacristylaw02.InsnTurned'. -/
def insnTurnedCard : Claim7 := { stood := { row := insnTurnedRow, standIns := [], harness := (true, "8f81a7a92ef15f81bb898e0a12b8cf6c1e6b7e4311bec288fbeaee1265387789"), looks := false }, kinds := [], alts := [], laidByText := true, laidKinds := [.data, .data], laidTests := true, laidLooks := .later }
def InsnTurnedCardSaid : Prop := Claim7.holds Tryd.pinned (.plain (OpenSpec.ofChange insnTurnedSpec)) insnTurnedCard

/-- THE TIED CARD OF 'sacristylaw02.InsnFits'. -/
def insnFitsCard : Claim7 := { stood := { row := insnFitsRow, standIns := [], harness := (true, "8f81a7a92ef15f81bb898e0a12b8cf6c1e6b7e4311bec288fbeaee1265387789"), looks := false }, kinds := [], alts := [], laidByText := true, laidKinds := [.data, .data], laidTests := true, laidLooks := .later }
def InsnFitsCardSaid : Prop := Claim7.holds Tryd.pinned (.plain (OpenSpec.ofChange insnFitsSpec)) insnFitsCard

/-- THE SECOND FORM's CARD OF 'sacristylaw02.InsnWords'. -/
def insnWordsUptoCard : Claim7 := { stood := { row := insnWordsUptoRow, standIns := [], harness := (true, "8f81a7a92ef15f81bb898e0a12b8cf6c1e6b7e4311bec288fbeaee1265387789"), looks := false }, kinds := [], alts := [], laidByText := true, laidKinds := [.data, .data], laidTests := true, laidLooks := .later }
def InsnWordsUptoCardSaid : Prop := Claim7.holds Tryd.pinned (.plain (OpenSpec.upto insnWordsSpec)) insnWordsUptoCard

/-- THE SECOND FORM's CARD OF 'sacristylaw02.InsnAll'. -/
def insnAllUptoCard : Claim7 := { stood := { row := insnAllUptoRow, standIns := [], harness := (true, "8f81a7a92ef15f81bb898e0a12b8cf6c1e6b7e4311bec288fbeaee1265387789"), looks := false }, kinds := [], alts := [], laidByText := true, laidKinds := [.data, .data], laidTests := true, laidLooks := .later }
def InsnAllUptoCardSaid : Prop := Claim7.holds Tryd.pinned (.plain (OpenSpec.upto insnAllSpec)) insnAllUptoCard

/-- THE SECOND FORM's CARD OF 'sacristylaw02.InsnApart'. -/
def insnApartUptoCard : Claim7 := { stood := { row := insnApartUptoRow, standIns := [], harness := (true, "8f81a7a92ef15f81bb898e0a12b8cf6c1e6b7e4311bec288fbeaee1265387789"), looks := false }, kinds := [], alts := [], laidByText := true, laidKinds := [.data, .data], laidTests := true, laidLooks := .later }
def InsnApartUptoCardSaid : Prop := Claim7.holds Tryd.pinned (.plain (OpenSpec.upto insnApartSpec)) insnApartUptoCard

/-- THE SECOND FORM's CARD OF 'sacristylaw02.InsnTurned'. -/
def insnTurnedUptoCard : Claim7 := { stood := { row := insnTurnedUptoRow, standIns := [], harness := (true, "8f81a7a92ef15f81bb898e0a12b8cf6c1e6b7e4311bec288fbeaee1265387789"), looks := false }, kinds := [], alts := [], laidByText := true, laidKinds := [.data, .data], laidTests := true, laidLooks := .later }
def InsnTurnedUptoCardSaid : Prop := Claim7.holds Tryd.pinned (.plain (OpenSpec.upto insnTurnedSpec)) insnTurnedUptoCard

/-- THE SECOND FORM's CARD OF 'sacristylaw02.InsnFits'. -/
def insnFitsUptoCard : Claim7 := { stood := { row := insnFitsUptoRow, standIns := [], harness := (true, "8f81a7a92ef15f81bb898e0a12b8cf6c1e6b7e4311bec288fbeaee1265387789"), looks := false }, kinds := [], alts := [], laidByText := true, laidKinds := [.data, .data], laidTests := true, laidLooks := .later }
def InsnFitsUptoCardSaid : Prop := Claim7.holds Tryd.pinned (.plain (OpenSpec.upto insnFitsSpec)) insnFitsUptoCard
end Rows
end Go.Proofs.YthlmdcokiamfkaaDoor
