/-
  DERIVED. GIVEN WITH THE SEED: THE CARDS: each row of YtefkgllanghmfabDoorRows.lean that lists a variable, with what it lists TIED to the program's text (the seventh form; the later family's looks); each row that meets fmt, with fmt's text TOLD by the authors' own Lean function (tested against real Go, not proved from fmt's source: count such statements apart). THE CARD IS WHAT COUNTS. Prove the row's statement (the work); the ties are given (YtefkgllanghmfabDoorTie.lean); close each card by the builder's one call (the guide's Derived/Test/ToyasCard.lean, 'card_holds'). Laid BY PROGRAM, IN A SANDBOX (cutbox-door.mjs). By AI agents, Wed Nov 11 2026. No macro, syntax, notation, axiom, sorry.
-/
import Derived.Test.YtefkgllanghmfabDoorRows
import GoSem.ClaimSeven
namespace Go.Proofs.YtefkgllanghmfabDoor
namespace Rows

/-- THE TIED CARD OF 'gridworkskeep.WiresRound'. -/
def wiresRoundCard : Claim7 := { stood := { row := wiresRoundRow, standIns := [], harness := (true, "4171677ad721a37b7f615c5c2106cf8529a09f3d6978ced0655cc2211d0dd05d"), looks := true }, kinds := [], alts := [], laidByText := true, laidKinds := [.data, .data, .data, .sentinel, .sentinel], laidTests := true, laidLooks := .later }
def WiresRoundCardSaid : Prop := Claim7.holds Tryd.pinned (.plain (OpenSpec.ofChange wiresRoundSpec)) wiresRoundCard

/-- THE SECOND FORM's CARD OF 'gridworkskeep.WiresRound'. -/
def wiresRoundUptoCard : Claim7 := { stood := { row := wiresRoundUptoRow, standIns := [], harness := (true, "4171677ad721a37b7f615c5c2106cf8529a09f3d6978ced0655cc2211d0dd05d"), looks := true }, kinds := [], alts := [], laidByText := true, laidKinds := [.data, .data, .data, .sentinel, .sentinel], laidTests := true, laidLooks := .later }
def WiresRoundUptoCardSaid : Prop := Claim7.holds Tryd.pinned (.plain (OpenSpec.upto wiresRoundSpec)) wiresRoundUptoCard
end Rows
end Go.Proofs.YtefkgllanghmfabDoor
