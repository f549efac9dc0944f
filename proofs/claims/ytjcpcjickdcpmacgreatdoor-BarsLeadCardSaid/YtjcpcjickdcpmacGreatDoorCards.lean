/-
  DERIVED. GIVEN WITH THE SEED: THE CARDS: each row of YtjcpcjickdcpmacGreatDoorRows.lean that lists a variable, with what it lists TIED to the program's text (the seventh form; the later family's looks); each row that meets fmt, with fmt's text TOLD by the authors' own Lean function (tested against real Go, not proved from fmt's source: count such statements apart). THE CARD IS WHAT COUNTS. Prove the row's statement (the work); the ties are given (YtjcpcjickdcpmacGreatDoorTie.lean); close each card by the builder's one call (the guide's Derived/Test/ToyasCard.lean, 'card_holds'). Laid BY PROGRAM, IN A SANDBOX (cutbox-door.mjs). By AI agents, Wed Nov 11 2026. No macro, syntax, notation, axiom, sorry.
-/
import Derived.Test.YtjcpcjickdcpmacGreatDoorRows
import GoSem.ClaimSeven
namespace Go.Proofs.YtjcpcjickdcpmacGreatDoor
namespace Rows

/-- THE TIED CARD OF 'gridworkskeep.BarsLead'. -/
def barsLeadCard : Claim7 := { stood := { row := barsLeadRow, standIns := [], harness := (true, "d90b6a4bc7e615f75baed89dc4dca1fd4f0449dfc42fc15dc973c4564c26c471"), looks := true }, kinds := [], alts := [], laidByText := true, laidKinds := [.data, .data, .data, .sentinel, .sentinel], laidTests := true, laidLooks := .later }
def BarsLeadCardSaid : Prop := Claim7.holds Tryz.pinned (.plain (OpenSpec.ofChange barsLeadSpec)) barsLeadCard

/-- THE SECOND FORM's CARD OF 'gridworkskeep.BarsLead'. -/
def barsLeadUptoCard : Claim7 := { stood := { row := barsLeadUptoRow, standIns := [], harness := (true, "d90b6a4bc7e615f75baed89dc4dca1fd4f0449dfc42fc15dc973c4564c26c471"), looks := true }, kinds := [], alts := [], laidByText := true, laidKinds := [.data, .data, .data, .sentinel, .sentinel], laidTests := true, laidLooks := .later }
def BarsLeadUptoCardSaid : Prop := Claim7.holds Tryz.pinned (.plain (OpenSpec.upto barsLeadSpec)) barsLeadUptoCard
end Rows
end Go.Proofs.YtjcpcjickdcpmacGreatDoor
