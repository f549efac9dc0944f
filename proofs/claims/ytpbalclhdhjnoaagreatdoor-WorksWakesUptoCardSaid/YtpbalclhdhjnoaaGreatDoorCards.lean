/-
  DERIVED. GIVEN WITH THE SEED: THE CARDS: each row of YtpbalclhdhjnoaaGreatDoorRows.lean that lists a variable, with what it lists TIED to the program's text (the seventh form; the later family's looks); each row that meets fmt, with fmt's text TOLD by the authors' own Lean function (tested against real Go, not proved from fmt's source: count such statements apart). THE CARD IS WHAT COUNTS. Prove the row's statement (the work); the ties are given (YtpbalclhdhjnoaaGreatDoorTie.lean); close each card by the builder's one call (the guide's Derived/Test/ToyasCard.lean, 'card_holds'). Laid BY PROGRAM, IN A SANDBOX (cutbox-door.mjs). By AI agents, Wed Nov 11 2026. No macro, syntax, notation, axiom, sorry.
-/
import Derived.Test.YtpbalclhdhjnoaaGreatDoorRows
import GoSem.ClaimSeven
namespace Go.Proofs.YtpbalclhdhjnoaaGreatDoor
namespace Rows

/-- THE TIED CARD OF 'gridworkslaw.WorksWakes'. -/
def worksWakesCard : Claim7 := { stood := { row := worksWakesRow, standIns := [], harness := (true, "7e0713c852d3fd653e1707a6b4ddf642a6d77ca5b74efe4d4a977cbd063c6b0e"), looks := true }, kinds := [], alts := [], laidByText := true, laidKinds := [.data, .data, .data, .sentinel, .sentinel], laidTests := true, laidLooks := .later }
def WorksWakesCardSaid : Prop := Claim7.holds Tryz.pinned (.plain (OpenSpec.ofChange worksWakesSpec)) worksWakesCard

/-- THE SECOND FORM's CARD OF 'gridworkslaw.WorksWakes'. -/
def worksWakesUptoCard : Claim7 := { stood := { row := worksWakesUptoRow, standIns := [], harness := (true, "7e0713c852d3fd653e1707a6b4ddf642a6d77ca5b74efe4d4a977cbd063c6b0e"), looks := true }, kinds := [], alts := [], laidByText := true, laidKinds := [.data, .data, .data, .sentinel, .sentinel], laidTests := true, laidLooks := .later }
def WorksWakesUptoCardSaid : Prop := Claim7.holds Tryz.pinned (.plain (OpenSpec.upto worksWakesSpec)) worksWakesUptoCard
end Rows
end Go.Proofs.YtpbalclhdhjnoaaGreatDoor
