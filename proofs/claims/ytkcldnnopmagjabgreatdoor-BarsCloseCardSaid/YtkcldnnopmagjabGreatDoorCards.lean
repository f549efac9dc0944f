/-
  DERIVED. GIVEN WITH THE SEED: THE CARDS: each row of YtkcldnnopmagjabGreatDoorRows.lean that lists a variable, with what it lists TIED to the program's text (the seventh form; the later family's looks); each row that meets fmt, with fmt's text TOLD by the authors' own Lean function (tested against real Go, not proved from fmt's source: count such statements apart). THE CARD IS WHAT COUNTS. Prove the row's statement (the work); the ties are given (YtkcldnnopmagjabGreatDoorTie.lean); close each card by the builder's one call (the guide's Derived/Test/ToyasCard.lean, 'card_holds'). Laid BY PROGRAM, IN A SANDBOX (cutbox-door.mjs). By AI agents, Wed Nov 11 2026. No macro, syntax, notation, axiom, sorry.
-/
import Derived.Test.YtkcldnnopmagjabGreatDoorRows
import GoSem.ClaimSeven
namespace Go.Proofs.YtkcldnnopmagjabGreatDoor
namespace Rows

/-- THE TIED CARD OF 'gridworkslaw.WiresShows'. -/
def wiresShowsCard : Claim7 := { stood := { row := wiresShowsRow, standIns := [], harness := (true, "78f3f7f95c1f14abd940c67e6bf08938bffb2d570c6c46369dab47fb07aa3e8f"), looks := true }, kinds := [], alts := [], laidByText := true, laidKinds := [.data, .data, .data, .sentinel, .sentinel], laidTests := true, laidLooks := .later }
def WiresShowsCardSaid : Prop := Claim7.holds Tryz.pinned (.plain (OpenSpec.ofChange wiresShowsSpec)) wiresShowsCard

/-- THE TIED CARD OF 'gridworkslaw.BarsNodes'. -/
def barsNodesCard : Claim7 := { stood := { row := barsNodesRow, standIns := [], harness := (true, "78f3f7f95c1f14abd940c67e6bf08938bffb2d570c6c46369dab47fb07aa3e8f"), looks := true }, kinds := [], alts := [], laidByText := true, laidKinds := [.data, .data, .data, .sentinel, .sentinel], laidTests := true, laidLooks := .later }
def BarsNodesCardSaid : Prop := Claim7.holds Tryz.pinned (.plain (OpenSpec.ofChange barsNodesSpec)) barsNodesCard

/-- THE TIED CARD OF 'gridworkslaw.BarsWays'. -/
def barsWaysCard : Claim7 := { stood := { row := barsWaysRow, standIns := [], harness := (true, "78f3f7f95c1f14abd940c67e6bf08938bffb2d570c6c46369dab47fb07aa3e8f"), looks := true }, kinds := [], alts := [], laidByText := true, laidKinds := [.data, .data, .data, .sentinel, .sentinel], laidTests := true, laidLooks := .later }
def BarsWaysCardSaid : Prop := Claim7.holds Tryz.pinned (.plain (OpenSpec.ofChange barsWaysSpec)) barsWaysCard

/-- THE TIED CARD OF 'gridworkslaw.BarsBridges'. -/
def barsBridgesCard : Claim7 := { stood := { row := barsBridgesRow, standIns := [], harness := (true, "78f3f7f95c1f14abd940c67e6bf08938bffb2d570c6c46369dab47fb07aa3e8f"), looks := true }, kinds := [], alts := [], laidByText := true, laidKinds := [.data, .data, .data, .sentinel, .sentinel], laidTests := true, laidLooks := .later }
def BarsBridgesCardSaid : Prop := Claim7.holds Tryz.pinned (.plain (OpenSpec.ofChange barsBridgesSpec)) barsBridgesCard

/-- THE TIED CARD OF 'gridworkskeep.BarsClose'. -/
def barsCloseCard : Claim7 := { stood := { row := barsCloseRow, standIns := [], harness := (true, "78f3f7f95c1f14abd940c67e6bf08938bffb2d570c6c46369dab47fb07aa3e8f"), looks := true }, kinds := [], alts := [], laidByText := true, laidKinds := [.data, .data, .data, .sentinel, .sentinel], laidTests := true, laidLooks := .later }
def BarsCloseCardSaid : Prop := Claim7.holds Tryz.pinned (.plain (OpenSpec.ofChange barsCloseSpec)) barsCloseCard

/-- THE SECOND FORM's CARD OF 'gridworkslaw.WiresShows'. -/
def wiresShowsUptoCard : Claim7 := { stood := { row := wiresShowsUptoRow, standIns := [], harness := (true, "78f3f7f95c1f14abd940c67e6bf08938bffb2d570c6c46369dab47fb07aa3e8f"), looks := true }, kinds := [], alts := [], laidByText := true, laidKinds := [.data, .data, .data, .sentinel, .sentinel], laidTests := true, laidLooks := .later }
def WiresShowsUptoCardSaid : Prop := Claim7.holds Tryz.pinned (.plain (OpenSpec.upto wiresShowsSpec)) wiresShowsUptoCard

/-- THE SECOND FORM's CARD OF 'gridworkslaw.BarsNodes'. -/
def barsNodesUptoCard : Claim7 := { stood := { row := barsNodesUptoRow, standIns := [], harness := (true, "78f3f7f95c1f14abd940c67e6bf08938bffb2d570c6c46369dab47fb07aa3e8f"), looks := true }, kinds := [], alts := [], laidByText := true, laidKinds := [.data, .data, .data, .sentinel, .sentinel], laidTests := true, laidLooks := .later }
def BarsNodesUptoCardSaid : Prop := Claim7.holds Tryz.pinned (.plain (OpenSpec.upto barsNodesSpec)) barsNodesUptoCard

/-- THE SECOND FORM's CARD OF 'gridworkslaw.BarsWays'. -/
def barsWaysUptoCard : Claim7 := { stood := { row := barsWaysUptoRow, standIns := [], harness := (true, "78f3f7f95c1f14abd940c67e6bf08938bffb2d570c6c46369dab47fb07aa3e8f"), looks := true }, kinds := [], alts := [], laidByText := true, laidKinds := [.data, .data, .data, .sentinel, .sentinel], laidTests := true, laidLooks := .later }
def BarsWaysUptoCardSaid : Prop := Claim7.holds Tryz.pinned (.plain (OpenSpec.upto barsWaysSpec)) barsWaysUptoCard

/-- THE SECOND FORM's CARD OF 'gridworkslaw.BarsBridges'. -/
def barsBridgesUptoCard : Claim7 := { stood := { row := barsBridgesUptoRow, standIns := [], harness := (true, "78f3f7f95c1f14abd940c67e6bf08938bffb2d570c6c46369dab47fb07aa3e8f"), looks := true }, kinds := [], alts := [], laidByText := true, laidKinds := [.data, .data, .data, .sentinel, .sentinel], laidTests := true, laidLooks := .later }
def BarsBridgesUptoCardSaid : Prop := Claim7.holds Tryz.pinned (.plain (OpenSpec.upto barsBridgesSpec)) barsBridgesUptoCard

/-- THE SECOND FORM's CARD OF 'gridworkskeep.BarsClose'. -/
def barsCloseUptoCard : Claim7 := { stood := { row := barsCloseUptoRow, standIns := [], harness := (true, "78f3f7f95c1f14abd940c67e6bf08938bffb2d570c6c46369dab47fb07aa3e8f"), looks := true }, kinds := [], alts := [], laidByText := true, laidKinds := [.data, .data, .data, .sentinel, .sentinel], laidTests := true, laidLooks := .later }
def BarsCloseUptoCardSaid : Prop := Claim7.holds Tryz.pinned (.plain (OpenSpec.upto barsCloseSpec)) barsCloseUptoCard
end Rows
end Go.Proofs.YtkcldnnopmagjabGreatDoor
