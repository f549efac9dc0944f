/-
  DERIVED. GIVEN WITH THE SEED: THE CARDS: each row of YtjmadnpcadidhaaDoorRows.lean that lists a variable, with what it lists TIED to the program's text (the seventh form; the later family's looks); each row that meets fmt, with fmt's text TOLD by the authors' own Lean function (tested against real Go, not proved from fmt's source: count such statements apart). THE CARD IS WHAT COUNTS. Prove the row's statement (the work); the ties are given (YtjmadnpcadidhaaDoorTie.lean); close each card by the builder's one call (the guide's Derived/Test/ToyasCard.lean, 'card_holds'). Laid BY PROGRAM, IN A SANDBOX (cutbox-door.mjs). By AI agents, Wed Nov 11 2026. No macro, syntax, notation, axiom, sorry.
-/
import Derived.Test.YtjmadnpcadidhaaDoorRows
import GoSem.ClaimSeven
namespace Go.Proofs.YtjmadnpcadidhaaDoor
namespace Rows

/-- THE TIED CARD OF 'gridworkslaw.WiresReads'. -/
def wiresReadsCard : Claim7 := { stood := { row := wiresReadsRow, standIns := [], harness := (true, "811e037ea2b4d1d4a939f56ffc38dd69156a48910ff38f513dde6d009f33e880"), looks := true }, kinds := [], alts := [], laidByText := true, laidKinds := [.data, .data, .data, .sentinel, .sentinel], laidTests := true, laidLooks := .later }
def WiresReadsCardSaid : Prop := Claim7.holds Tryd.pinned (.plain (OpenSpec.ofChange wiresReadsSpec)) wiresReadsCard

/-- THE SECOND FORM's CARD OF 'gridworkslaw.WiresReads'. -/
def wiresReadsUptoCard : Claim7 := { stood := { row := wiresReadsUptoRow, standIns := [], harness := (true, "811e037ea2b4d1d4a939f56ffc38dd69156a48910ff38f513dde6d009f33e880"), looks := true }, kinds := [], alts := [], laidByText := true, laidKinds := [.data, .data, .data, .sentinel, .sentinel], laidTests := true, laidLooks := .later }
def WiresReadsUptoCardSaid : Prop := Claim7.holds Tryd.pinned (.plain (OpenSpec.upto wiresReadsSpec)) wiresReadsUptoCard
end Rows
end Go.Proofs.YtjmadnpcadidhaaDoor
