/-
  DERIVED. GIVEN WITH THE SEED: THE CARDS: each row of YtakcpemboeekfadGreatDoorRows.lean that lists a variable, with what it lists TIED to the program's text (the seventh form; the later family's looks); each row that meets fmt, with fmt's text TOLD by the authors' own Lean function (tested against real Go, not proved from fmt's source: count such statements apart). THE CARD IS WHAT COUNTS. Prove the row's statement (the work); the ties are given (YtakcpemboeekfadGreatDoorTie.lean); close each card by the builder's one call (the guide's Derived/Test/ToyasCard.lean, 'card_holds'). Laid BY PROGRAM, IN A SANDBOX (cutbox-door.mjs). By AI agents, Wed Nov 11 2026. No macro, syntax, notation, axiom, sorry.
-/
import Derived.Test.YtakcpemboeekfadGreatDoorRows
import GoSem.ClaimSeven
namespace Go.Proofs.YtakcpemboeekfadGreatDoor
namespace Rows

/-- THE TIED CARD OF 'gridworkslaw.SecureFeeds'. -/
def secureFeedsCard : Claim7 := { stood := { row := secureFeedsRow, standIns := [], harness := (true, "b8e3b730908b842e2bcf86274c6b245006e970f44e651d6283df435ca97d64f7"), looks := true }, kinds := [], alts := [], laidByText := true, laidKinds := [.data, .data, .data, .sentinel, .sentinel], laidTests := true, laidLooks := .later }
def SecureFeedsCardSaid : Prop := Claim7.holds Tryz.pinned (.plain (OpenSpec.ofChange secureFeedsSpec)) secureFeedsCard

/-- THE SECOND FORM's CARD OF 'gridworkslaw.SecureFeeds'. -/
def secureFeedsUptoCard : Claim7 := { stood := { row := secureFeedsUptoRow, standIns := [], harness := (true, "b8e3b730908b842e2bcf86274c6b245006e970f44e651d6283df435ca97d64f7"), looks := true }, kinds := [], alts := [], laidByText := true, laidKinds := [.data, .data, .data, .sentinel, .sentinel], laidTests := true, laidLooks := .later }
def SecureFeedsUptoCardSaid : Prop := Claim7.holds Tryz.pinned (.plain (OpenSpec.upto secureFeedsSpec)) secureFeedsUptoCard
end Rows
end Go.Proofs.YtakcpemboeekfadGreatDoor
