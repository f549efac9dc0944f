/-
  No cell of these rows narrows 'for every input' (looked for: loops, veiled, ifaces, maps, wideKeys, modest, calm, conditions, laid).
  DERIVED. THE GIVEN ROWS OF THIS SEAT. 3 by the template 'for every input the law returns true; each argument reads behind the call as it read before'; 0 by the template 'total and deterministic' (their statements: YtjhmendiefojoalTotals.lean).
  GIVEN WITH THE SEED: the statements are not yours to turn. If you find one false, say at which input.
  Laid BY PROGRAM, IN A SANDBOX (cutbox-rows.mjs): the forced cells as the released guide's own fill.sh prints them over the translation 286efe37cfd8730a… (all of the seat's roots in one cut). By AI agents, Wed Nov 11 2026. No macro, syntax, notation, axiom, sorry.
-/
import Derived.Test.YtjhmendiefojoalChecked
import GoSem.Claim
import GoSem.ClaimJoined
import GoSem.ClaimMapViews
import Derived.JoinedTies
import Derived.KernelRfl
namespace Go.Proofs.Ytjhmendiefojoal
/- THE CELL 'sum', in the pinned program and in every row, IS THE sha256 OF THE DUMP (.gsa) THAT YtjhmendiefojoalProg.lean LOADS. Nothing in Lean hashes anything: it is a label: what it is worth is what the hold of that sum in a sandbox is worth. -/
noncomputable def Try.pinned : Pinned := { name := "ytjhmendiefojoal", sum := "286efe37cfd8730a651bddc533085f52058f9c49d80e9658617e2645bf8a59fe", checked := Try.checked }
namespace Rows
def none {H : Type} : Left H := { results := [], args := [] }

/-- 'gridworkskeep.MeterRises': WHATEVER THE INPUT: true; the input reads as it did. -/
def meterRisesSpec : ChangeSpec := { name := "meterRises", fn := fun _ => fun
  | [d1, d2, d3, d4] => { results := [.lit (.bool true)], args := [d1, d2, d3, d4] }
  | _ => none }
def meterRisesRow : OpenClaim := { program := "ytjhmendiefojoal", sum := "286efe37cfd8730a651bddc533085f52058f9c49d80e9658617e2645bf8a59fe", func := "gridworks/gridworkskeep.MeterRises", spec := "meterRises", unfollowed := true, recurses := true, apart := false }
def MeterRisesSaid : Prop := meterRisesRow.holds Try.pinned (OpenSpec.ofChange meterRisesSpec)

/-- ITS FALSE NEIGHBOUR: 'it returns false'. Refute it at one input. -/
def meterRisesWrong : ChangeSpec := { name := "meterRises", fn := fun _ => fun
  | [d1, d2, d3, d4] => { results := [.lit (.bool false)], args := [d1, d2, d3, d4] }
  | _ => none }
def MeterRisesWrongFalsely : Prop := meterRisesRow.holds Try.pinned (OpenSpec.ofChange meterRisesWrong)

/-- 'gridworkslaw.RemoteBegins': WHATEVER THE INPUT: true; the input reads as it did. -/
def remoteBeginsSpec : ChangeSpec := { name := "remoteBegins", fn := fun _ => fun
  | [d1, d2, d3] => { results := [.lit (.bool true)], args := [d1, d2, d3] }
  | _ => none }
def remoteBeginsRow : OpenClaim := { program := "ytjhmendiefojoal", sum := "286efe37cfd8730a651bddc533085f52058f9c49d80e9658617e2645bf8a59fe", func := "gridworks/gridworkslaw.RemoteBegins", spec := "remoteBegins", apart := false }
def RemoteBeginsSaid : Prop := remoteBeginsRow.holds Try.pinned (OpenSpec.ofChange remoteBeginsSpec)

/-- ITS FALSE NEIGHBOUR: 'it returns false'. Refute it at one input. -/
def remoteBeginsWrong : ChangeSpec := { name := "remoteBegins", fn := fun _ => fun
  | [d1, d2, d3] => { results := [.lit (.bool false)], args := [d1, d2, d3] }
  | _ => none }
def RemoteBeginsWrongFalsely : Prop := remoteBeginsRow.holds Try.pinned (OpenSpec.ofChange remoteBeginsWrong)

/-- 'gridworkslaw.RemoteHears': WHATEVER THE INPUT: true; the input reads as it did. -/
def remoteHearsSpec : ChangeSpec := { name := "remoteHears", fn := fun _ => fun
  | [d1, d2] => { results := [.lit (.bool true)], args := [d1, d2] }
  | _ => none }
def remoteHearsRow : OpenClaim := { program := "ytjhmendiefojoal", sum := "286efe37cfd8730a651bddc533085f52058f9c49d80e9658617e2645bf8a59fe", func := "gridworks/gridworkslaw.RemoteHears", spec := "remoteHears", unfollowed := true, recurses := true, apart := false }
def RemoteHearsSaid : Prop := remoteHearsRow.holds Try.pinned (OpenSpec.ofChange remoteHearsSpec)

/-- ITS FALSE NEIGHBOUR: 'it returns false'. Refute it at one input. -/
def remoteHearsWrong : ChangeSpec := { name := "remoteHears", fn := fun _ => fun
  | [d1, d2] => { results := [.lit (.bool false)], args := [d1, d2] }
  | _ => none }
def RemoteHearsWrongFalsely : Prop := remoteHearsRow.holds Try.pinned (OpenSpec.ofChange remoteHearsWrong)

/- THE SECOND FORM. 'bulk': how many values and letters a reading holds, each counted each time it is reached (what is shared counts as often as it is met; a slice's spare places count too). A statement '..UptoSaid' is the law's where the arguments, and the package variables that the reading takes, are together of bulk at most 1048576: NARROWER than '..Said'. Prove '..Said' where nothing that the law and all that it calls make is longer than what came in: it says more and counts as full. Else prove '..UptoSaid'. A law counts once. -/
mutual
def uptoBulk {H : Type} : DataW H → Nat
  | .lit (.string bytes) => bytes.length + 1
  | .lit _ => 1
  | .nil => 1
  | .ptr d => uptoBulk d + 1
  | .slice elems spare => uptoBulkAll elems + uptoBulkAll spare + 1
  | .agg parts => uptoBulkAll parts + 1
  | .iface _ d => uptoBulk d + 1
  | .map entries => uptoBulkEntries entries + 1
  | .held _ => 1
def uptoBulkAll {H : Type} : List (DataW H) → Nat
  | [] => 0
  | d :: r => uptoBulk d + uptoBulkAll r
def uptoBulkEntries {H : Type} : List (Lit × DataW H) → Nat
  | [] => 0
  | x :: r => uptoBulkEntry x + uptoBulkEntries r
def uptoBulkEntry {H : Type} : Lit × DataW H → Nat
  | (.string bytes, d) => bytes.length + uptoBulk d + 1
  | (_, d) => uptoBulk d + 1
 end
def uptoSmall : (H : Type) → List (DataW H) → Bool := fun _ ds => decide (uptoBulkAll ds ≤ 1048576)
def OpenSpec.upto (s : _root_.Go.ChangeSpec) : _root_.Go.OpenSpec := { _root_.Go.OpenSpec.ofChange s with cond := some uptoSmall }

/-- 'gridworkskeep.MeterRises', WHERE WHAT IT READS IS OF BULK AT MOST 1048576: true; the input reads as it did. -/
def meterRisesUptoRow : OpenClaim := { program := "ytjhmendiefojoal", sum := "286efe37cfd8730a651bddc533085f52058f9c49d80e9658617e2645bf8a59fe", func := "gridworks/gridworkskeep.MeterRises", spec := "meterRises", unfollowed := true, recurses := true, apart := false, narrowed := true }
def MeterRisesUptoSaid : Prop := meterRisesUptoRow.holds Try.pinned (OpenSpec.upto meterRisesSpec)

/-- 'gridworkslaw.RemoteBegins', WHERE WHAT IT READS IS OF BULK AT MOST 1048576: true; the input reads as it did. -/
def remoteBeginsUptoRow : OpenClaim := { program := "ytjhmendiefojoal", sum := "286efe37cfd8730a651bddc533085f52058f9c49d80e9658617e2645bf8a59fe", func := "gridworks/gridworkslaw.RemoteBegins", spec := "remoteBegins", apart := false, narrowed := true }
def RemoteBeginsUptoSaid : Prop := remoteBeginsUptoRow.holds Try.pinned (OpenSpec.upto remoteBeginsSpec)

/-- 'gridworkslaw.RemoteHears', WHERE WHAT IT READS IS OF BULK AT MOST 1048576: true; the input reads as it did. -/
def remoteHearsUptoRow : OpenClaim := { program := "ytjhmendiefojoal", sum := "286efe37cfd8730a651bddc533085f52058f9c49d80e9658617e2645bf8a59fe", func := "gridworks/gridworkslaw.RemoteHears", spec := "remoteHears", unfollowed := true, recurses := true, apart := false, narrowed := true }
def RemoteHearsUptoSaid : Prop := remoteHearsUptoRow.holds Try.pinned (OpenSpec.upto remoteHearsSpec)

end Rows
end Go.Proofs.Ytjhmendiefojoal
