/-
  No cell of these rows narrows 'for every input' (looked for: loops, veiled, ifaces, maps, wideKeys, modest, calm, conditions, laid).
  DERIVED. THE GIVEN ROWS OF THIS SEAT. 6 by the template 'for every input the law returns true; each argument reads behind the call as it read before'; 0 by the template 'total and deterministic' (their statements: YtcnoipcpifackagTotals.lean).
  GIVEN WITH THE SEED: the statements are not yours to turn. If you find one false, say at which input.
  Laid BY PROGRAM, IN A SANDBOX (cutbox-rows.mjs): the forced cells as the released guide's own fill.sh prints them over the translation ed1f993a9bb25453… (all of the seat's roots in one cut). By AI agents, Wed Nov 11 2026. No macro, syntax, notation, axiom, sorry.
-/
import Derived.Test.YtcnoipcpifackagChecked
import GoSem.Claim
import GoSem.ClaimJoined
import GoSem.ClaimMapViews
import Derived.JoinedTies
import Derived.KernelRfl
namespace Go.Proofs.Ytcnoipcpifackag
/- THE CELL 'sum', in the pinned program and in every row, IS THE sha256 OF THE DUMP (.gsa) THAT YtcnoipcpifackagProg.lean LOADS. Nothing in Lean hashes anything: it is a label: what it is worth is what the hold of that sum in a sandbox is worth. -/
noncomputable def Try.pinned : Pinned := { name := "ytcnoipcpifackag", sum := "ed1f993a9bb254538e52e4ede6c14f71b4151e962c09932cc25c6d5b445201c4", checked := Try.checked }
namespace Rows
def none {H : Type} : Left H := { results := [], args := [] }

/-- 'gridworkslaw.CommitMerits': WHATEVER THE INPUT: true; the input reads as it did. -/
def commitMeritsSpec : ChangeSpec := { name := "commitMerits", fn := fun _ => fun
  | [d1, d2, d3] => { results := [.lit (.bool true)], args := [d1, d2, d3] }
  | _ => none }
def commitMeritsRow : OpenClaim := { program := "ytcnoipcpifackag", sum := "ed1f993a9bb254538e52e4ede6c14f71b4151e962c09932cc25c6d5b445201c4", func := "gridworks/gridworkslaw.CommitMerits", spec := "commitMerits", unfollowed := true, recurses := true, plainKeys := false, apart := false }
def CommitMeritsSaid : Prop := commitMeritsRow.holds Try.pinned (OpenSpec.ofChange commitMeritsSpec)

/-- ITS FALSE NEIGHBOUR: 'it returns false'. Refute it at one input. -/
def commitMeritsWrong : ChangeSpec := { name := "commitMerits", fn := fun _ => fun
  | [d1, d2, d3] => { results := [.lit (.bool false)], args := [d1, d2, d3] }
  | _ => none }
def CommitMeritsWrongFalsely : Prop := commitMeritsRow.holds Try.pinned (OpenSpec.ofChange commitMeritsWrong)

/-- 'gridworkslaw.CommitValues': WHATEVER THE INPUT: true; the input reads as it did. -/
def commitValuesSpec : ChangeSpec := { name := "commitValues", fn := fun _ => fun
  | [d1, d2, d3, d4] => { results := [.lit (.bool true)], args := [d1, d2, d3, d4] }
  | _ => none }
def commitValuesRow : OpenClaim := { program := "ytcnoipcpifackag", sum := "ed1f993a9bb254538e52e4ede6c14f71b4151e962c09932cc25c6d5b445201c4", func := "gridworks/gridworkslaw.CommitValues", spec := "commitValues", unfollowed := true, recurses := true, plainKeys := false, apart := false }
def CommitValuesSaid : Prop := commitValuesRow.holds Try.pinned (OpenSpec.ofChange commitValuesSpec)

/-- ITS FALSE NEIGHBOUR: 'it returns false'. Refute it at one input. -/
def commitValuesWrong : ChangeSpec := { name := "commitValues", fn := fun _ => fun
  | [d1, d2, d3, d4] => { results := [.lit (.bool false)], args := [d1, d2, d3, d4] }
  | _ => none }
def CommitValuesWrongFalsely : Prop := commitValuesRow.holds Try.pinned (OpenSpec.ofChange commitValuesWrong)

/-- 'gridworkslaw.CommitBest': WHATEVER THE INPUT: true; the input reads as it did. -/
def commitBestSpec : ChangeSpec := { name := "commitBest", fn := fun _ => fun
  | [d1, d2, d3] => { results := [.lit (.bool true)], args := [d1, d2, d3] }
  | _ => none }
def commitBestRow : OpenClaim := { program := "ytcnoipcpifackag", sum := "ed1f993a9bb254538e52e4ede6c14f71b4151e962c09932cc25c6d5b445201c4", func := "gridworks/gridworkslaw.CommitBest", spec := "commitBest", unfollowed := true, recurses := true, plainKeys := false, apart := false }
def CommitBestSaid : Prop := commitBestRow.holds Try.pinned (OpenSpec.ofChange commitBestSpec)

/-- ITS FALSE NEIGHBOUR: 'it returns false'. Refute it at one input. -/
def commitBestWrong : ChangeSpec := { name := "commitBest", fn := fun _ => fun
  | [d1, d2, d3] => { results := [.lit (.bool false)], args := [d1, d2, d3] }
  | _ => none }
def CommitBestWrongFalsely : Prop := commitBestRow.holds Try.pinned (OpenSpec.ofChange commitBestWrong)

/-- 'gridworkskeep.CommitCheap': WHATEVER THE INPUT: true; the input reads as it did. -/
def commitCheapSpec : ChangeSpec := { name := "commitCheap", fn := fun _ => fun
  | [d1, d2, d3, d4, d5] => { results := [.lit (.bool true)], args := [d1, d2, d3, d4, d5] }
  | _ => none }
def commitCheapRow : OpenClaim := { program := "ytcnoipcpifackag", sum := "ed1f993a9bb254538e52e4ede6c14f71b4151e962c09932cc25c6d5b445201c4", func := "gridworks/gridworkskeep.CommitCheap", spec := "commitCheap", unfollowed := true, recurses := true, plainKeys := false, apart := false }
def CommitCheapSaid : Prop := commitCheapRow.holds Try.pinned (OpenSpec.ofChange commitCheapSpec)

/-- ITS FALSE NEIGHBOUR: 'it returns false'. Refute it at one input. -/
def commitCheapWrong : ChangeSpec := { name := "commitCheap", fn := fun _ => fun
  | [d1, d2, d3, d4, d5] => { results := [.lit (.bool false)], args := [d1, d2, d3, d4, d5] }
  | _ => none }
def CommitCheapWrongFalsely : Prop := commitCheapRow.holds Try.pinned (OpenSpec.ofChange commitCheapWrong)

/-- 'gridworkskeep.CommitKeeps': WHATEVER THE INPUT: true; the input reads as it did. -/
def commitKeepsSpec : ChangeSpec := { name := "commitKeeps", fn := fun _ => fun
  | [d1, d2, d3, d4] => { results := [.lit (.bool true)], args := [d1, d2, d3, d4] }
  | _ => none }
def commitKeepsRow : OpenClaim := { program := "ytcnoipcpifackag", sum := "ed1f993a9bb254538e52e4ede6c14f71b4151e962c09932cc25c6d5b445201c4", func := "gridworks/gridworkskeep.CommitKeeps", spec := "commitKeeps", unfollowed := true, recurses := true, plainKeys := false, apart := false }
def CommitKeepsSaid : Prop := commitKeepsRow.holds Try.pinned (OpenSpec.ofChange commitKeepsSpec)

/-- ITS FALSE NEIGHBOUR: 'it returns false'. Refute it at one input. -/
def commitKeepsWrong : ChangeSpec := { name := "commitKeeps", fn := fun _ => fun
  | [d1, d2, d3, d4] => { results := [.lit (.bool false)], args := [d1, d2, d3, d4] }
  | _ => none }
def CommitKeepsWrongFalsely : Prop := commitKeepsRow.holds Try.pinned (OpenSpec.ofChange commitKeepsWrong)

/-- 'gridworkslaw.YardLooks': WHATEVER THE INPUT: true; the input reads as it did. -/
def yardLooksSpec : ChangeSpec := { name := "yardLooks", fn := fun _ => fun
  | [d] => { results := [.lit (.bool true)], args := [d] }
  | _ => none }
def yardLooksRow : OpenClaim := { program := "ytcnoipcpifackag", sum := "ed1f993a9bb254538e52e4ede6c14f71b4151e962c09932cc25c6d5b445201c4", func := "gridworks/gridworkslaw.YardLooks", spec := "yardLooks", unfollowed := true, recurses := true, plainKeys := false, apart := false }
def YardLooksSaid : Prop := yardLooksRow.holds Try.pinned (OpenSpec.ofChange yardLooksSpec)

/-- ITS FALSE NEIGHBOUR: 'it returns false'. Refute it at one input. -/
def yardLooksWrong : ChangeSpec := { name := "yardLooks", fn := fun _ => fun
  | [d] => { results := [.lit (.bool false)], args := [d] }
  | _ => none }
def YardLooksWrongFalsely : Prop := yardLooksRow.holds Try.pinned (OpenSpec.ofChange yardLooksWrong)

/- THE SECOND FORM. 'bulk': how many values and letters a reading holds, each counted each time it is reached (what is shared counts as often as it is met; a slice's spare places count too). A statement '..UptoSaid' is the law's where the arguments, and the package variables that the reading takes, are together of bulk at most 1048576: NARROWER than '..Said'. Prove '..Said' where nothing that the law and all that it calls make is longer than what came in: it says more and counts as full. Else prove '..UptoSaid'. A law counts once. -/
mutual
def uptoBulk {H : Type} : DataW H → Nat
  | .lit (.string bytes) => bytes.length + 1
  | .lit _ => 1
  | .nil => 1
  | .ptr d => uptoBulk d + 1
  | .slice elems spare => uptoBulkAll elems + uptoBulkAll spare + 1
  | .agg parts => uptoBulkAll parts + 1
  | .iface _ d => uptoBulk d + 1
  | .map entries => uptoBulkEntries entries + 1
  | .held _ => 1
def uptoBulkAll {H : Type} : List (DataW H) → Nat
  | [] => 0
  | d :: r => uptoBulk d + uptoBulkAll r
def uptoBulkEntries {H : Type} : List (Lit × DataW H) → Nat
  | [] => 0
  | x :: r => uptoBulkEntry x + uptoBulkEntries r
def uptoBulkEntry {H : Type} : Lit × DataW H → Nat
  | (.string bytes, d) => bytes.length + uptoBulk d + 1
  | (_, d) => uptoBulk d + 1
 end
def uptoSmall : (H : Type) → List (DataW H) → Bool := fun _ ds => decide (uptoBulkAll ds ≤ 1048576)
def OpenSpec.upto (s : _root_.Go.ChangeSpec) : _root_.Go.OpenSpec := { _root_.Go.OpenSpec.ofChange s with cond := some uptoSmall }

/-- 'gridworkslaw.CommitMerits', WHERE WHAT IT READS IS OF BULK AT MOST 1048576: true; the input reads as it did. -/
def commitMeritsUptoRow : OpenClaim := { program := "ytcnoipcpifackag", sum := "ed1f993a9bb254538e52e4ede6c14f71b4151e962c09932cc25c6d5b445201c4", func := "gridworks/gridworkslaw.CommitMerits", spec := "commitMerits", unfollowed := true, recurses := true, plainKeys := false, apart := false, narrowed := true }
def CommitMeritsUptoSaid : Prop := commitMeritsUptoRow.holds Try.pinned (OpenSpec.upto commitMeritsSpec)

/-- 'gridworkslaw.CommitValues', WHERE WHAT IT READS IS OF BULK AT MOST 1048576: true; the input reads as it did. -/
def commitValuesUptoRow : OpenClaim := { program := "ytcnoipcpifackag", sum := "ed1f993a9bb254538e52e4ede6c14f71b4151e962c09932cc25c6d5b445201c4", func := "gridworks/gridworkslaw.CommitValues", spec := "commitValues", unfollowed := true, recurses := true, plainKeys := false, apart := false, narrowed := true }
def CommitValuesUptoSaid : Prop := commitValuesUptoRow.holds Try.pinned (OpenSpec.upto commitValuesSpec)

/-- 'gridworkslaw.CommitBest', WHERE WHAT IT READS IS OF BULK AT MOST 1048576: true; the input reads as it did. -/
def commitBestUptoRow : OpenClaim := { program := "ytcnoipcpifackag", sum := "ed1f993a9bb254538e52e4ede6c14f71b4151e962c09932cc25c6d5b445201c4", func := "gridworks/gridworkslaw.CommitBest", spec := "commitBest", unfollowed := true, recurses := true, plainKeys := false, apart := false, narrowed := true }
def CommitBestUptoSaid : Prop := commitBestUptoRow.holds Try.pinned (OpenSpec.upto commitBestSpec)

/-- 'gridworkskeep.CommitCheap', WHERE WHAT IT READS IS OF BULK AT MOST 1048576: true; the input reads as it did. -/
def commitCheapUptoRow : OpenClaim := { program := "ytcnoipcpifackag", sum := "ed1f993a9bb254538e52e4ede6c14f71b4151e962c09932cc25c6d5b445201c4", func := "gridworks/gridworkskeep.CommitCheap", spec := "commitCheap", unfollowed := true, recurses := true, plainKeys := false, apart := false, narrowed := true }
def CommitCheapUptoSaid : Prop := commitCheapUptoRow.holds Try.pinned (OpenSpec.upto commitCheapSpec)

/-- 'gridworkskeep.CommitKeeps', WHERE WHAT IT READS IS OF BULK AT MOST 1048576: true; the input reads as it did. -/
def commitKeepsUptoRow : OpenClaim := { program := "ytcnoipcpifackag", sum := "ed1f993a9bb254538e52e4ede6c14f71b4151e962c09932cc25c6d5b445201c4", func := "gridworks/gridworkskeep.CommitKeeps", spec := "commitKeeps", unfollowed := true, recurses := true, plainKeys := false, apart := false, narrowed := true }
def CommitKeepsUptoSaid : Prop := commitKeepsUptoRow.holds Try.pinned (OpenSpec.upto commitKeepsSpec)

/-- 'gridworkslaw.YardLooks', WHERE WHAT IT READS IS OF BULK AT MOST 1048576: true; the input reads as it did. -/
def yardLooksUptoRow : OpenClaim := { program := "ytcnoipcpifackag", sum := "ed1f993a9bb254538e52e4ede6c14f71b4151e962c09932cc25c6d5b445201c4", func := "gridworks/gridworkslaw.YardLooks", spec := "yardLooks", unfollowed := true, recurses := true, plainKeys := false, apart := false, narrowed := true }
def YardLooksUptoSaid : Prop := yardLooksUptoRow.holds Try.pinned (OpenSpec.upto yardLooksSpec)

end Rows
end Go.Proofs.Ytcnoipcpifackag
