/-
  No cell of these rows narrows 'for every input' (looked for: loops, veiled, ifaces, maps, wideKeys, modest, calm, conditions, laid).
  DERIVED. THE GIVEN ROWS OF THIS SEAT. 4 by the template 'for every input the law returns true; each argument reads behind the call as it read before'; 0 by the template 'total and deterministic' (their statements: YtcnoipcpifackahTotals.lean).
  GIVEN WITH THE SEED: the statements are not yours to turn. If you find one false, say at which input.
  Laid BY PROGRAM, IN A SANDBOX (cutbox-rows.mjs): the forced cells as the released guide's own fill.sh prints them over the translation 306ae4334a076652… (all of the seat's roots in one cut). By AI agents, Wed Nov 11 2026. No macro, syntax, notation, axiom, sorry.
-/
import Derived.Test.YtcnoipcpifackahChecked
import GoSem.Claim
import GoSem.ClaimJoined
import GoSem.ClaimMapViews
import Derived.JoinedTies
import Derived.KernelRfl
namespace Go.Proofs.Ytcnoipcpifackah
/- THE CELL 'sum', in the pinned program and in every row, IS THE sha256 OF THE DUMP (.gsa) THAT YtcnoipcpifackahProg.lean LOADS. Nothing in Lean hashes anything: it is a label: what it is worth is what the hold of that sum in a sandbox is worth. -/
noncomputable def Try.pinned : Pinned := { name := "ytcnoipcpifackah", sum := "306ae4334a0766520c731ae005c10cedc5cf2bffc4e7558c3285fdbc7755688b", checked := Try.checked }
namespace Rows
def none {H : Type} : Left H := { results := [], args := [] }

/-- 'gridworkslaw.YardMoves': WHATEVER THE INPUT: true; the input reads as it did. -/
def yardMovesSpec : ChangeSpec := { name := "yardMoves", fn := fun _ => fun
  | [d1, d2] => { results := [.lit (.bool true)], args := [d1, d2] }
  | _ => none }
def yardMovesRow : OpenClaim := { program := "ytcnoipcpifackah", sum := "306ae4334a0766520c731ae005c10cedc5cf2bffc4e7558c3285fdbc7755688b", func := "gridworks/gridworkslaw.YardMoves", spec := "yardMoves", unfollowed := true, recurses := true, apart := false }
def YardMovesSaid : Prop := yardMovesRow.holds Try.pinned (OpenSpec.ofChange yardMovesSpec)

/-- ITS FALSE NEIGHBOUR: 'it returns false'. Refute it at one input. -/
def yardMovesWrong : ChangeSpec := { name := "yardMoves", fn := fun _ => fun
  | [d1, d2] => { results := [.lit (.bool false)], args := [d1, d2] }
  | _ => none }
def YardMovesWrongFalsely : Prop := yardMovesRow.holds Try.pinned (OpenSpec.ofChange yardMovesWrong)

/-- 'gridworkslaw.YardPlans': WHATEVER THE INPUT: true; the input reads as it did. -/
def yardPlansSpec : ChangeSpec := { name := "yardPlans", fn := fun _ => fun
  | [d1, d2] => { results := [.lit (.bool true)], args := [d1, d2] }
  | _ => none }
def yardPlansRow : OpenClaim := { program := "ytcnoipcpifackah", sum := "306ae4334a0766520c731ae005c10cedc5cf2bffc4e7558c3285fdbc7755688b", func := "gridworks/gridworkslaw.YardPlans", spec := "yardPlans", unfollowed := true, recurses := true, apart := false }
def YardPlansSaid : Prop := yardPlansRow.holds Try.pinned (OpenSpec.ofChange yardPlansSpec)

/-- ITS FALSE NEIGHBOUR: 'it returns false'. Refute it at one input. -/
def yardPlansWrong : ChangeSpec := { name := "yardPlans", fn := fun _ => fun
  | [d1, d2] => { results := [.lit (.bool false)], args := [d1, d2] }
  | _ => none }
def YardPlansWrongFalsely : Prop := yardPlansRow.holds Try.pinned (OpenSpec.ofChange yardPlansWrong)

/-- 'gridworkskeep.YardSafe': WHATEVER THE INPUT: true; the input reads as it did. -/
def yardSafeSpec : ChangeSpec := { name := "yardSafe", fn := fun _ => fun
  | [d1, d2] => { results := [.lit (.bool true)], args := [d1, d2] }
  | _ => none }
def yardSafeRow : OpenClaim := { program := "ytcnoipcpifackah", sum := "306ae4334a0766520c731ae005c10cedc5cf2bffc4e7558c3285fdbc7755688b", func := "gridworks/gridworkskeep.YardSafe", spec := "yardSafe", unfollowed := true, recurses := true, apart := false }
def YardSafeSaid : Prop := yardSafeRow.holds Try.pinned (OpenSpec.ofChange yardSafeSpec)

/-- ITS FALSE NEIGHBOUR: 'it returns false'. Refute it at one input. -/
def yardSafeWrong : ChangeSpec := { name := "yardSafe", fn := fun _ => fun
  | [d1, d2] => { results := [.lit (.bool false)], args := [d1, d2] }
  | _ => none }
def YardSafeWrongFalsely : Prop := yardSafeRow.holds Try.pinned (OpenSpec.ofChange yardSafeWrong)

/-- 'gridworkskeep.YardShort': WHATEVER THE INPUT: true; the input reads as it did. -/
def yardShortSpec : ChangeSpec := { name := "yardShort", fn := fun _ => fun
  | [d1, d2] => { results := [.lit (.bool true)], args := [d1, d2] }
  | _ => none }
def yardShortRow : OpenClaim := { program := "ytcnoipcpifackah", sum := "306ae4334a0766520c731ae005c10cedc5cf2bffc4e7558c3285fdbc7755688b", func := "gridworks/gridworkskeep.YardShort", spec := "yardShort", unfollowed := true, recurses := true, apart := false }
def YardShortSaid : Prop := yardShortRow.holds Try.pinned (OpenSpec.ofChange yardShortSpec)

/-- ITS FALSE NEIGHBOUR: 'it returns false'. Refute it at one input. -/
def yardShortWrong : ChangeSpec := { name := "yardShort", fn := fun _ => fun
  | [d1, d2] => { results := [.lit (.bool false)], args := [d1, d2] }
  | _ => none }
def YardShortWrongFalsely : Prop := yardShortRow.holds Try.pinned (OpenSpec.ofChange yardShortWrong)

/- THE SECOND FORM. 'bulk': how many values and letters a reading holds, each counted each time it is reached (what is shared counts as often as it is met; a slice's spare places count too). A statement '..UptoSaid' is the law's where the arguments, and the package variables that the reading takes, are together of bulk at most 1048576: NARROWER than '..Said'. Prove '..Said' where nothing that the law and all that it calls make is longer than what came in: it says more and counts as full. Else prove '..UptoSaid'. A law counts once. -/
mutual
def uptoBulk {H : Type} : DataW H → Nat
  | .lit (.string bytes) => bytes.length + 1
  | .lit _ => 1
  | .nil => 1
  | .ptr d => uptoBulk d + 1
  | .slice elems spare => uptoBulkAll elems + uptoBulkAll spare + 1
  | .agg parts => uptoBulkAll parts + 1
  | .iface _ d => uptoBulk d + 1
  | .map entries => uptoBulkEntries entries + 1
  | .held _ => 1
def uptoBulkAll {H : Type} : List (DataW H) → Nat
  | [] => 0
  | d :: r => uptoBulk d + uptoBulkAll r
def uptoBulkEntries {H : Type} : List (Lit × DataW H) → Nat
  | [] => 0
  | x :: r => uptoBulkEntry x + uptoBulkEntries r
def uptoBulkEntry {H : Type} : Lit × DataW H → Nat
  | (.string bytes, d) => bytes.length + uptoBulk d + 1
  | (_, d) => uptoBulk d + 1
 end
def uptoSmall : (H : Type) → List (DataW H) → Bool := fun _ ds => decide (uptoBulkAll ds ≤ 1048576)
def OpenSpec.upto (s : _root_.Go.ChangeSpec) : _root_.Go.OpenSpec := { _root_.Go.OpenSpec.ofChange s with cond := some uptoSmall }

/-- 'gridworkslaw.YardMoves', WHERE WHAT IT READS IS OF BULK AT MOST 1048576: true; the input reads as it did. -/
def yardMovesUptoRow : OpenClaim := { program := "ytcnoipcpifackah", sum := "306ae4334a0766520c731ae005c10cedc5cf2bffc4e7558c3285fdbc7755688b", func := "gridworks/gridworkslaw.YardMoves", spec := "yardMoves", unfollowed := true, recurses := true, apart := false, narrowed := true }
def YardMovesUptoSaid : Prop := yardMovesUptoRow.holds Try.pinned (OpenSpec.upto yardMovesSpec)

/-- 'gridworkslaw.YardPlans', WHERE WHAT IT READS IS OF BULK AT MOST 1048576: true; the input reads as it did. -/
def yardPlansUptoRow : OpenClaim := { program := "ytcnoipcpifackah", sum := "306ae4334a0766520c731ae005c10cedc5cf2bffc4e7558c3285fdbc7755688b", func := "gridworks/gridworkslaw.YardPlans", spec := "yardPlans", unfollowed := true, recurses := true, apart := false, narrowed := true }
def YardPlansUptoSaid : Prop := yardPlansUptoRow.holds Try.pinned (OpenSpec.upto yardPlansSpec)

/-- 'gridworkskeep.YardSafe', WHERE WHAT IT READS IS OF BULK AT MOST 1048576: true; the input reads as it did. -/
def yardSafeUptoRow : OpenClaim := { program := "ytcnoipcpifackah", sum := "306ae4334a0766520c731ae005c10cedc5cf2bffc4e7558c3285fdbc7755688b", func := "gridworks/gridworkskeep.YardSafe", spec := "yardSafe", unfollowed := true, recurses := true, apart := false, narrowed := true }
def YardSafeUptoSaid : Prop := yardSafeUptoRow.holds Try.pinned (OpenSpec.upto yardSafeSpec)

/-- 'gridworkskeep.YardShort', WHERE WHAT IT READS IS OF BULK AT MOST 1048576: true; the input reads as it did. -/
def yardShortUptoRow : OpenClaim := { program := "ytcnoipcpifackah", sum := "306ae4334a0766520c731ae005c10cedc5cf2bffc4e7558c3285fdbc7755688b", func := "gridworks/gridworkskeep.YardShort", spec := "yardShort", unfollowed := true, recurses := true, apart := false, narrowed := true }
def YardShortUptoSaid : Prop := yardShortUptoRow.holds Try.pinned (OpenSpec.upto yardShortSpec)

end Rows
end Go.Proofs.Ytcnoipcpifackah
