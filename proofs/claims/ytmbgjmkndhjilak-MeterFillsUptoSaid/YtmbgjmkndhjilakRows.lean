/-
  No cell of these rows narrows 'for every input' (looked for: loops, veiled, ifaces, maps, wideKeys, modest, calm, conditions, laid).
  DERIVED. THE GIVEN ROWS OF THIS SEAT. 4 by the template 'for every input the law returns true; each argument reads behind the call as it read before'; 0 by the template 'total and deterministic' (their statements: YtmbgjmkndhjilakTotals.lean).
  GIVEN WITH THE SEED: the statements are not yours to turn. If you find one false, say at which input.
  Laid BY PROGRAM, IN A SANDBOX (cutbox-rows.mjs): the forced cells as the released guide's own fill.sh prints them over the translation 2823d6b00878c476… (all of the seat's roots in one cut). By AI agents, Wed Nov 11 2026. No macro, syntax, notation, axiom, sorry.
-/
import Derived.Test.YtmbgjmkndhjilakChecked
import GoSem.Claim
import GoSem.ClaimJoined
import GoSem.ClaimMapViews
import Derived.JoinedTies
import Derived.KernelRfl
namespace Go.Proofs.Ytmbgjmkndhjilak
/- THE CELL 'sum', in the pinned program and in every row, IS THE sha256 OF THE DUMP (.gsa) THAT YtmbgjmkndhjilakProg.lean LOADS. Nothing in Lean hashes anything: it is a label: what it is worth is what the hold of that sum in a sandbox is worth. -/
noncomputable def Try.pinned : Pinned := { name := "ytmbgjmkndhjilak", sum := "2823d6b00878c476bbf1c6486f1214124904a2e5689bd5eccb81cab6816db420", checked := Try.checked }
namespace Rows
def none {H : Type} : Left H := { results := [], args := [] }

/-- 'gridworkskeep.WaterRich': WHATEVER THE INPUT: true; the input reads as it did. -/
def waterRichSpec : ChangeSpec := { name := "waterRich", fn := fun _ => fun
  | [d1, d2, d3, d4, d5] => { results := [.lit (.bool true)], args := [d1, d2, d3, d4, d5] }
  | _ => none }
def waterRichRow : OpenClaim := { program := "ytmbgjmkndhjilak", sum := "2823d6b00878c476bbf1c6486f1214124904a2e5689bd5eccb81cab6816db420", func := "gridworks/gridworkskeep.WaterRich", spec := "waterRich", unfollowed := true, recurses := true, plainKeys := false, apart := false }
def WaterRichSaid : Prop := waterRichRow.holds Try.pinned (OpenSpec.ofChange waterRichSpec)

/-- ITS FALSE NEIGHBOUR: 'it returns false'. Refute it at one input. -/
def waterRichWrong : ChangeSpec := { name := "waterRich", fn := fun _ => fun
  | [d1, d2, d3, d4, d5] => { results := [.lit (.bool false)], args := [d1, d2, d3, d4, d5] }
  | _ => none }
def WaterRichWrongFalsely : Prop := waterRichRow.holds Try.pinned (OpenSpec.ofChange waterRichWrong)

/-- 'gridworkskeep.WaterKept': WHATEVER THE INPUT: true; the input reads as it did. -/
def waterKeptSpec : ChangeSpec := { name := "waterKept", fn := fun _ => fun
  | [d1, d2, d3, d4] => { results := [.lit (.bool true)], args := [d1, d2, d3, d4] }
  | _ => none }
def waterKeptRow : OpenClaim := { program := "ytmbgjmkndhjilak", sum := "2823d6b00878c476bbf1c6486f1214124904a2e5689bd5eccb81cab6816db420", func := "gridworks/gridworkskeep.WaterKept", spec := "waterKept", unfollowed := true, recurses := true, plainKeys := false, apart := false }
def WaterKeptSaid : Prop := waterKeptRow.holds Try.pinned (OpenSpec.ofChange waterKeptSpec)

/-- ITS FALSE NEIGHBOUR: 'it returns false'. Refute it at one input. -/
def waterKeptWrong : ChangeSpec := { name := "waterKept", fn := fun _ => fun
  | [d1, d2, d3, d4] => { results := [.lit (.bool false)], args := [d1, d2, d3, d4] }
  | _ => none }
def WaterKeptWrongFalsely : Prop := waterKeptRow.holds Try.pinned (OpenSpec.ofChange waterKeptWrong)

/-- 'gridworkslaw.MeterFills': WHATEVER THE INPUT: true; the input reads as it did. -/
def meterFillsSpec : ChangeSpec := { name := "meterFills", fn := fun _ => fun
  | [d1, d2, d3] => { results := [.lit (.bool true)], args := [d1, d2, d3] }
  | _ => none }
def meterFillsRow : OpenClaim := { program := "ytmbgjmkndhjilak", sum := "2823d6b00878c476bbf1c6486f1214124904a2e5689bd5eccb81cab6816db420", func := "gridworks/gridworkslaw.MeterFills", spec := "meterFills", unfollowed := true, recurses := true, plainKeys := false, apart := false }
def MeterFillsSaid : Prop := meterFillsRow.holds Try.pinned (OpenSpec.ofChange meterFillsSpec)

/-- ITS FALSE NEIGHBOUR: 'it returns false'. Refute it at one input. -/
def meterFillsWrong : ChangeSpec := { name := "meterFills", fn := fun _ => fun
  | [d1, d2, d3] => { results := [.lit (.bool false)], args := [d1, d2, d3] }
  | _ => none }
def MeterFillsWrongFalsely : Prop := meterFillsRow.holds Try.pinned (OpenSpec.ofChange meterFillsWrong)

/-- 'gridworkslaw.MeterBills': WHATEVER THE INPUT: true; the input reads as it did. -/
def meterBillsSpec : ChangeSpec := { name := "meterBills", fn := fun _ => fun
  | [d1, d2] => { results := [.lit (.bool true)], args := [d1, d2] }
  | _ => none }
def meterBillsRow : OpenClaim := { program := "ytmbgjmkndhjilak", sum := "2823d6b00878c476bbf1c6486f1214124904a2e5689bd5eccb81cab6816db420", func := "gridworks/gridworkslaw.MeterBills", spec := "meterBills", unfollowed := true, recurses := true, plainKeys := false, apart := false }
def MeterBillsSaid : Prop := meterBillsRow.holds Try.pinned (OpenSpec.ofChange meterBillsSpec)

/-- ITS FALSE NEIGHBOUR: 'it returns false'. Refute it at one input. -/
def meterBillsWrong : ChangeSpec := { name := "meterBills", fn := fun _ => fun
  | [d1, d2] => { results := [.lit (.bool false)], args := [d1, d2] }
  | _ => none }
def MeterBillsWrongFalsely : Prop := meterBillsRow.holds Try.pinned (OpenSpec.ofChange meterBillsWrong)

/- THE SECOND FORM. 'bulk': how many values and letters a reading holds, each counted each time it is reached (what is shared counts as often as it is met; a slice's spare places count too). A statement '..UptoSaid' is the law's where the arguments, and the package variables that the reading takes, are together of bulk at most 1048576: NARROWER than '..Said'. Prove '..Said' where nothing that the law and all that it calls make is longer than what came in: it says more and counts as full. Else prove '..UptoSaid'. A law counts once. -/
mutual
def uptoBulk {H : Type} : DataW H → Nat
  | .lit (.string bytes) => bytes.length + 1
  | .lit _ => 1
  | .nil => 1
  | .ptr d => uptoBulk d + 1
  | .slice elems spare => uptoBulkAll elems + uptoBulkAll spare + 1
  | .agg parts => uptoBulkAll parts + 1
  | .iface _ d => uptoBulk d + 1
  | .map entries => uptoBulkEntries entries + 1
  | .held _ => 1
def uptoBulkAll {H : Type} : List (DataW H) → Nat
  | [] => 0
  | d :: r => uptoBulk d + uptoBulkAll r
def uptoBulkEntries {H : Type} : List (Lit × DataW H) → Nat
  | [] => 0
  | x :: r => uptoBulkEntry x + uptoBulkEntries r
def uptoBulkEntry {H : Type} : Lit × DataW H → Nat
  | (.string bytes, d) => bytes.length + uptoBulk d + 1
  | (_, d) => uptoBulk d + 1
 end
def uptoSmall : (H : Type) → List (DataW H) → Bool := fun _ ds => decide (uptoBulkAll ds ≤ 1048576)
def OpenSpec.upto (s : _root_.Go.ChangeSpec) : _root_.Go.OpenSpec := { _root_.Go.OpenSpec.ofChange s with cond := some uptoSmall }

/-- 'gridworkskeep.WaterRich', WHERE WHAT IT READS IS OF BULK AT MOST 1048576: true; the input reads as it did. -/
def waterRichUptoRow : OpenClaim := { program := "ytmbgjmkndhjilak", sum := "2823d6b00878c476bbf1c6486f1214124904a2e5689bd5eccb81cab6816db420", func := "gridworks/gridworkskeep.WaterRich", spec := "waterRich", unfollowed := true, recurses := true, plainKeys := false, apart := false, narrowed := true }
def WaterRichUptoSaid : Prop := waterRichUptoRow.holds Try.pinned (OpenSpec.upto waterRichSpec)

/-- 'gridworkskeep.WaterKept', WHERE WHAT IT READS IS OF BULK AT MOST 1048576: true; the input reads as it did. -/
def waterKeptUptoRow : OpenClaim := { program := "ytmbgjmkndhjilak", sum := "2823d6b00878c476bbf1c6486f1214124904a2e5689bd5eccb81cab6816db420", func := "gridworks/gridworkskeep.WaterKept", spec := "waterKept", unfollowed := true, recurses := true, plainKeys := false, apart := false, narrowed := true }
def WaterKeptUptoSaid : Prop := waterKeptUptoRow.holds Try.pinned (OpenSpec.upto waterKeptSpec)

/-- 'gridworkslaw.MeterFills', WHERE WHAT IT READS IS OF BULK AT MOST 1048576: true; the input reads as it did. -/
def meterFillsUptoRow : OpenClaim := { program := "ytmbgjmkndhjilak", sum := "2823d6b00878c476bbf1c6486f1214124904a2e5689bd5eccb81cab6816db420", func := "gridworks/gridworkslaw.MeterFills", spec := "meterFills", unfollowed := true, recurses := true, plainKeys := false, apart := false, narrowed := true }
def MeterFillsUptoSaid : Prop := meterFillsUptoRow.holds Try.pinned (OpenSpec.upto meterFillsSpec)

/-- 'gridworkslaw.MeterBills', WHERE WHAT IT READS IS OF BULK AT MOST 1048576: true; the input reads as it did. -/
def meterBillsUptoRow : OpenClaim := { program := "ytmbgjmkndhjilak", sum := "2823d6b00878c476bbf1c6486f1214124904a2e5689bd5eccb81cab6816db420", func := "gridworks/gridworkslaw.MeterBills", spec := "meterBills", unfollowed := true, recurses := true, plainKeys := false, apart := false, narrowed := true }
def MeterBillsUptoSaid : Prop := meterBillsUptoRow.holds Try.pinned (OpenSpec.upto meterBillsSpec)

end Rows
end Go.Proofs.Ytmbgjmkndhjilak
