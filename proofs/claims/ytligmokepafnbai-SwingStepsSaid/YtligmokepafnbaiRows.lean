/-
  No cell of these rows narrows 'for every input' (looked for: loops, veiled, ifaces, maps, wideKeys, modest, calm, conditions, laid).
  DERIVED. THE GIVEN ROWS OF THIS SEAT. 6 by the template 'for every input the law returns true; each argument reads behind the call as it read before'; 0 by the template 'total and deterministic' (their statements: YtligmokepafnbaiTotals.lean).
  GIVEN WITH THE SEED: the statements are not yours to turn. If you find one false, say at which input.
  Laid BY PROGRAM, IN A SANDBOX (cutbox-rows.mjs): the forced cells as the released guide's own fill.sh prints them over the translation 6a4d99756116990e… (all of the seat's roots in one cut). By AI agents, Wed Nov 11 2026. No macro, syntax, notation, axiom, sorry.
-/
import Derived.Test.YtligmokepafnbaiChecked
import GoSem.Claim
import GoSem.ClaimJoined
import GoSem.ClaimMapViews
import Derived.JoinedTies
import Derived.KernelRfl
namespace Go.Proofs.Ytligmokepafnbai
/- THE CELL 'sum', in the pinned program and in every row, IS THE sha256 OF THE DUMP (.gsa) THAT YtligmokepafnbaiProg.lean LOADS. Nothing in Lean hashes anything: it is a label: what it is worth is what the hold of that sum in a sandbox is worth. -/
noncomputable def Try.pinned : Pinned := { name := "ytligmokepafnbai", sum := "6a4d99756116990ecd4503856c3fc8dd2b09d1b8c3f073ccfa48159a984f1b34", checked := Try.checked }
namespace Rows
def none {H : Type} : Left H := { results := [], args := [] }

/-- 'gridworkslaw.ProtectGrades': WHATEVER THE INPUT: true; the input reads as it did. -/
def protectGradesSpec : ChangeSpec := { name := "protectGrades", fn := fun _ => fun
  | [d1, d2, d3] => { results := [.lit (.bool true)], args := [d1, d2, d3] }
  | _ => none }
def protectGradesRow : OpenClaim := { program := "ytligmokepafnbai", sum := "6a4d99756116990ecd4503856c3fc8dd2b09d1b8c3f073ccfa48159a984f1b34", func := "gridworks/gridworkslaw.ProtectGrades", spec := "protectGrades", unfollowed := true, recurses := true, apart := false }
def ProtectGradesSaid : Prop := protectGradesRow.holds Try.pinned (OpenSpec.ofChange protectGradesSpec)

/-- ITS FALSE NEIGHBOUR: 'it returns false'. Refute it at one input. -/
def protectGradesWrong : ChangeSpec := { name := "protectGrades", fn := fun _ => fun
  | [d1, d2, d3] => { results := [.lit (.bool false)], args := [d1, d2, d3] }
  | _ => none }
def ProtectGradesWrongFalsely : Prop := protectGradesRow.holds Try.pinned (OpenSpec.ofChange protectGradesWrong)

/-- 'gridworkslaw.ProtectClears': WHATEVER THE INPUT: true; the input reads as it did. -/
def protectClearsSpec : ChangeSpec := { name := "protectClears", fn := fun _ => fun
  | [d1, d2, d3, d4] => { results := [.lit (.bool true)], args := [d1, d2, d3, d4] }
  | _ => none }
def protectClearsRow : OpenClaim := { program := "ytligmokepafnbai", sum := "6a4d99756116990ecd4503856c3fc8dd2b09d1b8c3f073ccfa48159a984f1b34", func := "gridworks/gridworkslaw.ProtectClears", spec := "protectClears", apart := false }
def ProtectClearsSaid : Prop := protectClearsRow.holds Try.pinned (OpenSpec.ofChange protectClearsSpec)

/-- ITS FALSE NEIGHBOUR: 'it returns false'. Refute it at one input. -/
def protectClearsWrong : ChangeSpec := { name := "protectClears", fn := fun _ => fun
  | [d1, d2, d3, d4] => { results := [.lit (.bool false)], args := [d1, d2, d3, d4] }
  | _ => none }
def ProtectClearsWrongFalsely : Prop := protectClearsRow.holds Try.pinned (OpenSpec.ofChange protectClearsWrong)

/-- 'gridworkskeep.ProtectLeast': WHATEVER THE INPUT: true; the input reads as it did. -/
def protectLeastSpec : ChangeSpec := { name := "protectLeast", fn := fun _ => fun
  | [d1, d2, d3] => { results := [.lit (.bool true)], args := [d1, d2, d3] }
  | _ => none }
def protectLeastRow : OpenClaim := { program := "ytligmokepafnbai", sum := "6a4d99756116990ecd4503856c3fc8dd2b09d1b8c3f073ccfa48159a984f1b34", func := "gridworks/gridworkskeep.ProtectLeast", spec := "protectLeast", apart := false }
def ProtectLeastSaid : Prop := protectLeastRow.holds Try.pinned (OpenSpec.ofChange protectLeastSpec)

/-- ITS FALSE NEIGHBOUR: 'it returns false'. Refute it at one input. -/
def protectLeastWrong : ChangeSpec := { name := "protectLeast", fn := fun _ => fun
  | [d1, d2, d3] => { results := [.lit (.bool false)], args := [d1, d2, d3] }
  | _ => none }
def ProtectLeastWrongFalsely : Prop := protectLeastRow.holds Try.pinned (OpenSpec.ofChange protectLeastWrong)

/-- 'gridworkskeep.ProtectFirst': WHATEVER THE INPUT: true; the input reads as it did. -/
def protectFirstSpec : ChangeSpec := { name := "protectFirst", fn := fun _ => fun
  | [d1, d2, d3] => { results := [.lit (.bool true)], args := [d1, d2, d3] }
  | _ => none }
def protectFirstRow : OpenClaim := { program := "ytligmokepafnbai", sum := "6a4d99756116990ecd4503856c3fc8dd2b09d1b8c3f073ccfa48159a984f1b34", func := "gridworks/gridworkskeep.ProtectFirst", spec := "protectFirst", unfollowed := true, recurses := true, apart := false }
def ProtectFirstSaid : Prop := protectFirstRow.holds Try.pinned (OpenSpec.ofChange protectFirstSpec)

/-- ITS FALSE NEIGHBOUR: 'it returns false'. Refute it at one input. -/
def protectFirstWrong : ChangeSpec := { name := "protectFirst", fn := fun _ => fun
  | [d1, d2, d3] => { results := [.lit (.bool false)], args := [d1, d2, d3] }
  | _ => none }
def ProtectFirstWrongFalsely : Prop := protectFirstRow.holds Try.pinned (OpenSpec.ofChange protectFirstWrong)

/-- 'gridworkskeep.ProtectTurns': WHATEVER THE INPUT: true; the input reads as it did. -/
def protectTurnsSpec : ChangeSpec := { name := "protectTurns", fn := fun _ => fun
  | [d1, d2, d3] => { results := [.lit (.bool true)], args := [d1, d2, d3] }
  | _ => none }
def protectTurnsRow : OpenClaim := { program := "ytligmokepafnbai", sum := "6a4d99756116990ecd4503856c3fc8dd2b09d1b8c3f073ccfa48159a984f1b34", func := "gridworks/gridworkskeep.ProtectTurns", spec := "protectTurns", inPlace := ["math.archTrunc", "math.Float64bits", "math.Float64frombits"], apart := false }
def ProtectTurnsSaid : Prop := protectTurnsRow.holds Try.pinned (OpenSpec.ofChange protectTurnsSpec)

/-- ITS FALSE NEIGHBOUR: 'it returns false'. Refute it at one input. -/
def protectTurnsWrong : ChangeSpec := { name := "protectTurns", fn := fun _ => fun
  | [d1, d2, d3] => { results := [.lit (.bool false)], args := [d1, d2, d3] }
  | _ => none }
def ProtectTurnsWrongFalsely : Prop := protectTurnsRow.holds Try.pinned (OpenSpec.ofChange protectTurnsWrong)

/-- 'gridworkslaw.SwingSteps': WHATEVER THE INPUT: true; the input reads as it did. -/
def swingStepsSpec : ChangeSpec := { name := "swingSteps", fn := fun _ => fun
  | [d1, d2, d3, d4, d5, d6] => { results := [.lit (.bool true)], args := [d1, d2, d3, d4, d5, d6] }
  | _ => none }
def swingStepsRow : OpenClaim := { program := "ytligmokepafnbai", sum := "6a4d99756116990ecd4503856c3fc8dd2b09d1b8c3f073ccfa48159a984f1b34", func := "gridworks/gridworkslaw.SwingSteps", spec := "swingSteps", apart := false }
def SwingStepsSaid : Prop := swingStepsRow.holds Try.pinned (OpenSpec.ofChange swingStepsSpec)

/-- ITS FALSE NEIGHBOUR: 'it returns false'. Refute it at one input. -/
def swingStepsWrong : ChangeSpec := { name := "swingSteps", fn := fun _ => fun
  | [d1, d2, d3, d4, d5, d6] => { results := [.lit (.bool false)], args := [d1, d2, d3, d4, d5, d6] }
  | _ => none }
def SwingStepsWrongFalsely : Prop := swingStepsRow.holds Try.pinned (OpenSpec.ofChange swingStepsWrong)

/- THE SECOND FORM. 'bulk': how many values and letters a reading holds, each counted each time it is reached (what is shared counts as often as it is met; a slice's spare places count too). A statement '..UptoSaid' is the law's where the arguments, and the package variables that the reading takes, are together of bulk at most 1048576: NARROWER than '..Said'. Prove '..Said' where nothing that the law and all that it calls make is longer than what came in: it says more and counts as full. Else prove '..UptoSaid'. A law counts once. -/
mutual
def uptoBulk {H : Type} : DataW H → Nat
  | .lit (.string bytes) => bytes.length + 1
  | .lit _ => 1
  | .nil => 1
  | .ptr d => uptoBulk d + 1
  | .slice elems spare => uptoBulkAll elems + uptoBulkAll spare + 1
  | .agg parts => uptoBulkAll parts + 1
  | .iface _ d => uptoBulk d + 1
  | .map entries => uptoBulkEntries entries + 1
  | .held _ => 1
def uptoBulkAll {H : Type} : List (DataW H) → Nat
  | [] => 0
  | d :: r => uptoBulk d + uptoBulkAll r
def uptoBulkEntries {H : Type} : List (Lit × DataW H) → Nat
  | [] => 0
  | x :: r => uptoBulkEntry x + uptoBulkEntries r
def uptoBulkEntry {H : Type} : Lit × DataW H → Nat
  | (.string bytes, d) => bytes.length + uptoBulk d + 1
  | (_, d) => uptoBulk d + 1
 end
def uptoSmall : (H : Type) → List (DataW H) → Bool := fun _ ds => decide (uptoBulkAll ds ≤ 1048576)
def OpenSpec.upto (s : _root_.Go.ChangeSpec) : _root_.Go.OpenSpec := { _root_.Go.OpenSpec.ofChange s with cond := some uptoSmall }

/-- 'gridworkslaw.ProtectGrades', WHERE WHAT IT READS IS OF BULK AT MOST 1048576: true; the input reads as it did. -/
def protectGradesUptoRow : OpenClaim := { program := "ytligmokepafnbai", sum := "6a4d99756116990ecd4503856c3fc8dd2b09d1b8c3f073ccfa48159a984f1b34", func := "gridworks/gridworkslaw.ProtectGrades", spec := "protectGrades", unfollowed := true, recurses := true, apart := false, narrowed := true }
def ProtectGradesUptoSaid : Prop := protectGradesUptoRow.holds Try.pinned (OpenSpec.upto protectGradesSpec)

/-- 'gridworkslaw.ProtectClears', WHERE WHAT IT READS IS OF BULK AT MOST 1048576: true; the input reads as it did. -/
def protectClearsUptoRow : OpenClaim := { program := "ytligmokepafnbai", sum := "6a4d99756116990ecd4503856c3fc8dd2b09d1b8c3f073ccfa48159a984f1b34", func := "gridworks/gridworkslaw.ProtectClears", spec := "protectClears", apart := false, narrowed := true }
def ProtectClearsUptoSaid : Prop := protectClearsUptoRow.holds Try.pinned (OpenSpec.upto protectClearsSpec)

/-- 'gridworkskeep.ProtectLeast', WHERE WHAT IT READS IS OF BULK AT MOST 1048576: true; the input reads as it did. -/
def protectLeastUptoRow : OpenClaim := { program := "ytligmokepafnbai", sum := "6a4d99756116990ecd4503856c3fc8dd2b09d1b8c3f073ccfa48159a984f1b34", func := "gridworks/gridworkskeep.ProtectLeast", spec := "protectLeast", apart := false, narrowed := true }
def ProtectLeastUptoSaid : Prop := protectLeastUptoRow.holds Try.pinned (OpenSpec.upto protectLeastSpec)

/-- 'gridworkskeep.ProtectFirst', WHERE WHAT IT READS IS OF BULK AT MOST 1048576: true; the input reads as it did. -/
def protectFirstUptoRow : OpenClaim := { program := "ytligmokepafnbai", sum := "6a4d99756116990ecd4503856c3fc8dd2b09d1b8c3f073ccfa48159a984f1b34", func := "gridworks/gridworkskeep.ProtectFirst", spec := "protectFirst", unfollowed := true, recurses := true, apart := false, narrowed := true }
def ProtectFirstUptoSaid : Prop := protectFirstUptoRow.holds Try.pinned (OpenSpec.upto protectFirstSpec)

/-- 'gridworkskeep.ProtectTurns', WHERE WHAT IT READS IS OF BULK AT MOST 1048576: true; the input reads as it did. -/
def protectTurnsUptoRow : OpenClaim := { program := "ytligmokepafnbai", sum := "6a4d99756116990ecd4503856c3fc8dd2b09d1b8c3f073ccfa48159a984f1b34", func := "gridworks/gridworkskeep.ProtectTurns", spec := "protectTurns", inPlace := ["math.archTrunc", "math.Float64bits", "math.Float64frombits"], apart := false, narrowed := true }
def ProtectTurnsUptoSaid : Prop := protectTurnsUptoRow.holds Try.pinned (OpenSpec.upto protectTurnsSpec)

/-- 'gridworkslaw.SwingSteps', WHERE WHAT IT READS IS OF BULK AT MOST 1048576: true; the input reads as it did. -/
def swingStepsUptoRow : OpenClaim := { program := "ytligmokepafnbai", sum := "6a4d99756116990ecd4503856c3fc8dd2b09d1b8c3f073ccfa48159a984f1b34", func := "gridworks/gridworkslaw.SwingSteps", spec := "swingSteps", apart := false, narrowed := true }
def SwingStepsUptoSaid : Prop := swingStepsUptoRow.holds Try.pinned (OpenSpec.upto swingStepsSpec)

end Rows
end Go.Proofs.Ytligmokepafnbai
