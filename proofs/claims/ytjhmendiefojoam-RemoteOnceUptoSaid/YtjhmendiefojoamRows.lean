/-
  No cell of these rows narrows 'for every input' (looked for: loops, veiled, ifaces, maps, wideKeys, modest, calm, conditions, laid).
  DERIVED. THE GIVEN ROWS OF THIS SEAT. 5 by the template 'for every input the law returns true; each argument reads behind the call as it read before'; 0 by the template 'total and deterministic' (their statements: YtjhmendiefojoamTotals.lean).
  GIVEN WITH THE SEED: the statements are not yours to turn. If you find one false, say at which input.
  Laid BY PROGRAM, IN A SANDBOX (cutbox-rows.mjs): the forced cells as the released guide's own fill.sh prints them over the translation 21e21eaa037cebe5… (all of the seat's roots in one cut). By AI agents, Wed Nov 11 2026. No macro, syntax, notation, axiom, sorry.
-/
import Derived.Test.YtjhmendiefojoamChecked
import GoSem.Claim
import GoSem.ClaimJoined
import GoSem.ClaimMapViews
import Derived.JoinedTies
import Derived.KernelRfl
namespace Go.Proofs.Ytjhmendiefojoam
/- THE CELL 'sum', in the pinned program and in every row, IS THE sha256 OF THE DUMP (.gsa) THAT YtjhmendiefojoamProg.lean LOADS. Nothing in Lean hashes anything: it is a label: what it is worth is what the hold of that sum in a sandbox is worth. -/
noncomputable def Try.pinned : Pinned := { name := "ytjhmendiefojoam", sum := "21e21eaa037cebe53aa00880f2eb986eda8a457d9ea8ee9179df807d816efa6e", checked := Try.checked }
namespace Rows
def none {H : Type} : Left H := { results := [], args := [] }

/-- 'gridworkslaw.RemoteTicks': WHATEVER THE INPUT: true; the input reads as it did. -/
def remoteTicksSpec : ChangeSpec := { name := "remoteTicks", fn := fun _ => fun
  | [d] => { results := [.lit (.bool true)], args := [d] }
  | _ => none }
def remoteTicksRow : OpenClaim := { program := "ytjhmendiefojoam", sum := "21e21eaa037cebe53aa00880f2eb986eda8a457d9ea8ee9179df807d816efa6e", func := "gridworks/gridworkslaw.RemoteTicks", spec := "remoteTicks", apart := false }
def RemoteTicksSaid : Prop := remoteTicksRow.holds Try.pinned (OpenSpec.ofChange remoteTicksSpec)

/-- ITS FALSE NEIGHBOUR: 'it returns false'. Refute it at one input. -/
def remoteTicksWrong : ChangeSpec := { name := "remoteTicks", fn := fun _ => fun
  | [d] => { results := [.lit (.bool false)], args := [d] }
  | _ => none }
def RemoteTicksWrongFalsely : Prop := remoteTicksRow.holds Try.pinned (OpenSpec.ofChange remoteTicksWrong)

/-- 'gridworkslaw.RemoteAsks': WHATEVER THE INPUT: true; the input reads as it did. -/
def remoteAsksSpec : ChangeSpec := { name := "remoteAsks", fn := fun _ => fun
  | [d1, d2, d3] => { results := [.lit (.bool true)], args := [d1, d2, d3] }
  | _ => none }
def remoteAsksRow : OpenClaim := { program := "ytjhmendiefojoam", sum := "21e21eaa037cebe53aa00880f2eb986eda8a457d9ea8ee9179df807d816efa6e", func := "gridworks/gridworkslaw.RemoteAsks", spec := "remoteAsks", apart := false }
def RemoteAsksSaid : Prop := remoteAsksRow.holds Try.pinned (OpenSpec.ofChange remoteAsksSpec)

/-- ITS FALSE NEIGHBOUR: 'it returns false'. Refute it at one input. -/
def remoteAsksWrong : ChangeSpec := { name := "remoteAsks", fn := fun _ => fun
  | [d1, d2, d3] => { results := [.lit (.bool false)], args := [d1, d2, d3] }
  | _ => none }
def RemoteAsksWrongFalsely : Prop := remoteAsksRow.holds Try.pinned (OpenSpec.ofChange remoteAsksWrong)

/-- 'gridworkslaw.RemoteHeard': WHATEVER THE INPUT: true; the input reads as it did. -/
def remoteHeardSpec : ChangeSpec := { name := "remoteHeard", fn := fun _ => fun
  | [d1, d2] => { results := [.lit (.bool true)], args := [d1, d2] }
  | _ => none }
def remoteHeardRow : OpenClaim := { program := "ytjhmendiefojoam", sum := "21e21eaa037cebe53aa00880f2eb986eda8a457d9ea8ee9179df807d816efa6e", func := "gridworks/gridworkslaw.RemoteHeard", spec := "remoteHeard", unfollowed := true, recurses := true, apart := false }
def RemoteHeardSaid : Prop := remoteHeardRow.holds Try.pinned (OpenSpec.ofChange remoteHeardSpec)

/-- ITS FALSE NEIGHBOUR: 'it returns false'. Refute it at one input. -/
def remoteHeardWrong : ChangeSpec := { name := "remoteHeard", fn := fun _ => fun
  | [d1, d2] => { results := [.lit (.bool false)], args := [d1, d2] }
  | _ => none }
def RemoteHeardWrongFalsely : Prop := remoteHeardRow.holds Try.pinned (OpenSpec.ofChange remoteHeardWrong)

/-- 'gridworkslaw.RemoteWaits': WHATEVER THE INPUT: true; the input reads as it did. -/
def remoteWaitsSpec : ChangeSpec := { name := "remoteWaits", fn := fun _ => fun
  | [d] => { results := [.lit (.bool true)], args := [d] }
  | _ => none }
def remoteWaitsRow : OpenClaim := { program := "ytjhmendiefojoam", sum := "21e21eaa037cebe53aa00880f2eb986eda8a457d9ea8ee9179df807d816efa6e", func := "gridworks/gridworkslaw.RemoteWaits", spec := "remoteWaits", apart := false }
def RemoteWaitsSaid : Prop := remoteWaitsRow.holds Try.pinned (OpenSpec.ofChange remoteWaitsSpec)

/-- ITS FALSE NEIGHBOUR: 'it returns false'. Refute it at one input. -/
def remoteWaitsWrong : ChangeSpec := { name := "remoteWaits", fn := fun _ => fun
  | [d] => { results := [.lit (.bool false)], args := [d] }
  | _ => none }
def RemoteWaitsWrongFalsely : Prop := remoteWaitsRow.holds Try.pinned (OpenSpec.ofChange remoteWaitsWrong)

/-- 'gridworkskeep.RemoteOnce': WHATEVER THE INPUT: true; the input reads as it did. -/
def remoteOnceSpec : ChangeSpec := { name := "remoteOnce", fn := fun _ => fun
  | [d1, d2] => { results := [.lit (.bool true)], args := [d1, d2] }
  | _ => none }
def remoteOnceRow : OpenClaim := { program := "ytjhmendiefojoam", sum := "21e21eaa037cebe53aa00880f2eb986eda8a457d9ea8ee9179df807d816efa6e", func := "gridworks/gridworkskeep.RemoteOnce", spec := "remoteOnce", unfollowed := true, recurses := true, apart := false }
def RemoteOnceSaid : Prop := remoteOnceRow.holds Try.pinned (OpenSpec.ofChange remoteOnceSpec)

/-- ITS FALSE NEIGHBOUR: 'it returns false'. Refute it at one input. -/
def remoteOnceWrong : ChangeSpec := { name := "remoteOnce", fn := fun _ => fun
  | [d1, d2] => { results := [.lit (.bool false)], args := [d1, d2] }
  | _ => none }
def RemoteOnceWrongFalsely : Prop := remoteOnceRow.holds Try.pinned (OpenSpec.ofChange remoteOnceWrong)

/- THE SECOND FORM. 'bulk': how many values and letters a reading holds, each counted each time it is reached (what is shared counts as often as it is met; a slice's spare places count too). A statement '..UptoSaid' is the law's where the arguments, and the package variables that the reading takes, are together of bulk at most 1048576: NARROWER than '..Said'. Prove '..Said' where nothing that the law and all that it calls make is longer than what came in: it says more and counts as full. Else prove '..UptoSaid'. A law counts once. -/
mutual
def uptoBulk {H : Type} : DataW H → Nat
  | .lit (.string bytes) => bytes.length + 1
  | .lit _ => 1
  | .nil => 1
  | .ptr d => uptoBulk d + 1
  | .slice elems spare => uptoBulkAll elems + uptoBulkAll spare + 1
  | .agg parts => uptoBulkAll parts + 1
  | .iface _ d => uptoBulk d + 1
  | .map entries => uptoBulkEntries entries + 1
  | .held _ => 1
def uptoBulkAll {H : Type} : List (DataW H) → Nat
  | [] => 0
  | d :: r => uptoBulk d + uptoBulkAll r
def uptoBulkEntries {H : Type} : List (Lit × DataW H) → Nat
  | [] => 0
  | x :: r => uptoBulkEntry x + uptoBulkEntries r
def uptoBulkEntry {H : Type} : Lit × DataW H → Nat
  | (.string bytes, d) => bytes.length + uptoBulk d + 1
  | (_, d) => uptoBulk d + 1
 end
def uptoSmall : (H : Type) → List (DataW H) → Bool := fun _ ds => decide (uptoBulkAll ds ≤ 1048576)
def OpenSpec.upto (s : _root_.Go.ChangeSpec) : _root_.Go.OpenSpec := { _root_.Go.OpenSpec.ofChange s with cond := some uptoSmall }

/-- 'gridworkslaw.RemoteTicks', WHERE WHAT IT READS IS OF BULK AT MOST 1048576: true; the input reads as it did. -/
def remoteTicksUptoRow : OpenClaim := { program := "ytjhmendiefojoam", sum := "21e21eaa037cebe53aa00880f2eb986eda8a457d9ea8ee9179df807d816efa6e", func := "gridworks/gridworkslaw.RemoteTicks", spec := "remoteTicks", apart := false, narrowed := true }
def RemoteTicksUptoSaid : Prop := remoteTicksUptoRow.holds Try.pinned (OpenSpec.upto remoteTicksSpec)

/-- 'gridworkslaw.RemoteAsks', WHERE WHAT IT READS IS OF BULK AT MOST 1048576: true; the input reads as it did. -/
def remoteAsksUptoRow : OpenClaim := { program := "ytjhmendiefojoam", sum := "21e21eaa037cebe53aa00880f2eb986eda8a457d9ea8ee9179df807d816efa6e", func := "gridworks/gridworkslaw.RemoteAsks", spec := "remoteAsks", apart := false, narrowed := true }
def RemoteAsksUptoSaid : Prop := remoteAsksUptoRow.holds Try.pinned (OpenSpec.upto remoteAsksSpec)

/-- 'gridworkslaw.RemoteHeard', WHERE WHAT IT READS IS OF BULK AT MOST 1048576: true; the input reads as it did. -/
def remoteHeardUptoRow : OpenClaim := { program := "ytjhmendiefojoam", sum := "21e21eaa037cebe53aa00880f2eb986eda8a457d9ea8ee9179df807d816efa6e", func := "gridworks/gridworkslaw.RemoteHeard", spec := "remoteHeard", unfollowed := true, recurses := true, apart := false, narrowed := true }
def RemoteHeardUptoSaid : Prop := remoteHeardUptoRow.holds Try.pinned (OpenSpec.upto remoteHeardSpec)

/-- 'gridworkslaw.RemoteWaits', WHERE WHAT IT READS IS OF BULK AT MOST 1048576: true; the input reads as it did. -/
def remoteWaitsUptoRow : OpenClaim := { program := "ytjhmendiefojoam", sum := "21e21eaa037cebe53aa00880f2eb986eda8a457d9ea8ee9179df807d816efa6e", func := "gridworks/gridworkslaw.RemoteWaits", spec := "remoteWaits", apart := false, narrowed := true }
def RemoteWaitsUptoSaid : Prop := remoteWaitsUptoRow.holds Try.pinned (OpenSpec.upto remoteWaitsSpec)

/-- 'gridworkskeep.RemoteOnce', WHERE WHAT IT READS IS OF BULK AT MOST 1048576: true; the input reads as it did. -/
def remoteOnceUptoRow : OpenClaim := { program := "ytjhmendiefojoam", sum := "21e21eaa037cebe53aa00880f2eb986eda8a457d9ea8ee9179df807d816efa6e", func := "gridworks/gridworkskeep.RemoteOnce", spec := "remoteOnce", unfollowed := true, recurses := true, apart := false, narrowed := true }
def RemoteOnceUptoSaid : Prop := remoteOnceUptoRow.holds Try.pinned (OpenSpec.upto remoteOnceSpec)

end Rows
end Go.Proofs.Ytjhmendiefojoam
