/-
  No cell of these rows narrows 'for every input' (looked for: loops, veiled, ifaces, maps, wideKeys, modest, calm, conditions, laid).
  DERIVED. THE GIVEN ROWS OF THIS SEAT. 6 by the template 'for every input the law returns true; each argument reads behind the call as it read before'; 0 by the template 'total and deterministic' (their statements: YtnhddmcdmcpkeajTotals.lean).
  GIVEN WITH THE SEED: the statements are not yours to turn. If you find one false, say at which input.
  Laid BY PROGRAM, IN A SANDBOX (cutbox-rows.mjs): the forced cells as the released guide's own fill.sh prints them over the translation 1a74431723013092… (all of the seat's roots in one cut). By AI agents, Wed Nov 11 2026. No macro, syntax, notation, axiom, sorry.
-/
import Derived.Test.YtnhddmcdmcpkeajChecked
import GoSem.Claim
import GoSem.ClaimJoined
import GoSem.ClaimMapViews
import Derived.JoinedTies
import Derived.KernelRfl
namespace Go.Proofs.Ytnhddmcdmcpkeaj
/- THE CELL 'sum', in the pinned program and in every row, IS THE sha256 OF THE DUMP (.gsa) THAT YtnhddmcdmcpkeajProg.lean LOADS. Nothing in Lean hashes anything: it is a label: what it is worth is what the hold of that sum in a sandbox is worth. -/
noncomputable def Try.pinned : Pinned := { name := "ytnhddmcdmcpkeaj", sum := "1a74431723013092348de8a0e1e7b7b47c3fc1944655ee583813f268d0546d0d", checked := Try.checked }
namespace Rows
def none {H : Type} : Left H := { results := [], args := [] }

/-- 'gridworkslaw.SwingRuns': WHATEVER THE INPUT: true; the input reads as it did. -/
def swingRunsSpec : ChangeSpec := { name := "swingRuns", fn := fun _ => fun
  | [d1, d2, d3, d4, d5, d6, d7] => { results := [.lit (.bool true)], args := [d1, d2, d3, d4, d5, d6, d7] }
  | _ => none }
def swingRunsRow : OpenClaim := { program := "ytnhddmcdmcpkeaj", sum := "1a74431723013092348de8a0e1e7b7b47c3fc1944655ee583813f268d0546d0d", func := "gridworks/gridworkslaw.SwingRuns", spec := "swingRuns", inPlace := ["sync/atomic.LoadUint32", "(*internal/sync.Mutex).Lock", "internal/race.Disable", "sync/atomic.CompareAndSwapInt32", "internal/race.Enable", "internal/race.Acquire", "(*internal/sync.Mutex).lockSlow", "internal/sync.runtime_canSpin", "internal/sync.runtime_doSpin", "internal/sync.throw", "internal/sync.runtime_nanotime", "internal/sync.runtime_SemacquireMutex", "sync/atomic.AddInt32", "(*internal/sync.Mutex).Unlock", "internal/race.ReleaseMerge", "(*internal/sync.Mutex).unlockSlow", "internal/sync.fatal", "internal/sync.runtime_Semrelease", "sync/atomic.StoreUint32"], unfollowed := true, recurses := true, plainKeys := false, apart := false }
def SwingRunsSaid : Prop := swingRunsRow.holds Try.pinned (OpenSpec.ofChange swingRunsSpec)

/-- ITS FALSE NEIGHBOUR: 'it returns false'. Refute it at one input. -/
def swingRunsWrong : ChangeSpec := { name := "swingRuns", fn := fun _ => fun
  | [d1, d2, d3, d4, d5, d6, d7] => { results := [.lit (.bool false)], args := [d1, d2, d3, d4, d5, d6, d7] }
  | _ => none }
def SwingRunsWrongFalsely : Prop := swingRunsRow.holds Try.pinned (OpenSpec.ofChange swingRunsWrong)

/-- 'gridworkslaw.SwingLeast': WHATEVER THE INPUT: true; the input reads as it did. -/
def swingLeastSpec : ChangeSpec := { name := "swingLeast", fn := fun _ => fun
  | [d] => { results := [.lit (.bool true)], args := [d] }
  | _ => none }
def swingLeastRow : OpenClaim := { program := "ytnhddmcdmcpkeaj", sum := "1a74431723013092348de8a0e1e7b7b47c3fc1944655ee583813f268d0546d0d", func := "gridworks/gridworkslaw.SwingLeast", spec := "swingLeast", inPlace := ["math.Float64frombits"], plainKeys := false, apart := false }
def SwingLeastSaid : Prop := swingLeastRow.holds Try.pinned (OpenSpec.ofChange swingLeastSpec)

/-- ITS FALSE NEIGHBOUR: 'it returns false'. Refute it at one input. -/
def swingLeastWrong : ChangeSpec := { name := "swingLeast", fn := fun _ => fun
  | [d] => { results := [.lit (.bool false)], args := [d] }
  | _ => none }
def SwingLeastWrongFalsely : Prop := swingLeastRow.holds Try.pinned (OpenSpec.ofChange swingLeastWrong)

/-- 'gridworkskeep.SwingCut': WHATEVER THE INPUT: true; the input reads as it did. -/
def swingCutSpec : ChangeSpec := { name := "swingCut", fn := fun _ => fun
  | [d1, d2, d3, d4, d5] => { results := [.lit (.bool true)], args := [d1, d2, d3, d4, d5] }
  | _ => none }
def swingCutRow : OpenClaim := { program := "ytnhddmcdmcpkeaj", sum := "1a74431723013092348de8a0e1e7b7b47c3fc1944655ee583813f268d0546d0d", func := "gridworks/gridworkskeep.SwingCut", spec := "swingCut", inPlace := ["sync/atomic.LoadUint32", "(*internal/sync.Mutex).Lock", "internal/race.Disable", "sync/atomic.CompareAndSwapInt32", "internal/race.Enable", "internal/race.Acquire", "(*internal/sync.Mutex).lockSlow", "internal/sync.runtime_canSpin", "internal/sync.runtime_doSpin", "internal/sync.throw", "internal/sync.runtime_nanotime", "internal/sync.runtime_SemacquireMutex", "sync/atomic.AddInt32", "(*internal/sync.Mutex).Unlock", "internal/race.ReleaseMerge", "(*internal/sync.Mutex).unlockSlow", "internal/sync.fatal", "internal/sync.runtime_Semrelease", "sync/atomic.StoreUint32"], unfollowed := true, recurses := true, plainKeys := false, apart := false }
def SwingCutSaid : Prop := swingCutRow.holds Try.pinned (OpenSpec.ofChange swingCutSpec)

/-- ITS FALSE NEIGHBOUR: 'it returns false'. Refute it at one input. -/
def swingCutWrong : ChangeSpec := { name := "swingCut", fn := fun _ => fun
  | [d1, d2, d3, d4, d5] => { results := [.lit (.bool false)], args := [d1, d2, d3, d4, d5] }
  | _ => none }
def SwingCutWrongFalsely : Prop := swingCutRow.holds Try.pinned (OpenSpec.ofChange swingCutWrong)

/-- 'gridworkskeep.SwingStill': WHATEVER THE INPUT: true; the input reads as it did. -/
def swingStillSpec : ChangeSpec := { name := "swingStill", fn := fun _ => fun
  | [d1, d2] => { results := [.lit (.bool true)], args := [d1, d2] }
  | _ => none }
def swingStillRow : OpenClaim := { program := "ytnhddmcdmcpkeaj", sum := "1a74431723013092348de8a0e1e7b7b47c3fc1944655ee583813f268d0546d0d", func := "gridworks/gridworkskeep.SwingStill", spec := "swingStill", inPlace := ["sync/atomic.LoadUint32", "(*internal/sync.Mutex).Lock", "internal/race.Disable", "sync/atomic.CompareAndSwapInt32", "internal/race.Enable", "internal/race.Acquire", "(*internal/sync.Mutex).lockSlow", "internal/sync.runtime_canSpin", "internal/sync.runtime_doSpin", "internal/sync.throw", "internal/sync.runtime_nanotime", "internal/sync.runtime_SemacquireMutex", "sync/atomic.AddInt32", "(*internal/sync.Mutex).Unlock", "internal/race.ReleaseMerge", "(*internal/sync.Mutex).unlockSlow", "internal/sync.fatal", "internal/sync.runtime_Semrelease", "sync/atomic.StoreUint32"], unfollowed := true, recurses := true, plainKeys := false, apart := false }
def SwingStillSaid : Prop := swingStillRow.holds Try.pinned (OpenSpec.ofChange swingStillSpec)

/-- ITS FALSE NEIGHBOUR: 'it returns false'. Refute it at one input. -/
def swingStillWrong : ChangeSpec := { name := "swingStill", fn := fun _ => fun
  | [d1, d2] => { results := [.lit (.bool false)], args := [d1, d2] }
  | _ => none }
def SwingStillWrongFalsely : Prop := swingStillRow.holds Try.pinned (OpenSpec.ofChange swingStillWrong)

/-- 'gridworkslaw.WaterRuns': WHATEVER THE INPUT: true; the input reads as it did. -/
def waterRunsSpec : ChangeSpec := { name := "waterRuns", fn := fun _ => fun
  | [d1, d2, d3] => { results := [.lit (.bool true)], args := [d1, d2, d3] }
  | _ => none }
def waterRunsRow : OpenClaim := { program := "ytnhddmcdmcpkeaj", sum := "1a74431723013092348de8a0e1e7b7b47c3fc1944655ee583813f268d0546d0d", func := "gridworks/gridworkslaw.WaterRuns", spec := "waterRuns", unfollowed := true, recurses := true, plainKeys := false, apart := false }
def WaterRunsSaid : Prop := waterRunsRow.holds Try.pinned (OpenSpec.ofChange waterRunsSpec)

/-- ITS FALSE NEIGHBOUR: 'it returns false'. Refute it at one input. -/
def waterRunsWrong : ChangeSpec := { name := "waterRuns", fn := fun _ => fun
  | [d1, d2, d3] => { results := [.lit (.bool false)], args := [d1, d2, d3] }
  | _ => none }
def WaterRunsWrongFalsely : Prop := waterRunsRow.holds Try.pinned (OpenSpec.ofChange waterRunsWrong)

/-- 'gridworkslaw.WaterBest': WHATEVER THE INPUT: true; the input reads as it did. -/
def waterBestSpec : ChangeSpec := { name := "waterBest", fn := fun _ => fun
  | [d1, d2, d3, d4] => { results := [.lit (.bool true)], args := [d1, d2, d3, d4] }
  | _ => none }
def waterBestRow : OpenClaim := { program := "ytnhddmcdmcpkeaj", sum := "1a74431723013092348de8a0e1e7b7b47c3fc1944655ee583813f268d0546d0d", func := "gridworks/gridworkslaw.WaterBest", spec := "waterBest", unfollowed := true, recurses := true, plainKeys := false, apart := false }
def WaterBestSaid : Prop := waterBestRow.holds Try.pinned (OpenSpec.ofChange waterBestSpec)

/-- ITS FALSE NEIGHBOUR: 'it returns false'. Refute it at one input. -/
def waterBestWrong : ChangeSpec := { name := "waterBest", fn := fun _ => fun
  | [d1, d2, d3, d4] => { results := [.lit (.bool false)], args := [d1, d2, d3, d4] }
  | _ => none }
def WaterBestWrongFalsely : Prop := waterBestRow.holds Try.pinned (OpenSpec.ofChange waterBestWrong)

/- THE SECOND FORM. 'bulk': how many values and letters a reading holds, each counted each time it is reached (what is shared counts as often as it is met; a slice's spare places count too). A statement '..UptoSaid' is the law's where the arguments, and the package variables that the reading takes, are together of bulk at most 1048576: NARROWER than '..Said'. Prove '..Said' where nothing that the law and all that it calls make is longer than what came in: it says more and counts as full. Else prove '..UptoSaid'. A law counts once. -/
mutual
def uptoBulk {H : Type} : DataW H → Nat
  | .lit (.string bytes) => bytes.length + 1
  | .lit _ => 1
  | .nil => 1
  | .ptr d => uptoBulk d + 1
  | .slice elems spare => uptoBulkAll elems + uptoBulkAll spare + 1
  | .agg parts => uptoBulkAll parts + 1
  | .iface _ d => uptoBulk d + 1
  | .map entries => uptoBulkEntries entries + 1
  | .held _ => 1
def uptoBulkAll {H : Type} : List (DataW H) → Nat
  | [] => 0
  | d :: r => uptoBulk d + uptoBulkAll r
def uptoBulkEntries {H : Type} : List (Lit × DataW H) → Nat
  | [] => 0
  | x :: r => uptoBulkEntry x + uptoBulkEntries r
def uptoBulkEntry {H : Type} : Lit × DataW H → Nat
  | (.string bytes, d) => bytes.length + uptoBulk d + 1
  | (_, d) => uptoBulk d + 1
 end
def uptoSmall : (H : Type) → List (DataW H) → Bool := fun _ ds => decide (uptoBulkAll ds ≤ 1048576)
def OpenSpec.upto (s : _root_.Go.ChangeSpec) : _root_.Go.OpenSpec := { _root_.Go.OpenSpec.ofChange s with cond := some uptoSmall }

/-- 'gridworkslaw.SwingRuns', WHERE WHAT IT READS IS OF BULK AT MOST 1048576: true; the input reads as it did. -/
def swingRunsUptoRow : OpenClaim := { program := "ytnhddmcdmcpkeaj", sum := "1a74431723013092348de8a0e1e7b7b47c3fc1944655ee583813f268d0546d0d", func := "gridworks/gridworkslaw.SwingRuns", spec := "swingRuns", inPlace := ["sync/atomic.LoadUint32", "(*internal/sync.Mutex).Lock", "internal/race.Disable", "sync/atomic.CompareAndSwapInt32", "internal/race.Enable", "internal/race.Acquire", "(*internal/sync.Mutex).lockSlow", "internal/sync.runtime_canSpin", "internal/sync.runtime_doSpin", "internal/sync.throw", "internal/sync.runtime_nanotime", "internal/sync.runtime_SemacquireMutex", "sync/atomic.AddInt32", "(*internal/sync.Mutex).Unlock", "internal/race.ReleaseMerge", "(*internal/sync.Mutex).unlockSlow", "internal/sync.fatal", "internal/sync.runtime_Semrelease", "sync/atomic.StoreUint32"], unfollowed := true, recurses := true, plainKeys := false, apart := false, narrowed := true }
def SwingRunsUptoSaid : Prop := swingRunsUptoRow.holds Try.pinned (OpenSpec.upto swingRunsSpec)

/-- 'gridworkslaw.SwingLeast', WHERE WHAT IT READS IS OF BULK AT MOST 1048576: true; the input reads as it did. -/
def swingLeastUptoRow : OpenClaim := { program := "ytnhddmcdmcpkeaj", sum := "1a74431723013092348de8a0e1e7b7b47c3fc1944655ee583813f268d0546d0d", func := "gridworks/gridworkslaw.SwingLeast", spec := "swingLeast", inPlace := ["math.Float64frombits"], plainKeys := false, apart := false, narrowed := true }
def SwingLeastUptoSaid : Prop := swingLeastUptoRow.holds Try.pinned (OpenSpec.upto swingLeastSpec)

/-- 'gridworkskeep.SwingCut', WHERE WHAT IT READS IS OF BULK AT MOST 1048576: true; the input reads as it did. -/
def swingCutUptoRow : OpenClaim := { program := "ytnhddmcdmcpkeaj", sum := "1a74431723013092348de8a0e1e7b7b47c3fc1944655ee583813f268d0546d0d", func := "gridworks/gridworkskeep.SwingCut", spec := "swingCut", inPlace := ["sync/atomic.LoadUint32", "(*internal/sync.Mutex).Lock", "internal/race.Disable", "sync/atomic.CompareAndSwapInt32", "internal/race.Enable", "internal/race.Acquire", "(*internal/sync.Mutex).lockSlow", "internal/sync.runtime_canSpin", "internal/sync.runtime_doSpin", "internal/sync.throw", "internal/sync.runtime_nanotime", "internal/sync.runtime_SemacquireMutex", "sync/atomic.AddInt32", "(*internal/sync.Mutex).Unlock", "internal/race.ReleaseMerge", "(*internal/sync.Mutex).unlockSlow", "internal/sync.fatal", "internal/sync.runtime_Semrelease", "sync/atomic.StoreUint32"], unfollowed := true, recurses := true, plainKeys := false, apart := false, narrowed := true }
def SwingCutUptoSaid : Prop := swingCutUptoRow.holds Try.pinned (OpenSpec.upto swingCutSpec)

/-- 'gridworkskeep.SwingStill', WHERE WHAT IT READS IS OF BULK AT MOST 1048576: true; the input reads as it did. -/
def swingStillUptoRow : OpenClaim := { program := "ytnhddmcdmcpkeaj", sum := "1a74431723013092348de8a0e1e7b7b47c3fc1944655ee583813f268d0546d0d", func := "gridworks/gridworkskeep.SwingStill", spec := "swingStill", inPlace := ["sync/atomic.LoadUint32", "(*internal/sync.Mutex).Lock", "internal/race.Disable", "sync/atomic.CompareAndSwapInt32", "internal/race.Enable", "internal/race.Acquire", "(*internal/sync.Mutex).lockSlow", "internal/sync.runtime_canSpin", "internal/sync.runtime_doSpin", "internal/sync.throw", "internal/sync.runtime_nanotime", "internal/sync.runtime_SemacquireMutex", "sync/atomic.AddInt32", "(*internal/sync.Mutex).Unlock", "internal/race.ReleaseMerge", "(*internal/sync.Mutex).unlockSlow", "internal/sync.fatal", "internal/sync.runtime_Semrelease", "sync/atomic.StoreUint32"], unfollowed := true, recurses := true, plainKeys := false, apart := false, narrowed := true }
def SwingStillUptoSaid : Prop := swingStillUptoRow.holds Try.pinned (OpenSpec.upto swingStillSpec)

/-- 'gridworkslaw.WaterRuns', WHERE WHAT IT READS IS OF BULK AT MOST 1048576: true; the input reads as it did. -/
def waterRunsUptoRow : OpenClaim := { program := "ytnhddmcdmcpkeaj", sum := "1a74431723013092348de8a0e1e7b7b47c3fc1944655ee583813f268d0546d0d", func := "gridworks/gridworkslaw.WaterRuns", spec := "waterRuns", unfollowed := true, recurses := true, plainKeys := false, apart := false, narrowed := true }
def WaterRunsUptoSaid : Prop := waterRunsUptoRow.holds Try.pinned (OpenSpec.upto waterRunsSpec)

/-- 'gridworkslaw.WaterBest', WHERE WHAT IT READS IS OF BULK AT MOST 1048576: true; the input reads as it did. -/
def waterBestUptoRow : OpenClaim := { program := "ytnhddmcdmcpkeaj", sum := "1a74431723013092348de8a0e1e7b7b47c3fc1944655ee583813f268d0546d0d", func := "gridworks/gridworkslaw.WaterBest", spec := "waterBest", unfollowed := true, recurses := true, plainKeys := false, apart := false, narrowed := true }
def WaterBestUptoSaid : Prop := waterBestUptoRow.holds Try.pinned (OpenSpec.upto waterBestSpec)

end Rows
end Go.Proofs.Ytnhddmcdmcpkeaj
