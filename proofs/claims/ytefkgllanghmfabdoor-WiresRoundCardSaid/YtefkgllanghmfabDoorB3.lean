/- Contract: a line of the kind load, in the document's answer. -/
import Derived.Test.YtefkgllanghmfabDoorB2
namespace Go.Proofs.YtefkgllanghmfabDoor
open Go.RowKit

/-- What is wrong with a line of the kind load; 0: nothing. -/
def loadE (n : NetM) (x p y : ByteArray) : Int :=
  if newNameE n x n.loads.length 16 ≠ 0 then newNameE n x n.loads.length 16 else if placeL n.buses p < 0 then 9 else numsE [y] [0] [100000]
def loadM (n : NetM) (x p y : ByteArray) : LoadM := ⟨x, placeL n.buses p, numL (bytesOf y)⟩
theorem Tryd.info66 : (Tryd.prog.info? 66).map (fun i => (i.zero, i.size, i.bytes)) = some (some (.agg #[.string ⟨#[]⟩, .int .i64 0, .int .i64 0]), 3, 32) := by kernel_rfl
theorem Tryd.underlying29 : Tryd.prog.underlying 29 = some (.slice 66) := by kernel_rfl
theorem three_one {x : ByteArray} {a b : Int} : ∀ u ∈ [Value.string x, .int .i64 a, .int .i64 b], u.oneCell' = true := by
  intro u hu; simp at hu; rcases hu with rfl | rfl | rfl <;> rfl
end Go.Proofs.YtefkgllanghmfabDoor
