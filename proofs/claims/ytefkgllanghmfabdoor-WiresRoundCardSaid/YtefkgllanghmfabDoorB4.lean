/- Contract: a line of the kind gen, in the document's answer. -/
import Derived.Test.YtefkgllanghmfabDoorB3
namespace Go.Proofs.YtefkgllanghmfabDoor
open Go.RowKit

/-- What is wrong with a line of the kind gen; 0: nothing. -/
def genE (n : NetM) (x p y z q : ByteArray) : Int :=
  if newNameE n x n.gens.length 12 ≠ 0 then newNameE n x n.gens.length 12 else if placeL n.buses p < 0 then 9 else if numsE [y] [0] [100000] ≠ 0 then numsE [y] [0] [100000] else numsE [z, q] [numL (bytesOf y), 0] [100000, 100000]
def genM (n : NetM) (x p y z q : ByteArray) : GenM := ⟨x, placeL n.buses p, numL (bytesOf y), numL (bytesOf z), numL (bytesOf q)⟩
theorem Tryd.info64 : (Tryd.prog.info? 64).map (fun i => (i.zero, i.size, i.bytes)) = some (some (.agg #[.string ⟨#[]⟩, .int .i64 0, .int .i64 0, .int .i64 0, .int .i64 0]), 5, 48) := by kernel_rfl
theorem Tryd.underlying28 : Tryd.prog.underlying 28 = some (.slice 64) := by kernel_rfl
end Go.Proofs.YtefkgllanghmfabDoor
