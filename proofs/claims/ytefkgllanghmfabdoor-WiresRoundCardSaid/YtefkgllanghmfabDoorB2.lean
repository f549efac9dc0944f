/- Contract: a line of the kind line, in the document's answer. -/
import Derived.Test.YtefkgllanghmfabDoorB1
namespace Go.Proofs.YtefkgllanghmfabDoor
open Go.RowKit

/-- What is wrong with a line of the kind line; 0: nothing. -/
def lineE (n : NetM) (x p q y z : ByteArray) : Int :=
  if newNameE n x n.lines.length 30 ≠ 0 then newNameE n x n.lines.length 30 else if twoE n.buses p q ≠ 0 then twoE n.buses p q else numsE [y, z] [1, 0] [10000, 100000]
def lineM (n : NetM) (x p q y z : ByteArray) : LineM := ⟨x, placeL n.buses p, placeL n.buses q, numL (bytesOf y), numL (bytesOf z)⟩

theorem Tryd.info48 : (Tryd.prog.info? 48).map (fun i => (i.zero, i.size, i.bytes)) = some (some (.agg #[.string ⟨#[]⟩, .int .i64 0, .int .i64 0, .int .i64 0, .int .i64 0]), 5, 48) := by kernel_rfl
theorem Tryd.underlying27 : Tryd.prog.underlying 27 = some (.slice 48) := by kernel_rfl
theorem five_one {x : ByteArray} {a b c d : Int} : ∀ u ∈ [Value.string x, .int .i64 a, .int .i64 b, .int .i64 c, .int .i64 d], u.oneCell' = true := by
  intro u hu; simp at hu; rcases hu with rfl | rfl | rfl | rfl | rfl <;> rfl
end Go.Proofs.YtefkgllanghmfabDoor
