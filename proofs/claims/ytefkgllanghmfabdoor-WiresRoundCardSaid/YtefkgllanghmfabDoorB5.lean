/- Contract: a line of the kind tie, in the document's answer. -/
import Derived.Test.YtefkgllanghmfabDoorB2
namespace Go.Proofs.YtefkgllanghmfabDoor
open Go.RowKit

/-- What is wrong with a line of the kind tie; 0: nothing. -/
def tieE (n : NetM) (x p q s : ByteArray) : Int :=
  if newNameE n x n.ties.length 24 ≠ 0 then newNameE n x n.ties.length 24 else if twoE n.buses p q ≠ 0 then twoE n.buses p q else if (s.toList == [111, 112, 101, 110]) = true ∨ (s.toList == [99, 108, 111, 115, 101, 100]) = true then 0 else 1
def tieM (n : NetM) (x p q s : ByteArray) : TieM := ⟨x, placeL n.buses p, placeL n.buses q, s.toList == [99, 108, 111, 115, 101, 100]⟩
theorem Tryd.info52 : (Tryd.prog.info? 52).map (fun i => (i.zero, i.size, i.bytes)) = some (some (.agg #[.string ⟨#[]⟩, .int .i64 0, .int .i64 0, .bool false]), 4, 40) := by kernel_rfl
theorem Tryd.underlying30 : Tryd.prog.underlying 30 = some (.slice 52) := by kernel_rfl
theorem four_one {x : ByteArray} {a b : Int} {c : Bool} : ∀ u ∈ [Value.string x, .int .i64 a, .int .i64 b, .bool c], u.oneCell' = true := by
  intro u hu; simp at hu; rcases hu with rfl | rfl | rfl | rfl <;> rfl

end Go.Proofs.YtefkgllanghmfabDoor
