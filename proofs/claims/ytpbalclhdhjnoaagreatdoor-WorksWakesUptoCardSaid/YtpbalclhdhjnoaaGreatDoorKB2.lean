/- Contract: a line of the kind line, in the document's answer. -/
import Derived.Test.YtpbalclhdhjnoaaGreatDoorKB1
namespace Go.Proofs.YtpbalclhdhjnoaaGreatDoor
open Go.RowKit

/-- What is wrong with a line of the kind line; 0: nothing. -/
def lineE (n : NetM) (x p q y z : ByteArray) : Int :=
  if newNameE n x n.lines.length 30 ≠ 0 then newNameE n x n.lines.length 30 else if twoE n.buses p q ≠ 0 then twoE n.buses p q else numsE [y, z] [1, 0] [10000, 100000]
def lineM (n : NetM) (x p q y z : ByteArray) : LineM := ⟨x, placeL n.buses p, placeL n.buses q, numL (bytesOf y), numL (bytesOf z)⟩

theorem Tryz.info54 : (Tryz.prog.info? 54).map (fun i => (i.zero, i.size, i.bytes)) = some (some (.agg #[.string ⟨#[]⟩, .int .i64 0, .int .i64 0, .int .i64 0, .int .i64 0]), 5, 48) := by kernel_rfl
theorem Tryz.underlying23 : Tryz.prog.underlying 23 = some (.slice 54) := by kernel_rfl
theorem five_one {x : ByteArray} {a b c d : Int} : ∀ u ∈ [Value.string x, .int .i64 a, .int .i64 b, .int .i64 c, .int .i64 d], u.oneCell' = true := by
  intro u hu; simp at hu; rcases hu with rfl | rfl | rfl | rfl | rfl <;> rfl
end Go.Proofs.YtpbalclhdhjnoaaGreatDoor

namespace Go.Proofs.YtpbalclhdhjnoaaGreatDoor
open Go.RowKit

/-- What is wrong with a line of the kind load; 0: nothing. -/
def loadE (n : NetM) (x p y : ByteArray) : Int :=
  if newNameE n x n.loads.length 16 ≠ 0 then newNameE n x n.loads.length 16 else if placeL n.buses p < 0 then 9 else numsE [y] [0] [100000]
def loadM (n : NetM) (x p y : ByteArray) : LoadM := ⟨x, placeL n.buses p, numL (bytesOf y)⟩
theorem Tryz.info51 : (Tryz.prog.info? 51).map (fun i => (i.zero, i.size, i.bytes)) = some (some (.agg #[.string ⟨#[]⟩, .int .i64 0, .int .i64 0]), 3, 32) := by kernel_rfl
theorem Tryz.underlying25 : Tryz.prog.underlying 25 = some (.slice 51) := by kernel_rfl
theorem three_one {x : ByteArray} {a b : Int} : ∀ u ∈ [Value.string x, .int .i64 a, .int .i64 b], u.oneCell' = true := by
  intro u hu; simp at hu; rcases hu with rfl | rfl | rfl <;> rfl
end Go.Proofs.YtpbalclhdhjnoaaGreatDoor

namespace Go.Proofs.YtpbalclhdhjnoaaGreatDoor
open Go.RowKit

/-- What is wrong with a line of the kind gen; 0: nothing. -/
def genE (n : NetM) (x p y z q : ByteArray) : Int :=
  if newNameE n x n.gens.length 12 ≠ 0 then newNameE n x n.gens.length 12 else if placeL n.buses p < 0 then 9 else if numsE [y] [0] [100000] ≠ 0 then numsE [y] [0] [100000] else numsE [z, q] [numL (bytesOf y), 0] [100000, 100000]
def genM (n : NetM) (x p y z q : ByteArray) : GenM := ⟨x, placeL n.buses p, numL (bytesOf y), numL (bytesOf z), numL (bytesOf q)⟩
theorem Tryz.info46 : (Tryz.prog.info? 46).map (fun i => (i.zero, i.size, i.bytes)) = some (some (.agg #[.string ⟨#[]⟩, .int .i64 0, .int .i64 0, .int .i64 0, .int .i64 0]), 5, 48) := by kernel_rfl
theorem Tryz.underlying24 : Tryz.prog.underlying 24 = some (.slice 46) := by kernel_rfl
end Go.Proofs.YtpbalclhdhjnoaaGreatDoor

namespace Go.Proofs.YtpbalclhdhjnoaaGreatDoor
open Go.RowKit

/-- What is wrong with a line of the kind tie; 0: nothing. -/
def tieE (n : NetM) (x p q s : ByteArray) : Int :=
  if newNameE n x n.ties.length 24 ≠ 0 then newNameE n x n.ties.length 24 else if twoE n.buses p q ≠ 0 then twoE n.buses p q else if (s.toList == [111, 112, 101, 110]) = true ∨ (s.toList == [99, 108, 111, 115, 101, 100]) = true then 0 else 1
def tieM (n : NetM) (x p q s : ByteArray) : TieM := ⟨x, placeL n.buses p, placeL n.buses q, s.toList == [99, 108, 111, 115, 101, 100]⟩
theorem Tryz.info56 : (Tryz.prog.info? 56).map (fun i => (i.zero, i.size, i.bytes)) = some (some (.agg #[.string ⟨#[]⟩, .int .i64 0, .int .i64 0, .bool false]), 4, 40) := by kernel_rfl
theorem Tryz.underlying26 : Tryz.prog.underlying 26 = some (.slice 56) := by kernel_rfl
theorem four_one {x : ByteArray} {a b : Int} {c : Bool} : ∀ u ∈ [Value.string x, .int .i64 a, .int .i64 b, .bool c], u.oneCell' = true := by
  intro u hu; simp at hu; rcases hu with rfl | rfl | rfl | rfl <;> rfl

end Go.Proofs.YtpbalclhdhjnoaaGreatDoor
