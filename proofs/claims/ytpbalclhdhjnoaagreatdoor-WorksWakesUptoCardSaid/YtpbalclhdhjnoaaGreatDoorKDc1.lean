/- The document's numbers: a whole number's digits, four by four and one by one. -/
import Derived.Test.YtpbalclhdhjnoaaGreatDoorKDoc0
import Derived.Lib.ItoaNum
import Derived.Laws.IdiomStrings
import Derived.Test.YtpbalclhdhjnoaaGreatDoorKSh0
import Derived.Test.YtpbalclhdhjnoaaGreatDoorKD6
namespace Go.Proofs.YtpbalclhdhjnoaaGreatDoor.Doc
open Go.RowKit

def d4F : Nat → Nat → List Nat
  | 0, _ => []
  | f + 1, u => if u = 0 then [] else (u % 10000) :: d4F f (u / 10000)
/-- A whole number's digits, four by four, the lowest first. -/
def d4 (u : Nat) : List Nat := d4F u u
theorem Tryz.info3 : (Tryz.prog.info? 3).map (fun i => (i.zero, i.size, i.bytes)) = some (some (.int .i64 0), 1, 8) := by kernel_rfl

end Go.Proofs.YtpbalclhdhjnoaaGreatDoor.Doc

namespace Go.Proofs.YtpbalclhdhjnoaaGreatDoor.Doc
open Go.RowKit

end Go.Proofs.YtpbalclhdhjnoaaGreatDoor.Doc

namespace Go.Proofs.YtpbalclhdhjnoaaGreatDoor.Doc
open Go.RowKit

theorem rowAt_slice {w : World} {v : Value} {n sz : Nat} {xs : List Value} (h : RowAt w v n sz xs) : ∃ a cap, v = .slice a n cap := by
  obtain ⟨-, a, cap, rfl, -⟩ := h
  exact ⟨a, cap, rfl⟩

end Go.Proofs.YtpbalclhdhjnoaaGreatDoor.Doc
