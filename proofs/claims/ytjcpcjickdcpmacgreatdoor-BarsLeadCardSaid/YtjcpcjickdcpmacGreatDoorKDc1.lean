/- The document's numbers: a whole number's digits, four by four and one by one. -/
import Derived.Test.YtjcpcjickdcpmacGreatDoorKDoc0
import Derived.Lib.ItoaNum
import Derived.Laws.IdiomStrings
import Derived.Test.YtjcpcjickdcpmacGreatDoorKSh0
import Derived.Test.YtjcpcjickdcpmacGreatDoorKD6
namespace Go.Proofs.YtjcpcjickdcpmacGreatDoor.Doc
open Go.RowKit

theorem Tryz.info3 : (Tryz.prog.info? 3).map (fun i => (i.zero, i.size, i.bytes)) = some (some (.int .i64 0), 1, 8) := by kernel_rfl

end Go.Proofs.YtjcpcjickdcpmacGreatDoor.Doc

namespace Go.Proofs.YtjcpcjickdcpmacGreatDoor.Doc
open Go.RowKit

end Go.Proofs.YtjcpcjickdcpmacGreatDoor.Doc

namespace Go.Proofs.YtjcpcjickdcpmacGreatDoor.Doc
open Go.RowKit

theorem rowAt_slice {w : World} {v : Value} {n sz : Nat} {xs : List Value} (h : RowAt w v n sz xs) : ∃ a cap, v = .slice a n cap := by
  obtain ⟨-, a, cap, rfl, -⟩ := h
  exact ⟨a, cap, rfl⟩

end Go.Proofs.YtjcpcjickdcpmacGreatDoor.Doc
