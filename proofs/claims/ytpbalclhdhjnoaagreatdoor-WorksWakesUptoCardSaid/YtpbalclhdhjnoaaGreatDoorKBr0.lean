/- The grid as plain data: links and what leads on; the library's search in a list of two. -/
import Derived.Test.YtpbalclhdhjnoaaGreatDoorKDoc0
import Derived.Test.YtpbalclhdhjnoaaGreatDoorKD6
import Derived.RangeFuncNested
import Derived.RangeFuncBound
import Derived.RangeFuncCalls
import Derived.RangeFuncLeaves
import Derived.Shelf.Abstract
import Derived.OwnWalkIn
import Derived.TacticsInMore
import Derived.LoopNIn
import Derived.LoopIn
import Derived.Deep.RegionHeld3
namespace Go.Proofs.YtpbalclhdhjnoaaGreatDoor.Bar
open Go.RowKit Doc

structure LinkM where
  tie : Bool
  no : Int
  p : Int
  q : Int
def LinkM.cells (x : LinkM) : List Value := [.bool x.tie, .int .i64 x.no, .int .i64 x.p, .int .i64 x.q]
/-- Where a link leads from a bus. -/
def nextOf (l : LinkM) (u : Int) : Option Int := if l.p = u then some l.q else if l.q = u then some l.p else none
/-- What leads on from a bus, in the links' order. -/
def onw : List LinkM → Int → List (LinkM × Int)
  | [], _ => []
  | l :: r, u => match nextOf l u with
    | some v => (l, v) :: onw r u
    | none => onw r u
end Go.Proofs.YtpbalclhdhjnoaaGreatDoor.Bar

namespace Go.Proofs.YtpbalclhdhjnoaaGreatDoor.Bar
open Go.RowKit Go.Shelf Doc

theorem wide_fn (f : FuncId) : Fence.wide.fn f = True := rfl
theorem wide_depth : Fence.wide.depth = none := rfl
attribute [local go_sem] Oper.semAt_some wide_fn wide_depth

end Go.Proofs.YtpbalclhdhjnoaaGreatDoor.Bar
