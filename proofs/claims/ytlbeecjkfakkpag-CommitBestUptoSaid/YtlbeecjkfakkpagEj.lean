/- The best schedule, in the program: all of it. -/
import Derived.Test.YtlbeecjkfakkpagEo
import Derived.Test.YtlbeecjkfakkpagEu
namespace Go.Proofs.Ytlbeecjkfakkpag
open Go.RowKit Go.Shelf Go.ChangeMaps

theorem Best_good : BestGood := Best_from (fun us need spare h => search_any us need spare h) (fun us need spare h => schedule_any us need spare h)
end Go.Proofs.Ytlbeecjkfakkpag
