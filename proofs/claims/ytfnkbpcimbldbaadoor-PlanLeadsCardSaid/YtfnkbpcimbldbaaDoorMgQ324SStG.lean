/- append at a step of a region that draws its order, whose guard is met; what is held behind a world may be changed. -/
import Derived.Test.YtfnkbpcimbldbaaDoorMgQ32406
import Derived.Deep.RegionHeld3
namespace Go.Proofs.YtfnkbpcimbldbaaDoor
open Go.RowKit

end Go.Proofs.YtfnkbpcimbldbaaDoor
