/- Layer 38: the reference: Apply. -/
import Derived.Test.YtfnkbpcimbldbaaDoorMgQ31539
import Derived.Test.YtfnkbpcimbldbaaDoorMgQ315SPnDf
namespace Go.Proofs.YtfnkbpcimbldbaaDoor
open Go.RowKit Go.Maps

end Go.Proofs.YtfnkbpcimbldbaaDoor
/- Layer 38: the law PlanApplies. -/
namespace Go.Proofs.YtfnkbpcimbldbaaDoor
open Go.RowKit Go.Maps

end Go.Proofs.YtfnkbpcimbldbaaDoor
