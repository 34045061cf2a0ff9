/- Layer 38: the reference: Like. -/
import Derived.Test.YtfnkbpcimbldbaaDoorMgQ32429
import Derived.Test.YtfnkbpcimbldbaaDoorMgQ32419
import Derived.Test.YtfnkbpcimbldbaaDoorMgQ32424
namespace Go.Proofs.YtfnkbpcimbldbaaDoor
open Go.RowKit

end Go.Proofs.YtfnkbpcimbldbaaDoor
