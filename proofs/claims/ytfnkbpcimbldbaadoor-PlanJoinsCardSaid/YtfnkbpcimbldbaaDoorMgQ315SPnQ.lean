/- Layer 38: the reference: Like. -/
import Derived.Test.YtfnkbpcimbldbaaDoorMgQ31529
import Derived.Test.YtfnkbpcimbldbaaDoorMgQ31519
import Derived.Test.YtfnkbpcimbldbaaDoorMgQ31524
namespace Go.Proofs.YtfnkbpcimbldbaaDoor
open Go.RowKit

end Go.Proofs.YtfnkbpcimbldbaaDoor
