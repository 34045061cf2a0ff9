/- Layer 38: Right of both. -/
import Derived.Test.YtfnkbpcimbldbaaDoorMgQ31532
import Derived.Test.YtfnkbpcimbldbaaDoorMgQ315SMemR
import Derived.Test.YtfnkbpcimbldbaaDoorMgQ315SRef15
namespace Go.Proofs.YtfnkbpcimbldbaaDoor
open Go.RowKit

end Go.Proofs.YtfnkbpcimbldbaaDoor
/- Layer 38: the reference: Diff, Same of steps. -/
namespace Go.Proofs.YtfnkbpcimbldbaaDoor
open Go.RowKit

end Go.Proofs.YtfnkbpcimbldbaaDoor
