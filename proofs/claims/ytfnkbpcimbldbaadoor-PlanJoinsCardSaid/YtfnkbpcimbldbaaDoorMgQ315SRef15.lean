/- Layer 15's reference: a text's parts, and whether a name may be. -/
import Derived.Test.YtfnkbpcimbldbaaDoorMgQ315SMemR
import Derived.Test.YtfnkbpcimbldbaaDoorMgQ315SKRead
namespace Go.Proofs.YtfnkbpcimbldbaaDoor
open Go.RowKit

end Go.Proofs.YtfnkbpcimbldbaaDoor
