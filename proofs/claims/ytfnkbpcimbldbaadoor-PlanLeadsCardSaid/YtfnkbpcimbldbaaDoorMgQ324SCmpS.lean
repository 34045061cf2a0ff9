/- cmp.Compare of texts. -/
import Derived.Test.YtfnkbpcimbldbaaDoorMgQ32401
import Derived.Test.YtfnkbpcimbldbaaDoorRows
import Derived.Test.YtfnkbpcimbldbaaDoorMgQ32406
import Derived.Lib.Hide
import Derived.Laws.Cover1
import Derived.WalkMore
import Derived.Deep.Cut
import Derived.Deep.DeepCutAuto
import Derived.Deep.LoopGhost
namespace Go.Proofs.YtfnkbpcimbldbaaDoor
open Go.RowKit

end Go.Proofs.YtfnkbpcimbldbaaDoor
