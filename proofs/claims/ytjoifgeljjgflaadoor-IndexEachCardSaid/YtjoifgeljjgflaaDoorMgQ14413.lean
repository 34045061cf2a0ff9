/- Plain mathematics: bytes with their sum behind them all have one sum; a burst in them shows, wherever it is. -/
import Derived.Test.YtjoifgeljjgflaaDoorMgQ14400
import Derived.Test.YtjoifgeljjgflaaDoorMgQ14412
namespace Go.Proofs.YtjoifgeljjgflaaDoor
open Go.RowKit CrcP FieldP

end Go.Proofs.YtjoifgeljjgflaaDoor
/- The reference's numbers as bytes. -/
namespace Go.Proofs.YtjoifgeljjgflaaDoor
open Go.RowKit FieldP

end Go.Proofs.YtjoifgeljjgflaaDoor
