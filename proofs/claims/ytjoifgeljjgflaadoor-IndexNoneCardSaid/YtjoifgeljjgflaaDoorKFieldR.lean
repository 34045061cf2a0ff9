/- The reference's numbers as bytes. -/
import Derived.Test.YtjoifgeljjgflaaDoorKField
namespace Go.Proofs.YtjoifgeljjgflaaDoor
open Go.RowKit FieldP

end Go.Proofs.YtjoifgeljjgflaaDoor
