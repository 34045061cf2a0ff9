/- Layer 25: where a name stands in a map. -/
import Derived.Test.YtfnkbpcimbldbaaFiM
import Derived.Test.YtfnkbpcimbldbaaCmpS
namespace Go.Proofs.Ytfnkbpcimbldbaa
open Go.RowKit

end Go.Proofs.Ytfnkbpcimbldbaa
