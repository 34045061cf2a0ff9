/- Layer 25: model.with, model.without, model.With, model.Without. -/
import Derived.Test.YtfnkbpcimbldbaaFiL
namespace Go.Proofs.Ytfnkbpcimbldbaa
open Go.RowKit

end Go.Proofs.Ytfnkbpcimbldbaa
