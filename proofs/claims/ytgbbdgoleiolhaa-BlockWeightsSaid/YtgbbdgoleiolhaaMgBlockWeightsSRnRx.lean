/- Layer 9: how many bits a number has behind its code, of the reference. -/
import Derived.Test.YtgbbdgoleiolhaaMgBlockWeights04
import Derived.Test.YtgbbdgoleiolhaaBitsPlain
import Derived.WalkKit
import Derived.Lib.Hide
namespace Go.Proofs.Ytgbbdgoleiolhaa
open Go.RowKit BitsP

end Go.Proofs.Ytgbbdgoleiolhaa
