/- The reference's bytes and their sum. -/
import Derived.Test.YtlbhflhmakdfmaaDoorKSeal
import Derived.Test.YtlbhflhmakdfmaaDoorKFieldR
import Derived.Lib.SmallJoins
namespace Go.Proofs.YtlbhflhmakdfmaaDoor
open Go.RowKit CrcP FieldP

end Go.Proofs.YtlbhflhmakdfmaaDoor
