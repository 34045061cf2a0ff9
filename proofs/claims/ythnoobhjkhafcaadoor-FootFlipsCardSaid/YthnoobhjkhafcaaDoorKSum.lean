/- The reference's bytes and their sum. -/
import Derived.Test.YthnoobhjkhafcaaDoorKSeal
import Derived.Test.YthnoobhjkhafcaaDoorKFieldR
import Derived.Lib.SmallJoins
namespace Go.Proofs.YthnoobhjkhafcaaDoor
open Go.RowKit CrcP FieldP

end Go.Proofs.YthnoobhjkhafcaaDoor
