/- The reference's bytes and their sum. -/
import Derived.Test.YtnccbnadfgilaaaKSeal
import Derived.Test.YtnccbnadfgilaaaKFieldR
import Derived.Lib.SmallJoins
namespace Go.Proofs.Ytnccbnadfgilaaa
open Go.RowKit CrcP FieldP

end Go.Proofs.Ytnccbnadfgilaaa
