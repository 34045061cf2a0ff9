/- Three numbers between a mark and the sum, plainly: what is read where they are all there, where not, and where they were put. -/
import Derived.Test.YtaknladkodibaaaGreatMgQ21518
import Derived.Test.YtaknladkodibaaaGreatMgQ21517
namespace Go.Proofs.YtaknladkodibaaaGreat
open Go.RowKit CrcP FieldP

end Go.Proofs.YtaknladkodibaaaGreat
/- The reference's number of four bytes that is there. -/
namespace Go.Proofs.YtaknladkodibaaaGreat
open Go.RowKit FieldP

end Go.Proofs.YtaknladkodibaaaGreat
