/- Layer 7, plainly: rows by places, and by symbols. -/
import Derived.Test.YtaknladkodibaaaGreatMgQ21543
import Derived.Test.YtaknladkodibaaaGreatMgQ21542
namespace Go.Proofs.YtaknladkodibaaaGreat

end Go.Proofs.YtaknladkodibaaaGreat
/- Layer 7: the reference's Lengths. -/
namespace Go.Proofs.YtaknladkodibaaaGreat
open Go.RowKit

end Go.Proofs.YtaknladkodibaaaGreat
