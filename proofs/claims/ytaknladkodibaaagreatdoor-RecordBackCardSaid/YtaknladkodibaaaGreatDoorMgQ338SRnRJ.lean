/- Layer 9: the reference's Fits, and its Join of one part. -/
import Derived.Test.YtaknladkodibaaaGreatDoorMgQ33831
import Derived.Test.YtaknladkodibaaaGreatDoorMgQ33836
import Derived.Test.YtaknladkodibaaaGreatDoorMgQ33817
import Derived.Deep.RegionLaw
namespace Go.Proofs.YtaknladkodibaaaGreatDoor
open Go.RowKit BitsP
end Go.Proofs.YtaknladkodibaaaGreatDoor
