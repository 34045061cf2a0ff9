/- Layer 9: the reference's Fits, and its Join of one part. -/
import Derived.Test.YtaknladkodibaaaGreatDoorMgQ37431
import Derived.Test.YtaknladkodibaaaGreatDoorMgQ37436
import Derived.Test.YtaknladkodibaaaGreatDoorMgQ37417
import Derived.Deep.RegionLaw
namespace Go.Proofs.YtaknladkodibaaaGreatDoor
open Go.RowKit BitsP
end Go.Proofs.YtaknladkodibaaaGreatDoor
