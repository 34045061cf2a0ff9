/- Layer 14: codec.Pieces of the bytes 0 0: no piece, and the end. -/
import Derived.Test.YtaknladkodibaaaGreatDoorMgQ34919
import Derived.Test.YtaknladkodibaaaGreatDoorMgQ34917
import Derived.Test.YtaknladkodibaaaGreatDoorMgQ34922
import Derived.Lib.OthersKept
import Derived.Laws.RangeAny
namespace Go.Proofs.YtaknladkodibaaaGreatDoor
open Go.RowKit Go.Shelf CrcP FieldP

end Go.Proofs.YtaknladkodibaaaGreatDoor
/- Layer 14: codec.Pieces of the bytes 0 0, whole. -/
namespace Go.Proofs.YtaknladkodibaaaGreatDoor
open Go.RowKit Go.Shelf CrcP FieldP

end Go.Proofs.YtaknladkodibaaaGreatDoor
/- Layer 18: the chapter's example: the descriptor of a payload of no pieces. -/
namespace Go.Proofs.YtaknladkodibaaaGreatDoor
open Go.RowKit CrcP FieldP
attribute [local go_sem ↓] Go.wp_at_zero Go.wp_at_succ

end Go.Proofs.YtaknladkodibaaaGreatDoor
