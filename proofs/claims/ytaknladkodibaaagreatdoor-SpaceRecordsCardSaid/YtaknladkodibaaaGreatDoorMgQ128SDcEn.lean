/- Layer 18: where pieces end. -/
import Derived.Test.YtaknladkodibaaaGreatDoorMgQ12818
import Derived.RegionTactic
import Derived.Deep.Cut
import Derived.Deep.DeepCutAuto
import Derived.IntWalk
import Derived.Outline
import Derived.Deep.LoopGhost
import Derived.BigQuiet
namespace Go.Proofs.YtaknladkodibaaaGreatDoor
open Go.RowKit CrcP FieldP

def two (bs : List UInt8) (p : Nat) : Nat := val ((bs.drop p).take 2)
end Go.Proofs.YtaknladkodibaaaGreatDoor
