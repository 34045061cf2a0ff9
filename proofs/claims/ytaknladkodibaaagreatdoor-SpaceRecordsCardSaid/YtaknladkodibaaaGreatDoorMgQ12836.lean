/- Layer 15's reference: a text's parts, and whether a name may be. -/
import Derived.Test.YtaknladkodibaaaGreatDoorMgQ12833
import Derived.Test.YtaknladkodibaaaGreatDoorMgQ12818
namespace Go.Proofs.YtaknladkodibaaaGreatDoor
open Go.RowKit

end Go.Proofs.YtaknladkodibaaaGreatDoor
/- Layer 16: heads are taken. -/
namespace Go.Proofs.YtaknladkodibaaaGreatDoor
open Go.RowKit CrcP FieldP

def headBytes : List UInt8 := [76, 77, 66, 82]
/-- In how many bytes each number of a head stands. -/
def wid : Nat → Nat
  | 0 => 1
  | 1 => 1
  | _ => 4
/-- The table of widths lies in memory. -/
def Wid (w : World) : Prop := 0 < w.heap.size ∧ ∀ k, k < 5 → w.cell? ⟨0, k, none⟩ = some (.int .i64 (wid k : Nat))
theorem Wid.below {w w' : World} {B : Nat} (h : Wid w) (hb : Below B w w') (hB : 0 < B) (hs : 0 < w'.heap.size) : Wid w' := ⟨hs, fun k hk => (hb.cell (p := ⟨0, k, none⟩) hB).trans (h.2 k hk)⟩
end Go.Proofs.YtaknladkodibaaaGreatDoor
/- Layer 16: the reference's Right of a head. -/
namespace Go.Proofs.YtaknladkodibaaaGreatDoor
open Go.RowKit

end Go.Proofs.YtaknladkodibaaaGreatDoor
/- Layer 16: what head stands at a place, of any bytes. -/
namespace Go.Proofs.YtaknladkodibaaaGreatDoor
open Go.RowKit CrcP FieldP

end Go.Proofs.YtaknladkodibaaaGreatDoor
