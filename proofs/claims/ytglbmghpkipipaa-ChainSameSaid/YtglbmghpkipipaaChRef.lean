/- Layer 35: the reference's At, Prev; layer 10's Best of the reference. -/
import Derived.Test.YtglbmghpkipipaaChFind
namespace Go.Proofs.Ytglbmghpkipipaa
open Go.RowKit

/-- A place's hash; -1: it has none. -/
def atR (bs : List UInt8) (a : Int) : Int := if 0 ≤ a ∧ a + 3 ≤ (bs.length : Int) then (hv bs a.toNat : Int) else -1
end Go.Proofs.Ytglbmghpkipipaa
