/- The sums of bytes: the contracts of Make, Go, Sum and Join over a table in memory, and of the reference's Go and Sum. -/
import Derived.Test.YtkikgidmioofaaaGreatRows
import Derived.Test.YtkikgidmioofaaaGreatMgB00
import Derived.Test.YtkikgidmioofaaaGreatMgB06
import Derived.WalkKit
import Derived.WalkSpells
import Derived.WalkLawsBesides
import Derived.Lib.Hide
import Derived.Deep.WholeRow
namespace Go.Proofs.YtkikgidmioofaaaGreat
open Go.RowKit CrcP

theorem ret_int {k : IntKind} {a b : Int} (h : a = b) : Ending.returned (.int k a) = .returned (.int k b) := by rw [h]
end Go.Proofs.YtkikgidmioofaaaGreat
