/- Marks and sums: a sum laid behind bytes; a mark, three numbers and the sum. -/
import Derived.Test.YtjoifgeljjgflaaDoorKField
namespace Go.Proofs.YtjoifgeljjgflaaDoor
open Go.RowKit CrcP FieldP

theorem sumN_lt (bs : List UInt8) : sumN bs < 4294967296 := Nat.xor_lt_two_pow (n := 32) (goN_lt bs (by omega)) (by omega)
/-- Bytes, and their sum behind them. -/
def sealed (bs : List UInt8) : List UInt8 := bs ++ putN (sumN bs) 4
theorem sealed_length (bs : List UInt8) : (sealed bs).length = bs.length + 4 := by unfold sealed; rw [List.length_append, putN_length]
theorem cnt4 : cnt 4 = 4 := rfl

end Go.Proofs.YtjoifgeljjgflaaDoor
