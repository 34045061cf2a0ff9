/- Layer 19: the example that goes there and back. -/
import Derived.Test.YtjoifgeljjgflaaDoorMgQ14427
namespace Go.Proofs.YtjoifgeljjgflaaDoor
open Go.RowKit CrcP FieldP

def memA : LM := ⟨⟨#[97]⟩, 1024, 1047, 0, 0, 0, 0⟩
theorem memA_B : memA.B = true := by decide
end Go.Proofs.YtjoifgeljjgflaaDoor
