/- Layer 19: a member is read. -/
import Derived.Test.YtjoifgeljjgflaaDoorMgQ14424
import Derived.Test.YtjoifgeljjgflaaDoorMgQ144SKSts
import Derived.Deep.RegionHeld3
import Derived.Outline
import Derived.Test.YtjoifgeljjgflaaDoorMgQ14405
namespace Go.Proofs.YtjoifgeljjgflaaDoor
open Go.RowKit CrcP FieldP

end Go.Proofs.YtjoifgeljjgflaaDoor
/- Layer 19: a directory is taken. -/
namespace Go.Proofs.YtjoifgeljjgflaaDoor
open Go.RowKit CrcP FieldP

theorem memElem : Elem Tryd.prog 22 32 (.agg #[.string ⟨#[]⟩, .int .i64 0, .int .i64 0, .int .i64 0, .int .i64 0, .int .u32 0, .int .i64 0]) 7 64 := Elem.of Tryd.underlying22 (by kernel_rfl) rfl (by omega)
end Go.Proofs.YtjoifgeljjgflaaDoor
