/- Layer 25: the reference's Without. -/
import Derived.Test.YtfnkbpcimbldbaaFiC
namespace Go.Proofs.Ytfnkbpcimbldbaa
open Go.RowKit

theorem fiCells_snoc (l : List Fi) (x : Fi) : fiCells (l ++ [x]) = fiCells l ++ x.cells := by unfold fiCells; simp
theorem fileElem : Elem Try.prog 22 33 (.agg #[.string ⟨#[]⟩, .slice none 0 0]) 2 40 := Elem.of Try.underlying22 (by kernel_rfl) (by kernel_rfl) (by omega)
end Go.Proofs.Ytfnkbpcimbldbaa
