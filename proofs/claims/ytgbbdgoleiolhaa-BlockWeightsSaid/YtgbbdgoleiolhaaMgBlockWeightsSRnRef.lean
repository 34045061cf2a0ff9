/- Layer 9: the reference's Parts. -/
import Derived.Test.YtgbbdgoleiolhaaMgBlockWeights37
import Derived.Deep.Cut
import Derived.Deep.CutBlock
import Derived.Deep.DeepCutAuto
import Derived.Deep.RegionLaw
namespace Go.Proofs.Ytgbbdgoleiolhaa
open Go.RowKit Go.Shelf

theorem below_drewP {B : Nat} {a w : World} (h : Below B a w) (n : Nat) : Below B a (w.drewN n) := ⟨h.os, h.tape, h.output, h.size, h.block⟩
section
variable {W : World} {g : Nat} {t : Nat × Nat}
end
end Go.Proofs.Ytgbbdgoleiolhaa
