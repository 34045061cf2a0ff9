/- Layer 38: the reference: Apply. -/
import Derived.Test.YtfnkbpcimbldbaaDoorMgQ32439
import Derived.Test.YtfnkbpcimbldbaaDoorMgQ324SPnDf
namespace Go.Proofs.YtfnkbpcimbldbaaDoor
open Go.RowKit Go.Maps

end Go.Proofs.YtfnkbpcimbldbaaDoor
/- Layer 38: the law PlanApplies. -/
namespace Go.Proofs.YtfnkbpcimbldbaaDoor
open Go.RowKit Go.Maps

theorem OkF.up {w w' : World} {B B' : Nat} {f : Fi} (h : OkF w B f) (hb : Below B w w') (hB : B ≤ B') : OkF w' B' f := ⟨(h.1.below hb (Nat.le_refl _)).more hB, h.2⟩
end Go.Proofs.YtfnkbpcimbldbaaDoor
