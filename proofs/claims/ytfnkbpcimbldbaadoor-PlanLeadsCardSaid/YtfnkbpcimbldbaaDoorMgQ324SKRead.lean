/- The reader of layer 2 over any bytes, by its state: its place, and whether it isn't fine. -/
import Derived.Test.YtfnkbpcimbldbaaDoorMgQ324SKField
import Derived.Test.YtfnkbpcimbldbaaDoorMgQ32408
import Derived.StillTailTactics
namespace Go.Proofs.YtfnkbpcimbldbaaDoor
open Go.RowKit FieldP
attribute [local go_sem ↓] Go.wp_at_zero Go.wp_at_succ

/-- A reader's state, and what it reads. -/
structure RSt where
  p : Nat
  bad : Bool
/-- Some bytes. -/
def RSt.row (bs : List UInt8) (s : RSt) (n : Nat) : List UInt8 × RSt :=
  if s.bad = true then ([], s) else if s.p + n ≤ bs.length then ((bs.drop s.p).take n, ⟨s.p + n, false⟩) else ([], ⟨s.p, true⟩)
end Go.Proofs.YtfnkbpcimbldbaaDoor
