/- From what a row's frame tells of a slice of bytes to the bytes themselves. -/
import Derived.Test.YtfnkbpcimbldbaaDoorMgQ32406
import Derived.OpenShut
namespace Go.Proofs.YtfnkbpcimbldbaaDoor
open Go.RowKit

theorem addr_plain {w : World} {x : Addr} {v : Value} (h : w.cell? (x.add 0) = some v) : ∃ b o, x = ⟨b, o, none⟩ := by
  have hs := World.cell?_spot h
  obtain ⟨b, o, s⟩ := x
  refine ⟨b, o, ?_⟩
  have : s = none := by simpa [Addr.add] using hs
  rw [this]

end Go.Proofs.YtfnkbpcimbldbaaDoor
