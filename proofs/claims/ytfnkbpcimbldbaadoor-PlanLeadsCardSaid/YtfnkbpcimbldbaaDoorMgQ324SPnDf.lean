/- Layer 38: the law PlanDiffs. -/
import Derived.Test.YtfnkbpcimbldbaaDoorMgQ32436
namespace Go.Proofs.YtfnkbpcimbldbaaDoor
open Go.RowKit

theorem diffL_len (a b : KL) : (diffL a b).length ≤ a.length + b.length := by
  unfold diffL goneN putN
  rw [List.length_append, List.length_map, List.length_map]
  have h1 := List.length_filter_le (fun n => (getK b n).isNone) (a.map Prod.fst)
  have h2 := List.length_filter_le (fun x => !decide (getK a x.1 = some x.2)) b
  rw [List.length_map] at h1
  omega
end Go.Proofs.YtfnkbpcimbldbaaDoor
