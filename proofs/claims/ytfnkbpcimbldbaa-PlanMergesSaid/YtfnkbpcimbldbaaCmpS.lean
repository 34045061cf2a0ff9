/- cmp.Compare of texts. -/
import Derived.Test.YtfnkbpcimbldbaaNmP
import Derived.Test.YtfnkbpcimbldbaaRows
import Derived.Test.YtfnkbpcimbldbaaGrow
import Derived.Lib.Hide
import Derived.Laws.Cover1
import Derived.WalkMore
import Derived.Deep.Cut
import Derived.Deep.DeepCutAuto
import Derived.Deep.LoopGhost
namespace Go.Proofs.Ytfnkbpcimbldbaa
open Go.RowKit

def cmpN (a b : ByteArray) : Int := if ltN a b then -1 else if a = b then 0 else 1
theorem cmpN_lt (a b : ByteArray) : decide (cmpN a b < 0) = ltN a b := by
  unfold cmpN
  cases h : ltN a b with
  | true => rfl
  | false => split <;> rename_i h1 <;> first | (cases h1; done) | (split <;> rfl)
theorem cmpN_eq (a b : ByteArray) : (cmpN a b == 0) = decide (a = b) := by
  unfold cmpN
  cases h : ltN a b with
  | true => rw [decide_eq_false (ltN_ne h)]; rfl
  | false =>
    by_cases e : a = b
    · simp [e]
    · simp [e]

end Go.Proofs.Ytfnkbpcimbldbaa
