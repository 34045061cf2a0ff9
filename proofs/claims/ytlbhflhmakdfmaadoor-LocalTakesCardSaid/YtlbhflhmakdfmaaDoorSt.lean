/- Layer 17: tombstones are put. -/
import Derived.Test.YtlbhflhmakdfmaaDoorRef15
import Derived.Test.YtlbhflhmakdfmaaDoorKSum
namespace Go.Proofs.YtlbhflhmakdfmaaDoor
open Go.RowKit CrcP FieldP

def tombBytes : List UInt8 := [84, 79, 77, 66]
/-- The bytes of a name's tombstone. -/
def tombB (l : List UInt8) : List UInt8 := sealed (tombBytes ++ putN l.length 1 ++ l)
theorem tombB_length (l : List UInt8) : (tombB l).length = 9 + l.length := by
  unfold tombB
  rw [sealed_length]
  simp [putN_length, tombBytes]
  omega
theorem rightB_len {l : List UInt8} (h : rightB l = true) : 1 ≤ l.length ∧ l.length ≤ 64 := by
  unfold rightB at h
  simp only [Bool.and_eq_true, decide_eq_true_eq] at h
  exact ⟨h.1.1.1, h.1.1.2⟩

end Go.Proofs.YtlbhflhmakdfmaaDoor
