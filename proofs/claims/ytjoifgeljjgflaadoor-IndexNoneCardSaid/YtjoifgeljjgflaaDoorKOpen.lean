/- Marks and sums that are read: Is, Open, Check. -/
import Derived.Test.YtjoifgeljjgflaaDoorKRead
import Derived.Test.YtjoifgeljjgflaaDoorKSeal
namespace Go.Proofs.YtjoifgeljjgflaaDoor
open Go.RowKit CrcP FieldP

/-- Does a mark stand at a place? -/
def isB (mk bs : List UInt8) (p : Int) : Bool := decide (0 ≤ p) && decide (p ≤ (bs.length : Int) - mk.length) && decide ((bs.drop p.toNat).take mk.length = mk)
theorem isB_low {mk bs : List UInt8} {p : Int} (h : p < 0) : isB mk bs p = false := by unfold isB; simp; omega
theorem isB_high {mk bs : List UInt8} {p : Int} (h : (bs.length : Int) - mk.length < p) : isB mk bs p = false := by unfold isB; simp; omega
theorem isB_in {mk bs : List UInt8} {p : Nat} (h : p + mk.length ≤ bs.length) : isB mk bs (p : Int) = decide ((bs.drop p).take mk.length = mk) := by
  unfold isB
  rw [decide_eq_true (by omega), decide_eq_true (by omega), Int.toNat_natCast]
  rfl
theorem bytes_eq (X : List UInt8) (s : ByteArray) : ((⟨X.toArray⟩ : ByteArray).toList == s.toList) = decide (X = s.data.toList) := by
  rw [ByteArray.toList_eq, ByteArray.toList_eq, Bool.eq_iff_iff]
  simp

/-- The reader's state behind a mark at a place. -/
def openS (bs : List UInt8) (p : Nat) : RSt := (RSt.row bs ⟨p, false⟩ 4).2
/-- What Check tells, of a reader in a state, from a place on. -/
def chkN (bs : List UInt8) (p : Nat) (s : RSt) : Nat :=
  if (s.num bs 4).2.bad = true then 2 else if (s.num bs 4).1 = sumN ((bs.drop p).take (s.p - p)) then 0 else 4
end Go.Proofs.YtjoifgeljjgflaaDoor
