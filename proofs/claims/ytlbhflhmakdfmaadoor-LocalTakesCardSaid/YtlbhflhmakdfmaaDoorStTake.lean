/- Layer 17: tombstones are taken. -/
import Derived.Test.YtlbhflhmakdfmaaDoorSt
import Derived.Test.YtlbhflhmakdfmaaDoorKSts
namespace Go.Proofs.YtlbhflhmakdfmaaDoor
open Go.RowKit CrcP FieldP

def tombMark : ByteArray := ⟨#[84, 79, 77, 66]⟩
theorem tombMark_list : tombMark.data.toList = tombBytes := rfl
/-- The reader's states and what it reads: how many bytes, then the bytes. -/
def stS1 (bs : List UInt8) (p : Nat) : Nat × RSt := (openS bs p).num bs 1
def stS2 (bs : List UInt8) (p : Nat) : List UInt8 × RSt := (stS1 bs p).2.row bs (stS1 bs p).1
def stR (bs : List UInt8) (p : Nat) : Nat := if chkN bs p (stS2 bs p).2 = 0 then (if rightB (stS2 bs p).1 = true then 0 else 6) else chkN bs p (stS2 bs p).2
def stV (bs : List UInt8) (p : Nat) : Value :=
  .tuple #[.string (if stR bs p = 0 then ⟨(stS2 bs p).1.toArray⟩ else ⟨#[]⟩), .int .i64 (if stR bs p = 0 then (((stS2 bs p).2.num bs 4).2.p : Int) else 0), .int .i64 (stR bs p : Nat)]
theorem stV_good {bs : List UInt8} {p : Nat} (h : stR bs p = 0) : stV bs p = .tuple #[.string ⟨(stS2 bs p).1.toArray⟩, .int .i64 (((stS2 bs p).2.num bs 4).2.p : Int), .int .i64 0] := by
  unfold stV
  rw [if_pos h, if_pos h, h]
  rfl
theorem stV_bad {bs : List UInt8} {p : Nat} (h : stR bs p ≠ 0) : stV bs p = .tuple #[.string ⟨#[]⟩, .int .i64 0, .int .i64 (stR bs p : Nat)] := by
  unfold stV
  rw [if_neg h, if_neg h]

end Go.Proofs.YtlbhflhmakdfmaaDoor
