/- The contracts of the reader's Take and Align, and of the reference's Unpack and Number. -/
import Derived.Test.YtjaeldollekhiaaBitsRd
namespace Go.Proofs.Ytjaeldollekhiaa
open Go.RowKit BitsP
attribute [local go_sem ↓] Go.wp_at_zero Go.wp_at_succ

/-- What Take tells. -/
def takes (bs : List UInt8) (p q : Nat) : Nat := if p + q ≤ 8 * bs.length then num (((unpack bs).drop p).take q) else 0
theorem takes_yes {bs : List UInt8} {p q : Nat} (h : p + q ≤ 8 * bs.length) : takes bs p q = num (((unpack bs).drop p).take q) := if_pos h
theorem takes_no {bs : List UInt8} {p q : Nat} (h : ¬ p + q ≤ 8 * bs.length) : takes bs p q = 0 := if_neg h

theorem bitBytes_unpack_one (x : UInt8) : bitsOf x.toNat 8 = unpack [x] := by rw [unpack, unpack, List.append_nil]

end Go.Proofs.Ytjaeldollekhiaa
