/- Layer 35: the hash: the program's, the reference's, bit by bit. -/
import Derived.Test.YtglbmghpkipipaaChPl
import Derived.Test.YtglbmghpkipipaaRows
import Derived.Test.YtglbmghpkipipaaGrow
import Derived.Test.YtglbmghpkipipaaFoot
import Derived.Deep.DeepCutAuto
import Derived.IntWalk
import Derived.Outline
namespace Go.Proofs.Ytglbmghpkipipaa
open Go.RowKit

theorem i64_xor_nat (a b : Nat) (ha : a < 9223372036854775808) (hb : b < 9223372036854775808) : bits .xor .i64 (a : Int) (b : Int) = ((a ^^^ b : Nat) : Int) := by
  have hx : a ^^^ b < 2 ^ 63 := Nat.xor_lt_two_pow (by omega) (by omega)
  have of64 : ∀ n : Nat, n < 9223372036854775808 → (BitVec.ofInt 64 (n : Int)).toNat = n := fun n hn => by
    rw [BitVec.ofInt_natCast, BitVec.toNat_ofNat]; exact Nat.mod_eq_of_lt (by omega)
  show IntKind.i64.wrap ((BitVec.ofInt 64 (a : Int) ^^^ BitVec.ofInt 64 (b : Int)).toNat : Int) = _
  rw [BitVec.toNat_xor, of64 a ha, of64 b hb, IntKind.wrap_i64]
  omega
theorem xorN_mul (a b c : UInt8) : xorN a b c = (a.toNat * 1024) ^^^ (b.toNat * 32) ^^^ c.toNat := by
  unfold xorN
  rw [Nat.shiftLeft_eq, Nat.shiftLeft_eq]
set_option maxHeartbeats 1000000 in
theorem hash_any (a b c : UInt8) (w : World) :
    Calls Try.prog 21 #[.int .u8 (a.toNat : Int), .int .u8 (b.toNat : Int), .int .u8 (c.toNat : Int)] w fun e w' => e = .returned (.int .i64 (hashN a b c : Nat)) ∧ w = w' := by
  have ha := UInt8.toNat_lt a
  have hb := UInt8.toNat_lt b
  have hc := UInt8.toNat_lt c
  have hx1 : (a.toNat * 1024) ^^^ (b.toNat * 32) < 2 ^ 18 := Nat.xor_lt_two_pow (by omega) (by omega)
  have hx2 : xorN a b c < 2 ^ 18 := by rw [xorN_mul]; exact Nat.xor_lt_two_pow hx1 (by omega)
  have e1 : bits .xor .i64 ((a.toNat : Int) * 1024) ((b.toNat : Int) * 32) = (((a.toNat * 1024) ^^^ (b.toNat * 32) : Nat) : Int) := by
    have := i64_xor_nat (a.toNat * 1024) (b.toNat * 32) (by omega) (by omega)
    rw [← this]
    simp
  have e2 : bits .xor .i64 (((a.toNat * 1024) ^^^ (b.toNat * 32) : Nat) : Int) (c.toNat : Int) = ((xorN a b c : Nat) : Int) := by
    rw [i64_xor_nat _ _ (by omega) (by omega), xorN_mul]
  have HX : Hid (((xorN a b c : Nat) : Int) % 4096 = ((hashN a b c : Nat) : Int)) := by show _ = _; rw [hashN]; omega
  generalize (a.toNat * 1024) ^^^ (b.toNat * 32) = x1 at *
  generalize xorN a b c = x2 at *
  generalize hashN a b c = h at *
  generalize a.toNat = an at *
  generalize b.toNat = bn at *
  generalize c.toNat = cn at *
  go_enter Try.func21, Try.ntmps21
  go_wp2
  go_ret
  exact ⟨by rw [← HX.out]; rfl, rfl⟩
end Go.Proofs.Ytglbmghpkipipaa
