/- The sums of bytes: the contracts of Make, Go, Sum and Join over a table in memory, and of the reference's Go and Sum. -/
import Derived.Test.YtaknladkodibaaaGreatRows
import Derived.Test.YtaknladkodibaaaGreatMgQ21500
import Derived.Test.YtaknladkodibaaaGreatMgQ21505
import Derived.WalkKit
import Derived.WalkSpells
import Derived.WalkLawsBesides
import Derived.Lib.Hide
import Derived.Deep.WholeRow
import Derived.Test.YtaknladkodibaaaGreatMgQ21501
namespace Go.Proofs.YtaknladkodibaaaGreat
open Go.RowKit CrcP

theorem ret_int {k : IntKind} {a b : Int} (h : a = b) : Ending.returned (.int k a) = .returned (.int k b) := by rw [h]
end Go.Proofs.YtaknladkodibaaaGreat
/- The contracts of layer 3's functions that only compute. -/
namespace Go.Proofs.YtaknladkodibaaaGreat
open Go.RowKit BitsP

theorem ret_int3 {k : IntKind} {a b : Int} (h : a = b) : Ending.returned (.int k a) = .returned (.int k b) := by rw [h]

set_option maxHeartbeats 400000 in
theorem count3_any (b : Int) (w : World) (h0 : -9223372036854775808 ≤ b) (h1 : b ≤ 9223372036854775807) :
    Calls Tryz.prog 61 #[.int .i64 b] w fun e w' => e = .returned (.int .i64 (cnt b : Nat)) ∧ w = w' := by
  by_cases c1 : b < 0
  · have HC : Hid ((cnt b : Int) = 0) := by show (cnt b : Int) = 0; unfold cnt; rw [if_pos c1]; rfl
    go_enter Tryz.func61, Tryz.ntmps61
    go_wp2
    go_ret
    exact ⟨ret_int3 HC.out.symm, rfl⟩
  · by_cases c4 : 32 < b
    · have HC : Hid ((cnt b : Int) = 32) := by show (cnt b : Int) = 32; unfold cnt; rw [if_neg c1, if_pos c4]; rfl
      go_enter Tryz.func61, Tryz.ntmps61
      go_wp2
      go_ret
      exact ⟨ret_int3 HC.out.symm, rfl⟩
    · have HC : Hid ((cnt b : Int) = b) := cnt_of (by omega) (by omega)
      go_enter Tryz.func61, Tryz.ntmps61
      go_wp2
      go_ret
      exact ⟨ret_int3 HC.out.symm, rfl⟩

theorem pow_int (k : Nat) : ((2 : Int) ^ k) = (p2 k : Int) := by rw [p2_pow]; simp
theorem p2_lt32 {k : Nat} (h : k ≤ 32) : p2 k ≤ 4294967296 := p2_le h
theorem wrap_p2 {k : Nat} (h : k ≤ 32) : IntKind.u64.wrap ((2 : Int) ^ k) = (p2 k : Int) := by
  have := p2_lt32 h
  rw [pow_int]
  exact IntWalk.u64_in _ (by omega)
theorem low_val {n k : Nat} (hn : n < 18446744073709551616) (hk : k ≤ 32) : bits .and .u64 (n : Int) (IntKind.u64.wrap (IntKind.u64.wrap (2 ^ k) - 1)) = ((n % p2 k : Nat) : Int) := by
  have h1 := p2_lt32 hk
  have h2 := p2_pos k
  rw [wrap_p2 hk, IntWalk.u64_in _ (by omega)]
  have e : (p2 k : Int) - 1 = ((p2 k - 1 : Nat) : Int) := by omega
  rw [e, u64_and_nat _ _ hn (by omega), p2_pow, Nat.and_two_pow_sub_one_eq_mod]

set_option maxHeartbeats 400000 in
theorem low_any (n : Int) (k : Nat) (w : World) (n0 : 0 ≤ n) (n1 : n < 18446744073709551616) (hk : k ≤ 32) :
    Calls Tryz.prog 60 #[.int .u64 n, .int .i64 k] w fun e w' => e = .returned (.int .u64 (n.toNat % p2 k : Nat)) ∧ w = w' := by
  obtain ⟨m, rfl⟩ := Int.eq_ofNat_of_zero_le n0
  rw [Int.toNat_natCast]
  have hm : m < 18446744073709551616 := by omega
  go_enter Tryz.func60, Tryz.ntmps60
  go_wp2
  go_ret
  exact ⟨ret_int3 (low_val hm hk), rfl⟩
end Go.Proofs.YtaknladkodibaaaGreat
