/- The reference's numbers as bytes. -/
import Derived.Test.YtnccbnadfgilaaaKField
namespace Go.Proofs.Ytnccbnadfgilaaa
open Go.RowKit FieldP

set_option maxHeartbeats 400000 in
theorem width_any (b : Int) (w : World) (h0 : -9223372036854775808 ≤ b) (h1 : b ≤ 9223372036854775807) :
    Calls Try.prog 52 #[.int .i64 b] w fun e w' => e = .returned (.int .i64 (cnt b : Nat)) ∧ w = w' := by
  by_cases c1 : b < 1
  · have HC : Hid ((cnt b : Int) = 1) := by show (cnt b : Int) = 1; unfold cnt; rw [if_pos c1]; rfl
    go_enter Try.func52, Try.ntmps52
    go_wp2
    go_ret
    exact ⟨ret_int HC.out.symm, rfl⟩
  · by_cases c4 : 4 < b
    · have HC : Hid ((cnt b : Int) = 4) := by show (cnt b : Int) = 4; unfold cnt; rw [if_neg c1, if_pos c4]; rfl
      go_enter Try.func52, Try.ntmps52
      go_wp2
      go_ret
      exact ⟨ret_int HC.out.symm, rfl⟩
    · have HC : Hid ((cnt b : Int) = b) := cnt_of (by omega) (by omega)
      go_enter Try.func52, Try.ntmps52
      go_wp2
      go_ret
      exact ⟨ret_int HC.out.symm, rfl⟩
end Go.Proofs.Ytnccbnadfgilaaa
