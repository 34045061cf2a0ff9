/- The contracts of layer 1's functions that only compute: a turn, some turns, and what bytes in memory are. -/
import Derived.Test.YtacfigopfgmdfaaRows
import Derived.Test.YtacfigopfgmdfaaCrcPlain
import Derived.Test.YtacfigopfgmdfaaCells
import Derived.WalkKit
import Derived.WalkSpells
import Derived.WalkLawsBesides
import Derived.Lib.Hide
import Derived.Deep.WholeRow
namespace Go.Proofs.Ytacfigopfgmdfaa
open Go.RowKit CrcP

theorem ret_int {k : IntKind} {a b : Int} (h : a = b) : Ending.returned (.int k a) = .returned (.int k b) := by rw [h]

theorem bits_turn {m : Nat} (h : m < 4294967296) : bits .xor .u32 ((m : Int) / 2) 3988292384 = ((m / 2 ^^^ 3988292384 : Nat) : Int) := by
  have := u32_xor_nat (m / 2) 3988292384 (by omega) (by omega)
  rw [← this]
  rfl

theorem turn_odd {n : Nat} (h : n % 2 = 1) : turn n = n / 2 ^^^ 3988292384 := by unfold turn; rw [if_pos h]
theorem turn_even {n : Nat} (h : ¬ n % 2 = 1) : turn n = n / 2 := by unfold turn; rw [if_neg h]

set_option maxHeartbeats 400000 in
theorem turn_any (n : Int) (w : World) (h0 : 0 ≤ n) (h1 : n < 4294967296) :
    Calls Try.prog 19 #[.int .u32 n] w fun e w' => e = .returned (.int .u32 (turn n.toNat : Nat)) ∧ w = w' := by
  obtain ⟨m, rfl⟩ := Int.eq_ofNat_of_zero_le h0
  rw [Int.toNat_natCast]
  by_cases hm : m % 2 = 1
  · have HT := Lib.hid (turn_odd hm)
    have hd : (((m : Int) % 2) == 1) = true := by simp; omega
    clear hm
    go_enter Try.func19, Try.ntmps19
    go_wp2
    go_ret
    exact ⟨ret_int (by rw [HT.out]; exact bits_turn (by omega)), rfl⟩
  · have HT := Lib.hid (turn_even hm)
    have hd : (((m : Int) % 2) == 1) = false := by simp; omega
    clear hm
    go_enter Try.func19, Try.ntmps19
    go_wp2
    go_ret
    exact ⟨by rw [HT.out]; rfl, rfl⟩

/-- Turns as the reference has them: a lone step first. -/
theorem turns_step (k n : Nat) : turns k (turn n) = turn (turns k n) := by
  have h := turns_add 1 n k
  rw [turns] at h
  exact h.symm

set_option maxHeartbeats 400000 in
theorem refTurns_any (n : Int) (many : Int) (w : World) (h0 : 0 ≤ n) (h1 : n < 4294967296) (g0 : 0 ≤ many) (g1 : many ≤ 9223372036854775807) :
    Calls Try.prog 9 #[.int .u32 n, .int .i64 many] w fun e w' => e = .returned (.int .u32 (turns many.toNat n.toNat : Nat)) ∧ w = w' := by
  obtain ⟨m, rfl⟩ := Int.eq_ofNat_of_zero_le h0
  obtain ⟨q, rfl⟩ := Int.eq_ofNat_of_zero_le g0
  rw [Int.toNat_natCast, Int.toNat_natCast]
  have hm : m < 4294967296 := by omega
  clear h0 h1
  go_enter Try.func9, Try.ntmps9
  go_wp2
  go_loop [0, 5] (fun n i => ∃ k : Nat, k ≤ q ∧ i = .int .i64 k ∧ n = .int .u32 (turns k m : Nat)) (fun _ i => q - (intOf i).toNat)
  case atStart => exact ⟨0, Nat.zero_le _, rfl, rfl⟩
  case round =>
    obtain ⟨k, hk, rfl, rfl⟩ := hrel
    have hlt : turns k m < 4294967296 := turns_lt hm k
    have HS : Hid (turns (k + 1) m = turn (turns k m)) := rfl
    generalize hga : turns k m = a at *
    have HG := Lib.hid hga
    clear hga
    by_cases hkq : k < q
    · by_cases hp : a % 2 = 1
      · have HT := Lib.hid (turn_odd hp)
        have hd : (((a : Int) % 2) == 1) = true := by simp; omega
        clear hp
        go_wp2
        go_round
        case rel => exact ⟨k + 1, by omega, by go_num, by rw [HS.out, HT.out]; exact congrArg _ (bits_turn hlt)⟩
        case measure => simp [intOf]; omega
      · have HT := Lib.hid (turn_even hp)
        have hd : (((a : Int) % 2) == 1) = false := by simp; omega
        clear hp
        go_wp2
        go_round
        case rel => exact ⟨k + 1, by omega, by go_num, by rw [HS.out, HT.out]; rfl⟩
        case measure => simp [intOf]; omega
    · obtain rfl : k = q := by omega
      go_wp2
      go_ret
      exact ⟨ret_int (by rw [HG.out]), rfl⟩

end Go.Proofs.Ytacfigopfgmdfaa
