/- Plain mathematics: bytes with their sum behind them all have one sum; a burst in them shows, wherever it is. -/
import Derived.Test.YtjoifgeljjgflaaDoorCrcBits
import Derived.Test.YtjoifgeljjgflaaDoorKSeal
namespace Go.Proofs.YtjoifgeljjgflaaDoor
open Go.RowKit CrcP FieldP

theorem low_add (a b x : Nat) : lowBits a x ++ lowBits b (x / 2 ^ a) = lowBits (a + b) x := by
  unfold lowBits
  rw [List.range_add, List.map_append, List.map_map]
  congr 1
  apply List.map_congr_left
  intro i _
  show (x / 2 ^ a).testBit i = x.testBit (a + i)
  rw [Nat.testBit_div_two_pow, Nat.add_comm]
theorem low_mod (m x : Nat) : lowBits m (x % 2 ^ m) = lowBits m x := by
  unfold lowBits
  apply List.map_congr_left
  intro i hi
  rw [Nat.testBit_mod_two_pow]
  simp [List.mem_range.1 hi]
theorem allBits_putN : ∀ (k x : Nat), allBits (putN x k) = lowBits (8 * k) x
  | 0, x => rfl
  | k + 1, x => by
    rw [putN_cons, allBits, allBits_putN k, byte_toNat, show (256 : Nat) = 2 ^ 8 from rfl, low_mod, low_add, show 8 + 8 * k = 8 * (k + 1) by omega]
/-- The sum of all bytes that bear their sum. -/
def resid : Nat := turns 32 4294967295 ^^^ 4294967295
theorem sealed_sum (m : List UInt8) : sumN (sealed m) = resid := by
  unfold sealed resid
  show goN 4294967295 (m ++ putN (goN 4294967295 m ^^^ 4294967295) 4) ^^^ 4294967295 = _
  rw [goN_append]
  have hlt : goN 4294967295 m < 4294967296 := goN_lt m (by omega)
  have hx : goN 4294967295 m ^^^ 4294967295 < 2 ^ 32 := Nat.xor_lt_two_pow (n := 32) hlt (by omega)
  generalize goN 4294967295 m = s at *
  rw [goN_serial, allBits_putN, show 8 * 4 = 32 from rfl, ← turns_serial 32 s _ hx, ← Nat.xor_assoc, Nat.xor_self, Nat.zero_xor]
theorem putN_val : ∀ l : List UInt8, putN (val l) l.length = l
  | [] => rfl
  | x :: l => by
    rw [List.length_cons, putN_cons, val]
    have hx := UInt8.toNat_lt x
    have h1 : (x.toNat + 256 * val l) / 256 = val l := by omega
    rw [h1, putN_val l]
    congr 1
    apply UInt8.toNat_inj.1
    rw [byte_toNat]
    omega
theorem sealed_of {cs : List UInt8} {k : Nat} (hl : cs.length = k + 4) (h : val ((cs.drop k).take 4) = sumN (cs.take k)) : cs = sealed (cs.take k) := by
  have h4 : (cs.drop k).take 4 = cs.drop k := List.take_of_length_le (by rw [List.length_drop]; omega)
  rw [h4] at h
  unfold sealed
  rw [← h]
  have h5 : (cs.drop k).length = 4 := by rw [List.length_drop]; omega
  have := putN_val (cs.drop k)
  rw [h5] at this
  rw [this]
  exact (List.take_append_drop k cs).symm
/-- What is flipped in bytes that bear their sum shows, or nothing is flipped. -/
theorem burst_sealed {m : List UInt8} {a bits k : Nat} (hl : (sealed m).length = k + 4) (h : val (((flipK (sealed m) a bits 32).drop k).take 4) = sumN ((flipK (sealed m) a bits 32).take k)) : sealed m = flipK (sealed m) a bits 32 := by
  by_cases ha : a / 8 < (sealed m).length
  · refine (burst (sealed m) a bits ha).1 ?_
    have hl2 : (flipK (sealed m) a bits 32).length = k + 4 := by rw [length_flipK]; exact hl
    rw [sealed_of hl2 h, sealed_sum, sealed_sum]
  · have := flipK_end (sealed m) a bits 0 (by omega) 32
    rw [Nat.zero_add] at this
    rw [this]
    rfl
end Go.Proofs.YtjoifgeljjgflaaDoor
