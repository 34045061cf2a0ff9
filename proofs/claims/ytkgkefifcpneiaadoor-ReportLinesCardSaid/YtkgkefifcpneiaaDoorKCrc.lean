/- The sums of bytes: the contracts of Make, Go, Sum and Join over a table in memory, and of the reference's Go and Sum. -/
import Derived.Test.YtkgkefifcpneiaaDoorRows
import Derived.Test.YtkgkefifcpneiaaDoorCrcPlain
import Derived.Test.YtkgkefifcpneiaaDoorCells
import Derived.WalkKit
import Derived.WalkSpells
import Derived.WalkLawsBesides
import Derived.Lib.Hide
import Derived.Deep.WholeRow
namespace Go.Proofs.YtkgkefifcpneiaaDoor
open Go.RowKit CrcP

theorem ret_int {k : IntKind} {a b : Int} (h : a = b) : Ending.returned (.int k a) = .returned (.int k b) := by rw [h]
theorem bits_turn {m : Nat} (h : m < 4294967296) : bits .xor .u32 ((m : Int) / 2) 3988292384 = ((m / 2 ^^^ 3988292384 : Nat) : Int) := by
  have := u32_xor_nat (m / 2) 3988292384 (by omega) (by omega)
  rw [← this]
  rfl
theorem turn_odd {n : Nat} (h : n % 2 = 1) : turn n = n / 2 ^^^ 3988292384 := by unfold turn; rw [if_pos h]
theorem turn_even {n : Nat} (h : ¬ n % 2 = 1) : turn n = n / 2 := by unfold turn; rw [if_neg h]
/-- Turns as the reference has them: a lone step first. -/
theorem turns_step (k n : Nat) : turns k (turn n) = turn (turns k n) := by
  have h := turns_add 1 n k
  rw [turns] at h
  exact h.symm
/-- The table's cells, as far as it is made: the first k numbers, and 0 behind them. -/
def tabUpto (k : Nat) : Array Value := ((List.range 256).map fun i => Value.int .u32 ((if i < k then tabAt i else 0 : Nat) : Int)).toArray
/-- The table's cells. -/
def tabCells : Array Value := ((List.range 256).map fun i => Value.int .u32 (tabAt i : Int)).toArray
theorem tabUpto_size (k : Nat) : (tabUpto k).size = 256 := by simp [tabUpto]
theorem tabCells_size : tabCells.size = 256 := by simp [tabCells]
theorem tabUpto_zero : Array.replicate 256 (Value.int .u32 0) = tabUpto 0 := by
  apply Array.ext_getElem?
  intro i
  unfold tabUpto
  by_cases h : i < 256
  · simp [h]
  · simp [h]
theorem tabUpto_all : tabUpto 256 = tabCells := by
  unfold tabUpto tabCells
  rw [List.map_congr_left (l := List.range 256) (g := fun i => Value.int .u32 (tabAt i : Int))]
  intro i hi
  rw [if_pos (List.mem_range.1 hi)]
theorem tabUpto_set (k : Nat) (h : k < 256) : (tabUpto k).setIfInBounds k (.int .u32 (tabAt k : Int)) = tabUpto (k + 1) := by
  apply Array.ext_getElem?
  intro i
  rw [Array.getElem?_setIfInBounds, tabUpto_size]
  unfold tabUpto
  by_cases hi : k = i
  · subst hi
    simp [h]
  · by_cases h2 : i < 256
    · by_cases h3 : i < k
      · have : i < k + 1 := by omega
        simp [hi, h2, h3, this]
      · have : ¬ i < k + 1 := by omega
        simp [hi, h2, h3, this]
    · simp [hi, h2]
theorem tabUpto_here (k : Nat) (h : k < 256) : (tabUpto k)[k]? = some (Value.int .u32 0) := by
  unfold tabUpto
  simp [h]
theorem tabCells_at (i : Nat) (h : i < 256) : tabCells[i]? = some (.int .u32 (tabAt i : Int)) := by
  unfold tabCells
  simp [h]
theorem tabCells_one : tabCells.all (·.oneCell') = true := by
  rw [Array.all_eq_true_iff_forall_mem]
  intro v hv
  unfold tabCells at hv
  simp at hv
  obtain ⟨i, _, rfl⟩ := hv
  rfl
theorem below_setRow {B : Nat} {a w : World} (h : Below B a w) {g : Nat} (hg : B ≤ g) (cs : Array Value) : Below B a (w.setRow g cs) :=
  h.trans ⟨rfl, rfl, rfl, by simp, fun k hk => by
    simp only [World.setRow, Array.getElem?_modify]
    rw [if_neg (by omega)]⟩
theorem u32_xor_cast {t a : Nat} (ht : t < 4294967296) (ha : a / 256 < 4294967296) : bits .xor .u32 (t : Int) ((a : Int) / 256) = ((t ^^^ a / 256 : Nat) : Int) := by
  rw [← u32_xor_nat t (a / 256) ht ha]
  rfl
theorem u32_xor_all {t : Nat} (ht : t < 4294967296) : bits .xor .u32 (t : Int) 4294967295 = ((t ^^^ 4294967295 : Nat) : Int) := by
  rw [← u32_xor_nat t 4294967295 ht (by omega)]
  rfl
theorem goN_take {bs : List UInt8} {k : Nat} {x : UInt8} (n : Nat) (h : bs[k]? = some x) : goN n (bs.take (k + 1)) = goStep (goN n (bs.take k)) x.toNat := by
  rw [List.take_add_one, h]
  exact goN_snoc n _ x
theorem goN_sum (a b : List UInt8) : goN (goN 4294967295 a) b ^^^ 4294967295 = sumN (a ++ b) := by unfold sumN; rw [goN_append]
theorem u32_xor_byte {a x : Nat} (ha : a < 4294967296) (hx : x < 256) : bits .xor .u32 (a : Int) (x : Int) = ((a ^^^ x : Nat) : Int) := u32_xor_nat a x ha (by omega)
theorem sub_all {a : Nat} (h : a < 4294967296) : (4294967295 : Int) - (a : Int) = ((a ^^^ 4294967295 : Nat) : Int) := by
  rw [xor_all h]
  omega
end Go.Proofs.YtkgkefifcpneiaaDoor
