/- Marks and sums: a sum laid behind bytes; a mark, three numbers and the sum. -/
import Derived.Test.YtnccbnadfgilaaaKField
namespace Go.Proofs.Ytnccbnadfgilaaa
open Go.RowKit CrcP FieldP

theorem sumN_lt (bs : List UInt8) : sumN bs < 4294967296 := Nat.xor_lt_two_pow (n := 32) (goN_lt bs (by omega)) (by omega)
/-- Bytes, and their sum behind them. -/
def sealed (bs : List UInt8) : List UInt8 := bs ++ putN (sumN bs) 4
theorem sealed_length (bs : List UInt8) : (sealed bs).length = bs.length + 4 := by unfold sealed; rw [List.length_append, putN_length]
theorem cnt4 : cnt 4 = 4 := rfl

set_option maxHeartbeats 1000000 in
theorem close_any (g : Nat) (v : Value) (l : Nat) (bs : List UInt8) (base : Nat) (w : World) (hl : l ≤ 1099511627776) (hown : OwnY w base v l bs) (hbase : base ≤ w.heap.size) (hT : Table w g) :
    Calls Try.prog 49 #[.pointer (some ⟨g, 0, none⟩), v] w fun e w' => ∃ A c, e = .returned (.slice A (l + 4) c) ∧ AppB w base v (l + 4) (sealed bs) w' (.slice A (l + 4) c) := by
  obtain ⟨A, c, rfl⟩ := hown.form
  have hlen : bs.length = l := by have := hown.1; rwa [byteCells_length] at this
  have HS := Lib.hid (sum_any g A l c bs w.heap.size w hlen (by omega) hT hown.cells)
  have hlt := sumN_lt bs
  have HP := Lib.hid (put_any (.slice A l c) l bs (sumN bs : Nat) 4 base w hl (by omega) (by omega) (by omega) (by omega) hown hbase)
  rw [Int.toNat_natCast, cnt4] at HP
  have HD : Hid (sealed bs = bs ++ putN (sumN bs) 4) := rfl
  clear hown hT hlen
  generalize sumN bs = s at *
  go_enter Try.func49, Try.ntmps49
  go_wp2_with fail
  refine HS.out.mono ?_
  rintro e w' ⟨rfl, rfl⟩
  go_wp2_with fail
  refine HP.out.mono ?_
  rintro e w2 ⟨A2, c2, rfl, happ⟩
  have HA := Lib.hid happ
  clear happ
  go_wp2
  go_ret
  exact ⟨A2, c2, rfl, by rw [HD.out]; exact HA.out⟩

end Go.Proofs.Ytnccbnadfgilaaa
