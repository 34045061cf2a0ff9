/- The contracts of the reference's Go and Sum. -/
import Derived.Test.YtacfigopfgmdfaaCrcLives
namespace Go.Proofs.Ytacfigopfgmdfaa
open Go.RowKit CrcP

theorem u32_xor_byte {a x : Nat} (ha : a < 4294967296) (hx : x < 256) : bits .xor .u32 (a : Int) (x : Int) = ((a ^^^ x : Nat) : Int) := u32_xor_nat a x ha (by omega)

set_option maxRecDepth 100000 in
set_option maxHeartbeats 1000000 in
theorem refGo_any (n : Int) (A : Option Addr) (l c : Nat) (bs : List UInt8) (B : Nat) (w : World) (h0 : 0 ≤ n) (h1 : n < 4294967296) (hl : bs.length = l) (hm : l ≤ 9223372036854775807)
    (hb : Bytes w B A bs) :
    Calls Try.prog 14 #[.int .u32 n, .slice A l c] w fun e w' => e = .returned (.int .u32 (goN n.toNat bs : Nat)) ∧ w = w' := by
  obtain ⟨m, rfl⟩ := Int.eq_ofNat_of_zero_le h0
  rw [Int.toNat_natCast]
  have hm32 : m < 4294967296 := by omega
  clear h0 h1
  have HL := Lib.hid hl
  have HB : Hid (Bytes w B A bs) := hb
  clear hl hb
  go_enter Try.func14, Try.ntmps14
  go_wp2
  go_loop [0, 5] (fun n i => ∃ k : Nat, k ≤ l ∧ i = .int .i64 k ∧ n = .int .u32 (goN m (bs.take k) : Nat)) (fun _ i => l - (intOf i).toNat)
  case atStart => exact ⟨0, Nat.zero_le _, rfl, rfl⟩
  case round =>
    obtain ⟨k, hk, rfl, rfl⟩ := hrel
    have hlt := goN_lt (bs.take k) hm32
    by_cases hkl : k < l
    · obtain ⟨x, hxk⟩ := get_lt (bs := bs) (k := k) (by rw [HL.out]; exact hkl)
      have HS := Lib.hid (goN_take m hxk)
      obtain ⟨b, o, rfl, hbB, hcell⟩ := HB.out (by rw [byteCells_length, HL.out]; omega)
      have hc := hcell k _ (byteCells_get hxk)
      have hx : x.toNat < 256 := UInt8.toNat_lt x
      clear hcell hxk
      generalize goN m (bs.take k) = a at *
      generalize x.toNat = x at *
      have HSS := Lib.hid (goStep_turns a x hx)
      have hxor : a ^^^ x < 4294967296 := Nat.xor_lt_two_pow (n := 32) (by omega) (by omega)
      have hb32 := u32_xor_byte hlt hx
      generalize a ^^^ x = d at *
      go_wp2_with (go_at_call 9; refine (refTurns_any _ _ _ (by omega) (by omega) (by omega) (by omega)).mono ?_; rintro e w' ⟨rfl, rfl⟩; rw [Int.toNat_natCast])
      go_round
      case rel => exact ⟨k + 1, by omega, by go_num, by rw [HS.out, HSS.out]⟩
      case measure => simp [intOf]; omega
    · obtain rfl : k = l := by omega
      have HK : Hid (bs.take k = bs) := List.take_of_length_le (by rw [HL.out]; exact Nat.le_refl _)
      go_wp2
      go_ret
      exact ⟨ret_int (by rw [HK.out]), rfl⟩

theorem sub_all {a : Nat} (h : a < 4294967296) : (4294967295 : Int) - (a : Int) = ((a ^^^ 4294967295 : Nat) : Int) := by
  rw [xor_all h]
  omega

set_option maxRecDepth 100000 in
set_option maxHeartbeats 1000000 in
theorem refSum_any (A : Option Addr) (l c : Nat) (bs : List UInt8) (B : Nat) (w : World) (hl : bs.length = l) (hm : l ≤ 9223372036854775807) (hb : Bytes w B A bs) :
    Calls Try.prog 15 #[.slice A l c] w fun e w' => e = .returned (.int .u32 (sumN bs : Nat)) ∧ w = w' := by
  have H1 := Lib.hid hl
  have HB1 : Hid (Bytes w B A bs) := hb
  clear hl hb
  go_enter Try.func15, Try.ntmps15
  go_wp2_with fail
  refine (refGo_any _ _ _ _ bs B _ (by omega) (by omega) H1.out hm HB1.out).mono ?_
  rintro e w' ⟨rfl, rfl⟩
  rw [show (4294967295 : Int).toNat = 4294967295 from rfl]
  have hlt : goN 4294967295 bs < 4294967296 := goN_lt bs (by omega)
  have HS : Hid (goN 4294967295 bs ^^^ 4294967295 = sumN bs) := rfl
  generalize goN 4294967295 bs = a at *
  go_wp2
  go_ret
  exact ⟨ret_int (by rw [← HS.out]; exact sub_all hlt), rfl⟩

end Go.Proofs.Ytacfigopfgmdfaa
