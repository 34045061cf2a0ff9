/- The reference's number that stands somewhere. -/
import Derived.Test.YtnccbnadfgilaaaKFieldR
namespace Go.Proofs.Ytnccbnadfgilaaa
open Go.RowKit FieldP

set_option maxRecDepth 100000 in
set_option maxHeartbeats 400000 in
theorem refGet_any (A : Option Addr) (l c : Nat) (bs : List UInt8) (B : Nat) (a b : Int) (w : World) (hl : bs.length = l) (hm : l ≤ 9223372036854775807)
    (a0 : -9223372036854775808 ≤ a) (a1 : a ≤ 9223372036854775807) (b0 : -9223372036854775808 ≤ b) (b1 : b ≤ 9223372036854775807) (hb : Bytes w B A bs) :
    Calls Try.prog 40 #[.slice A l c, .int .i64 a, .int .i64 b] w fun e w' => e = .returned (.tuple #[.int .u32 (orZero (getN bs a (cnt b))).1, .bool (orZero (getN bs a (cnt b))).2]) ∧ w = w' := by
  have HL := Lib.hid hl
  have HB : Hid (Bytes w B A bs) := hb
  have HCNT := Lib.hid (width_any b w b0 b1)
  have hc4 := cnt_le b
  have hc1 := cnt_pos b
  clear hl hb b0 b1
  generalize cnt b = q at *
  by_cases ha : a < 0
  · have HG : Hid (getN bs a q = none) := by show getN bs a q = none; unfold getN; rw [if_neg (by omega)]
    go_enter Try.func40, Try.ntmps40
    go_wp2_with (go_at_call 52; refine HCNT.out.mono ?_; rintro e w' ⟨rfl, rfl⟩)
    go_ret2
    exact ⟨by rw [HG.out]; rfl, rfl⟩
  obtain ⟨p, rfl⟩ := Int.eq_ofNat_of_zero_le (show 0 ≤ a by omega)
  by_cases ht : l ≤ p
  · have HG : Hid (getN bs p q = none) := by show getN bs p q = none; unfold getN; rw [if_neg (by rw [HL.out]; omega)]
    have hd : decide ((l : Int) ≤ (p : Int)) = true := by simp; omega
    go_enter Try.func40, Try.ntmps40
    go_wp2_with (go_at_call 52; refine HCNT.out.mono ?_; rintro e w' ⟨rfl, rfl⟩)
    go_ret2
    exact ⟨by rw [HG.out]; rfl, rfl⟩
  by_cases ht2 : (l : Int) - p < q
  · have HG : Hid (getN bs p q = none) := by show getN bs p q = none; unfold getN; rw [if_neg (by rw [HL.out]; omega)]
    go_enter Try.func40, Try.ntmps40
    go_wp2_with (go_at_call 52; refine HCNT.out.mono ?_; rintro e w' ⟨rfl, rfl⟩)
    go_ret2
    exact ⟨by rw [HG.out]; rfl, rfl⟩
  have HG := Lib.hid (getN_some (bs := bs) (a := p) (k := q) (by rw [HL.out]; omega))
  go_enter Try.func40, Try.ntmps40
  go_wp2_with (go_at_call 52; refine HCNT.out.mono ?_; rintro e w' ⟨rfl, rfl⟩)
  go_loop [9, 10, 11] (fun n u i => ∃ k : Nat, k ≤ q ∧ i = .int .i64 k ∧ n = .int .u32 (val ((bs.drop p).take k) : Nat) ∧ u = .int .u32 (unit k % 4294967296 : Nat)) (fun _ _ i => q - (intOf i).toNat)
  case atStart => exact ⟨0, Nat.zero_le _, rfl, by simp [val], rfl⟩
  case round =>
    obtain ⟨k, hk, rfl, rfl, rfl⟩ := hrel
    by_cases hkq : k < q
    · obtain ⟨x, hxk⟩ := get_lt (bs := bs) (k := p + k) (by rw [HL.out]; omega)
      have HS := Lib.hid (val_snoc hxk)
      have hvl := val_take_lt (bs := bs) (a := p) (k := k) (by rw [HL.out]; omega)
      obtain ⟨b', o, rfl, hbB, hcell⟩ := HB.out (by rw [byteCells_length, HL.out]; omega)
      have hc := hcell (p + k) _ (byteCells_get hxk)
      have hx : x.toNat < 256 := UInt8.toNat_lt x
      clear hcell hxk
      generalize val ((bs.drop p).take k) = m at *
      generalize x.toNat = x at *
      have hk4 : k = 0 ∨ k = 1 ∨ k = 2 ∨ k = 3 := by omega
      rcases hk4 with rfl | rfl | rfl | rfl
      · rw [Nat.add_zero] at hc
        have hv : m < 1 := hvl
        have hu : ((unit 0 % 4294967296 : Nat) : Int) = 1 := rfl
        rw [hu]
        clear hvl hu
        go_wp2
        go_round
        case rel => exact ⟨1, by omega, by go_num, by rw [HS.out]; exact congrArg _ (by show _ = ((m + 1 * x : Nat) : Int); omega), rfl⟩
        case measure => simp [intOf]; omega
      · have hv : m < 256 := hvl
        have hu : ((unit 1 % 4294967296 : Nat) : Int) = 256 := rfl
        rw [hu]
        clear hvl hu
        go_wp2
        go_round
        case rel => exact ⟨2, by omega, by go_num, by rw [HS.out]; exact congrArg _ (by show _ = ((m + 256 * x : Nat) : Int); omega), rfl⟩
        case measure => simp [intOf]; omega
      · have hv : m < 65536 := hvl
        have hu : ((unit 2 % 4294967296 : Nat) : Int) = 65536 := rfl
        rw [hu]
        clear hvl hu
        go_wp2
        go_round
        case rel => exact ⟨3, by omega, by go_num, by rw [HS.out]; exact congrArg _ (by show _ = ((m + 65536 * x : Nat) : Int); omega), rfl⟩
        case measure => simp [intOf]; omega
      · have hv : m < 16777216 := hvl
        have hu : ((unit 3 % 4294967296 : Nat) : Int) = 16777216 := rfl
        rw [hu]
        clear hvl hu
        go_wp2
        go_round
        case rel => exact ⟨4, by omega, by go_num, by rw [HS.out]; exact congrArg _ (by show _ = ((m + 16777216 * x : Nat) : Int); omega), rfl⟩
        case measure => simp [intOf]; omega
    · obtain rfl : k = q := by omega
      go_wp2
      go_ret2
      exact ⟨by rw [HG.out]; rfl, rfl⟩
end Go.Proofs.Ytnccbnadfgilaaa
