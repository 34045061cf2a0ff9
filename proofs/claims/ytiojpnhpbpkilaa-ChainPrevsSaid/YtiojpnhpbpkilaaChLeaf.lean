/- Layer 35: the hash: the program's, the reference's, bit by bit. -/
import Derived.Test.YtiojpnhpbpkilaaChPl
import Derived.Test.YtiojpnhpbpkilaaRows
import Derived.Test.YtiojpnhpbpkilaaGrow
import Derived.Test.YtiojpnhpbpkilaaFoot
import Derived.Deep.DeepCutAuto
import Derived.IntWalk
import Derived.Outline
namespace Go.Proofs.Ytiojpnhpbpkilaa
open Go.RowKit

theorem i64_xor_nat (a b : Nat) (ha : a < 9223372036854775808) (hb : b < 9223372036854775808) : bits .xor .i64 (a : Int) (b : Int) = ((a ^^^ b : Nat) : Int) := by
  have hx : a ^^^ b < 2 ^ 63 := Nat.xor_lt_two_pow (by omega) (by omega)
  have of64 : ∀ n : Nat, n < 9223372036854775808 → (BitVec.ofInt 64 (n : Int)).toNat = n := fun n hn => by
    rw [BitVec.ofInt_natCast, BitVec.toNat_ofNat]; exact Nat.mod_eq_of_lt (by omega)
  show IntKind.i64.wrap ((BitVec.ofInt 64 (a : Int) ^^^ BitVec.ofInt 64 (b : Int)).toNat : Int) = _
  rw [BitVec.toNat_xor, of64 a ha, of64 b hb, IntKind.wrap_i64]
  omega
theorem xorN_mul (a b c : UInt8) : xorN a b c = (a.toNat * 1024) ^^^ (b.toNat * 32) ^^^ c.toNat := by
  unfold xorN
  rw [Nat.shiftLeft_eq, Nat.shiftLeft_eq]
set_option maxHeartbeats 1000000 in
theorem hash_any (a b c : UInt8) (w : World) :
    Calls Try.prog 6 #[.int .u8 (a.toNat : Int), .int .u8 (b.toNat : Int), .int .u8 (c.toNat : Int)] w fun e w' => e = .returned (.int .i64 (hashN a b c : Nat)) ∧ w = w' := by
  have ha := UInt8.toNat_lt a
  have hb := UInt8.toNat_lt b
  have hc := UInt8.toNat_lt c
  have hx1 : (a.toNat * 1024) ^^^ (b.toNat * 32) < 2 ^ 18 := Nat.xor_lt_two_pow (by omega) (by omega)
  have hx2 : xorN a b c < 2 ^ 18 := by rw [xorN_mul]; exact Nat.xor_lt_two_pow hx1 (by omega)
  have e1 : bits .xor .i64 ((a.toNat : Int) * 1024) ((b.toNat : Int) * 32) = (((a.toNat * 1024) ^^^ (b.toNat * 32) : Nat) : Int) := by
    have := i64_xor_nat (a.toNat * 1024) (b.toNat * 32) (by omega) (by omega)
    rw [← this]
    simp
  have e2 : bits .xor .i64 (((a.toNat * 1024) ^^^ (b.toNat * 32) : Nat) : Int) (c.toNat : Int) = ((xorN a b c : Nat) : Int) := by
    rw [i64_xor_nat _ _ (by omega) (by omega), xorN_mul]
  have HX : Hid (((xorN a b c : Nat) : Int) % 4096 = ((hashN a b c : Nat) : Int)) := by show _ = _; rw [hashN]; omega
  generalize (a.toNat * 1024) ^^^ (b.toNat * 32) = x1 at *
  generalize xorN a b c = x2 at *
  generalize hashN a b c = h at *
  generalize a.toNat = an at *
  generalize b.toNat = bn at *
  generalize c.toNat = cn at *
  go_enter Try.func6, Try.ntmps6
  go_wp2
  go_ret
  exact ⟨by rw [← HX.out]; rfl, rfl⟩
set_option maxHeartbeats 1000000 in
theorem bit_any (a : UInt8) (k : Nat) (w : World) (hk : k ≤ 1000) :
    Calls Try.prog 15 #[.int .u8 (a.toNat : Int), .int .i64 (k : Int)] w fun e w' => e = .returned (.int .i64 (bitN a k : Nat)) ∧ w = w' := by
  have ha := UInt8.toNat_lt a
  go_enter Try.func15, Try.ntmps15
  go_wp2
  go_loopg [5, 6] k (fun gk n i wr => ∃ j m : Nat, j + gk = k ∧ i = .int .i64 j ∧ n = .int .i64 m ∧ m = a.toNat / 2 ^ j ∧ m < 256 ∧ wr = w)
  case atStart => exact ⟨0, a.toNat, by omega, rfl, rfl, by simp, ha, rfl⟩
  case round =>
    obtain ⟨j, m, hj, rfl, rfl, hm, hm2, rfl⟩ := hrel
    by_cases h : gk = 0
    · obtain rfl : j = k := by omega
      have HB : Hid (bitN a j = m % 2) := by show _ = _; rw [bitN, hm]
      clear hm
      go_wp2
      go_ret
      exact ⟨by rw [HB.out]; go_num, rfl⟩
    · have HS : Hid (m / 2 = a.toNat / 2 ^ (j + 1)) := by show _ = _; rw [hm, Nat.pow_succ, Nat.div_div_eq_div_mul]
      clear hm
      go_wp2
      go_roundg (gk - 1)
      case measure => omega
      case rel => exact ⟨j + 1, m / 2, by omega, by go_num, by go_num, HS.out, by omega, rfl⟩
set_option maxHeartbeats 2000000 in
theorem rhash_any (a b c : UInt8) (w : World) :
    Calls Try.prog 7 #[.int .u8 (a.toNat : Int), .int .u8 (b.toNat : Int), .int .u8 (c.toNat : Int)] w fun e w' => e = .returned (.int .i64 (hashN a b c : Nat)) ∧ w = w' := by
  have HA := Lib.hid (fun k (h : k ≤ 1000) => bit_any a k w h)
  have HB := Lib.hid (fun k (h : k ≤ 1000) => bit_any b k w h)
  have HC := Lib.hid (fun k (h : k ≤ 1000) => bit_any c k w h)
  go_enter Try.func7, Try.ntmps7
  go_wp2
  go_loopg [7, 8, 9] 12 (fun gk out p k wr => ∃ j q : Nat, j + gk = 12 ∧ k = .int .i64 j ∧ out = .int .i64 (xorN a b c % q : Nat) ∧ p = .int .i64 q ∧ q = 2 ^ j ∧ q ≤ 4096 ∧ wr = w)
  case atStart => exact ⟨0, 1, by omega, rfl, by rw [Nat.mod_one]; rfl, rfl, rfl, by omega, rfl⟩
  case round =>
    obtain ⟨j, q, hj, rfl, rfl, rfl, hq, hq2, rfl⟩ := hrel
    have HQ := Lib.hid hq
    clear hq
    by_cases h : gk = 0
    · obtain rfl : j = 12 := by omega
      obtain rfl : q = 4096 := HQ.out
      go_wp2
      go_ret
      exact ⟨rfl, rfl⟩
    · obtain ⟨s, hs⟩ : ∃ s, onesN a b c j = s := ⟨_, rfl⟩
      obtain ⟨r, hr⟩ : ∃ r, s % 2 = r := ⟨_, rfl⟩
      obtain ⟨t, ht⟩ : ∃ t, q * r = t := ⟨_, rfl⟩
      obtain ⟨m, hm⟩ : ∃ m, xorN a b c % q = m := ⟨_, rfl⟩
      have hq1 : 1 ≤ q := by rw [HQ.out]; exact Nat.one_le_two_pow
      have hq0 : q ≤ 2048 := by rw [HQ.out]; exact Nat.pow_le_pow_right (n := 2) (by omega) (show j ≤ 11 by omega)
      have HN : Hid (xorN a b c % (2 * q) = m + t ∧ 2 * q = 2 ^ (j + 1)) := by
        show _ ∧ _
        have h1 := hash_step a b c j
        rw [← HQ.out, hs, hr, hm, ht] at h1
        have h2 : 2 * q = 2 ^ (j + 1) := by rw [HQ.out, Nat.pow_succ, Nat.mul_comm]
        exact ⟨by rw [h2]; exact h1, h2⟩
      have hr2 : r < 2 := by omega
      have ht2 : t ≤ 2048 := by
        rw [← ht]
        exact Nat.le_trans (Nat.mul_le_mul_left q (show r ≤ 1 by omega)) (by omega)
      have hm2 : m < 4096 := by rw [← hm]; exact Nat.lt_of_lt_of_le (Nat.mod_lt _ hq1) hq2
      have htI : (q : Int) * (r : Int) = (t : Int) := by rw [← ht]; exact (Int.natCast_mul q r).symm
      have hrI : (s : Int) % 2 = (r : Int) := by omega
      have hs4 : s < 4 := by rw [← hs]; exact onesN_lt a b c j
      obtain ⟨za, hza⟩ : ∃ z, bitN a (j - 10) = z := ⟨_, rfl⟩
      obtain ⟨zb, hzb⟩ : ∃ z, bitN b (j - 5) = z := ⟨_, rfl⟩
      obtain ⟨zc, hzc⟩ : ∃ z, bitN c j = z := ⟨_, rfl⟩
      have ha2 : za < 2 := by rw [← hza]; exact bitN_lt _ _
      have hb2 : zb < 2 := by rw [← hzb]; exact bitN_lt _ _
      have hc2 : zc < 2 := by rw [← hzc]; exact bitN_lt _ _
      have HA1 := Lib.hid (HA.out (j - 10) (by omega))
      have HB1 := Lib.hid (HB.out (j - 5) (by omega))
      have HC1 := Lib.hid (HC.out j (by omega))
      rw [hza] at HA1
      rw [hzb] at HB1
      rw [hzc] at HC1
      obtain ⟨ja, hja⟩ : ∃ ja, j - 10 = ja := ⟨_, rfl⟩
      obtain ⟨jb, hjb⟩ : ∃ jb, j - 5 = jb := ⟨_, rfl⟩
      rw [hja] at HA1
      rw [hjb] at HB1
      unfold onesN at hs
      rw [hza, hzb, hzc] at hs
      rw [hm]
      clear hm hza hzb hzc hr ht
      by_cases k10 : 10 ≤ j
      · have u10 : decide ((10 : Int) ≤ (j : Int)) = true := by simp; omega
        have u5 : decide ((5 : Int) ≤ (j : Int)) = true := by simp; omega
        have u8 : decide ((j : Int) < 8) = false := by simp; omega
        have ea : (j : Int) - 10 = (ja : Int) := by omega
        have eb : (j : Int) - 5 = (jb : Int) := by omega
        have es : (za : Int) + (zb : Int) = (s : Int) := by simp only [show (10 ≤ j) = True from by simp; omega, show (5 ≤ j) = True from by simp; omega, show (j < 8) = False from by simp; omega, if_true, if_false] at hs; omega
        clear hs
        go_wp2_with (go_at_call 15; first | (refine HA1.out.mono ?_; clear HA1; rintro e w' ⟨rfl, rfl⟩) | (refine HB1.out.mono ?_; clear HB1; rintro e w' ⟨rfl, rfl⟩))
        go_roundg (gk - 1)
        case measure => omega
        case rel => exact ⟨j + 1, 2 * q, by omega, by go_num, by rw [HN.out.1]; go_num, by go_num, HN.out.2, by omega, rfl⟩
      · by_cases k8 : 8 ≤ j
        · have u10 : decide ((10 : Int) ≤ (j : Int)) = false := by simp; omega
          have u5 : decide ((5 : Int) ≤ (j : Int)) = true := by simp; omega
          have u8 : decide ((j : Int) < 8) = false := by simp; omega
          have eb : (j : Int) - 5 = (jb : Int) := by omega
          obtain rfl : zb = s := by simp only [show (10 ≤ j) = False from by simp; omega, show (5 ≤ j) = True from by simp; omega, show (j < 8) = False from by simp; omega, if_true, if_false] at hs; omega
          clear hs
          go_wp2_with (go_at_call 15; (refine HB1.out.mono ?_; clear HB1; rintro e w' ⟨rfl, rfl⟩))
          go_roundg (gk - 1)
          case measure => omega
          case rel => exact ⟨j + 1, 2 * q, by omega, by go_num, by rw [HN.out.1]; go_num, by go_num, HN.out.2, by omega, rfl⟩
        · by_cases k5 : 5 ≤ j
          · have u10 : decide ((10 : Int) ≤ (j : Int)) = false := by simp; omega
            have u5 : decide ((5 : Int) ≤ (j : Int)) = true := by simp; omega
            have u8 : decide ((j : Int) < 8) = true := by simp; omega
            have eb : (j : Int) - 5 = (jb : Int) := by omega
            have es : (zb : Int) + (zc : Int) = (s : Int) := by simp only [show (10 ≤ j) = False from by simp; omega, show (5 ≤ j) = True from by simp; omega, show (j < 8) = True from by simp; omega, if_true, if_false] at hs; omega
            clear hs
            go_wp2_with (go_at_call 15; first | (refine HB1.out.mono ?_; clear HB1; rintro e w' ⟨rfl, rfl⟩) | (refine HC1.out.mono ?_; clear HC1; rintro e w' ⟨rfl, rfl⟩))
            go_roundg (gk - 1)
            case measure => omega
            case rel => exact ⟨j + 1, 2 * q, by omega, by go_num, by rw [HN.out.1]; go_num, by go_num, HN.out.2, by omega, rfl⟩
          · have u10 : decide ((10 : Int) ≤ (j : Int)) = false := by simp; omega
            have u5 : decide ((5 : Int) ≤ (j : Int)) = false := by simp; omega
            have u8 : decide ((j : Int) < 8) = true := by simp; omega
            obtain rfl : zc = s := by simp only [show (10 ≤ j) = False from by simp; omega, show (5 ≤ j) = False from by simp; omega, show (j < 8) = True from by simp; omega, if_true, if_false] at hs; omega
            clear hs
            go_wp2_with (go_at_call 15; (refine HC1.out.mono ?_; clear HC1; rintro e w' ⟨rfl, rfl⟩))
            go_roundg (gk - 1)
            case measure => omega
            case rel => exact ⟨j + 1, 2 * q, by omega, by go_num, by rw [HN.out.1]; go_num, by go_num, HN.out.2, by omega, rfl⟩
end Go.Proofs.Ytiojpnhpbpkilaa
