/- Layer 34: the reference's Turn. -/
import Derived.Test.YtnobeipabfdkjaaQkTurn
import Derived.RegionTactic
import Derived.Deep.LoopGhost
import Derived.BigQuiet
namespace Go.Proofs.Ytnobeipabfdkjaa
open Go.RowKit BitsP

theorem codeB_up (v i : Nat) : codeB v (i + 1) = decide (v / p2 i % 2 = 1) :: codeB v i := by
  unfold codeB
  rw [bitsOf_snoc, List.reverse_append]
  rfl
theorem turn_up (x i : Nat) : turnN x (i + 1) = x / 2 ^ i % 2 + 2 * turnN x i := by
  unfold turnN
  rw [codeB_up, num, p2_pow]
  congr 1
  have : x / 2 ^ i % 2 = 0 ∨ x / 2 ^ i % 2 = 1 := by omega
  rcases this with h | h <;> simp [h, bit]
theorem turn_twice (x b : Nat) : turnN (turnN x b) b = x % 2 ^ b := by
  have e : bitsOf (num (codeB x b)) b = codeB x b := by
    have := bitsOf_num (codeB x b)
    rwa [codeB_len] at this
  unfold turnN
  unfold codeB at e ⊢
  rw [e, List.reverse_reverse, num_bitsOf, p2_pow]
theorem bit_of (n : Int) (i : Nat) (hi : i < 15) : (n / 2 ^ i) % 2 = (((n % 65536).toNat / 2 ^ i % 2 : Nat) : Int) := by
  have h : i = 0 ∨ i = 1 ∨ i = 2 ∨ i = 3 ∨ i = 4 ∨ i = 5 ∨ i = 6 ∨ i = 7 ∨ i = 8 ∨ i = 9 ∨ i = 10 ∨ i = 11 ∨ i = 12 ∨ i = 13 ∨ i = 14 := by omega
  rcases h with rfl | rfl | rfl | rfl | rfl | rfl | rfl | rfl | rfl | rfl | rfl | rfl | rfl | rfl | rfl <;> omega
/-- How many bits the reference turns. -/
def refW (k : Int) : Nat := (min k 15).toNat
theorem refW_clamp (k : Int) : refW k = clampW k := by unfold refW clampW; omega
set_option maxRecDepth 100000 in
set_option maxHeartbeats 400000 in
theorem refTurn_any (n k : Int) (w : World) (hn : -9223372036854775808 ≤ n ∧ n ≤ 9223372036854775807) :
    Calls Try.prog 9 #[.int .i64 n, .int .i64 k] w fun e w' => e = .returned (.int .i64 (turnN (n % 65536).toNat (clampW k) : Nat)) ∧ w = w' := by
  rw [← refW_clamp]
  obtain ⟨x, hx⟩ : ∃ x : Nat, (n % 65536).toNat = x := ⟨_, rfl⟩
  obtain ⟨b, hb⟩ : ∃ b, refW k = b := ⟨_, rfl⟩
  have hb15 : b ≤ 15 := by unfold refW at hb; omega
  have HBIT : Hid (∀ i, i < 15 → (n / 2 ^ i) % 2 = ((x / 2 ^ i % 2 : Nat) : Int)) := fun i hi => by rw [← hx]; exact bit_of n i hi
  rw [hx, hb]
  have hway : (15 < k ∧ b = 15) ∨ (k ≤ 15 ∧ b = k.toNat) := by unfold refW at hb; omega
  clear hx hb
  rcases hway with ⟨h1, rfl⟩ | ⟨h1, h2⟩
  · go_enter Try.func9, Try.ntmps9
    go_wp2
    go_loopg [0, 5, 6] 15 (fun gk nv ov iv wr => ∃ (i : Nat) (ni : Int) (T : Nat), i + gk = 15 ∧ nv = .int .i64 ni ∧ ni = n / 2 ^ i ∧ (-9223372036854775808 ≤ ni ∧ ni ≤ 9223372036854775807) ∧ ov = .int .i64 (T : Int) ∧ T = turnN x i ∧ iv = .int .i64 (i : Int) ∧ wr = w)
    case atStart => exact ⟨0, n, 0, by omega, rfl, by simp, hn, rfl, rfl, rfl, rfl⟩
    case round =>
      obtain ⟨i, ni, T, hi, rfl, hni, hnb, rfl, hT, rfl, rfl⟩ := hrel
      by_cases hib : i < 15
      · have hbit := HBIT.out i (by omega)
        rw [← hni] at hbit
        have hup := turn_up x i
        rw [← hT] at hup
        have hTl := turnN_lt x i
        rw [← hT] at hTl
        have hT15 : T < 32768 := Nat.lt_of_lt_of_le hTl (Nat.le_trans (Nat.pow_le_pow_right (by decide) (show i ≤ 15 by omega)) (by decide))
        have hnx : ni / 2 = n / 2 ^ (i + 1) := by
          rw [hni, Int.ediv_ediv_of_nonneg (Int.pow_nonneg (by decide)), Int.pow_succ]
        obtain ⟨q, hq⟩ : ∃ q, x / 2 ^ i % 2 = q := ⟨_, rfl⟩
        rw [hq] at hbit hup
        have HUP := Lib.hid hup
        have HNX := Lib.hid hnx
        have u0 : i < 15 := hib
        clear hup hnx hni hT hTl HBIT hn
        by_cases he : ni % 2 = 0
        · have hq0 : q = 0 := by omega
          obtain ⟨m, rfl⟩ : ∃ m, ni = 2 * m := ⟨ni / 2, by omega⟩
          have HN2 : Hid (m = n / 2 ^ (i + 1)) := by have := HNX.out; show _ = _; omega
          have HT2 : Hid (2 * T = turnN x (i + 1)) := by have := HUP.out; show _ = _; omega
          have htm : Int.tmod (2 * m) 2 = 0 := by rw [Int.mul_tmod_right]
          have htd : Int.tdiv (2 * m) 2 = m := Int.mul_tdiv_cancel_left m (by decide)
          clear he hq0 hbit hq
          go_wp2
          go_roundg (gk - 1)
          case measure => omega
          case rel => exact ⟨i + 1, m, 2 * T, by omega, by go_num, HN2.out, by omega, by go_num, HT2.out, by go_num, rfl⟩
        · have hq1 : q = 1 := by omega
          obtain ⟨m, rfl⟩ : ∃ m, ni = 2 * m + 1 := ⟨ni / 2, by omega⟩
          have HN2 : Hid (m = n / 2 ^ (i + 1)) := by have := HNX.out; show _ = _; omega
          have HT2 : Hid (2 * T + 1 = turnN x (i + 1)) := by have := HUP.out; show _ = _; omega
          have htd : Int.tdiv (2 * m) 2 = m := Int.mul_tdiv_cancel_left m (by decide)
          have hsb : 2 * m + 1 - 1 = 2 * m := by omega
          by_cases hneg : m < 0
          · have htm : Int.tmod (2 * m + 1) 2 = -1 := by
              have h := Int.tmod_add_mul_tdiv (2 * m + 1) 2
              have h2 : Int.tmod (2 * m + 1) 2 = -(Int.tmod (-(2 * m + 1)) 2) := by rw [Int.neg_tmod]; omega
              rw [h2, Int.tmod_eq_emod_of_nonneg (by omega)]
              omega
            clear he hq1 hbit hq
            go_wp2
            go_roundg (gk - 1)
            case measure => omega
            case rel => exact ⟨i + 1, m, 2 * T + 1, by omega, by go_num, HN2.out, by omega, by go_num, HT2.out, by go_num, rfl⟩
          · have htm : Int.tmod (2 * m + 1) 2 = 1 := by rw [Int.tmod_eq_emod_of_nonneg (by omega)]; omega
            clear he hq1 hbit hq
            go_wp2
            go_roundg (gk - 1)
            case measure => omega
            case rel => exact ⟨i + 1, m, 2 * T + 1, by omega, by go_num, HN2.out, by omega, by go_num, HT2.out, by go_num, rfl⟩
      · obtain rfl : i = 15 := by omega
        rw [hT]
        go_wp2
        go_ret
        exact ⟨rfl, rfl⟩
  · go_enter Try.func9, Try.ntmps9
    go_wp2
    go_loopg [0, 5, 6] b (fun gk nv ov iv wr => ∃ (i : Nat) (ni : Int) (T : Nat), i + gk = b ∧ nv = .int .i64 ni ∧ ni = n / 2 ^ i ∧ (-9223372036854775808 ≤ ni ∧ ni ≤ 9223372036854775807) ∧ ov = .int .i64 (T : Int) ∧ T = turnN x i ∧ iv = .int .i64 (i : Int) ∧ wr = w)
    case atStart => exact ⟨0, n, 0, by omega, rfl, by simp, hn, rfl, rfl, rfl, rfl⟩
    case round =>
      obtain ⟨i, ni, T, hi, rfl, hni, hnb, rfl, hT, rfl, rfl⟩ := hrel
      by_cases hib : i < b
      · have hbit := HBIT.out i (by omega)
        rw [← hni] at hbit
        have hup := turn_up x i
        rw [← hT] at hup
        have hTl := turnN_lt x i
        rw [← hT] at hTl
        have hT15 : T < 32768 := Nat.lt_of_lt_of_le hTl (Nat.le_trans (Nat.pow_le_pow_right (by decide) (show i ≤ 15 by omega)) (by decide))
        have hnx : ni / 2 = n / 2 ^ (i + 1) := by
          rw [hni, Int.ediv_ediv_of_nonneg (Int.pow_nonneg (by decide)), Int.pow_succ]
        obtain ⟨q, hq⟩ : ∃ q, x / 2 ^ i % 2 = q := ⟨_, rfl⟩
        rw [hq] at hbit hup
        have HUP := Lib.hid hup
        have HNX := Lib.hid hnx
        have u0 : (i : Int) < k := by omega
        clear hup hnx hni hT hTl HBIT hn
        by_cases he : ni % 2 = 0
        · have hq0 : q = 0 := by omega
          obtain ⟨m, rfl⟩ : ∃ m, ni = 2 * m := ⟨ni / 2, by omega⟩
          have HN2 : Hid (m = n / 2 ^ (i + 1)) := by have := HNX.out; show _ = _; omega
          have HT2 : Hid (2 * T = turnN x (i + 1)) := by have := HUP.out; show _ = _; omega
          have htm : Int.tmod (2 * m) 2 = 0 := by rw [Int.mul_tmod_right]
          have htd : Int.tdiv (2 * m) 2 = m := Int.mul_tdiv_cancel_left m (by decide)
          clear he hq0 hbit hq
          go_wp2
          go_roundg (gk - 1)
          case measure => omega
          case rel => exact ⟨i + 1, m, 2 * T, by omega, by go_num, HN2.out, by omega, by go_num, HT2.out, by go_num, rfl⟩
        · have hq1 : q = 1 := by omega
          obtain ⟨m, rfl⟩ : ∃ m, ni = 2 * m + 1 := ⟨ni / 2, by omega⟩
          have HN2 : Hid (m = n / 2 ^ (i + 1)) := by have := HNX.out; show _ = _; omega
          have HT2 : Hid (2 * T + 1 = turnN x (i + 1)) := by have := HUP.out; show _ = _; omega
          have htd : Int.tdiv (2 * m) 2 = m := Int.mul_tdiv_cancel_left m (by decide)
          have hsb : 2 * m + 1 - 1 = 2 * m := by omega
          by_cases hneg : m < 0
          · have htm : Int.tmod (2 * m + 1) 2 = -1 := by
              have h := Int.tmod_add_mul_tdiv (2 * m + 1) 2
              have h2 : Int.tmod (2 * m + 1) 2 = -(Int.tmod (-(2 * m + 1)) 2) := by rw [Int.neg_tmod]; omega
              rw [h2, Int.tmod_eq_emod_of_nonneg (by omega)]
              omega
            clear he hq1 hbit hq
            go_wp2
            go_roundg (gk - 1)
            case measure => omega
            case rel => exact ⟨i + 1, m, 2 * T + 1, by omega, by go_num, HN2.out, by omega, by go_num, HT2.out, by go_num, rfl⟩
          · have htm : Int.tmod (2 * m + 1) 2 = 1 := by rw [Int.tmod_eq_emod_of_nonneg (by omega)]; omega
            clear he hq1 hbit hq
            go_wp2
            go_roundg (gk - 1)
            case measure => omega
            case rel => exact ⟨i + 1, m, 2 * T + 1, by omega, by go_num, HN2.out, by omega, by go_num, HT2.out, by go_num, rfl⟩
      · obtain rfl : i = b := by omega
        rw [hT]
        go_wp2
        go_ret
        exact ⟨rfl, rfl⟩
end Go.Proofs.Ytnobeipabfdkjaa
