/- Layer 34: QuickTurns walked. -/
import Derived.Test.YtnobeipabfdkjaaQkLaw
import Derived.Test.YtnobeipabfdkjaaQkRT
namespace Go.Proofs.Ytnobeipabfdkjaa
open Go.RowKit BitsP

theorem drewB (w : World) (m : Nat) : Below w.heap.size w (w.drewN m) := ⟨rfl, rfl, rfl, Nat.le_refl _, fun _ _ => rfl⟩
/-- What is left of a division that rounds to nought. -/
theorem low_val (n : Int) (b : Nat) (hb : b ≤ 15) : (Int.tmod n ((2 ^ b : Nat) : Int) < 0 ∧ Int.tmod n ((2 ^ b : Nat) : Int) = (((n % 65536).toNat % 2 ^ b : Nat) : Int) - ((2 ^ b : Nat) : Int)) ∨ (0 ≤ Int.tmod n ((2 ^ b : Nat) : Int) ∧ Int.tmod n ((2 ^ b : Nat) : Int) = (((n % 65536).toNat % 2 ^ b : Nat) : Int)) := by
  have hp := Nat.two_pow_pos b
  have hd : ((2 ^ b : Nat) : Int) ∣ 65536 := by
    have h : (2 : Nat) ^ b ∣ 2 ^ 16 := Nat.pow_dvd_pow 2 (by omega)
    have h2 : (2 : Nat) ^ 16 = 65536 := by decide
    rw [h2] at h
    exact Int.natCast_dvd_natCast.2 h
  have e1 : (((n % 65536).toNat % 2 ^ b : Nat) : Int) = n % ((2 ^ b : Nat) : Int) := by
    rw [Int.natCast_emod, Int.toNat_of_nonneg (Int.emod_nonneg n (by decide)), Int.emod_emod_of_dvd n hd]
  rw [e1]
  obtain ⟨S, hS⟩ : ∃ S : Int, ((2 ^ b : Nat) : Int) = S := ⟨_, rfl⟩
  have hS1 : 0 < S := by omega
  rw [hS]
  by_cases h0 : 0 ≤ n
  · right
    rw [Int.tmod_eq_emod_of_nonneg h0]
    exact ⟨Int.emod_nonneg n (by omega), rfl⟩
  · have h1 : Int.tmod n S = -(Int.emod (-n) S) := by
      have : Int.tmod n S = -(Int.tmod (-n) S) := by rw [Int.neg_tmod]; omega
      rw [this, Int.tmod_eq_emod_of_nonneg (by omega)]
      rfl
    have h2 := Int.emod_nonneg (-n) (show S ≠ 0 by omega)
    have h3 := Int.emod_lt_of_pos (-n) hS1
    have h4 := Int.emod_nonneg n (show S ≠ 0 by omega)
    have h5 := Int.emod_lt_of_pos n hS1
    have h6 : (n % S + (-n) % S) % S = 0 := by
      rw [← Int.add_emod, show n + -n = 0 by omega]
      exact Int.zero_emod S
    change Int.tmod n S = -((-n) % S) at h1
    have h7 : n % S + (-n) % S = 0 ∨ n % S + (-n) % S = S := by
      by_cases h8 : n % S + (-n) % S < S
      · left
        rw [Int.emod_eq_of_lt (by omega) h8] at h6
        exact h6
      · right
        have h9 : (n % S + (-n) % S - S) % S = 0 := by rw [Int.sub_emod, h6, Int.emod_self]; exact Int.zero_emod S
        rw [Int.emod_eq_of_lt (by omega) (by omega)] at h9
        omega
    omega
set_option maxRecDepth 100000 in
set_option maxHeartbeats 400000 in
theorem qturns_any (n k : Int) (w : World) (hn : -9223372036854775808 ≤ n ∧ n ≤ 9223372036854775807) (hk : -9223372036854775808 ≤ k ∧ k ≤ 9223372036854775807) :
    Calls Try.prog 3 #[.int .i64 n, .int .i64 k] w fun e w' => e = .returned (.bool true) ∧ Below w.heap.size w w' := by
  rcases (show k < 0 ∨ 15 < k ∨ (0 ≤ k ∧ k ≤ 15) by omega) with h1 | h1 | h1
  · have hcl : clampW k = 0 := by unfold clampW; omega
    obtain ⟨S, hS⟩ : ∃ S, 2 ^ 0 = S := ⟨_, rfl⟩
    have HQ1 := Lib.hid (qturn_any n k w hk)
    have HRT := Lib.hid (fun W' => refTurn_any n k W' hn)
    have HLOW := Lib.hid (low_val n 0 (by omega))
    rw [hS] at HLOW
    obtain ⟨x, hx⟩ : ∃ x : Nat, (n % 65536).toNat = x := ⟨_, rfl⟩
    rw [hx, hcl] at HQ1 HRT
    rw [hx] at HLOW
    have hal := turnN_lt x 0
    have hp15 : (2 : Nat) ^ 0 ≤ 32768 := Nat.le_trans (Nat.pow_le_pow_right (by decide) (show 0 ≤ 15 by omega)) (by decide)
    have HQ2 := Lib.hid (fun W' => qturn_any (turnN x 0 : Nat) k W' hk)
    have e3 : (((turnN x 0 : Nat) : Int) % 65536).toNat = turnN x 0 := by omega
    rw [e3, hcl, turn_twice, hS] at HQ2
    obtain ⟨a, ha⟩ : ∃ a, turnN x 0 = a := ⟨_, rfl⟩
    rw [ha] at HQ1 HRT HQ2 hal
    have haa : (a == a) = true := by simp
    have hS32 : S ≤ 32768 := by omega
    have hS1 : 1 ≤ S := by have := Nat.two_pow_pos 0; omega
    have hxs : x % S < S := Nat.mod_lt _ (by omega)
    obtain ⟨lw, hlw⟩ : ∃ lw, x % S = lw := ⟨_, rfl⟩
    rw [hlw] at HLOW HQ2 hxs
    have hll : (lw == lw) = true := by simp
    have HS := Lib.hid hS
    have ha15 : a ≤ 32768 := by omega
    clear hx hcl hal e3 ha hlw hS hp15
    go_enter Try.func3, Try.ntmps3
    go_wp2_with (go_at_call 8; refine HQ1.out.mono ?_; rintro e w1 ⟨rfl, m1, rfl⟩)
    go_loopg [7, 8] 0 (fun gk sv iv wr => ∃ (i Z : Nat), i + gk = 0 ∧ iv = .int .i64 (i : Int) ∧ sv = .int .i64 (Z : Int) ∧ Z = 2 ^ i ∧ wr = w.drewN m1)
    case atStart => exact ⟨0, 1, by omega, rfl, rfl, rfl, rfl⟩
    case round =>
      obtain ⟨i, Z, hi, rfl, rfl, hZ, rfl⟩ := hrel
      by_cases hib : i < 0
      · have HZ2 : Hid (2 * Z = 2 ^ (i + 1)) := by show _ = _; rw [hZ, Nat.pow_succ, Nat.mul_comm]
        have hZ15 : Z ≤ 32768 := by rw [hZ]; exact Nat.le_trans (Nat.pow_le_pow_right (by decide) (show i ≤ 15 by omega)) (by decide)
        have u0 : (i : Int) < 0 := by omega
        clear hZ
        go_wp2
        go_roundg (gk - 1)
        case measure => omega
        case rel => exact ⟨i + 1, 2 * Z, by omega, by go_num, by go_num, HZ2.out, rfl⟩
      · obtain rfl : i = 0 := by omega
        obtain rfl : Z = S := hZ.trans HS.out
        obtain ⟨r, htm⟩ : ∃ r, Int.tmod n (Z : Int) = r := ⟨_, rfl⟩
        have hr := HLOW.out
        rw [htm] at hr
        have hrb : -40000 ≤ r ∧ r ≤ 40000 := by omega
        by_cases hneg : r < 0
        · obtain rfl : r = (lw : Int) - (Z : Int) := by omega
          have hsm : (lw : Int) - (Z : Int) + (Z : Int) = (lw : Int) := by omega
          have hn0 : ¬ (0 : Int) ≤ (lw : Int) - (Z : Int) := by omega
          clear hr hZ
          go_wp2_with (first
            | (go_at_call 9; refine (HRT.out _).mono ?_; rintro e w' ⟨rfl, rfl⟩)
            | (go_at_call 8; refine (HQ2.out _).mono ?_; rintro e w2 ⟨rfl, m2, rfl⟩)
            | (go_at_call 10; refine (lives34_any _).mono ?_; rintro e w3 ⟨rfl, hb3⟩; have HB3 := Lib.hid hb3; clear hb3))
          go_ret
          exact ⟨rfl, (drewB _ _).trans HB3.out⟩
        · obtain rfl : r = (lw : Int) := by omega
          clear hr hZ
          go_wp2_with (first
            | (go_at_call 9; refine (HRT.out _).mono ?_; rintro e w' ⟨rfl, rfl⟩)
            | (go_at_call 8; refine (HQ2.out _).mono ?_; rintro e w2 ⟨rfl, m2, rfl⟩)
            | (go_at_call 10; refine (lives34_any _).mono ?_; rintro e w3 ⟨rfl, hb3⟩; have HB3 := Lib.hid hb3; clear hb3))
          go_ret
          exact ⟨rfl, (drewB _ _).trans HB3.out⟩
  · have hcl : clampW k = 15 := by unfold clampW; omega
    obtain ⟨S, hS⟩ : ∃ S, 2 ^ 15 = S := ⟨_, rfl⟩
    have HQ1 := Lib.hid (qturn_any n k w hk)
    have HRT := Lib.hid (fun W' => refTurn_any n k W' hn)
    have HLOW := Lib.hid (low_val n 15 (by omega))
    rw [hS] at HLOW
    obtain ⟨x, hx⟩ : ∃ x : Nat, (n % 65536).toNat = x := ⟨_, rfl⟩
    rw [hx, hcl] at HQ1 HRT
    rw [hx] at HLOW
    have hal := turnN_lt x 15
    have hp15 : (2 : Nat) ^ 15 ≤ 32768 := Nat.le_trans (Nat.pow_le_pow_right (by decide) (show 15 ≤ 15 by omega)) (by decide)
    have HQ2 := Lib.hid (fun W' => qturn_any (turnN x 15 : Nat) k W' hk)
    have e3 : (((turnN x 15 : Nat) : Int) % 65536).toNat = turnN x 15 := by omega
    rw [e3, hcl, turn_twice, hS] at HQ2
    obtain ⟨a, ha⟩ : ∃ a, turnN x 15 = a := ⟨_, rfl⟩
    rw [ha] at HQ1 HRT HQ2 hal
    have haa : (a == a) = true := by simp
    have hS32 : S ≤ 32768 := by omega
    have hS1 : 1 ≤ S := by have := Nat.two_pow_pos 15; omega
    have hxs : x % S < S := Nat.mod_lt _ (by omega)
    obtain ⟨lw, hlw⟩ : ∃ lw, x % S = lw := ⟨_, rfl⟩
    rw [hlw] at HLOW HQ2 hxs
    have hll : (lw == lw) = true := by simp
    have HS := Lib.hid hS
    have ha15 : a ≤ 32768 := by omega
    clear hx hcl hal e3 ha hlw hS hp15
    go_enter Try.func3, Try.ntmps3
    go_wp2_with (go_at_call 8; refine HQ1.out.mono ?_; rintro e w1 ⟨rfl, m1, rfl⟩)
    go_loopg [7, 8] 15 (fun gk sv iv wr => ∃ (i Z : Nat), i + gk = 15 ∧ iv = .int .i64 (i : Int) ∧ sv = .int .i64 (Z : Int) ∧ Z = 2 ^ i ∧ wr = w.drewN m1)
    case atStart => exact ⟨0, 1, by omega, rfl, rfl, rfl, rfl⟩
    case round =>
      obtain ⟨i, Z, hi, rfl, rfl, hZ, rfl⟩ := hrel
      by_cases hib : i < 15
      · have HZ2 : Hid (2 * Z = 2 ^ (i + 1)) := by show _ = _; rw [hZ, Nat.pow_succ, Nat.mul_comm]
        have hZ15 : Z ≤ 32768 := by rw [hZ]; exact Nat.le_trans (Nat.pow_le_pow_right (by decide) (show i ≤ 15 by omega)) (by decide)
        have u0 : i < 15 := hib
        clear hZ
        go_wp2
        go_roundg (gk - 1)
        case measure => omega
        case rel => exact ⟨i + 1, 2 * Z, by omega, by go_num, by go_num, HZ2.out, rfl⟩
      · obtain rfl : i = 15 := by omega
        obtain rfl : Z = S := hZ.trans HS.out
        obtain ⟨r, htm⟩ : ∃ r, Int.tmod n (Z : Int) = r := ⟨_, rfl⟩
        have hr := HLOW.out
        rw [htm] at hr
        have hrb : -40000 ≤ r ∧ r ≤ 40000 := by omega
        by_cases hneg : r < 0
        · obtain rfl : r = (lw : Int) - (Z : Int) := by omega
          have hsm : (lw : Int) - (Z : Int) + (Z : Int) = (lw : Int) := by omega
          have hn0 : ¬ (0 : Int) ≤ (lw : Int) - (Z : Int) := by omega
          clear hr hZ
          go_wp2_with (first
            | (go_at_call 9; refine (HRT.out _).mono ?_; rintro e w' ⟨rfl, rfl⟩)
            | (go_at_call 8; refine (HQ2.out _).mono ?_; rintro e w2 ⟨rfl, m2, rfl⟩)
            | (go_at_call 10; refine (lives34_any _).mono ?_; rintro e w3 ⟨rfl, hb3⟩; have HB3 := Lib.hid hb3; clear hb3))
          go_ret
          exact ⟨rfl, (drewB _ _).trans HB3.out⟩
        · obtain rfl : r = (lw : Int) := by omega
          clear hr hZ
          go_wp2_with (first
            | (go_at_call 9; refine (HRT.out _).mono ?_; rintro e w' ⟨rfl, rfl⟩)
            | (go_at_call 8; refine (HQ2.out _).mono ?_; rintro e w2 ⟨rfl, m2, rfl⟩)
            | (go_at_call 10; refine (lives34_any _).mono ?_; rintro e w3 ⟨rfl, hb3⟩; have HB3 := Lib.hid hb3; clear hb3))
          go_ret
          exact ⟨rfl, (drewB _ _).trans HB3.out⟩
  · obtain ⟨b, rfl⟩ := Int.eq_ofNat_of_zero_le h1.1
    have hb15 : b ≤ 15 := by omega
    have hcl : clampW (b : Int) = b := by unfold clampW; omega
    obtain ⟨S, hS⟩ : ∃ S, 2 ^ b = S := ⟨_, rfl⟩
    have HQ1 := Lib.hid (qturn_any n (b : Int) w hk)
    have HRT := Lib.hid (fun W' => refTurn_any n (b : Int) W' hn)
    have HLOW := Lib.hid (low_val n b (by omega))
    rw [hS] at HLOW
    obtain ⟨x, hx⟩ : ∃ x : Nat, (n % 65536).toNat = x := ⟨_, rfl⟩
    rw [hx, hcl] at HQ1 HRT
    rw [hx] at HLOW
    have hal := turnN_lt x b
    have hp15 : (2 : Nat) ^ b ≤ 32768 := Nat.le_trans (Nat.pow_le_pow_right (by decide) (show b ≤ 15 by omega)) (by decide)
    have HQ2 := Lib.hid (fun W' => qturn_any (turnN x b : Nat) (b : Int) W' hk)
    have e3 : (((turnN x b : Nat) : Int) % 65536).toNat = turnN x b := by omega
    rw [e3, hcl, turn_twice, hS] at HQ2
    obtain ⟨a, ha⟩ : ∃ a, turnN x b = a := ⟨_, rfl⟩
    rw [ha] at HQ1 HRT HQ2 hal
    have haa : (a == a) = true := by simp
    have hS32 : S ≤ 32768 := by omega
    have hS1 : 1 ≤ S := by have := Nat.two_pow_pos b; omega
    have hxs : x % S < S := Nat.mod_lt _ (by omega)
    obtain ⟨lw, hlw⟩ : ∃ lw, x % S = lw := ⟨_, rfl⟩
    rw [hlw] at HLOW HQ2 hxs
    have hll : (lw == lw) = true := by simp
    have HS := Lib.hid hS
    have ha15 : a ≤ 32768 := by omega
    clear hx hcl hal e3 ha hlw hS hp15
    go_enter Try.func3, Try.ntmps3
    go_wp2_with (go_at_call 8; refine HQ1.out.mono ?_; rintro e w1 ⟨rfl, m1, rfl⟩)
    go_loopg [7, 8] b (fun gk sv iv wr => ∃ (i Z : Nat), i + gk = b ∧ iv = .int .i64 (i : Int) ∧ sv = .int .i64 (Z : Int) ∧ Z = 2 ^ i ∧ wr = w.drewN m1)
    case atStart => exact ⟨0, 1, by omega, rfl, rfl, rfl, rfl⟩
    case round =>
      obtain ⟨i, Z, hi, rfl, rfl, hZ, rfl⟩ := hrel
      by_cases hib : i < b
      · have HZ2 : Hid (2 * Z = 2 ^ (i + 1)) := by show _ = _; rw [hZ, Nat.pow_succ, Nat.mul_comm]
        have hZ15 : Z ≤ 32768 := by rw [hZ]; exact Nat.le_trans (Nat.pow_le_pow_right (by decide) (show i ≤ 15 by omega)) (by decide)
        have u0 : i < b := hib
        clear hZ
        go_wp2
        go_roundg (gk - 1)
        case measure => omega
        case rel => exact ⟨i + 1, 2 * Z, by omega, by go_num, by go_num, HZ2.out, rfl⟩
      · obtain rfl : i = b := by omega
        obtain rfl : Z = S := hZ.trans HS.out
        obtain ⟨r, htm⟩ : ∃ r, Int.tmod n (Z : Int) = r := ⟨_, rfl⟩
        have hr := HLOW.out
        rw [htm] at hr
        have hrb : -40000 ≤ r ∧ r ≤ 40000 := by omega
        by_cases hneg : r < 0
        · obtain rfl : r = (lw : Int) - (Z : Int) := by omega
          have hsm : (lw : Int) - (Z : Int) + (Z : Int) = (lw : Int) := by omega
          have hn0 : ¬ (0 : Int) ≤ (lw : Int) - (Z : Int) := by omega
          clear hr hZ
          go_wp2_with (first
            | (go_at_call 9; refine (HRT.out _).mono ?_; rintro e w' ⟨rfl, rfl⟩)
            | (go_at_call 8; refine (HQ2.out _).mono ?_; rintro e w2 ⟨rfl, m2, rfl⟩)
            | (go_at_call 10; refine (lives34_any _).mono ?_; rintro e w3 ⟨rfl, hb3⟩; have HB3 := Lib.hid hb3; clear hb3))
          go_ret
          exact ⟨rfl, (drewB _ _).trans HB3.out⟩
        · obtain rfl : r = (lw : Int) := by omega
          clear hr hZ
          go_wp2_with (first
            | (go_at_call 9; refine (HRT.out _).mono ?_; rintro e w' ⟨rfl, rfl⟩)
            | (go_at_call 8; refine (HQ2.out _).mono ?_; rintro e w2 ⟨rfl, m2, rfl⟩)
            | (go_at_call 10; refine (lives34_any _).mono ?_; rintro e w3 ⟨rfl, hb3⟩; have HB3 := Lib.hid hb3; clear hb3))
          go_ret
          exact ⟨rfl, (drewB _ _).trans HB3.out⟩
end Go.Proofs.Ytnobeipabfdkjaa
