/- Layer 8: may lengths be a code: the reference's. -/
import Derived.Test.YtbhkaofgljpekaaCa2
namespace Go.Proofs.Ytbhkaofgljpekaa
open Go.RowKit

def r7B (zs : List Int) : Bool := decide (zs.length ≤ 320) && zs.all lenB
set_option maxHeartbeats 1000000 in
theorem ref7Right_any (A : Option Addr) (l c : Nat) (zs : List Int) (B : Nat) (w : World) (hl : zs.length = l) (hm : l ≤ 1099511627776) (hb : Cells w B A (zs.map ic)) :
    Calls Try.prog 10 #[.slice A l c, .int .i64 15] w fun e w' => e = .returned (.bool (r7B zs)) ∧ w = w' := by
  have HC := Lib.hid hb
  have HL := Lib.hid hl
  have HFD : Hid (r7B zs = (decide (zs.length ≤ 320) && zs.all lenB)) := rfl
  clear hb hl
  go_enter Try.func10, Try.ntmps10
  go_wp2
  go_loopg [5] l (fun gk i wr => ∃ k : Nat, k + gk = l ∧ i = .int .i64 k ∧ wr = w ∧ ∀ j x, j < k → zs[j]? = some x → lenB x = true)
  case atStart => exact ⟨0, by omega, rfl, rfl, fun j _ h => absurd h (Nat.not_lt_zero j)⟩
  case round =>
    obtain ⟨k, hk, rfl, rfl, hall⟩ := hrel
    have HALL := Lib.hid hall
    clear hall
    by_cases h : k < l
    · obtain ⟨x, hx⟩ : ∃ x, zs[k]? = some x := ⟨_, List.getElem?_eq_getElem (by have := HL.out; omega)⟩
      obtain ⟨b, o, rfl, hbB, hc⟩ := HC.out (by rw [List.length_map, HL.out]; omega)
      have c0 : wr.cell? ⟨b, o + k, none⟩ = some (.int .i64 x) := hc k _ (by rw [List.getElem?_map, hx]; rfl)
      have HX := Lib.hid hx
      clear hc hx
      by_cases hx0 : x < 0
      · have HF : Hid (r7B zs = false) := by show _ = _; rw [HFD.out, all_bad HX.out (by simp [lenB]; omega), Bool.and_false]
        go_wp2
        go_ret
        exact ⟨by rw [HF.out]; rfl, rfl⟩
      by_cases hx1 : 15 < x
      · have HF : Hid (r7B zs = false) := by show _ = _; rw [HFD.out, all_bad HX.out (by simp [lenB]; omega), Bool.and_false]
        go_wp2
        go_ret
        exact ⟨by rw [HF.out]; rfl, rfl⟩
      · have HQ : Hid (lenB x = true) := by show _ = _; simp [lenB]; omega
        go_wp2
        go_roundg (gk - 1)
        case measure => omega
        case rel => exact ⟨k + 1, by omega, by go_num, rfl, fun j y hj hy => by
            by_cases e : j = k
            · subst e
              rw [HX.out] at hy
              injection hy with hy
              subst hy
              exact HQ.out
            · exact HALL.out j y (by omega) hy⟩
    · obtain rfl : k = l := by omega
      have HA : Hid (zs.all lenB = true) := all_good (fun j x hj hx => HALL.out j x (by have := HL.out; omega) hx)
      have HF : Hid (r7B zs = decide ((k : Int) < 321)) := by
        show _ = _
        rw [HFD.out, HA.out, HL.out, Bool.and_true]
        simp; omega
      go_wp2
      go_ret
      exact ⟨by rw [HF.out]; rfl, rfl⟩

set_option maxHeartbeats 2000000 in
theorem ref7Sum_any (A : Option Addr) (l c : Nat) (zs : List Int) (B : Nat) (w : World) (hl : zs.length = l) (hm : l ≤ 1000) (hb : Cells w B A (zs.map ic)) (hok : ∀ x ∈ zs, lenB x = true) :
    Calls Try.prog 15 #[.slice A l c] w fun e w' => e = .returned (.int .i64 (wsum zs : Nat)) ∧ w = w' := by
  have HC := Lib.hid hb
  have HL := Lib.hid hl
  have HOK := Lib.hid hok
  have HWL : Hid (∀ k, wsum (zs.take k) ≤ 1000 * 32768) := fun k => Nat.le_trans (wsum_le _) (Nat.mul_le_mul_right _ (by rw [List.length_take]; omega))
  clear hb hl hok
  go_enter Try.func15, Try.ntmps15
  go_wp2
  go_loopg [3, 4] l (fun gk v i wr => ∃ k : Nat, k + gk = l ∧ i = .int .i64 k ∧ v = .int .i64 (wsum (zs.take k) : Nat) ∧ wr = w)
  case atStart => exact ⟨0, by omega, rfl, rfl, rfl⟩
  case round =>
    obtain ⟨k, hk, rfl, rfl, rfl⟩ := hrel
    have hw1 := HWL.out k
    by_cases h : k < l
    · obtain ⟨x, hx⟩ : ∃ x, zs[k]? = some x := ⟨_, List.getElem?_eq_getElem (by have := HL.out; omega)⟩
      obtain ⟨b, o, rfl, hbB, hc⟩ := HC.out (by rw [List.length_map, HL.out]; omega)
      have c0 : wr.cell? ⟨b, o + k, none⟩ = some (.int .i64 x) := hc k _ (by rw [List.getElem?_map, hx]; rfl)
      obtain ⟨hx0, hx1⟩ := lenB_yes (HOK.out x (List.mem_of_getElem? hx))
      have HS := Lib.hid (wsum_snoc hx)
      have hw2 := HWL.out (k + 1)
      clear hc hx
      by_cases hxz : x = 0
      · have hwt : wt x = 0 := if_neg (by omega)
        rw [hwt] at HS
        have hd : (x == 0) = true := by simp [hxz]
        clear hwt hxz
        go_wp2
        go_roundg (gk - 1)
        case measure => omega
        case rel => exact ⟨k + 1, by omega, by go_num, by rw [HS.out, Nat.add_zero], rfl⟩
      · have hd : (x == 0) = false := by simp [hxz]
        obtain ⟨n, rfl⟩ := Int.eq_ofNat_of_zero_le hx0
        have hwt : wt (n : Int) = 2 ^ (15 - n) := by unfold wt; rw [if_pos (by omega), Int.toNat_natCast]
        rw [HS.out] at hw2
        rw [hwt] at HS hw2
        have hn1 : 1 ≤ n := by omega
        have hn15 : n ≤ 15 := by omega
        obtain ⟨t, ht⟩ : ∃ t, wsum (zs.take k) = t := ⟨_, rfl⟩
        rw [ht] at hw1 hw2 HS
        rw [ht]
        have HZ := Lib.hid hxz
        clear hwt ht hxz
        obtain ⟨G, hG⟩ : ∃ G, gk = G := ⟨_, rfl⟩
        rw [hG] at hk
        go_wp2
        go_loopg [5, 6] (15 - n) (fun g2 p i wr2 => ∃ j : Nat, j + g2 = 15 ∧ n ≤ j ∧ i = .int .i64 j ∧ p = .int .i64 ((2 ^ (j - n) : Nat) : Int) ∧ wr2 = wr)
        case atStart => exact ⟨n, by omega, Nat.le_refl _, rfl, by rw [Nat.sub_self]; rfl, rfl⟩
        case round =>
          obtain ⟨j, hj, hnj, rfl, rfl, rfl⟩ := hrel
          have hpj : 2 ^ (j - n) ≤ 32768 := Nat.le_trans (Nat.pow_le_pow_right (by decide) (by omega : j - n ≤ 15)) (by decide)
          by_cases hj15 : j < 15
          · have HP : Hid (2 ^ (j + 1 - n) = 2 ^ (j - n) * 2) := by show _ = _; rw [show j + 1 - n = (j - n) + 1 by omega, Nat.pow_succ]
            generalize 2 ^ (j - n) = p at *
            go_wp2
            go_roundg (gk - 1)
            case measure => omega
            case rel => exact ⟨j + 1, by omega, by omega, by go_num, by rw [HP.out]; go_num, rfl⟩
          · obtain rfl : j = 15 := by omega
            generalize 2 ^ (15 - n) = p at *
            go_wp2
            go_roundg (G - 1)
            case measure => omega
            case rel => exact ⟨k + 1, by omega, by go_num, by rw [HS.out]; go_num, rfl⟩
    · obtain rfl : k = l := by omega
      have ht : zs.take k = zs := List.take_of_length_le (by have := HL.out; omega)
      rw [ht]
      go_wp2
      go_ret
      exact ⟨rfl, rfl⟩
end Go.Proofs.Ytbhkaofgljpekaa
