/- Layer 8: may lengths be a code? -/
import Derived.Test.YtbhkaofgljpekaaRows
import Derived.Test.YtbhkaofgljpekaaGrow
import Derived.Test.YtbhkaofgljpekaaFoot
import Derived.Deep.DeepCutAuto
import Derived.IntWalk
import Derived.Outline
namespace Go.Proofs.Ytbhkaofgljpekaa
open Go.RowKit

def ic (n : Int) : Value := .int .i64 n
/-- What a length of a code takes of all. -/
def wt (n : Int) : Nat := if 0 < n then 2 ^ (15 - n.toNat) else 0
def wsum (zs : List Int) : Nat := (zs.map wt).sum
def lenB (n : Int) : Bool := decide (0 ≤ n) && decide (n ≤ 15)
def fullB (zs : List Int) : Bool := decide (zs.length ≤ 320) && zs.all lenB && decide (wsum zs = 32768)
theorem lenB_yes {n : Int} (h : lenB n = true) : 0 ≤ n ∧ n ≤ 15 := by simpa [lenB] using h
theorem wt_le (n : Int) : wt n ≤ 32768 := by
  unfold wt
  split
  · exact Nat.le_trans (Nat.pow_le_pow_right (by decide) (Nat.sub_le 15 _)) (by decide)
  · exact Nat.zero_le _
theorem take_snoc' {α : Type} {l : List α} {k : Nat} {x : α} (h : l[k]? = some x) : l.take (k + 1) = l.take k ++ [x] := by rw [List.take_add_one, h]; rfl
theorem wsum_snoc {zs : List Int} {k : Nat} {x : Int} (h : zs[k]? = some x) : wsum (zs.take (k + 1)) = wsum (zs.take k) + wt x := by
  unfold wsum
  rw [take_snoc' h]
  simp
theorem wsum_le (zs : List Int) : wsum zs ≤ zs.length * 32768 := by
  induction zs with
  | nil => exact Nat.zero_le _
  | cons x l ih =>
    have := wt_le x
    unfold wsum at ih ⊢
    rw [List.map_cons, List.sum_cons, List.length_cons, Nat.succ_mul]
    omega
theorem all_bad {zs : List Int} {k : Nat} {x : Int} {f : Int → Bool} (h : zs[k]? = some x) (hx : f x = false) : zs.all f = false := by
  rw [List.all_eq_false]
  exact ⟨x, List.mem_of_getElem? h, by rw [hx]; decide⟩
theorem all_good {zs : List Int} {f : Int → Bool} (h : ∀ j x, j < zs.length → zs[j]? = some x → f x = true) : zs.all f = true := by
  rw [List.all_eq_true]
  intro x hx
  obtain ⟨j, hj⟩ := List.mem_iff_getElem?.1 hx
  exact h j x (List.getElem?_eq_some_iff.1 hj).1 hj

set_option maxHeartbeats 400000 in
theorem rlen_any (n : Int) (w : World) : Calls Try.prog 24 #[.int .i64 n] w fun e w' => e = .returned (.bool (lenB n)) ∧ w = w' := by
  by_cases h1 : 0 ≤ n
  · by_cases h2 : n ≤ 15
    · have HD : Hid (lenB n = true) := by show _ = _; simp [lenB, h1, h2]
      go_enter Try.func24, Try.ntmps24
      go_wp2
      go_ret
      exact ⟨by rw [HD.out]; rfl, rfl⟩
    · have HD : Hid (lenB n = false) := by show _ = _; simp [lenB, h2]
      have h2' : decide (n ≤ 15) = false := by simpa using h2
      clear h2
      go_enter Try.func24, Try.ntmps24
      go_wp2
      go_ret
      exact ⟨by rw [HD.out]; rfl, rfl⟩
  · have HD : Hid (lenB n = false) := by show _ = _; simp [lenB, h1]
    go_enter Try.func24, Try.ntmps24
    go_wp2
    go_ret
    exact ⟨by rw [HD.out]; rfl, rfl⟩

set_option maxHeartbeats 1000000 in
theorem full_any (A : Option Addr) (l c : Nat) (zs : List Int) (B : Nat) (w : World) (hl : zs.length = l) (hm : l ≤ 9223372036854775807) (hb : Cells w B A (zs.map ic)) :
    Calls Try.prog 14 #[.slice A l c] w fun e w' => e = .returned (.bool (fullB zs)) ∧ w = w' := by
  have HC := Lib.hid hb
  have HL := Lib.hid hl
  have HFD : Hid (fullB zs = (decide (zs.length ≤ 320) && zs.all lenB && decide (wsum zs = 32768))) := rfl
  clear hb hl
  by_cases h320 : 320 < l
  · have hd : decide ((320 : Int) < (l : Int)) = true := by simp; omega
    have HF : Hid (fullB zs = false) := by show _ = _; rw [HFD.out, HL.out, decide_eq_false (by omega)]; rfl
    clear h320
    go_enter Try.func14, Try.ntmps14
    go_wp2
    go_ret
    exact ⟨by rw [HF.out]; rfl, rfl⟩
  have hd : decide ((320 : Int) < (l : Int)) = false := by simp; omega
  have HWL : Hid (∀ k, wsum (zs.take k) ≤ 320 * 32768) := fun k => Nat.le_trans (wsum_le _) (Nat.mul_le_mul_right _ (by rw [List.length_take, HL.out]; omega))
  go_enter Try.func14, Try.ntmps14
  go_wp2
  go_loopg [3, 11] l (fun gk v i wr => ∃ k : Nat, k + gk = l ∧ i = .int .i64 k ∧ v = .int .i64 (32768 - (wsum (zs.take k) : Nat)) ∧ wr = w ∧ ∀ j x, j < k → zs[j]? = some x → lenB x = true)
  case atStart => exact ⟨0, by omega, rfl, rfl, rfl, fun j _ h => absurd h (Nat.not_lt_zero j)⟩
  case round =>
    obtain ⟨k, hk, rfl, rfl, rfl, hall⟩ := hrel
    have HALL := Lib.hid hall
    clear hall
    have hw1 := HWL.out k
    by_cases h : k < l
    · obtain ⟨x, hx⟩ : ∃ x, zs[k]? = some x := ⟨_, List.getElem?_eq_getElem (by have := HL.out; omega)⟩
      obtain ⟨b, o, rfl, hbB, hc⟩ := HC.out (by rw [List.length_map, HL.out]; omega)
      have c0 : wr.cell? ⟨b, o + k, none⟩ = some (.int .i64 x) := hc k _ (by rw [List.getElem?_map, hx]; rfl)
      have HX := Lib.hid hx
      have HS := Lib.hid (wsum_snoc hx)
      have hw2 := HWL.out (k + 1)
      have HR := Lib.hid (fun W => rlen_any x W)
      obtain ⟨q, hq⟩ : ∃ q, lenB x = q := ⟨_, rfl⟩
      have HQ := Lib.hid hq
      rw [hq] at HR
      clear hc hx hq
      cases q with
      | false =>
        have HF : Hid (fullB zs = false) := by show _ = _; rw [HFD.out, all_bad HX.out HQ.out, Bool.and_false]; rfl
        go_wp2_with (go_at_call 24; refine (HR.out _).mono ?_; rintro e w' ⟨rfl, rfl⟩)
        go_ret
        exact ⟨by rw [HF.out]; rfl, rfl⟩
      | true =>
        obtain ⟨hx0, hx1⟩ := lenB_yes HQ.out
        rw [HS.out] at hw2
        by_cases hx2 : 0 < x
        · have hsh : (2 : Int) ^ (15 - x).toNat = ((wt x : Nat) : Int) := by
            unfold wt
            rw [if_pos hx2, show (15 - x).toNat = 15 - x.toNat by omega]
            push_cast
            rfl
          have hwt := wt_le x
          obtain ⟨t, ht⟩ : ∃ t, wt x = t := ⟨_, rfl⟩
          rw [ht] at hsh hwt hw2 HS
          clear ht
          go_wp2_with (go_at_call 24; refine (HR.out _).mono ?_; rintro e w' ⟨rfl, rfl⟩)
          go_roundg (gk - 1)
          case measure => omega
          case rel => exact ⟨k + 1, by omega, by go_num, by rw [HS.out]; go_num, rfl, fun j y hj hy => by
            by_cases e : j = k
            · subst e
              rw [HX.out] at hy
              injection hy with hy
              subst hy
              exact HQ.out
            · exact HALL.out j y (by omega) hy⟩
        · have hwt : wt x = 0 := if_neg hx2
          rw [hwt] at HS
          have hd2 : decide ((0 : Int) < x) = false := by simp; omega
          clear hwt hx2
          go_wp2_with (go_at_call 24; refine (HR.out _).mono ?_; rintro e w' ⟨rfl, rfl⟩)
          go_roundg (gk - 1)
          case measure => omega
          case rel => exact ⟨k + 1, by omega, by go_num, by rw [HS.out, Nat.add_zero], rfl, fun j y hj hy => by
            by_cases e : j = k
            · subst e
              rw [HX.out] at hy
              injection hy with hy
              subst hy
              exact HQ.out
            · exact HALL.out j y (by omega) hy⟩
    · obtain rfl : k = l := by omega
      have ht : zs.take k = zs := List.take_of_length_le (by have := HL.out; omega)
      have HA : Hid (zs.all lenB = true) := all_good (fun j x hj hx => HALL.out j x (by have := HL.out; omega) hx)
      rw [ht] at hw1
      rw [ht]
      clear ht
      have HF : Hid (fullB zs = decide (wsum zs = 32768)) := by show _ = _; rw [HFD.out, HA.out, HL.out, decide_eq_true (show k ≤ 320 by omega)]; rfl
      generalize wsum zs = s at *
      by_cases hs : s = 32768
      · subst hs
        go_wp2
        go_ret
        exact ⟨by rw [HF.out]; rfl, rfl⟩
      · have hd3 : ((32768 : Int) - (s : Int) == 0) = false := by simp; omega
        rw [decide_eq_false hs] at HF
        clear hs
        go_wp2
        go_ret
        exact ⟨by rw [HF.out]; rfl, rfl⟩
end Go.Proofs.Ytbhkaofgljpekaa
