/- Layer 7: the law WeighCosts. -/
import Derived.Test.YtbhkaofgljpekaaWeiCo
namespace Go.Proofs.Ytbhkaofgljpekaa
open Go.RowKit

def r7W (zs : List Int) : Bool := decide (zs.length ≤ 320) && zs.all wB
set_option maxHeartbeats 1000000 in
theorem ref7RightW_any (A : Option Addr) (l c : Nat) (zs : List Int) (B : Nat) (w : World) (hl : zs.length = l) (hm : l ≤ 1099511627776) (hb : Cells w B A (zCs zs)) :
    Calls Try.prog 10 #[.slice A l c, .int .i64 1073741824] w fun e w' => e = .returned (.bool (r7W zs)) ∧ w = w' := by
  have HC := Lib.hid hb
  have HL := Lib.hid hl
  have HFD : Hid (r7W zs = (decide (zs.length ≤ 320) && zs.all wB)) := rfl
  clear hb hl
  go_enter Try.func10, Try.ntmps10
  go_wp2
  go_loopg [5] l (fun gk i wr => ∃ k : Nat, k + gk = l ∧ i = .int .i64 k ∧ wr = w ∧ ∀ j x, j < k → zs[j]? = some x → wB x = true)
  case atStart => exact ⟨0, by omega, rfl, rfl, fun j _ h => absurd h (Nat.not_lt_zero j)⟩
  case round =>
    obtain ⟨k, hk, rfl, rfl, hall⟩ := hrel
    have HALL := Lib.hid hall
    clear hall
    by_cases h : k < l
    · obtain ⟨x, hx⟩ : ∃ x, zs[k]? = some x := ⟨_, List.getElem?_eq_getElem (by have := HL.out; omega)⟩
      obtain ⟨b, o, rfl, hbB, hc⟩ := HC.out (by rw [zCs_len, HL.out]; omega)
      have c0 : wr.cell? ⟨b, o + k, none⟩ = some (.int .i64 x) := hc k _ (zCs_at hx)
      have HX := Lib.hid hx
      clear hc hx
      by_cases hx0 : x < 0
      · have HF : Hid (r7W zs = false) := by show _ = _; rw [HFD.out, all_bad HX.out (by simp [wB]; omega), Bool.and_false]
        go_wp2
        go_ret
        exact ⟨by rw [HF.out]; rfl, rfl⟩
      by_cases hx1 : 1073741824 < x
      · have HF : Hid (r7W zs = false) := by show _ = _; rw [HFD.out, all_bad HX.out (by simp [wB]; omega), Bool.and_false]
        go_wp2
        go_ret
        exact ⟨by rw [HF.out]; rfl, rfl⟩
      · have HQ : Hid (wB x = true) := by show _ = _; simp [wB]; omega
        go_wp2
        go_roundg (gk - 1)
        case measure => omega
        case rel => exact ⟨k + 1, by omega, by go_num, rfl, fun j y hj hy => by
            by_cases e : j = k
            · subst e
              rw [HX.out] at hy
              injection hy with hy
              subst hy
              exact HQ.out
            · exact HALL.out j y (by omega) hy⟩
    · obtain rfl : k = l := by omega
      have HA : Hid (zs.all wB = true) := all_good (fun j x hj hx => HALL.out j x (by have := HL.out; omega) hx)
      have HF : Hid (r7W zs = decide ((k : Int) < 321)) := by
        show _ = _
        rw [HFD.out, HA.out, HL.out, Bool.and_true]
        simp; omega
      go_wp2
      go_ret
      exact ⟨by rw [HF.out]; rfl, rfl⟩


theorem zCs_ic (zs : List Int) : zCs zs = zs.map ic := rfl
/-- The greatest of the first k numbers, 0 if there is none. -/
def mst (zs : List Int) : Nat → Int
  | 0 => 0
  | k + 1 => if k = 0 ∨ mst zs k < zs.getD k 0 then zs.getD k 0 else mst zs k
theorem mst_max {zs : List Int} : ∀ {k : Nat}, 1 ≤ k → k ≤ zs.length → isMax (zs.take k) (mst zs k)
  | 0, h, _ => absurd h (by omega)
  | k + 1, _, hl => by
    obtain ⟨x, hx⟩ : ∃ x, zs[k]? = some x := ⟨_, List.getElem?_eq_getElem (by omega)⟩
    have ht : zs.take (k + 1) = zs.take k ++ [x] := by rw [List.take_add_one, hx]; rfl
    have hg : zs.getD k 0 = x := by rw [List.getD, hx]; rfl
    rw [ht, mst, hg]
    by_cases hk : k = 0
    · rw [if_pos (.inl hk), hk]
      simp [isMax]
    · have ih := mst_max (zs := zs) (k := k) (by omega) (by omega)
      by_cases hm : mst zs k < x
      · rw [if_pos (.inr hm)]
        refine ⟨fun y hy => ?_, by simp⟩
        rcases List.mem_append.1 hy with hy | hy
        · have := ih.1 y hy; omega
        · have : y = x := by simpa using hy
          omega
      · rw [if_neg (by omega)]
        refine ⟨fun y hy => ?_, List.mem_append_left _ ih.2⟩
        rcases List.mem_append.1 hy with hy | hy
        · exact ih.1 y hy
        · have : y = x := by simpa using hy
          omega
theorem isMax_uniq {zs : List Int} {a b : Int} (h1 : isMax zs a) (h2 : isMax zs b) : a = b := by
  have := h1.1 b h2.2
  have := h2.1 a h1.2
  omega
theorem longest_all (A : Option Addr) (l c : Nat) (zs : List Int) (B : Nat) (w : World) (hl : zs.length = l) (hm : l ≤ 1099511627776) (hb : Cells w B A (zCs zs)) :
    Calls Try.prog 16 #[.slice A l c] w fun e w' => e = .returned (.int .i64 (mst zs l)) ∧ w = w' := by
  rcases Nat.eq_zero_or_pos l with h0 | h0
  · have hd : ((l : Int) == 0) = true := by simp [h0]
    have HM : Hid (mst zs l = 0) := by show _ = _; rw [h0]; rfl
    clear h0 hb hl
    go_enter Try.func16, Try.ntmps16
    go_wp2
    go_ret
    exact ⟨by rw [HM.out]; rfl, rfl⟩
  · refine (longest_any A l c zs B w hl h0 hm (by rw [← zCs_ic]; exact hb)).mono ?_
    rintro e w' ⟨m, rfl, hmx, rfl⟩
    have h1 := mst_max (zs := zs) (k := l) h0 (by omega)
    rw [List.take_of_length_le (by omega)] at h1
    exact ⟨by rw [isMax_uniq hmx h1], rfl⟩
end Go.Proofs.Ytbhkaofgljpekaa
