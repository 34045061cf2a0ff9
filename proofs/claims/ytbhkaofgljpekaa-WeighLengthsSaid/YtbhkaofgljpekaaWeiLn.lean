/- Layer 7: Lengths. -/
import Derived.Test.YtbhkaofgljpekaaWeiIx
import Derived.Test.YtbhkaofgljpekaaWeiFul
namespace Go.Proofs.Ytbhkaofgljpekaa
open Go.RowKit Go.Shelf
attribute [local go_sem] Oper.semAt_some

def wB (n : Int) : Bool := decide (0 ≤ n) && decide (n ≤ 1073741824)
theorem wB_yes {n : Int} (h : wB n = true) : 0 ≤ n ∧ n ≤ 1073741824 := by simpa [wB] using h
set_option maxHeartbeats 400000 in
theorem rweight_any (n : Int) (w : World) : Calls Try.prog 18 #[.int .i64 n] w fun e w' => e = .returned (.bool (wB n)) ∧ w = w' := by
  by_cases h1 : 0 ≤ n
  · by_cases h2 : n ≤ 1073741824
    · have HD : Hid (wB n = true) := by show _ = _; simp [wB, h1, h2]
      go_enter Try.func18, Try.ntmps18
      go_wp2
      go_ret
      exact ⟨by rw [HD.out]; rfl, rfl⟩
    · have HD : Hid (wB n = false) := by show _ = _; simp [wB, h2]
      have h2' : decide (n ≤ 1073741824) = false := by simpa using h2
      clear h2
      go_enter Try.func18, Try.ntmps18
      go_wp2
      go_ret
      exact ⟨by rw [HD.out]; rfl, rfl⟩
  · have HD : Hid (wB n = false) := by show _ = _; simp [wB, h1]
    go_enter Try.func18, Try.ntmps18
    go_wp2
    go_ret
    exact ⟨by rw [HD.out]; rfl, rfl⟩
def zCs (zs : List Int) : List Value := zs.map (Value.int .i64)
theorem zCs_at {zs : List Int} {k : Nat} {n : Int} (h : zs[k]? = some n) : (zCs zs)[k]? = some (.int .i64 n) := by simp [zCs, h]
theorem zCs_len (zs : List Int) : (zCs zs).length = zs.length := by simp [zCs]
set_option maxHeartbeats 1000000 in
theorem lengths_size (A : Option Addr) (l c : Nat) (w : World) (hl : 320 < l) (hm : l ≤ 9223372036854775807) :
    Calls Try.prog 9 #[.slice A l c] w fun e w' => e = .returned (.tuple #[.slice none 0 0, .int .i64 5]) ∧ w = w' := by
  have hd : decide ((320 : Int) < (l : Int)) = true := by simp; omega
  clear hl
  go_enter Try.func9, Try.ntmps9
  go_wp2
  go_ret2
  exact ⟨rfl, rfl⟩
set_option maxRecDepth 100000 in
set_option maxHeartbeats 1000000 in
theorem lengths_arg (A : Option Addr) (l c : Nat) (zs : List Int) (B : Nat) (w : World) (hz : zs.length = l) (hl : l ≤ 320) (hb : Cells w B A (zCs zs)) (hbad : zs.all wB = false) :
    Calls Try.prog 9 #[.slice A l c] w fun e w' => e = .returned (.tuple #[.slice none 0 0, .int .i64 1]) ∧ w = w' := by
  have HC := Lib.hid hb
  have HL := Lib.hid hz
  have HBAD := Lib.hid hbad
  have hd : decide ((320 : Int) < (l : Int)) = false := by simp; omega
  clear hb hz hbad
  go_enter Try.func9, Try.ntmps9
  go_wp2
  go_loopg [17] l (fun gk i wr => ∃ k : Nat, k + gk = l ∧ i = .int .i64 k ∧ wr = w ∧ (zs.take k).all wB = true)
  case atStart => exact ⟨0, by omega, rfl, rfl, rfl⟩
  case round =>
    obtain ⟨k, hk, rfl, rfl, hall⟩ := hrel
    have HALL := Lib.hid hall
    clear hall
    by_cases h : k < l
    · obtain ⟨x, hx⟩ : ∃ x, zs[k]? = some x := ⟨_, List.getElem?_eq_getElem (by have := HL.out; omega)⟩
      obtain ⟨b, o, rfl, hbB, hc⟩ := HC.out (by rw [zCs_len, HL.out]; omega)
      have c0 : wr.cell? ⟨b, o + k, none⟩ = some (.int .i64 x) := hc k _ (zCs_at hx)
      have HT : Hid (zs.take (k + 1) = zs.take k ++ [x]) := by show _ = _; rw [List.take_add_one, hx]; rfl
      obtain ⟨q, hq⟩ : ∃ q, wB x = q := ⟨_, rfl⟩
      have HQ := Lib.hid hq
      have HR := Lib.hid (rweight_any x wr)
      rw [hq] at HR
      clear hc hx hq
      cases q with
      | true =>
        go_wp2_with (go_at_call 18; refine HR.out.mono ?_; rintro e w' ⟨rfl, rfl⟩)
        go_roundg (gk - 1)
        case measure => omega
        case rel => exact ⟨k + 1, by omega, by go_num, rfl, by rw [HT.out, List.all_append, HALL.out]; simp [HQ.out]⟩
      | false =>
        go_wp2_with (go_at_call 18; refine HR.out.mono ?_; rintro e w' ⟨rfl, rfl⟩)
        go_ret2
        exact ⟨rfl, rfl⟩
    · obtain rfl : k = l := by omega
      rw [List.take_of_length_le (by have := HL.out; omega)] at HALL
      have h1 := HALL.out
      rw [HBAD.out] at h1
      cases h1
end Go.Proofs.Ytbhkaofgljpekaa
