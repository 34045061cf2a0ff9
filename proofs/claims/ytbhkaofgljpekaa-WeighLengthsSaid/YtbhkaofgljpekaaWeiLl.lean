/- Layer 7: the law WeighLengths. -/
import Derived.Test.YtbhkaofgljpekaaWeiRl
import Derived.Test.YtbhkaofgljpekaaWeiMx
import Derived.Test.YtbhkaofgljpekaaWeiTh
namespace Go.Proofs.Ytbhkaofgljpekaa
open Go.RowKit

theorem r7W_def' (zs : List Int) : r7W zs = (decide (zs.length ≤ 320) && zs.all wB) := rfl
set_option maxHeartbeats 1000000 in
theorem wlen_long (A : Option Addr) (l c : Nat) (w : World) (hl : 400 < l) (hm : l ≤ 9223372036854775807) :
    Calls Try.prog 3 #[.slice A l c] w fun e w' => e = .returned (.bool true) ∧ Below w.heap.size w w' := by
  have hd : decide ((400 : Int) < (l : Int)) = true := by simp; omega
  clear hl
  go_enter Try.func3, Try.ntmps3
  go_wp2_with (go_at_call 8; refine (lives7_any _).mono ?_; rintro e w1 ⟨rfl, hb1⟩; have HB1 := Lib.hid hb1; clear hb1)
  go_ret
  exact ⟨rfl, HB1.out⟩
set_option maxHeartbeats 1000000 in
theorem wlen_size (A : Option Addr) (l c : Nat) (w : World) (hl : 320 < l) (hl2 : l ≤ 400) :
    Calls Try.prog 3 #[.slice A l c] w fun e w' => e = .returned (.bool true) ∧ Below w.heap.size w w' := by
  have HS := Lib.hid (lengths_size A l c w hl (by omega))
  have hd : decide ((400 : Int) < (l : Int)) = false := by simp; omega
  have hd2 : decide ((320 : Int) < (l : Int)) = true := by simp; omega
  clear hl hl2
  go_enter Try.func3, Try.ntmps3
  go_wp2_with (first
    | (go_at_call 9; refine HS.out.mono ?_; rintro e w1 ⟨rfl, rfl⟩)
    | (go_at_call 8; refine (lives7_any _).mono ?_; rintro e w1 ⟨rfl, hb1⟩; have HB1 := Lib.hid hb1; clear hb1))
  go_ret
  exact ⟨rfl, HB1.out⟩
set_option maxHeartbeats 1000000 in
theorem wlen_arg (A : Option Addr) (l c : Nat) (zs : List Int) (w : World) (hz : zs.length = l) (hl : l ≤ 320) (hb : Cells w w.heap.size A (zCs zs)) (hbad : zs.all wB = false) :
    Calls Try.prog 3 #[.slice A l c] w fun e w' => e = .returned (.bool true) ∧ Below w.heap.size w w' := by
  have HS := Lib.hid (lengths_arg A l c zs w.heap.size w hz hl hb hbad)
  have HR := Lib.hid (ref7RightW_any A l c zs w.heap.size w hz (by omega) hb)
  have hr : r7W zs = false := by rw [r7W_def', hbad, Bool.and_false]
  rw [hr] at HR
  have hd : decide ((400 : Int) < (l : Int)) = false := by simp; omega
  have hd2 : decide ((320 : Int) < (l : Int)) = false := by simp; omega
  clear hb hbad hz hl hr
  go_enter Try.func3, Try.ntmps3
  go_wp2_with (first
    | (go_at_call 9; refine HS.out.mono ?_; rintro e w1 ⟨rfl, rfl⟩)
    | (go_at_call 10; refine HR.out.mono ?_; rintro e w1 ⟨rfl, rfl⟩)
    | (go_at_call 8; refine (lives7_any _).mono ?_; rintro e w1 ⟨rfl, hb1⟩; have HB1 := Lib.hid hb1; clear hb1))
  go_ret
  exact ⟨rfl, HB1.out⟩
set_option maxHeartbeats 1000000 in
theorem wlen_ok (A : Option Addr) (l c : Nat) (ns : List Nat) (w : World) (hz : ns.length = l) (hl : l ≤ 320) (hb : Cells w w.heap.size A (nCs ns)) (hok : ∀ n ∈ ns, n ≤ 1073741824) :
    Calls Try.prog 3 #[.slice A l c] w fun e w' => e = .returned (.bool true) ∧ Below w.heap.size w w' := by
  have HS := Lib.hid (lengths_ok A l c ns w.heap.size w hz hl hb (Nat.le_refl _) hok)
  have hb2 : Cells w w.heap.size A (zCs (zN ns)) := by rw [← zN_cs]; exact hb
  have HRF := Lib.hid (fun W (hW : Below w.heap.size w W) => refLen_ok A l c ns w.heap.size W hz hl (hb.below hW (Nat.le_refl _)) hW.size hok)
  have hr : r7W (zN ns) = true := by
    rw [r7W_def', zN_len, hz, decide_eq_true hl]
    refine List.all_eq_true.2 fun x hx => ?_
    obtain ⟨n, hn, rfl⟩ := List.mem_map.1 hx
    have := hok n hn
    simp [wB]; omega
  have HRW := Lib.hid (fun W (hW : Below w.heap.size w W) => ref7RightW_any A l c (zN ns) w.heap.size W (by rw [zN_len, hz]) (by omega) (hb2.below hW (Nat.le_refl _)))
  rw [hr] at HRW
  obtain ⟨ls, hls⟩ : ∃ ls, lensW ns = ls := ⟨_, rfl⟩
  have HLL : Hid (ls.length = l) := by show _ = _; rw [← hls, lensW_len, hz]
  rw [hls] at HS HRF
  have hd : decide ((400 : Int) < (l : Int)) = false := by simp; omega
  have hd2 : decide ((320 : Int) < (l : Int)) = false := by simp; omega
  clear hb hb2 hok hz hr hls
  go_enter Try.func3, Try.ntmps3
  go_wp2_with (first
    | (go_at_call 9; refine HS.out.mono ?_; rintro e w7 ⟨A7, c7, rfl, ho7, hb7⟩; have HO7 := Lib.hid (cells_of_ownK ho7).2; have HB7 := Lib.hid hb7; clear ho7 hb7)
    | (go_at_call 10; refine (HRW.out _ HB7.out).mono ?_; rintro e w1 ⟨rfl, rfl⟩)
    | (go_at_call 12; refine (HRF.out _ HB7.out).mono ?_; rintro e w8 ⟨rfl, hn8, hb8⟩; have HN8 := Lib.hid (cells_of_ownK (hn8.own (base := w7.heap.size) (Nat.le_refl _) (by unfold maxLen; rw [HLL.out]; omega))).2; have HB8 := Lib.hid hb8; clear hn8 hb8)
    | (go_at_call 11; refine (ref7Ints_any A7 (some ⟨w7.heap.size, 0, none⟩) l c7 l (zN ls) (zN ls) w8.heap.size w8 (by rw [zN_len, HLL.out]) (by rw [zN_len, HLL.out]) (by omega) (by have h1 := (HO7.out.below HB8.out (Nat.le_refl _)).more HB8.out.size; rw [zN_cs] at h1; exact h1) (by have h1 := HN8.out; rw [zN_cs] at h1; exact h1) rfl).mono ?_; rintro e w9 ⟨rfl, m9, rfl⟩)
    | (go_at_call 8; refine (lives7_any _).mono ?_; rintro e w1 ⟨rfl, hb1⟩; have HB1 := Lib.hid hb1; clear hb1))
  go_ret
  have h1 := HB7.out
  have h2 := HB8.out
  have h3 := HB1.out
  exact ⟨rfl, (dnBelow (h1.trans (h2.mono h1.size)) m9).trans (h3.mono (Nat.le_trans h1.size h2.size))⟩
theorem wlen_law (A : Option Addr) (l c : Nat) (zs : List Int) (w : World) (hz : zs.length = l) (hm : l ≤ 9223372036854775807) (hb : Cells w w.heap.size A (zCs zs)) :
    Calls Try.prog 3 #[.slice A l c] w fun e w' => e = .returned (.bool true) ∧ Below w.heap.size w w' := by
  by_cases h4 : 400 < l
  · exact wlen_long A l c w h4 hm
  by_cases hl : 320 < l
  · exact wlen_size A l c w hl (by omega)
  · cases hw : zs.all wB with
    | false => exact wlen_arg A l c zs w hz (by omega) hb hw
    | true =>
      have hw2 := hw
      rw [List.all_eq_true] at hw2
      have e1 : zN (zs.map Int.toNat) = zs := zN_of hw2 (fun x hx => (wB_yes hx).1)
      refine wlen_ok A l c (zs.map Int.toNat) w (by simpa using hz) (by omega) (by rw [zN_cs, e1]; exact hb) fun n hn => ?_
      obtain ⟨x, hx, rfl⟩ := List.mem_map.1 hn
      have := wB_yes (hw2 x hx)
      omega
end Go.Proofs.Ytbhkaofgljpekaa
