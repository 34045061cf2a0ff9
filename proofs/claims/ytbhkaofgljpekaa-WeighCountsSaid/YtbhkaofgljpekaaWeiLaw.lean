/- Layer 7: the laws WeighCosts and WeighCounts. -/
import Derived.Test.YtbhkaofgljpekaaWeiCs
import Derived.Test.YtbhkaofgljpekaaWeiCnt
namespace Go.Proofs.Ytbhkaofgljpekaa
open Go.RowKit

set_option maxHeartbeats 1000000 in
theorem costs_long (A1 A2 : Option Addr) (l1 l2 c1 c2 : Nat) (w : World) (h : 400 < l1 ∨ 400 < l2) (hm1 : l1 ≤ 9223372036854775807) (hm2 : l2 ≤ 9223372036854775807) :
    Calls Try.prog 4 #[.slice A1 l1 c1, .slice A2 l2 c2] w fun e w' => e = .returned (.bool true) ∧ Below w.heap.size w w' := by
  by_cases h1 : 400 < l1
  · have t1 : decide ((400 : Int) < (l1 : Int)) = true := by simp; omega
    clear h h1
    go_enter Try.func4, Try.ntmps4
    go_wp2_with (go_at_call 8; refine (lives7_any _).mono ?_; rintro e w1 ⟨rfl, hb1⟩; have HB1 := Lib.hid hb1; clear hb1)
    go_ret
    exact ⟨rfl, HB1.out⟩
  · have t1 : decide ((400 : Int) < (l1 : Int)) = false := by simp; omega
    have t2 : decide ((400 : Int) < (l2 : Int)) = true := by simp; omega
    clear h h1
    go_enter Try.func4, Try.ntmps4
    go_wp2_with (go_at_call 8; refine (lives7_any _).mono ?_; rintro e w1 ⟨rfl, hb1⟩; have HB1 := Lib.hid hb1; clear hb1)
    go_ret
    exact ⟨rfl, HB1.out⟩
theorem costs_law (A1 A2 : Option Addr) (l1 l2 c1 c2 : Nat) (ws ls : List Int) (w : World) (hw : ws.length = l1) (hl : ls.length = l2) (hm1 : l1 ≤ 9223372036854775807) (hm2 : l2 ≤ 9223372036854775807) (h1 : Cells w w.heap.size A1 (zCs ws)) (h2 : Cells w w.heap.size A2 (zCs ls)) :
    Calls Try.prog 4 #[.slice A1 l1 c1, .slice A2 l2 c2] w fun e w' => e = .returned (.bool true) ∧ Below w.heap.size w w' := by
  by_cases h : 400 < l1 ∨ 400 < l2
  · exact costs_long A1 A2 l1 l2 c1 c2 w h hm1 hm2
  · cases hr : r7B ls with
    | false => exact costs_no1 A1 A2 l1 l2 c1 c2 ws ls w hw hl (by omega) (by omega) h1 h2 hr
    | true =>
      by_cases hne : l1 = l2
      · cases hrw : r7W ws with
        | false => exact costs_no3 A1 A2 l1 l2 c1 c2 ws ls w hw hl (by omega) (by omega) h1 h2 hr hne hrw
        | true => exact costs_yes A1 A2 l1 l2 c1 c2 ws ls w hw hl (by omega) (by omega) h1 h2 hr hne hrw
      · exact costs_no2 A1 A2 l1 l2 c1 c2 ws ls w hw hl (by omega) (by omega) h1 h2 hr hne
theorem byte_of {x : Int} (h : (Lit.int .u8 x).wf = true) : ∃ b : UInt8, x = (b.toNat : Int) := by
  have := bounds_u8 h
  exact ⟨UInt8.ofNat x.toNat, by simp; omega⟩
end Go.Proofs.Ytbhkaofgljpekaa
