/- Layer 25: lives. -/
import Derived.Test.YtaneifmbjkolaaaDoorMdC
namespace Go.Proofs.YtaneifmbjkolaaaDoor
open Go.RowKit

set_option maxRecDepth 100000 in
set_option maxHeartbeats 400000 in
theorem lives25_any (w : World) : Calls Tryd.prog 7 #[] w fun e w' => e = .returned (.bool true) ∧ Below w.heap.size w w' := by
  have HN := Lib.hid (new25_any w)
  go_enter Tryd.func7, Tryd.ntmps7
  go_wp2_with ((first
    | (go_at_call 21; refine HN.out.mono ?_; rintro e w1 ⟨rfl, hm1, hb1⟩; have HM1 := Lib.hid hm1; have HB1 := Lib.hid hb1; clear hm1 hb1)
    | (go_at_call 19; refine (step25_7 (w.heap.size + 1) w.heap.size w1 HM1.out).mono ?_; rintro e w2 ⟨rfl, ⟨sb2, hm2⟩, hb2⟩; clear HM1; have HM2 := Lib.hid hm2; have HB2 : Hid (Below w.heap.size w w2) := HB1.out.trans (hb2 w.heap.size (by omega)); clear hm2 hb2)
    | (go_at_call 19; refine (step25_0 (w.heap.size + 1) sb2 w2 HM2.out).mono ?_; rintro e w3 ⟨rfl, hm3, hb3⟩; clear HM2; have HM3 := Lib.hid hm3; have HB3 : Hid (Below w.heap.size w w3) := HB2.out.trans (hb3.mono HB2.out.size); clear hm3 hb3)
    | (go_at_call 20; refine (can25_any (w.heap.size + 1) sb2 w3 HM3.out).mono ?_; rintro e w4 ⟨rfl, hb4⟩; have HB4 : Hid (Below w.heap.size w w4) := HB3.out.trans (hb4.mono HB3.out.size); clear hb4)))
  go_ret
  exact ⟨rfl, HB4.out⟩
end Go.Proofs.YtaneifmbjkolaaaDoor
