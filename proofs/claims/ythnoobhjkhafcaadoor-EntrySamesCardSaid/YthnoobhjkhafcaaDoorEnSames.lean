/- Layer 19: EntrySames walked. -/
import Derived.Test.YthnoobhjkhafcaaDoorEnV
import Derived.Test.YthnoobhjkhafcaaDoorEnE
import Derived.Test.YthnoobhjkhafcaaDoorEnL
namespace Go.Proofs.YthnoobhjkhafcaaDoor
open Go.RowKit CrcP FieldP

set_option maxRecDepth 100000 in
set_option maxHeartbeats 2000000 in
theorem ensames_any (A : Option Addr) (l c : Nat) (ms : List LM) (C : Option Addr) (l2 c2 : Nat) (ns : List LM) (w : World) (hW : WidE w) (hl : ms.length = l) (hl2 : ns.length = l2)
    (hb : Cells w w.heap.size A (ms.map LM.cells).flatten) (hb2 : Cells w w.heap.size C (ns.map LM.cells).flatten) :
    Calls Tryd.prog 4 #[.slice A l c, .slice C l2 c2] w fun e w' => e = .returned (.bool true) ∧ Below w.heap.size w w' := by
  have HW := Lib.hid hW
  have hw0 := hW.1
  have HG1 := Lib.hid (great19_any A l c ms w.heap.size w hl hb)
  have HG2 := Lib.hid (great19_any C l2 c2 ns w.heap.size w hl2 hb2)
  have HLV := Lib.hid (lives19_any w hW)
  have HLN := Lib.hid (fun n => lives19_any (w.drewN n) ⟨hw0, hW.2⟩)
  have HE1 := Lib.hid (fun h n => enSame_any A l c ms C l2 c2 ns w.heap.size (w.drewN n) hl hl2 h (hb.drewN' n) (hb2.drewN' n))
  have HE2 := Lib.hid (fun h n => refSame_any A l c ms C l2 c2 ns w.heap.size (w.drewN n) hl hl2 h (hb.drewN' n) (hb2.drewN' n))
  have HE3 := Lib.hid (fun h n => enSame_any A l c ms A l c ms w.heap.size (w.drewN n) hl hl h (hb.drewN' n) (hb.drewN' n))
  have HL := Lib.hid hl
  obtain ⟨q, hq⟩ : ∃ q, eqL ms ns = q := ⟨_, rfl⟩
  rw [hq] at HE1 HE2
  rw [eqL_refl] at HE3
  clear hW hb hb2 hl hl2 hq
  go_enter Tryd.func4, Tryd.ntmps4
  go_wp2_with fail
  refine HG1.out.mono ?_
  rintro e w' ⟨o1, rfl, rfl, hn1⟩
  cases o1 with
  | true =>
    go_wp2_with (go_at_call 8; refine HLV.out.mono ?_; rintro e w6 ⟨rfl, hb⟩; have HB6 := Lib.hid hb; clear hb)
    go_ret
    exact ⟨rfl, HB6.out⟩
  | false =>
    have hm : l ≤ 1099511627776 := by have := (hn1 rfl).1; have := HL.out; omega
    clear hn1
    go_wp2_with fail
    refine HG2.out.mono ?_
    rintro e w' ⟨o2, rfl, rfl, hn2⟩
    clear hn2
    cases o2 with
    | true =>
      go_wp2_with (go_at_call 8; refine HLV.out.mono ?_; rintro e w6 ⟨rfl, hb⟩; have HB6 := Lib.hid hb; clear hb)
      go_ret
      exact ⟨rfl, HB6.out⟩
    | false =>
      go_wp2_with fail
      refine (HE1.out hm 0).mono ?_
      rintro e w' ⟨rfl, n1, rfl⟩
      rw [drewN_drewN]
      generalize 0 + n1 = m1
      go_wp2_with fail
      refine (HE2.out hm _).mono ?_
      rintro e w' ⟨rfl, n2, rfl⟩
      rw [drewN_drewN]
      generalize m1 + n2 = m2
      go_wp2_with fail
      refine (HE3.out hm _).mono ?_
      rintro e w' ⟨rfl, n3, rfl⟩
      rw [drewN_drewN]
      generalize m2 + n3 = m3
      go_wp2_with (go_at_call 8; refine (HLN.out _).mono ?_; rintro e w6 ⟨rfl, hb⟩; have HB6 : Hid (Below w.heap.size w w6) := (below_drewN (Below.refl w.heap.size w) _).trans hb; clear hb)
      go_ret
      exact ⟨rfl, HB6.out⟩
end Go.Proofs.YthnoobhjkhafcaaDoor
