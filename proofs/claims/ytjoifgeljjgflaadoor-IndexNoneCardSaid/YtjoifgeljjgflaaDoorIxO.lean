/- Layer 24: IndexNone walked. -/
import Derived.Test.YtjoifgeljjgflaaDoorIxN
namespace Go.Proofs.YtjoifgeljjgflaaDoor
open Go.RowKit Go.Shelf

set_option linter.unusedSimpArgs false in
set_option maxRecDepth 100000 in
set_option maxHeartbeats 8000000 in
theorem indexnone_any (m : LM) (s : ByteArray) (w : World) :
    Calls Tryd.prog 5 #[aggM m, .string s] w fun e w' => e = .returned (.bool true) ∧ Below w.heap.size w w' := by
  obtain ⟨W0, hW0⟩ : ∃ W0, w.alloc (.cells #[.string m.nm, .int .i64 m.at_, .int .i64 m.fr, .int .i64 m.ar, .int .i64 m.sz, .int .u32 m.su, .int .i64 m.me] 32) = W0 := ⟨_, rfl⟩
  have HB0 : Hid (Below w.heap.size w W0) := by rw [← hW0]; exact (Below.refl _ w).alloc (Nat.le_refl _) _
  have HX0 : Hid (Box W0 w.heap.size #[.string m.nm, .int .i64 m.at_, .int .i64 m.fr, .int .i64 m.ar, .int .i64 m.sz, .int .u32 m.su, .int .i64 m.me] 32) := by rw [← hW0]; exact heap_alloc_new w _
  have HLV := Lib.hid (fun W => lives24_any W)
  have hz : aggM LM.zero = .agg #[.string ⟨#[]⟩, .int .i64 0, .int .i64 0, .int .i64 0, .int .i64 0, .int .u32 0, .int .i64 0] := rfl
  have HG := Lib.hid (ixGet_nil s W0)
  rw [hz] at HG
  go_enter Tryd.func5, Tryd.ntmps5
  go_wp2_with fail
  refine HG.out.mono ?_
  rintro e w1 ⟨rfl, hbel⟩
  have HB1 := Lib.hid (HB0.out.trans (hbel.mono HB0.out.size))
  have HX1 := Lib.hid (HX0.out.below hbel HX0.out.lt)
  clear hbel HG hW0
  obtain ⟨W2, hW2⟩ : ∃ W2, W2 = w1.alloc (.cells #[.string ⟨#[]⟩, .int .i64 0, .int .i64 0, .int .i64 0, .int .i64 0, .int .u32 0, .int .i64 0] 32) := ⟨_, rfl⟩
  have hb2 : Below w1.heap.size w1 W2 := by rw [hW2]; exact (Below.refl _ w1).alloc (Nat.le_refl _) _
  have HB2 := Lib.hid (HB1.out.trans (hb2.mono HB1.out.size))
  have HX2 := Lib.hid (HX1.out.below hb2 HX1.out.lt)
  have HW2 := Lib.hid hW2
  clear hb2 hW2
  go_wp2_with fail
  rw [← HW2.out]
  refine (ixLen_nil W2).mono ?_
  rintro e w' ⟨rfl, rfl⟩
  obtain ⟨b0, b1, b2, b3, b4, b5, b6, _⟩ := box7 HX2.out
  go_wp2_with fail
  refine (ixPut_nil m W2).mono ?_
  rintro e w3 ⟨rfl, hbel⟩
  have HB3 := Lib.hid (HB2.out.trans (hbel.mono HB2.out.size))
  clear hbel b0 b1 b2 b3 b4 b5 b6
  go_wp2_with fail
  refine (ixDrop_nil s w3).mono ?_
  rintro e w4 ⟨rfl, hbel⟩
  have HB4 := Lib.hid (HB3.out.trans (hbel.mono HB3.out.size))
  clear hbel
  go_wp2_with fail
  refine (ixRoom_nil s w4).mono ?_
  rintro e w' ⟨rfl, rfl⟩
  go_wp2_with fail
  refine (ixAll_nil w4).mono ?_
  rintro e w5 ⟨A5, c5, rfl, hbel⟩
  have HB5 := Lib.hid (HB4.out.trans (hbel.mono HB4.out.size))
  clear hbel
  go_wp2_with fail
  refine (nilUnder_any none ⟨#[]⟩ w5 (.inl rfl)).mono ?_
  rintro e w6 ⟨rfl, hbel⟩
  have HB6 := Lib.hid (HB5.out.trans (hbel.mono HB5.out.size))
  clear hbel
  go_wp2_with fail
  refine (ixBytes_nil w6).mono ?_
  rintro e w' ⟨rfl, rfl⟩
  obtain ⟨W7, hW7⟩ : ∃ W7, w6.alloc (.cells #[.slice none 0 0] 57) = W7 := ⟨_, rfl⟩
  have hb7 : Below w6.heap.size w6 W7 := by rw [← hW7]; exact (Below.refl _ w6).alloc (Nat.le_refl _) _
  have HB7 := Lib.hid (HB6.out.trans (hb7.mono HB6.out.size))
  have HI7 : Hid (LX W7 w6.heap.size w6.heap.size none 0 []) := ⟨by rw [← hW7]; exact heap_alloc_new w6 _, World.ownsRow_nil _ _ _ _, Nat.le_refl _, by decide, List.Pairwise.nil⟩
  have HG7 := Lib.hid (ixGet_any w6.heap.size w6.heap.size none 0 [] s W7 HI7.out)
  rw [show hasK LM.nm [] s = false from rfl, getM_not (show hasK LM.nm [] s = false from rfl), hz] at HG7
  clear hb7
  go_wp2_with fail
  refine HG7.out.mono ?_
  rintro e w8 ⟨rfl, hbel⟩
  have HB8 := Lib.hid (HB7.out.trans (hbel.mono HB7.out.size))
  have HI8 := Lib.hid (HI7.out.below hbel rfl)
  clear hbel HG7 hW7
  obtain ⟨W9, hW9⟩ : ∃ W9, W9 = w8.alloc (.cells #[.string ⟨#[]⟩, .int .i64 0, .int .i64 0, .int .i64 0, .int .i64 0, .int .u32 0, .int .i64 0] 32) := ⟨_, rfl⟩
  have hb9 : Below w8.heap.size w8 W9 := by rw [hW9]; exact (Below.refl _ w8).alloc (Nat.le_refl _) _
  have HB9 := Lib.hid (HB8.out.trans (hb9.mono HB8.out.size))
  have HI9 := Lib.hid (HI8.out.below hb9 rfl)
  have HW9 := Lib.hid hW9
  clear hb9 hW9
  go_wp2_with fail
  rw [← HW9.out]
  refine (nilEach_any (some ⟨w6.heap.size, 0, none⟩) ⟨#[]⟩ W9 (.inr ⟨_, _, rfl, HI9.out⟩)).mono ?_
  rintro e w10 ⟨b, rfl, hq, _, hbel⟩
  have HB10 := Lib.hid (HB9.out.trans (hbel.mono HB9.out.size))
  have HI10 := Lib.hid (HI9.out.below hbel rfl)
  have HQ10 := Lib.hid hq
  clear hbel hq
  have hfn : ∀ V, (binOp .eql 48 (.func (.func 47) #[] #[.pointer (some ⟨b, 0, none⟩)]) Value.nilFunc).run Tryd.prog V = .ok (.bool false) V := fun V => fnNil_run V _ _ _ _ _ _ _ Tryd.underlying48
  obtain ⟨W11, hW11⟩ : ∃ W11, W11 = w10.alloc (.cells #[.int .i64 0] 3) := ⟨_, rfl⟩
  have hb11 : Below w10.heap.size w10 W11 := by rw [hW11]; exact (Below.refl _ w10).alloc (Nat.le_refl _) _
  have HB11 := Lib.hid (HB10.out.trans (hb11.mono HB10.out.size))
  have HI11 := Lib.hid (HI10.out.below hb11 rfl)
  have HQ11 : Hid (NilSeq W11 b) := Box.below HQ10.out hb11 (Box.lt HQ10.out)
  have HN11 : Hid (Box W11 w10.heap.size #[.int .i64 0] 3) := by show Box _ _ _ _; rw [hW11]; exact heap_alloc_new w10 _
  have HW11 := Lib.hid hW11
  clear hb11 hW11
  go_wp2_with fail
  rw [← HW11.out]
  refine (vals_none _ b W11 HQ11.out).mono ?_
  rintro e w' ⟨rfl, rfl⟩
  have n0 : W11.cell? ⟨w10.heap.size, 0, none⟩ = some (.int .i64 0) := HN11.out.cell 0
  have hroom : roomM [] s = true := rfl
  have HLN := Lib.hid (ixLen_any w6.heap.size w6.heap.size none 0 [] W11 HI11.out)
  have HBY := Lib.hid (ixBytes_any w6.heap.size w6.heap.size none 0 [] W11 HI11.out (by decide))
  have hl0 : ((([] : List LM).length : Nat) : Int) = 0 := rfl
  have hr0 : ((rowsM [] + 20 : Nat) : Int) = 20 := rfl
  rw [hl0] at HLN
  rw [hr0] at HBY
  go_wp2_with fail
  refine HLN.out.mono ?_
  rintro e w' ⟨rfl, rfl⟩
  go_wp2_with fail
  refine HBY.out.mono ?_
  rintro e w12 ⟨rfl, hbel⟩
  have HB12 := Lib.hid (HB11.out.trans (hbel.mono HB11.out.size))
  have HI12 := Lib.hid (HI11.out.below hbel rfl)
  clear hbel n0
  have HRM := Lib.hid (ixRoom_any w6.heap.size w6.heap.size none 0 [] s w12 HI12.out)
  rw [hroom] at HRM
  go_wp2_with fail
  refine HRM.out.mono ?_
  rintro e w13 ⟨rfl, hbel⟩
  have HB13 := Lib.hid (HB12.out.trans (hbel.mono HB12.out.size))
  have HI13 := Lib.hid (HI12.out.below hbel rfl)
  clear hbel
  go_wp2_with fail
  refine (ixDrop_not w6.heap.size w6.heap.size none 0 [] s w13 HI13.out rfl).mono ?_
  rintro e w14 ⟨rfl, hbel⟩
  have HB14 := Lib.hid (HB13.out.trans (hbel.mono HB13.out.size))
  clear hbel
  go_wp2_with fail
  refine (HLV.out _).mono ?_
  rintro e w15 ⟨rfl, hbel⟩
  have HB15 := Lib.hid (HB14.out.trans (hbel.mono HB14.out.size))
  clear hbel
  go_wp2
  go_ret
  exact ⟨rfl, HB15.out⟩
end Go.Proofs.YtjoifgeljjgflaaDoor
