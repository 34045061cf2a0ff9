/- Layer 21: the laws' common: a slot goes there and back. -/
import Derived.Test.YtpokicngpapkcaaSlPl
namespace Go.Proofs.Ytpokicngpapkcaa
open Go.RowKit CrcP FieldP
attribute [local go_sem ↓] Go.wp_at_zero Go.wp_at_succ

set_option maxRecDepth 100000 in
set_option maxHeartbeats 1000000 in
theorem slLives_any (w : World) : Calls Try.prog 12 #[] w fun e w' => e = .returned (.bool true) ∧ Below w.heap.size w w' := by
  have hz := (zero_of_info tableInfo).1
  have HSZ := Lib.hid tableSize
  have hyes : slB 3 1024 0 false = true := by decide
  have HV := Lib.hid (slV_back (q := 3) (e := 1024) (d := 0) (c := false) hyes)
  have HTL := Lib.hid (slotB_length 3 1024 0 false)
  have HP := Lib.hid (fun g W (hT : Table W g) => slPut_yes g 3 1024 0 false W hyes hT)
  have HPL := Lib.hid (place_any 3)
  have hp3 : placeC 3 = 512 := by decide
  rw [hp3] at HPL
  clear hyes hp3
  generalize slotB 3 1024 0 false = bs at *
  go_enter Try.func12, Try.ntmps12
  go_wp2_with fail
  refine (make_any _).mono ?_
  rintro e w1 ⟨rfl, hb⟩
  have HG := Lib.hid (heap_alloc_last w1 (.cells (Array.replicate 256 (.int .u32 0)) 26))
  have HB := Lib.hid hb
  clear hb
  go_wp2_with (refine wpList_store_row rfl 26 _ _ rfl w1.heap.size tabCells rfl rfl 26 _ HG.out HSZ.out (by rw [Array.size_replicate, tabCells_size]) tabCells_one ?_; rw [World.setRow_alloc_new])
  have HTB := Lib.hid (table_new w1)
  have HB2 := Lib.hid (HB.out.alloc HB.out.size (.cells tabCells 26))
  generalize w1.alloc (.cells tabCells 26) = w2 at *
  clear hz HG HSZ
  refine (HP.out w1.heap.size w2 HTB.out).mono ?_
  rintro e w3 ⟨A, c, rfl, hown, hbel⟩
  have HO3 := Lib.hid hown
  have HB3 := Lib.hid (HB2.out.trans (hbel.mono HB2.out.size))
  have HT3 := Lib.hid (HTB.out.below hbel HTB.out.lt)
  have hc : 512 ≤ c := own_cap hown
  clear hown hbel
  have HTK := Lib.hid (slTake_all w1.heap.size A c _ w3.heap.size w3 HT3.out HTL.out hc HO3.out.cells (Nat.le_refl _))
  rw [HV.out] at HTK
  go_wp2_with (first | (go_at_call 17; refine HTK.out.mono ?_; rintro e w4 ⟨rfl, hbw⟩; have HB4 := Lib.hid (HB3.out.trans (hbw.mono HB3.out.size)); clear hbw) | (go_at_call 11; refine (HPL.out _).mono ?_; rintro e w' ⟨rfl, rfl⟩))
  go_ret
  exact ⟨rfl, HB4.out.alloc HB4.out.size _⟩
end Go.Proofs.Ytpokicngpapkcaa
