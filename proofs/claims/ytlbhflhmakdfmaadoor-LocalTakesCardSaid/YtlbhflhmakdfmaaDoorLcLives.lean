/- Layer 16: lives. -/
import Derived.Test.YtlbhflhmakdfmaaDoorLcPl
namespace Go.Proofs.YtlbhflhmakdfmaaDoor
open Go.RowKit CrcP FieldP

def textAB : ByteArray := ⟨#[97, 98]⟩
theorem textAB_right : hdB 0 textAB.data.toList 0 0 0 = true := by decide
set_option maxRecDepth 100000 in
set_option maxHeartbeats 1000000 in
theorem lcLives_any (w : World) (hW : Wid w) : Calls Tryd.prog 4 #[] w fun e w' => e = .returned (.bool true) ∧ Below w.heap.size w w' := by
  have hz := (zero_of_info tableInfo).1
  have HSZ := Lib.hid tableSize
  have hw0 := hW.1
  have HWI := Lib.hid hW
  obtain ⟨_, hi, hv⟩ := head_back (bs := headB 0 textAB.data.toList 0 0 0) (l := textAB.data.toList) (p := 0) (m := 0) (sz := 0) (ar := 0) (su := 0) textAB_right (by decide) (by rw [List.drop_zero]; exact List.take_of_length_le (by rw [headB_length]; exact Nat.le_refl _))
  have HV : Hid (lcV (headB 0 textAB.data.toList 0 0 0) 0 = .tuple #[.agg #[.int .i64 0, .string textAB, .int .i64 0, .int .i64 0, .int .u32 0], .int .i64 24, .int .i64 0]) := hv
  have HI := Lib.hid hi
  have HTL := Lib.hid (headB_length 0 textAB.data.toList 0 0 0)
  have htA : textAB.toList = [97, 98] := by rw [ByteArray.toList_eq]; rfl
  have HP := Lib.hid (fun g W (hV : Wid W) (hT : Table W g) => lcPut_yes g 0 textAB 0 0 0 W hV (by decide) textAB_right hT)
  clear hi hv hW
  go_enter Tryd.func4, Tryd.ntmps4
  go_wp2_with fail
  refine (make_any _).mono ?_
  rintro e w1 ⟨rfl, hb⟩
  have HG := Lib.hid (heap_alloc_last w1 (.cells (Array.replicate 256 (.int .u32 0)) 26))
  have HB := Lib.hid hb
  clear hb
  go_wp2_with (refine wpList_store_row rfl 26 _ _ rfl w1.heap.size tabCells rfl rfl 26 _ HG.out HSZ.out (by rw [Array.size_replicate, tabCells_size]) tabCells_one ?_; rw [World.setRow_alloc_new])
  have HTB := Lib.hid (table_new w1)
  have HB2 := Lib.hid (HB.out.alloc HB.out.size (.cells tabCells 26))
  generalize w1.alloc (.cells tabCells 26) = w2 at *
  clear hz HG HSZ
  refine (HP.out w1.heap.size w2 (HWI.out.below HB2.out hw0 (by have := HB2.out.size; omega)) HTB.out).mono ?_
  rintro e w3 ⟨A, c, rfl, hown, hbel⟩
  rw [show 22 + textAB.size = 24 from rfl] at hown ⊢
  have HO3 := Lib.hid hown
  have HB3 := Lib.hid (HB2.out.trans (hbel.mono HB2.out.size))
  have HT3 := Lib.hid (HTB.out.below hbel HTB.out.lt)
  have hc : 24 ≤ c := own_cap hown
  clear hown hbel
  have HTK := Lib.hid (lcTake_ok w1.heap.size A 24 c _ w3.heap.size 0 w3 HT3.out (HWI.out.below HB3.out hw0 (by have := HB3.out.size; omega)) HTL.out (by omega) hc HO3.out.cells (Nat.le_refl _) (by omega) (fun _ => HI.out))
  rw [HV.out] at HTK
  go_wp2_with (first | (go_at_call 6; refine HTK.out.mono ?_; rintro e w4 ⟨rfl, hbw⟩; have HB4 := Lib.hid (HB3.out.trans (hbw.mono HB3.out.size)); have HB5 := Lib.hid (HB4.out.alloc HB4.out.size (.cells #[.int .i64 0, .string textAB, .int .i64 0, .int .i64 0, .int .u32 0] 29)); clear hbw) | (go_at_call 10; refine (lcLen_any textAB _ (by decide)).mono ?_; rintro e w' ⟨rfl, rfl⟩))
  go_ret
  exact ⟨rfl, HB5.out⟩
end Go.Proofs.YtlbhflhmakdfmaaDoor
