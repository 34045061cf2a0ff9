/- Layer 17: StonePuts walked. -/
import Derived.Test.YtakjpkhholgdbaaDoorStPl
namespace Go.Proofs.YtakjpkhholgdbaaDoor
open Go.RowKit CrcP FieldP

set_option maxRecDepth 100000 in
set_option maxHeartbeats 2000000 in
theorem stputs_any (s : ByteArray) (w : World) (hm : s.size ≤ maxLen) :
    Calls Tryd.prog 3 #[.string s] w fun e w' => e = .returned (.bool true) ∧ Below w.heap.size w w' := by
  by_cases hL : 300 < s.size
  · have hL' : (300 : Int) < s.size := by omega
    go_enter Tryd.func3, Tryd.ntmps3
    go_wp2_with (go_at_call 7; refine (stLives_any _).mono ?_; rintro e w6 ⟨rfl, hb⟩; have HB6 := Lib.hid hb; clear hb)
    go_ret
    exact ⟨rfl, HB6.out⟩
  have hz := (zero_of_info tableInfo).1
  have HSZ := Lib.hid tableSize
  have hL' : ¬ (300 : Int) < s.size := by omega
  have hs : s.size ≤ 300 := by omega
  clear hL
  go_enter Tryd.func3, Tryd.ntmps3
  go_wp2_with fail
  refine (make_any _).mono ?_
  rintro e w1 ⟨rfl, hb⟩
  have HG := Lib.hid (heap_alloc_last w1 (.cells (Array.replicate 256 (.int .u32 0)) 25))
  have HB := Lib.hid hb
  clear hb
  go_wp2_with (refine wpList_store_row rfl 25 _ _ rfl w1.heap.size tabCells rfl rfl 25 _ HG.out HSZ.out (by rw [Array.size_replicate, tabCells_size]) tabCells_one ?_; rw [World.setRow_alloc_new])
  have HTB := Lib.hid (table_new w1)
  have HB2 := Lib.hid (HB.out.alloc HB.out.size (.cells tabCells 25))
  generalize w1.alloc (.cells tabCells 25) = w2 at *
  clear hz HG HSZ
  cases hr : rightB s.data.toList with
  | false =>
    refine (stPut_no w1.heap.size s w2 hm hr).mono ?_
    rintro e w3 ⟨rfl, hb⟩
    have HB3 := Lib.hid (HB2.out.trans (hb.mono HB2.out.size))
    clear hb
    have HRR := Lib.hid (fun W => refRight_any s W hm)
    rw [hr] at HRR
    clear hr
    go_wp2_with (first | (go_at_call 10; refine (stLen_any s _ (by omega)).mono ?_; rintro e w' ⟨rfl, rfl⟩) | (go_at_call 11; refine (HRR.out _).mono ?_; rintro e w4 ⟨rfl, hb⟩; have HB4 := Lib.hid (HB3.out.trans (hb.mono HB3.out.size)); clear hb) | (go_at_call 7; refine (stLives_any _).mono ?_; rintro e w6 ⟨rfl, hb⟩; have HB6 := Lib.hid (HB4.out.trans (hb.mono HB4.out.size)); clear hb))
    go_ret
    exact ⟨rfl, HB6.out⟩
  | true =>
    refine (stPut_yes w1.heap.size s w2 hm hr HTB.out).mono ?_
    rintro e w3 ⟨A, k, rfl, hown, hb⟩
    have HB3 := Lib.hid (HB2.out.trans (hb.mono HB2.out.size))
    have HBY3 := Lib.hid hown.cells
    clear hb hown
    have HRR := Lib.hid (fun W => refRight_any s W hm)
    rw [hr] at HRR
    have hlen : (tombB s.data.toList).length = 9 + s.size := by rw [tombB_length, Array.length_toList]; rfl
    have hcv : ∀ (W : World) (A : Option Addr) (c' B : Nat) (bs : List UInt8), Bytes W B A bs → bs.length = 9 + s.size → (convert 27 9 (.slice A (9 + s.size) c')).run Tryd.prog W = .ok (.string ⟨bs.toArray⟩) W := fun W A c' B bs h hl => run_string_of 27 9 5 Tryd.underlying27 Tryd.underlying5 Tryd.underlying9 h hl
    have HCV := Lib.hid hcv
    have HLEN := Lib.hid hlen
    have HREF := Lib.hid (fun W => stRefPut_any s W hs)
    clear hcv hlen hr
    go_wp2_with (first | (go_at_call 10; refine (stLen_any s _ (by omega)).mono ?_; rintro e w' ⟨rfl, rfl⟩) | (go_at_call 11; refine (HRR.out _).mono ?_; rintro e w5 ⟨rfl, hb⟩; have HB5 := Lib.hid (HB3.out.trans (hb.mono HB3.out.size)); have HBY5 := Lib.hid (HBY3.out.below hb (Nat.le_refl _)); have hz5 := hb.size; clear hb))
    have k1 := HCV.out w5.drew A k _ _ HBY5.out HLEN.out
    generalize hs1 : (⟨(tombB s.data.toList).toArray⟩ : ByteArray) = st at *
    have HS1 := Lib.hid hs1
    clear hs1
    go_region_with (first
      | (go_at_call 12; refine (HREF.out _).mono ?_; rintro e w6 ⟨A6, c6, rfl, hown, hbel⟩; have HB6 := Lib.hid hbel; have k3 := HCV.out w6 A6 c6 _ _ hown.cells HLEN.out; have k4 := HCV.out w6 A k _ _ (HBY5.out.drew.below hbel hz5) HLEN.out; rw [HS1.out] at k3 k4; clear hown hbel)
      | (go_at_call 7; refine (stLives_any _).mono ?_; rintro e w7 ⟨rfl, hb7⟩; have HB7 := Lib.hid hb7; clear hb7))
    all_goals
      go_wp2
      go_ret
      exact ⟨rfl, (HB5.out.drew.trans (HB6.out.mono HB5.out.size)).trans (HB7.out.mono (Nat.le_trans HB5.out.size HB6.out.size))⟩
end Go.Proofs.YtakjpkhholgdbaaDoor
