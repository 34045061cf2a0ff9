/- Layer 17, plainly: what was put is taken. -/
import Derived.Test.YtakjpkhholgdbaaDoorStTake
namespace Go.Proofs.YtakjpkhholgdbaaDoor
open Go.RowKit CrcP FieldP

theorem tombB_parts (l : List UInt8) : tombB l = tombBytes ++ (putN l.length 1 ++ (l ++ putN (sumN (tombBytes ++ putN l.length 1 ++ l)) 4)) := by
  unfold tombB sealed
  simp [List.append_assoc]
theorem val_put1 {n : Nat} (h : n < 256) : val (putN n 1) = n := by rw [val_putN]; exact Nat.mod_eq_of_lt h
theorem tomb_back {bs l : List UInt8} {p : Nat} (hr : rightB l = true) (h : (bs.drop p).take (9 + l.length) = tombB l) :
    p + 9 + l.length ≤ bs.length ∧ isB tombBytes bs p = true ∧ stR bs p = 0 ∧ (stS2 bs p).1 = l ∧ ((stS2 bs p).2.num bs 4).2.p = p + 9 + l.length := by
  obtain ⟨_, h64⟩ := rightB_len hr
  have hl : p + 9 + l.length ≤ bs.length := by
    have := congrArg List.length h
    rw [tombB_length, List.length_take, List.length_drop] at this
    omega
  have hX := tombB_parts l
  have hsum := sumN_lt (tombBytes ++ putN l.length 1 ++ l)
  have d0 : (tombB l).take 4 = tombBytes := by rw [hX]; exact app_take rfl
  have d4 : ((tombB l).drop 4).take 1 = putN l.length 1 := by rw [hX, app_drop (n := 4) rfl]; exact app_take (putN_length _ _)
  have d5 : ((tombB l).drop 5).take l.length = l := by
    rw [hX, show (5 : Nat) = 4 + 1 from rfl, ← List.drop_drop, app_drop (n := 4) rfl, app_drop (putN_length _ _)]
    exact app_take rfl
  have dn : ((tombB l).drop (5 + l.length)).take 4 = putN (sumN (tombBytes ++ putN l.length 1 ++ l)) 4 := by
    unfold tombB sealed
    rw [app_drop (by simp [putN_length, tombBytes]; omega)]
    exact List.take_of_length_le (by rw [putN_length]; omega)
  have dh : (tombB l).take (5 + l.length) = tombBytes ++ putN l.length 1 ++ l := by
    unfold tombB sealed
    exact app_take (by simp [putN_length, tombBytes]; omega)
  have e0 : openS bs p = ⟨p + 4, false⟩ := openS_there (by omega)
  have e1 : stS1 bs p = (l.length, ⟨p + 5, false⟩) := by
    unfold stS1
    rw [e0, num_there (by omega), cut_in (i := 4) (k := 1) h (by omega), d4, val_put1 (by omega)]
  have e2 : stS2 bs p = (l, ⟨p + 5 + l.length, false⟩) := by
    unfold stS2
    rw [e1]
    show RSt.row bs ⟨p + 5, false⟩ l.length = _
    rw [row_there (by omega), cut_in (i := 5) (k := l.length) h (by omega), d5]
  have e3 : (stS2 bs p).2.num bs 4 = (sumN (tombBytes ++ putN l.length 1 ++ l), ⟨p + 5 + l.length + 4, false⟩) := by
    rw [e2]
    show RSt.num bs ⟨p + 5 + l.length, false⟩ 4 = _
    rw [num_there (by omega), show p + 5 + l.length = p + (5 + l.length) by omega, cut_in (i := 5 + l.length) (k := 4) h (by omega), dn, val_put4 hsum]
  have e4 : chkN bs p (stS2 bs p).2 = 0 := by
    unfold chkN
    rw [e3]
    rw [if_neg (by simp), if_pos ?_]
    rw [e2]
    show _ = sumN ((bs.drop p).take (p + 5 + l.length - p))
    rw [show p + 5 + l.length - p = 5 + l.length by omega]
    have := cut_in (i := 0) (k := 5 + l.length) h (by omega)
    rw [Nat.add_zero, List.drop_zero, dh] at this
    rw [this]
  refine ⟨hl, ?_, ?_, by rw [e2], by rw [e3]; show p + 5 + l.length + 4 = _; omega⟩
  · rw [isB_in (by show p + 4 ≤ _; omega)]
    have := cut_in (i := 0) (k := 4) h (by omega)
    rw [Nat.add_zero, List.drop_zero, d0] at this
    exact decide_eq_true this
  · unfold stR
    rw [if_pos e4, e2, if_pos hr]
theorem stV_back {bs l : List UInt8} {p : Nat} (hr : rightB l = true) (h : (bs.drop p).take (9 + l.length) = tombB l) :
    stV bs p = .tuple #[.string ⟨l.toArray⟩, .int .i64 ((p + 9 + l.length : Nat) : Int), .int .i64 0] := by
  obtain ⟨_, _, h1, h2, h3⟩ := tomb_back hr h
  rw [stV_good h1, h2, h3]

set_option maxHeartbeats 400000 in
theorem stLen_any (s : ByteArray) (w : World) (hm : s.size ≤ 1000) : Calls Tryd.prog 10 #[.string s] w fun e w' => e = .returned (.int .i64 ((9 + s.size : Nat) : Int)) ∧ w = w' := by
  have hw : Int.emod ((9 : Int) + (s.size : Int) + 9223372036854775808) 18446744073709551616 - 9223372036854775808 = ((9 + s.size : Nat) : Int) := by
    rw [show Int.emod ((9 : Int) + (s.size : Int) + 9223372036854775808) 18446744073709551616 = ((9 : Int) + (s.size : Int) + 9223372036854775808) % 18446744073709551616 from rfl]
    omega
  go_enter Tryd.func10, Tryd.ntmps10
  go_wp2
  go_ret
  exact ⟨by rw [Int.natCast_add]; rfl, rfl⟩

def textA : ByteArray := ⟨#[97]⟩
theorem textA_right : rightB textA.data.toList = true := by decide
set_option maxRecDepth 100000 in
set_option maxHeartbeats 1000000 in
theorem stLives_any (w : World) : Calls Tryd.prog 7 #[] w fun e w' => e = .returned (.bool true) ∧ Below w.heap.size w w' := by
  have hz := (zero_of_info tableInfo).1
  have HSZ := Lib.hid tableSize
  have HV : Hid (stV (tombB textA.data.toList) 0 = .tuple #[.string textA, .int .i64 10, .int .i64 0]) := stV_back textA_right (by rw [List.drop_zero]; exact List.take_of_length_le (by rw [tombB_length]; exact Nat.le_refl _))
  have HI := Lib.hid (tomb_back (bs := tombB textA.data.toList) (p := 0) textA_right (by rw [List.drop_zero]; exact List.take_of_length_le (by rw [tombB_length]; exact Nat.le_refl _))).2.1
  have HTL := Lib.hid (tombB_length textA.data.toList)
  have htA : textA.toList = [97] := by rw [ByteArray.toList_eq]; rfl
  go_enter Tryd.func7, Tryd.ntmps7
  go_wp2_with fail
  refine (make_any _).mono ?_
  rintro e w1 ⟨rfl, hb⟩
  have HG := Lib.hid (heap_alloc_last w1 (.cells (Array.replicate 256 (.int .u32 0)) 25))
  have HB := Lib.hid hb
  clear hb
  go_wp2_with (refine wpList_store_row rfl 25 _ _ rfl w1.heap.size tabCells rfl rfl 25 _ HG.out HSZ.out (by rw [Array.size_replicate, tabCells_size]) tabCells_one ?_; rw [World.setRow_alloc_new])
  have HTB := Lib.hid (table_new w1)
  have HB2 := Lib.hid (HB.out.alloc HB.out.size (.cells tabCells 25))
  generalize w1.alloc (.cells tabCells 25) = w2 at *
  clear hz HG HSZ
  refine (stPut_yes w1.heap.size textA w2 (by decide) textA_right HTB.out).mono ?_
  rintro e w3 ⟨A, c, rfl, hown, hbel⟩
  rw [show 9 + textA.size = 10 from rfl] at hown ⊢
  have HO3 := Lib.hid hown
  have HB3 := Lib.hid (HB2.out.trans (hbel.mono HB2.out.size))
  have HT3 := Lib.hid (HTB.out.below hbel HTB.out.lt)
  have hc : 10 ≤ c := own_cap hown
  clear hown hbel
  have HTK := Lib.hid (stTake_ok w1.heap.size A 10 c _ w3.heap.size 0 w3 HT3.out HTL.out (by omega) hc HO3.out.cells (Nat.le_refl _) (by omega) (fun _ => HI.out))
  rw [HV.out] at HTK
  go_wp2_with (first | (go_at_call 13; refine HTK.out.mono ?_; rintro e w4 ⟨rfl, hbw⟩; have HB4 := Lib.hid (HB3.out.trans (hbw.mono HB3.out.size)); clear hbw) | (go_at_call 10; refine (stLen_any textA _ (by decide)).mono ?_; rintro e w' ⟨rfl, rfl⟩))
  go_ret
  exact ⟨rfl, HB4.out⟩
end Go.Proofs.YtakjpkhholgdbaaDoor
