/- Layer 17: StoneTakes walked. -/
import Derived.Test.YtakjpkhholgdbaaDoorStAns
import Derived.Test.YtakjpkhholgdbaaDoorLists
namespace Go.Proofs.YtakjpkhholgdbaaDoor
open Go.RowKit CrcP FieldP

theorem cap_of_lies {w : World} {e : Sh} {a : Option Addr} {len cap : Nat} (h : Lies w (.slice e) [.slice a len cap]) : len ≤ cap := by
  obtain ⟨A, l', c', X, he, _, hlc, _⟩ := h
  injection he with h1 h2
  injection h1 with h3 h4 h5
  omega

set_option maxHeartbeats 1000000 in
theorem sttakes_long (A : Option Addr) (l c : Nat) (p : Int) (w : World) (h : 1000 < l) :
    Calls Tryd.prog 4 #[.slice A l c, .int .i64 p] w fun e w' => e = .returned (.bool true) ∧ Below w.heap.size w w' := by
  have hL' : (1000 : Int) < l := by omega
  clear h
  go_enter Tryd.func4, Tryd.ntmps4
  go_wp2_with (go_at_call 7; refine (stLives_any _).mono ?_; rintro e w6 ⟨rfl, hb⟩; have HB6 := Lib.hid hb; clear hb)
  go_ret
  exact ⟨rfl, HB6.out⟩

set_option maxRecDepth 100000 in
set_option maxHeartbeats 2000000 in
theorem sttakes_low (A : Option Addr) (l c : Nat) (bs : List UInt8) (p : Int) (w : World) (hl : bs.length = l) (hm : l ≤ 1000) (hlc : l ≤ c)
    (p0 : -9223372036854775808 ≤ (p : Int)) (p1 : (p : Int) ≤ 9223372036854775807) (hb : Bytes w w.heap.size A bs) (h : p < 0) :
    Calls Tryd.prog 4 #[.slice A l c, .int .i64 p] w fun e w' => e = .returned (.bool true) ∧ Below w.heap.size w w' := by
  have hz := (zero_of_info tableInfo).1
  have HSZ := Lib.hid tableSize
  have hL' : ¬ (1000 : Int) < l := by omega
  have HBY : Hid (Bytes w w.heap.size A bs) := hb
  have HIS := Lib.hid (fun W (h : Bytes W w.heap.size A bs) => stIs_any A l c bs w.heap.size p W hl hm hlc p0 p1 h)
  have HTK := Lib.hid (fun tg W (hT : Table W tg) (h : Bytes W w.heap.size A bs) (hB : w.heap.size ≤ W.heap.size) => stTake_any tg A l c bs w.heap.size p W hT hl hm hlc h hB)
  have HRF := Lib.hid (fun W (h : Bytes W w.heap.size A bs) (hB : w.heap.size ≤ W.heap.size) => refSt_any A l c bs w.heap.size p W hl hm hlc h hB)
  obtain ⟨S, K, E, he⟩ := stAns_form bs p
  rw [he] at HTK HRF
  clear he
  rw [isB_low h] at HIS
  have hd : decide ((0 : Int) ≤ p) = false := by simp; omega
  clear h
  clear hl hb
  go_enter Tryd.func4, Tryd.ntmps4
  go_wp2_with fail
  refine (make_any _).mono ?_
  rintro e w1 ⟨rfl, hb⟩
  have HG := Lib.hid (heap_alloc_last w1 (.cells (Array.replicate 256 (.int .u32 0)) 25))
  have HB := Lib.hid hb
  clear hb
  go_wp2_with (refine wpList_store_row rfl 25 _ _ rfl w1.heap.size tabCells rfl rfl 25 _ HG.out HSZ.out (by rw [Array.size_replicate, tabCells_size]) tabCells_one ?_; rw [World.setRow_alloc_new])
  have HTB := Lib.hid (table_new w1)
  have HB2 := Lib.hid (HB.out.alloc HB.out.size (.cells tabCells 25))
  generalize w1.alloc (.cells tabCells 25) = w2 at *
  clear hz HG HSZ
  refine (HTK.out _ _ HTB.out (HBY.out.below HB2.out (Nat.le_refl _)) HB2.out.size).mono ?_
  rintro e w3 ⟨rfl, hb⟩
  have HB3 := Lib.hid (HB2.out.trans (hb.mono HB2.out.size))
  clear hb
  go_wp2_with fail
  refine (HRF.out _ (HBY.out.below HB3.out (Nat.le_refl _)) HB3.out.size).mono ?_
  rintro e w4 ⟨rfl, hb⟩
  have HB4 := Lib.hid (HB3.out.trans (hb.mono HB3.out.size))
  clear hb
  go_wp2_with (first | (go_at_call 15; refine (HIS.out _ (HBY.out.below HB4.out (Nat.le_refl _))).mono ?_; rintro e w' ⟨rfl, rfl⟩) | (go_at_call 7; refine (stLives_any _).mono ?_; rintro e w6 ⟨rfl, hb⟩; have HB6 := Lib.hid (HB4.out.trans (hb.mono HB4.out.size)); clear hb))
  go_ret
  exact ⟨rfl, HB6.out⟩

set_option maxRecDepth 100000 in
set_option maxHeartbeats 2000000 in
theorem sttakes_over (A : Option Addr) (l c : Nat) (bs : List UInt8) (p : Int) (w : World) (hl : bs.length = l) (hm : l ≤ 1000) (hlc : l ≤ c)
    (p0 : -9223372036854775808 ≤ (p : Int)) (p1 : (p : Int) ≤ 9223372036854775807) (hb : Bytes w w.heap.size A bs) (h : (l : Int) < p) :
    Calls Tryd.prog 4 #[.slice A l c, .int .i64 p] w fun e w' => e = .returned (.bool true) ∧ Below w.heap.size w w' := by
  have hz := (zero_of_info tableInfo).1
  have HSZ := Lib.hid tableSize
  have hL' : ¬ (1000 : Int) < l := by omega
  have HBY : Hid (Bytes w w.heap.size A bs) := hb
  have HIS := Lib.hid (fun W (h : Bytes W w.heap.size A bs) => stIs_any A l c bs w.heap.size p W hl hm hlc p0 p1 h)
  have HTK := Lib.hid (fun tg W (hT : Table W tg) (h : Bytes W w.heap.size A bs) (hB : w.heap.size ≤ W.heap.size) => stTake_any tg A l c bs w.heap.size p W hT hl hm hlc h hB)
  have HRF := Lib.hid (fun W (h : Bytes W w.heap.size A bs) (hB : w.heap.size ≤ W.heap.size) => refSt_any A l c bs w.heap.size p W hl hm hlc h hB)
  obtain ⟨S, K, E, he⟩ := stAns_form bs p
  rw [he] at HTK HRF
  clear he
  rw [isB_high (by show (bs.length : Int) - 4 < p; omega)] at HIS
  have hd : decide ((0 : Int) ≤ p) = true := by simp; omega
  have hd2 : decide (p ≤ (l : Int)) = false := by simp; omega
  clear h
  clear hl hb
  go_enter Tryd.func4, Tryd.ntmps4
  go_wp2_with fail
  refine (make_any _).mono ?_
  rintro e w1 ⟨rfl, hb⟩
  have HG := Lib.hid (heap_alloc_last w1 (.cells (Array.replicate 256 (.int .u32 0)) 25))
  have HB := Lib.hid hb
  clear hb
  go_wp2_with (refine wpList_store_row rfl 25 _ _ rfl w1.heap.size tabCells rfl rfl 25 _ HG.out HSZ.out (by rw [Array.size_replicate, tabCells_size]) tabCells_one ?_; rw [World.setRow_alloc_new])
  have HTB := Lib.hid (table_new w1)
  have HB2 := Lib.hid (HB.out.alloc HB.out.size (.cells tabCells 25))
  generalize w1.alloc (.cells tabCells 25) = w2 at *
  clear hz HG HSZ
  refine (HTK.out _ _ HTB.out (HBY.out.below HB2.out (Nat.le_refl _)) HB2.out.size).mono ?_
  rintro e w3 ⟨rfl, hb⟩
  have HB3 := Lib.hid (HB2.out.trans (hb.mono HB2.out.size))
  clear hb
  go_wp2_with fail
  refine (HRF.out _ (HBY.out.below HB3.out (Nat.le_refl _)) HB3.out.size).mono ?_
  rintro e w4 ⟨rfl, hb⟩
  have HB4 := Lib.hid (HB3.out.trans (hb.mono HB3.out.size))
  clear hb
  go_wp2_with (first | (go_at_call 15; refine (HIS.out _ (HBY.out.below HB4.out (Nat.le_refl _))).mono ?_; rintro e w' ⟨rfl, rfl⟩) | (go_at_call 7; refine (stLives_any _).mono ?_; rintro e w6 ⟨rfl, hb⟩; have HB6 := Lib.hid (HB4.out.trans (hb.mono HB4.out.size)); clear hb))
  go_ret
  exact ⟨rfl, HB6.out⟩

set_option maxRecDepth 100000 in
set_option maxHeartbeats 2000000 in
theorem sttakes_near (A : Option Addr) (l c : Nat) (bs : List UInt8) (p : Nat) (w : World) (hl : bs.length = l) (hm : l ≤ 1000) (hlc : l ≤ c)
    (p0 : -9223372036854775808 ≤ (p : Int)) (p1 : (p : Int) ≤ 9223372036854775807) (hb : Bytes w w.heap.size A bs) (h : p ≤ l) (h4 : l < p + 4) :
    Calls Tryd.prog 4 #[.slice A l c, .int .i64 p] w fun e w' => e = .returned (.bool true) ∧ Below w.heap.size w w' := by
  have hz := (zero_of_info tableInfo).1
  have HSZ := Lib.hid tableSize
  have hL' : ¬ (1000 : Int) < l := by omega
  have HBY : Hid (Bytes w w.heap.size A bs) := hb
  have HIS := Lib.hid (fun W (h : Bytes W w.heap.size A bs) => stIs_any A l c bs w.heap.size p W hl hm hlc p0 p1 h)
  have HTK := Lib.hid (fun tg W (hT : Table W tg) (h : Bytes W w.heap.size A bs) (hB : w.heap.size ≤ W.heap.size) => stTake_any tg A l c bs w.heap.size p W hT hl hm hlc h hB)
  have HRF := Lib.hid (fun W (h : Bytes W w.heap.size A bs) (hB : w.heap.size ≤ W.heap.size) => refSt_any A l c bs w.heap.size p W hl hm hlc h hB)
  obtain ⟨S, K, E, he⟩ := stAns_form bs p
  rw [he] at HTK HRF
  clear he
  rw [isB_high (by show (bs.length : Int) - 4 < p; omega)] at HIS
  have hd2 : decide ((p : Int) ≤ (l : Int)) = true := by simp; omega
  have hd4 : decide ((4 : Int) ≤ (l : Int) - (p : Int)) = false := by simp; omega
  clear h4
  clear hl hb
  go_enter Tryd.func4, Tryd.ntmps4
  go_wp2_with fail
  refine (make_any _).mono ?_
  rintro e w1 ⟨rfl, hb⟩
  have HG := Lib.hid (heap_alloc_last w1 (.cells (Array.replicate 256 (.int .u32 0)) 25))
  have HB := Lib.hid hb
  clear hb
  go_wp2_with (refine wpList_store_row rfl 25 _ _ rfl w1.heap.size tabCells rfl rfl 25 _ HG.out HSZ.out (by rw [Array.size_replicate, tabCells_size]) tabCells_one ?_; rw [World.setRow_alloc_new])
  have HTB := Lib.hid (table_new w1)
  have HB2 := Lib.hid (HB.out.alloc HB.out.size (.cells tabCells 25))
  generalize w1.alloc (.cells tabCells 25) = w2 at *
  clear hz HG HSZ
  refine (HTK.out _ _ HTB.out (HBY.out.below HB2.out (Nat.le_refl _)) HB2.out.size).mono ?_
  rintro e w3 ⟨rfl, hb⟩
  have HB3 := Lib.hid (HB2.out.trans (hb.mono HB2.out.size))
  clear hb
  go_wp2_with fail
  refine (HRF.out _ (HBY.out.below HB3.out (Nat.le_refl _)) HB3.out.size).mono ?_
  rintro e w4 ⟨rfl, hb⟩
  have HB4 := Lib.hid (HB3.out.trans (hb.mono HB3.out.size))
  clear hb
  go_wp2_with (first | (go_at_call 15; refine (HIS.out _ (HBY.out.below HB4.out (Nat.le_refl _))).mono ?_; rintro e w' ⟨rfl, rfl⟩) | (go_at_call 7; refine (stLives_any _).mono ?_; rintro e w6 ⟨rfl, hb⟩; have HB6 := Lib.hid (HB4.out.trans (hb.mono HB4.out.size)); clear hb))
  go_ret
  exact ⟨rfl, HB6.out⟩

set_option maxRecDepth 100000 in
set_option maxHeartbeats 2000000 in
theorem sttakes_there (A : Option Addr) (l c : Nat) (bs : List UInt8) (p : Nat) (w : World) (hl : bs.length = l) (hm : l ≤ 1000) (hlc : l ≤ c)
    (p0 : -9223372036854775808 ≤ (p : Int)) (p1 : (p : Int) ≤ 9223372036854775807) (hb : Bytes w w.heap.size A bs) (h4 : p + 4 ≤ l) :
    Calls Tryd.prog 4 #[.slice A l c, .int .i64 p] w fun e w' => e = .returned (.bool true) ∧ Below w.heap.size w w' := by
  have hz := (zero_of_info tableInfo).1
  have HSZ := Lib.hid tableSize
  have hL' : ¬ (1000 : Int) < l := by omega
  have HBY : Hid (Bytes w w.heap.size A bs) := hb
  have HIS := Lib.hid (fun W (h : Bytes W w.heap.size A bs) => stIs_any A l c bs w.heap.size p W hl hm hlc p0 p1 h)
  have HTK := Lib.hid (fun tg W (hT : Table W tg) (h : Bytes W w.heap.size A bs) (hB : w.heap.size ≤ W.heap.size) => stTake_any tg A l c bs w.heap.size p W hT hl hm hlc h hB)
  have HRF := Lib.hid (fun W (h : Bytes W w.heap.size A bs) (hB : w.heap.size ≤ W.heap.size) => refSt_any A l c bs w.heap.size p W hl hm hlc h hB)
  obtain ⟨S, K, E, he⟩ := stAns_form bs p
  rw [he] at HTK HRF
  clear he
  have hin := isB_in (mk := tombBytes) (bs := bs) (p := p) (by show p + 4 ≤ bs.length; omega)
  have hd2 : decide ((p : Int) ≤ (l : Int)) = true := by simp; omega
  have hd4 : decide ((4 : Int) ≤ (l : Int) - (p : Int)) = true := by simp; omega
  obtain ⟨b, o, rfl, hbB, hcell⟩ := hb (by rw [byteCells_length, hl]; omega)
  have HCV : Hid (∀ W, Below w.heap.size w W → (convert 27 9 (.slice (some ⟨b, o + p, none⟩) 4 (c - p))).run Tryd.prog W = .ok (.string ⟨((bs.drop p).take 4).toArray⟩) W) := fun W h => run_string_of 27 9 5 Tryd.underlying27 Tryd.underlying5 Tryd.underlying9 ((bytes_part hbB hcell p 4).below h (Nat.le_refl _)) (l := 4) (by rw [List.length_take, List.length_drop, hl]; omega)
  obtain ⟨T, hT⟩ : ∃ T : ByteArray, (⟨((bs.drop p).take 4).toArray⟩ : ByteArray) = T := ⟨_, rfl⟩
  have hTT : (T.toList == [84, 79, 77, 66]) = decide ((bs.drop p).take 4 = tombBytes) := by
    rw [ByteArray.toList_eq, ← hT, Bool.eq_iff_iff, beq_iff_eq, decide_eq_true_iff]
    exact Iff.rfl
  rw [hin, show tombBytes.length = 4 from rfl, ← hTT] at HIS
  rw [hT] at HCV
  have hcp : ¬ c = p := by omega
  have hpl : p + 4 ≤ c := by omega
  clear hin hTT hT hcell
  obtain ⟨is, his⟩ : ∃ is, (T.toList == [84, 79, 77, 66]) = is := ⟨_, rfl⟩
  rw [his] at HIS
  clear hl hb
  go_enter Tryd.func4, Tryd.ntmps4
  go_wp2_with fail
  refine (make_any _).mono ?_
  rintro e w1 ⟨rfl, hb⟩
  have HG := Lib.hid (heap_alloc_last w1 (.cells (Array.replicate 256 (.int .u32 0)) 25))
  have HB := Lib.hid hb
  clear hb
  go_wp2_with (refine wpList_store_row rfl 25 _ _ rfl w1.heap.size tabCells rfl rfl 25 _ HG.out HSZ.out (by rw [Array.size_replicate, tabCells_size]) tabCells_one ?_; rw [World.setRow_alloc_new])
  have HTB := Lib.hid (table_new w1)
  have HB2 := Lib.hid (HB.out.alloc HB.out.size (.cells tabCells 25))
  generalize w1.alloc (.cells tabCells 25) = w2 at *
  clear hz HG HSZ
  refine (HTK.out _ _ HTB.out (HBY.out.below HB2.out (Nat.le_refl _)) HB2.out.size).mono ?_
  rintro e w3 ⟨rfl, hb⟩
  have HB3 := Lib.hid (HB2.out.trans (hb.mono HB2.out.size))
  clear hb
  go_wp2_with fail
  refine (HRF.out _ (HBY.out.below HB3.out (Nat.le_refl _)) HB3.out.size).mono ?_
  rintro e w4 ⟨rfl, hb⟩
  have HB4 := Lib.hid (HB3.out.trans (hb.mono HB3.out.size))
  clear hb
  have k1 := HCV.out _ HB4.out
  go_wp2_with (first | (go_at_call 15; refine (HIS.out _ (HBY.out.below HB4.out (Nat.le_refl _))).mono ?_; rintro e w' ⟨rfl, rfl⟩) | (go_at_call 7; refine (stLives_any _).mono ?_; rintro e w6 ⟨rfl, hb⟩; have HB6 := Lib.hid (HB4.out.trans (hb.mono HB4.out.size)); clear hb))
  go_ret
  exact ⟨rfl, HB6.out⟩

theorem sttakes_any (A : Option Addr) (l c : Nat) (bs : List UInt8) (p : Int) (w : World) (hl : bs.length = l) (hlc : l ≤ c)
    (p0 : -9223372036854775808 ≤ p) (p1 : p ≤ 9223372036854775807) (hb : Bytes w w.heap.size A bs) :
    Calls Tryd.prog 4 #[.slice A l c, .int .i64 p] w fun e w' => e = .returned (.bool true) ∧ Below w.heap.size w w' := by
  by_cases hm : 1000 < l
  · exact sttakes_long A l c p w hm
  by_cases h0 : p < 0
  · exact sttakes_low A l c bs p w hl (by omega) hlc p0 p1 hb h0
  by_cases h1 : (l : Int) < p
  · exact sttakes_over A l c bs p w hl (by omega) hlc p0 p1 hb h1
  obtain ⟨q, rfl⟩ := Int.eq_ofNat_of_zero_le (show 0 ≤ p by omega)
  by_cases h4 : l < q + 4
  · exact sttakes_near A l c bs q w hl (by omega) hlc p0 p1 hb (by omega) h4
  · exact sttakes_there A l c bs q w hl (by omega) hlc p0 p1 hb (by omega)
end Go.Proofs.YtakjpkhholgdbaaDoor
