/- Layer 16: LocalTakes walked. -/
import Derived.Test.YtlbhflhmakdfmaaDoorLcRefA
import Derived.Test.YtlbhflhmakdfmaaDoorLists
namespace Go.Proofs.YtlbhflhmakdfmaaDoor
open Go.RowKit CrcP FieldP

set_option maxHeartbeats 1000000 in
theorem lctakes_long (A : Option Addr) (l c : Nat) (p : Int) (w : World) (hW : Wid w) (h : 1000 < l) :
    Calls Tryd.prog 3 #[.slice A l c, .int .i64 p] w fun e w' => e = .returned (.bool true) ∧ Below w.heap.size w w' := by
  have hL' : (1000 : Int) < l := by omega
  clear h
  go_enter Tryd.func3, Tryd.ntmps3
  go_wp2_with (go_at_call 4; refine (lcLives_any _ hW).mono ?_; rintro e w6 ⟨rfl, hb⟩; have HB6 := Lib.hid hb; clear hb)
  go_ret
  exact ⟨rfl, HB6.out⟩

set_option maxRecDepth 100000 in
set_option maxHeartbeats 2000000 in
theorem lctakes_low (A : Option Addr) (l c : Nat) (bs : List UInt8) (p : Int) (w : World) (hW : Wid w) (hl : bs.length = l) (hm : l ≤ 1000) (hlc : l ≤ c)
    (p0 : -9223372036854775808 ≤ (p : Int)) (p1 : (p : Int) ≤ 9223372036854775807) (hb : Bytes w w.heap.size A bs) (h : p < 0) :
    Calls Tryd.prog 3 #[.slice A l c, .int .i64 p] w fun e w' => e = .returned (.bool true) ∧ Below w.heap.size w w' := by
  have hz := (zero_of_info tableInfo).1
  have HSZ := Lib.hid tableSize
  have hL' : ¬ (1000 : Int) < l := by omega
  have HBY : Hid (Bytes w w.heap.size A bs) := hb
  have hw0 := hW.1
  have HWI := Lib.hid hW
  have HIS := Lib.hid (fun W (h : Bytes W w.heap.size A bs) => lcIs_any A l c bs w.heap.size p W hl hm hlc p0 p1 h)
  have HTK := Lib.hid (fun tg W (hT : Table W tg) (hB : Below w.heap.size w W) => lcTake_all tg A l c bs w.heap.size p W hT (hW.below hB hw0 (by have := hB.size; omega)) hl (by omega) hlc (hb.below hB (Nat.le_refl _)) hB.size)
  have HRF := Lib.hid (fun W (h : Bytes W w.heap.size A bs) (hB : w.heap.size ≤ W.heap.size) => refLc_any A l c bs w.heap.size p W hl hm hlc h hB)
  obtain ⟨m, S, sz, ar, su, K, E, he⟩ := lcAns_form bs p
  rw [he] at HTK HRF
  clear he
  rw [isB_low h] at HIS
  have hd : decide ((0 : Int) ≤ p) = false := by simp; omega
  clear h
  clear hl hb hW
  go_enter Tryd.func3, Tryd.ntmps3
  go_wp2_with fail
  refine (make_any _).mono ?_
  rintro e w1 ⟨rfl, hb⟩
  have HG := Lib.hid (heap_alloc_last w1 (.cells (Array.replicate 256 (.int .u32 0)) 26))
  have HB := Lib.hid hb
  clear hb
  go_wp2_with (refine wpList_store_row rfl 26 _ _ rfl w1.heap.size tabCells rfl rfl 26 _ HG.out HSZ.out (by rw [Array.size_replicate, tabCells_size]) tabCells_one ?_; rw [World.setRow_alloc_new])
  have HTB := Lib.hid (table_new w1)
  have HB2 := Lib.hid (HB.out.alloc HB.out.size (.cells tabCells 26))
  generalize w1.alloc (.cells tabCells 26) = w2 at *
  clear hz HG HSZ
  refine (HTK.out _ _ HTB.out HB2.out).mono ?_
  rintro e w3 ⟨rfl, hb⟩
  have HB3 := Lib.hid ((HB2.out.trans (hb.mono HB2.out.size)).alloc (HB2.out.trans (hb.mono HB2.out.size)).size (.cells #[.int .i64 m, .string S, .int .i64 sz, .int .i64 ar, .int .u32 su] 29))
  have HO3 : Hid (Box (w3.alloc (.cells #[.int .i64 m, .string S, .int .i64 sz, .int .i64 ar, .int .u32 su] 29)) w3.heap.size #[.int .i64 m, .string S, .int .i64 sz, .int .i64 ar, .int .u32 su] 29) := heap_alloc_new w3 _
  clear hb
  go_wp2_with fail
  refine (HRF.out _ (HBY.out.below HB3.out (Nat.le_refl _)) HB3.out.size).mono ?_
  rintro e w4 ⟨rfl, hb⟩
  have HB4 := Lib.hid (HB3.out.trans (hb.mono HB3.out.size))
  have HBX := Lib.hid (HB4.out.alloc HB4.out.size (.cells #[.int .i64 m, .string S, .int .i64 sz, .int .i64 ar, .int .u32 su] 34))
  have HO4 := Lib.hid (HO3.out.below hb HO3.out.lt)
  have HO5 := Lib.hid (Box.alloc HO4.out (.cells #[.int .i64 m, .string S, .int .i64 sz, .int .i64 ar, .int .u32 su] 34))
  have HO6 : Hid (Box (w4.alloc (.cells #[.int .i64 m, .string S, .int .i64 sz, .int .i64 ar, .int .u32 su] 34)) w4.heap.size #[.int .i64 m, .string S, .int .i64 sz, .int .i64 ar, .int .u32 su] 34) := heap_alloc_new w4 _
  clear hb HO3 HO4
  have ha0 := HO5.out.cell 0
  have hg0 := HO6.out.cell 0
  have ha1 := HO5.out.cell 1
  have hg1 := HO6.out.cell 1
  have ha2 := HO5.out.cell 2
  have hg2 := HO6.out.cell 2
  have ha3 := HO5.out.cell 3
  have hg3 := HO6.out.cell 3
  have ha4 := HO5.out.cell 4
  have hg4 := HO6.out.cell 4
  go_wp2_with (first | (go_at_call 8; refine (HIS.out _ (HBY.out.below HBX.out (Nat.le_refl _))).mono ?_; rintro e w' ⟨rfl, rfl⟩) | (go_at_call 4; refine (lcLives_any _ (HWI.out.below HBX.out hw0 (by have := HBX.out.size; omega))).mono ?_; rintro e w6 ⟨rfl, hb⟩; have HB6 := Lib.hid (HBX.out.trans (hb.mono HBX.out.size)); clear hb))
  go_ret
  exact ⟨rfl, HB6.out⟩

set_option maxRecDepth 100000 in
set_option maxHeartbeats 2000000 in
theorem lctakes_over (A : Option Addr) (l c : Nat) (bs : List UInt8) (p : Int) (w : World) (hW : Wid w) (hl : bs.length = l) (hm : l ≤ 1000) (hlc : l ≤ c)
    (p0 : -9223372036854775808 ≤ (p : Int)) (p1 : (p : Int) ≤ 9223372036854775807) (hb : Bytes w w.heap.size A bs) (h : (l : Int) < p) :
    Calls Tryd.prog 3 #[.slice A l c, .int .i64 p] w fun e w' => e = .returned (.bool true) ∧ Below w.heap.size w w' := by
  have hz := (zero_of_info tableInfo).1
  have HSZ := Lib.hid tableSize
  have hL' : ¬ (1000 : Int) < l := by omega
  have HBY : Hid (Bytes w w.heap.size A bs) := hb
  have hw0 := hW.1
  have HWI := Lib.hid hW
  have HIS := Lib.hid (fun W (h : Bytes W w.heap.size A bs) => lcIs_any A l c bs w.heap.size p W hl hm hlc p0 p1 h)
  have HTK := Lib.hid (fun tg W (hT : Table W tg) (hB : Below w.heap.size w W) => lcTake_all tg A l c bs w.heap.size p W hT (hW.below hB hw0 (by have := hB.size; omega)) hl (by omega) hlc (hb.below hB (Nat.le_refl _)) hB.size)
  have HRF := Lib.hid (fun W (h : Bytes W w.heap.size A bs) (hB : w.heap.size ≤ W.heap.size) => refLc_any A l c bs w.heap.size p W hl hm hlc h hB)
  obtain ⟨m, S, sz, ar, su, K, E, he⟩ := lcAns_form bs p
  rw [he] at HTK HRF
  clear he
  rw [isB_high (by show (bs.length : Int) - 4 < p; omega)] at HIS
  have hd : decide ((0 : Int) ≤ p) = true := by simp; omega
  have hd2 : decide (p ≤ (l : Int)) = false := by simp; omega
  clear h
  clear hl hb hW
  go_enter Tryd.func3, Tryd.ntmps3
  go_wp2_with fail
  refine (make_any _).mono ?_
  rintro e w1 ⟨rfl, hb⟩
  have HG := Lib.hid (heap_alloc_last w1 (.cells (Array.replicate 256 (.int .u32 0)) 26))
  have HB := Lib.hid hb
  clear hb
  go_wp2_with (refine wpList_store_row rfl 26 _ _ rfl w1.heap.size tabCells rfl rfl 26 _ HG.out HSZ.out (by rw [Array.size_replicate, tabCells_size]) tabCells_one ?_; rw [World.setRow_alloc_new])
  have HTB := Lib.hid (table_new w1)
  have HB2 := Lib.hid (HB.out.alloc HB.out.size (.cells tabCells 26))
  generalize w1.alloc (.cells tabCells 26) = w2 at *
  clear hz HG HSZ
  refine (HTK.out _ _ HTB.out HB2.out).mono ?_
  rintro e w3 ⟨rfl, hb⟩
  have HB3 := Lib.hid ((HB2.out.trans (hb.mono HB2.out.size)).alloc (HB2.out.trans (hb.mono HB2.out.size)).size (.cells #[.int .i64 m, .string S, .int .i64 sz, .int .i64 ar, .int .u32 su] 29))
  have HO3 : Hid (Box (w3.alloc (.cells #[.int .i64 m, .string S, .int .i64 sz, .int .i64 ar, .int .u32 su] 29)) w3.heap.size #[.int .i64 m, .string S, .int .i64 sz, .int .i64 ar, .int .u32 su] 29) := heap_alloc_new w3 _
  clear hb
  go_wp2_with fail
  refine (HRF.out _ (HBY.out.below HB3.out (Nat.le_refl _)) HB3.out.size).mono ?_
  rintro e w4 ⟨rfl, hb⟩
  have HB4 := Lib.hid (HB3.out.trans (hb.mono HB3.out.size))
  have HBX := Lib.hid (HB4.out.alloc HB4.out.size (.cells #[.int .i64 m, .string S, .int .i64 sz, .int .i64 ar, .int .u32 su] 34))
  have HO4 := Lib.hid (HO3.out.below hb HO3.out.lt)
  have HO5 := Lib.hid (Box.alloc HO4.out (.cells #[.int .i64 m, .string S, .int .i64 sz, .int .i64 ar, .int .u32 su] 34))
  have HO6 : Hid (Box (w4.alloc (.cells #[.int .i64 m, .string S, .int .i64 sz, .int .i64 ar, .int .u32 su] 34)) w4.heap.size #[.int .i64 m, .string S, .int .i64 sz, .int .i64 ar, .int .u32 su] 34) := heap_alloc_new w4 _
  clear hb HO3 HO4
  have ha0 := HO5.out.cell 0
  have hg0 := HO6.out.cell 0
  have ha1 := HO5.out.cell 1
  have hg1 := HO6.out.cell 1
  have ha2 := HO5.out.cell 2
  have hg2 := HO6.out.cell 2
  have ha3 := HO5.out.cell 3
  have hg3 := HO6.out.cell 3
  have ha4 := HO5.out.cell 4
  have hg4 := HO6.out.cell 4
  go_wp2_with (first | (go_at_call 8; refine (HIS.out _ (HBY.out.below HBX.out (Nat.le_refl _))).mono ?_; rintro e w' ⟨rfl, rfl⟩) | (go_at_call 4; refine (lcLives_any _ (HWI.out.below HBX.out hw0 (by have := HBX.out.size; omega))).mono ?_; rintro e w6 ⟨rfl, hb⟩; have HB6 := Lib.hid (HBX.out.trans (hb.mono HBX.out.size)); clear hb))
  go_ret
  exact ⟨rfl, HB6.out⟩

set_option maxRecDepth 100000 in
set_option maxHeartbeats 2000000 in
theorem lctakes_near (A : Option Addr) (l c : Nat) (bs : List UInt8) (p : Nat) (w : World) (hW : Wid w) (hl : bs.length = l) (hm : l ≤ 1000) (hlc : l ≤ c)
    (p0 : -9223372036854775808 ≤ (p : Int)) (p1 : (p : Int) ≤ 9223372036854775807) (hb : Bytes w w.heap.size A bs) (h : p ≤ l) (h4 : l < p + 4) :
    Calls Tryd.prog 3 #[.slice A l c, .int .i64 p] w fun e w' => e = .returned (.bool true) ∧ Below w.heap.size w w' := by
  have hz := (zero_of_info tableInfo).1
  have HSZ := Lib.hid tableSize
  have hL' : ¬ (1000 : Int) < l := by omega
  have HBY : Hid (Bytes w w.heap.size A bs) := hb
  have hw0 := hW.1
  have HWI := Lib.hid hW
  have HIS := Lib.hid (fun W (h : Bytes W w.heap.size A bs) => lcIs_any A l c bs w.heap.size p W hl hm hlc p0 p1 h)
  have HTK := Lib.hid (fun tg W (hT : Table W tg) (hB : Below w.heap.size w W) => lcTake_all tg A l c bs w.heap.size p W hT (hW.below hB hw0 (by have := hB.size; omega)) hl (by omega) hlc (hb.below hB (Nat.le_refl _)) hB.size)
  have HRF := Lib.hid (fun W (h : Bytes W w.heap.size A bs) (hB : w.heap.size ≤ W.heap.size) => refLc_any A l c bs w.heap.size p W hl hm hlc h hB)
  obtain ⟨m, S, sz, ar, su, K, E, he⟩ := lcAns_form bs p
  rw [he] at HTK HRF
  clear he
  rw [isB_high (by show (bs.length : Int) - 4 < p; omega)] at HIS
  have hd2 : decide ((p : Int) ≤ (l : Int)) = true := by simp; omega
  have hd4 : decide ((4 : Int) ≤ (l : Int) - (p : Int)) = false := by simp; omega
  clear h4
  clear hl hb hW
  go_enter Tryd.func3, Tryd.ntmps3
  go_wp2_with fail
  refine (make_any _).mono ?_
  rintro e w1 ⟨rfl, hb⟩
  have HG := Lib.hid (heap_alloc_last w1 (.cells (Array.replicate 256 (.int .u32 0)) 26))
  have HB := Lib.hid hb
  clear hb
  go_wp2_with (refine wpList_store_row rfl 26 _ _ rfl w1.heap.size tabCells rfl rfl 26 _ HG.out HSZ.out (by rw [Array.size_replicate, tabCells_size]) tabCells_one ?_; rw [World.setRow_alloc_new])
  have HTB := Lib.hid (table_new w1)
  have HB2 := Lib.hid (HB.out.alloc HB.out.size (.cells tabCells 26))
  generalize w1.alloc (.cells tabCells 26) = w2 at *
  clear hz HG HSZ
  refine (HTK.out _ _ HTB.out HB2.out).mono ?_
  rintro e w3 ⟨rfl, hb⟩
  have HB3 := Lib.hid ((HB2.out.trans (hb.mono HB2.out.size)).alloc (HB2.out.trans (hb.mono HB2.out.size)).size (.cells #[.int .i64 m, .string S, .int .i64 sz, .int .i64 ar, .int .u32 su] 29))
  have HO3 : Hid (Box (w3.alloc (.cells #[.int .i64 m, .string S, .int .i64 sz, .int .i64 ar, .int .u32 su] 29)) w3.heap.size #[.int .i64 m, .string S, .int .i64 sz, .int .i64 ar, .int .u32 su] 29) := heap_alloc_new w3 _
  clear hb
  go_wp2_with fail
  refine (HRF.out _ (HBY.out.below HB3.out (Nat.le_refl _)) HB3.out.size).mono ?_
  rintro e w4 ⟨rfl, hb⟩
  have HB4 := Lib.hid (HB3.out.trans (hb.mono HB3.out.size))
  have HBX := Lib.hid (HB4.out.alloc HB4.out.size (.cells #[.int .i64 m, .string S, .int .i64 sz, .int .i64 ar, .int .u32 su] 34))
  have HO4 := Lib.hid (HO3.out.below hb HO3.out.lt)
  have HO5 := Lib.hid (Box.alloc HO4.out (.cells #[.int .i64 m, .string S, .int .i64 sz, .int .i64 ar, .int .u32 su] 34))
  have HO6 : Hid (Box (w4.alloc (.cells #[.int .i64 m, .string S, .int .i64 sz, .int .i64 ar, .int .u32 su] 34)) w4.heap.size #[.int .i64 m, .string S, .int .i64 sz, .int .i64 ar, .int .u32 su] 34) := heap_alloc_new w4 _
  clear hb HO3 HO4
  have ha0 := HO5.out.cell 0
  have hg0 := HO6.out.cell 0
  have ha1 := HO5.out.cell 1
  have hg1 := HO6.out.cell 1
  have ha2 := HO5.out.cell 2
  have hg2 := HO6.out.cell 2
  have ha3 := HO5.out.cell 3
  have hg3 := HO6.out.cell 3
  have ha4 := HO5.out.cell 4
  have hg4 := HO6.out.cell 4
  go_wp2_with (first | (go_at_call 8; refine (HIS.out _ (HBY.out.below HBX.out (Nat.le_refl _))).mono ?_; rintro e w' ⟨rfl, rfl⟩) | (go_at_call 4; refine (lcLives_any _ (HWI.out.below HBX.out hw0 (by have := HBX.out.size; omega))).mono ?_; rintro e w6 ⟨rfl, hb⟩; have HB6 := Lib.hid (HBX.out.trans (hb.mono HBX.out.size)); clear hb))
  go_ret
  exact ⟨rfl, HB6.out⟩

set_option maxRecDepth 100000 in
set_option maxHeartbeats 2000000 in
theorem lctakes_there (A : Option Addr) (l c : Nat) (bs : List UInt8) (p : Nat) (w : World) (hW : Wid w) (hl : bs.length = l) (hm : l ≤ 1000) (hlc : l ≤ c)
    (p0 : -9223372036854775808 ≤ (p : Int)) (p1 : (p : Int) ≤ 9223372036854775807) (hb : Bytes w w.heap.size A bs) (h4 : p + 4 ≤ l) :
    Calls Tryd.prog 3 #[.slice A l c, .int .i64 p] w fun e w' => e = .returned (.bool true) ∧ Below w.heap.size w w' := by
  have hz := (zero_of_info tableInfo).1
  have HSZ := Lib.hid tableSize
  have hL' : ¬ (1000 : Int) < l := by omega
  have HBY : Hid (Bytes w w.heap.size A bs) := hb
  have hw0 := hW.1
  have HWI := Lib.hid hW
  have HIS := Lib.hid (fun W (h : Bytes W w.heap.size A bs) => lcIs_any A l c bs w.heap.size p W hl hm hlc p0 p1 h)
  have HTK := Lib.hid (fun tg W (hT : Table W tg) (hB : Below w.heap.size w W) => lcTake_all tg A l c bs w.heap.size p W hT (hW.below hB hw0 (by have := hB.size; omega)) hl (by omega) hlc (hb.below hB (Nat.le_refl _)) hB.size)
  have HRF := Lib.hid (fun W (h : Bytes W w.heap.size A bs) (hB : w.heap.size ≤ W.heap.size) => refLc_any A l c bs w.heap.size p W hl hm hlc h hB)
  obtain ⟨m, S, sz, ar, su, K, E, he⟩ := lcAns_form bs p
  rw [he] at HTK HRF
  clear he
  have hin := isB_in (mk := headBytes) (bs := bs) (p := p) (by show p + 4 ≤ bs.length; omega)
  have hd2 : decide ((p : Int) ≤ (l : Int)) = true := by simp; omega
  have hd4 : decide ((4 : Int) ≤ (l : Int) - (p : Int)) = true := by simp; omega
  obtain ⟨b, o, rfl, hbB, hcell⟩ := hb (by rw [byteCells_length, hl]; omega)
  have HCV : Hid (∀ W, Below w.heap.size w W → (convert 22 9 (.slice (some ⟨b, o + p, none⟩) 4 (c - p))).run Tryd.prog W = .ok (.string ⟨((bs.drop p).take 4).toArray⟩) W) := fun W h => run_string_of 22 9 5 Tryd.underlying22 Tryd.underlying5 Tryd.underlying9 ((bytes_part hbB hcell p 4).below h (Nat.le_refl _)) (l := 4) (by rw [List.length_take, List.length_drop, hl]; omega)
  obtain ⟨T, hT⟩ : ∃ T : ByteArray, (⟨((bs.drop p).take 4).toArray⟩ : ByteArray) = T := ⟨_, rfl⟩
  have hTT : (T.toList == [76, 77, 66, 82]) = decide ((bs.drop p).take 4 = headBytes) := by
    rw [ByteArray.toList_eq, ← hT, Bool.eq_iff_iff, beq_iff_eq, decide_eq_true_iff]
    exact Iff.rfl
  rw [hin, show headBytes.length = 4 from rfl, ← hTT] at HIS
  rw [hT] at HCV
  have hcp : ¬ c = p := by omega
  have hpl : p + 4 ≤ c := by omega
  clear hin hTT hT hcell
  obtain ⟨is, his⟩ : ∃ is, (T.toList == [76, 77, 66, 82]) = is := ⟨_, rfl⟩
  rw [his] at HIS
  clear hl hb hW
  go_enter Tryd.func3, Tryd.ntmps3
  go_wp2_with fail
  refine (make_any _).mono ?_
  rintro e w1 ⟨rfl, hb⟩
  have HG := Lib.hid (heap_alloc_last w1 (.cells (Array.replicate 256 (.int .u32 0)) 26))
  have HB := Lib.hid hb
  clear hb
  go_wp2_with (refine wpList_store_row rfl 26 _ _ rfl w1.heap.size tabCells rfl rfl 26 _ HG.out HSZ.out (by rw [Array.size_replicate, tabCells_size]) tabCells_one ?_; rw [World.setRow_alloc_new])
  have HTB := Lib.hid (table_new w1)
  have HB2 := Lib.hid (HB.out.alloc HB.out.size (.cells tabCells 26))
  generalize w1.alloc (.cells tabCells 26) = w2 at *
  clear hz HG HSZ
  refine (HTK.out _ _ HTB.out HB2.out).mono ?_
  rintro e w3 ⟨rfl, hb⟩
  have HB3 := Lib.hid ((HB2.out.trans (hb.mono HB2.out.size)).alloc (HB2.out.trans (hb.mono HB2.out.size)).size (.cells #[.int .i64 m, .string S, .int .i64 sz, .int .i64 ar, .int .u32 su] 29))
  have HO3 : Hid (Box (w3.alloc (.cells #[.int .i64 m, .string S, .int .i64 sz, .int .i64 ar, .int .u32 su] 29)) w3.heap.size #[.int .i64 m, .string S, .int .i64 sz, .int .i64 ar, .int .u32 su] 29) := heap_alloc_new w3 _
  clear hb
  go_wp2_with fail
  refine (HRF.out _ (HBY.out.below HB3.out (Nat.le_refl _)) HB3.out.size).mono ?_
  rintro e w4 ⟨rfl, hb⟩
  have HB4 := Lib.hid (HB3.out.trans (hb.mono HB3.out.size))
  have HBX := Lib.hid (HB4.out.alloc HB4.out.size (.cells #[.int .i64 m, .string S, .int .i64 sz, .int .i64 ar, .int .u32 su] 34))
  have HO4 := Lib.hid (HO3.out.below hb HO3.out.lt)
  have HO5 := Lib.hid (Box.alloc HO4.out (.cells #[.int .i64 m, .string S, .int .i64 sz, .int .i64 ar, .int .u32 su] 34))
  have HO6 : Hid (Box (w4.alloc (.cells #[.int .i64 m, .string S, .int .i64 sz, .int .i64 ar, .int .u32 su] 34)) w4.heap.size #[.int .i64 m, .string S, .int .i64 sz, .int .i64 ar, .int .u32 su] 34) := heap_alloc_new w4 _
  clear hb HO3 HO4
  have ha0 := HO5.out.cell 0
  have hg0 := HO6.out.cell 0
  have ha1 := HO5.out.cell 1
  have hg1 := HO6.out.cell 1
  have ha2 := HO5.out.cell 2
  have hg2 := HO6.out.cell 2
  have ha3 := HO5.out.cell 3
  have hg3 := HO6.out.cell 3
  have ha4 := HO5.out.cell 4
  have hg4 := HO6.out.cell 4
  have k1 := HCV.out _ HBX.out
  go_wp2_with (first | (go_at_call 8; refine (HIS.out _ (HBY.out.below HBX.out (Nat.le_refl _))).mono ?_; rintro e w' ⟨rfl, rfl⟩) | (go_at_call 4; refine (lcLives_any _ (HWI.out.below HBX.out hw0 (by have := HBX.out.size; omega))).mono ?_; rintro e w6 ⟨rfl, hb⟩; have HB6 := Lib.hid (HBX.out.trans (hb.mono HBX.out.size)); clear hb))
  go_ret
  exact ⟨rfl, HB6.out⟩

theorem lctakes_any (A : Option Addr) (l c : Nat) (bs : List UInt8) (p : Int) (w : World) (hW : Wid w) (hl : bs.length = l) (hlc : l ≤ c)
    (p0 : -9223372036854775808 ≤ p) (p1 : p ≤ 9223372036854775807) (hb : Bytes w w.heap.size A bs) :
    Calls Tryd.prog 3 #[.slice A l c, .int .i64 p] w fun e w' => e = .returned (.bool true) ∧ Below w.heap.size w w' := by
  by_cases hm : 1000 < l
  · exact lctakes_long A l c p w hW hm
  by_cases h0 : p < 0
  · exact lctakes_low A l c bs p w hW hl (by omega) hlc p0 p1 hb h0
  by_cases h1 : (l : Int) < p
  · exact lctakes_over A l c bs p w hW hl (by omega) hlc p0 p1 hb h1
  obtain ⟨q, rfl⟩ := Int.eq_ofNat_of_zero_le (show 0 ≤ p by omega)
  by_cases h4 : l < q + 4
  · exact lctakes_near A l c bs q w hW hl (by omega) hlc p0 p1 hb (by omega) h4
  · exact lctakes_there A l c bs q w hW hl (by omega) hlc p0 p1 hb (by omega)
end Go.Proofs.YtlbhflhmakdfmaaDoor
