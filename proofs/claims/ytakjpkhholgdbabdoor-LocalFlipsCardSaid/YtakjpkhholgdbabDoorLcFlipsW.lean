/- Layer 16: LocalFlips walked. -/
import Derived.Test.YtakjpkhholgdbabDoorLcFlips
namespace Go.Proofs.YtakjpkhholgdbabDoor
open Go.RowKit CrcP FieldP
attribute [local go_sem ↓] Go.wp_at_zero Go.wp_at_succ

set_option maxRecDepth 100000 in
set_option maxHeartbeats 1000000 in
theorem lcflips_early (m : Int) (s : ByteArray) (sz ar su a bits : Int) (w : World) (hW : Wid w) (h : 300 < s.size ∨ a < 0 ∨ 3000 < a) :
    Calls Tryd.prog 6 #[.agg #[.int .i64 m, .string s, .int .i64 sz, .int .i64 ar, .int .u32 su], .int .i64 a, .int .u32 bits] w fun e w' => e = .returned (.bool true) ∧ Below w.heap.size w w' := by
  have HWI := Lib.hid hW
  have hw0 := hW.1
  have HB0 := Lib.hid ((Below.refl w.heap.size w).alloc (Nat.le_refl _) (.cells #[.int .i64 m, .string s, .int .i64 sz, .int .i64 ar, .int .u32 su] 24))
  clear hW
  by_cases h1 : 300 < s.size
  · have hL : (300 : Int) < s.size := by omega
    clear h h1
    go_enter Tryd.func6, Tryd.ntmps6
    go_wp2_with (go_at_call 7; refine (lcLives_any _ (HWI.out.below HB0.out hw0 (by have := HB0.out.size; omega))).mono ?_; rintro e w6 ⟨rfl, hb⟩; have HB9 := Lib.hid (HB0.out.trans (hb.mono HB0.out.size)); clear hb)
    go_ret
    exact ⟨rfl, HB9.out⟩
  have hL : ¬ (300 : Int) < s.size := by omega
  by_cases h2 : a < 0
  · clear h h1
    go_enter Tryd.func6, Tryd.ntmps6
    go_wp2_with (go_at_call 7; refine (lcLives_any _ (HWI.out.below HB0.out hw0 (by have := HB0.out.size; omega))).mono ?_; rintro e w6 ⟨rfl, hb⟩; have HB9 := Lib.hid (HB0.out.trans (hb.mono HB0.out.size)); clear hb)
    go_ret
    exact ⟨rfl, HB9.out⟩
  · have h3 : 3000 < a := by omega
    clear h h1
    go_enter Tryd.func6, Tryd.ntmps6
    go_wp2_with (go_at_call 7; refine (lcLives_any _ (HWI.out.below HB0.out hw0 (by have := HB0.out.size; omega))).mono ?_; rintro e w6 ⟨rfl, hb⟩; have HB9 := Lib.hid (HB0.out.trans (hb.mono HB0.out.size)); clear hb)
    go_ret
    exact ⟨rfl, HB9.out⟩

set_option maxRecDepth 100000 in
set_option maxHeartbeats 2000000 in
theorem lcflips_bad (m : Int) (s : ByteArray) (sz ar su : Int) (a bits : Int) (w : World) (hW : Wid w) (hm : s.size ≤ 300) (a0 : 0 ≤ a) (a1 : a ≤ 3000) (h : hdB m s.data.toList sz ar su = false) :
    Calls Tryd.prog 6 #[.agg #[.int .i64 m, .string s, .int .i64 sz, .int .i64 ar, .int .u32 su], .int .i64 a, .int .u32 bits] w fun e w' => e = .returned (.bool true) ∧ Below w.heap.size w w' := by
  have hz := (zero_of_info tableInfo).1
  have HSZ := Lib.hid tableSize
  have HWI := Lib.hid hW
  have hw0 := hW.1
  have hL1 : ¬ (300 : Int) < s.size := by omega
  have hL2 : ¬ a < 0 := by omega
  have hL3 : ¬ (3000 : Int) < a := by omega
  clear hW
  obtain ⟨w0, hw0'⟩ : ∃ w0, w.alloc (.cells #[.int .i64 m, .string s, .int .i64 sz, .int .i64 ar, .int .u32 su] 24) = w0 := ⟨_, rfl⟩
  have HX0 : Hid (Box w0 w.heap.size #[.int .i64 m, .string s, .int .i64 sz, .int .i64 ar, .int .u32 su] 24) := by rw [← hw0']; exact heap_alloc_new w _
  have HA0 : Hid (Below w.heap.size w w0) := by rw [← hw0']; exact (Below.refl w.heap.size w).alloc (Nat.le_refl _) _
  have hx1 : w0.cell? ⟨w.heap.size, 1, none⟩ = some (.string s) := HX0.out.cell 1
  go_enter Tryd.func6, Tryd.ntmps6
  go_wp2_with fail
  refine (make_any _).mono ?_
  rintro e w1 ⟨rfl, hb⟩
  have HX1 := Lib.hid (HX0.out.below hb HX0.out.lt)
  have HB1 := Lib.hid (HA0.out.trans (hb.mono HA0.out.size))
  have HG := Lib.hid (heap_alloc_last w1 (.cells (Array.replicate 256 (.int .u32 0)) 27))
  clear hb hw0' hx1
  go_wp2_with (refine wpList_store_row rfl 27 _ _ rfl w1.heap.size tabCells rfl rfl 27 _ HG.out HSZ.out (by rw [Array.size_replicate, tabCells_size]) tabCells_one ?_; rw [World.setRow_alloc_new]; have HTB := Lib.hid (table_new w1); have HX2 := Lib.hid (HX1.out.alloc (.cells tabCells 27)); have HB2 := Lib.hid (HB1.out.alloc HB1.out.size (.cells tabCells 27)); generalize w1.alloc (.cells tabCells 27) = w2 at *; have y0 : w2.cell? ⟨w.heap.size, 0, none⟩ = some (.int .i64 (m : Int)) := HX2.out.cell 0; have y1 : w2.cell? ⟨w.heap.size, 1, none⟩ = some (.string s) := HX2.out.cell 1; have y2 : w2.cell? ⟨w.heap.size, 2, none⟩ = some (.int .i64 (sz : Int)) := HX2.out.cell 2; have y3 : w2.cell? ⟨w.heap.size, 3, none⟩ = some (.int .i64 (ar : Int)) := HX2.out.cell 3; have y4 : w2.cell? ⟨w.heap.size, 4, none⟩ = some (.int .u32 (su : Int)) := HX2.out.cell 4)
  clear hz HG HSZ y0 y1 y2 y3 y4
  refine (lcPut_no w1.heap.size m s sz ar su w2 (by unfold maxLen; omega) h).mono ?_
  rintro e w3 ⟨rfl, hb⟩
  have HB3 := Lib.hid (HB2.out.trans (hb.mono HB2.out.size))
  clear hb h
  go_wp2_with (go_at_call 7; refine (lcLives_any _ (HWI.out.below HB3.out hw0 (by have := HB3.out.size; omega))).mono ?_; rintro e w6 ⟨rfl, hb⟩; have HB9 := Lib.hid (HB3.out.trans (hb.mono HB3.out.size)); clear hb)
  go_ret
  exact ⟨rfl, HB9.out⟩

set_option maxRecDepth 100000 in
set_option maxHeartbeats 2000000 in
theorem lcflips_good (m : Nat) (s : ByteArray) (sz ar su : Nat) (a bits : Int) (w : World) (hW : Wid w) (hm : s.size ≤ 300) (a0 : 0 ≤ a) (a1 : a ≤ 3000) (b0 : 0 ≤ bits) (b1 : bits < 4294967296) (hsu : su < 4294967296) (h : hdB m s.data.toList sz ar su = true) :
    Calls Tryd.prog 6 #[.agg #[.int .i64 (m : Int), .string s, .int .i64 (sz : Int), .int .i64 (ar : Int), .int .u32 (su : Int)], .int .i64 a, .int .u32 bits] w fun e w' => e = .returned (.bool true) ∧ Below w.heap.size w w' := by
  have hz := (zero_of_info tableInfo).1
  have HSZ := Lib.hid tableSize
  have HWI := Lib.hid hW
  have hw0 := hW.1
  have hL1 : ¬ (300 : Int) < s.size := by omega
  have hL2 : ¬ a < 0 := by omega
  have hL3 : ¬ (3000 : Int) < a := by omega
  have h64 := (rightB_len' (hdB_name h)).2
  have hln : s.data.toList.length = s.size := by rw [Array.length_toList]; rfl
  have HP := Lib.hid (fun g W (hV : Wid W) (hT : Table W g) => lcPut_yes g m s sz ar su W hV hsu h hT)
  have HLN : Hid ((headB m s.data.toList sz ar su).length = 22 + s.size) := by show _ = _; rw [headB_length, hln]
  have HF := Lib.hid (fun (h5 : (flipK (headB m s.data.toList sz ar su) a.toNat bits.toNat 32)[5]? = (headB m s.data.toList sz ar su)[5]?) (hne : headB m s.data.toList sz ar su ≠ flipK (headB m s.data.toList sz ar su) a.toNat bits.toNat 32) => head_flips h h5 hne)
  have HS := Lib.hid (head_same s h hsu)
  have H5 : Hid ((headB m s.data.toList sz ar su)[5]? = some (UInt8.ofNat s.size)) := by show _ = _; rw [headB_five, hln]
  have h6 : decide (((22 + s.size : Nat) : Int) < (6 : Int)) = false := by simp; omega
  rw [hln] at h64
  have h9 : 5 < 22 + s.size := by omega
  clear h hln
  generalize headB m s.data.toList sz ar su = bs at *
  clear hW
  obtain ⟨w0, hw0'⟩ : ∃ w0, w.alloc (.cells #[.int .i64 (m : Int), .string s, .int .i64 (sz : Int), .int .i64 (ar : Int), .int .u32 (su : Int)] 24) = w0 := ⟨_, rfl⟩
  have HX0 : Hid (Box w0 w.heap.size #[.int .i64 (m : Int), .string s, .int .i64 (sz : Int), .int .i64 (ar : Int), .int .u32 (su : Int)] 24) := by rw [← hw0']; exact heap_alloc_new w _
  have HA0 : Hid (Below w.heap.size w w0) := by rw [← hw0']; exact (Below.refl w.heap.size w).alloc (Nat.le_refl _) _
  have hx1 : w0.cell? ⟨w.heap.size, 1, none⟩ = some (.string s) := HX0.out.cell 1
  go_enter Tryd.func6, Tryd.ntmps6
  go_wp2_with fail
  refine (make_any _).mono ?_
  rintro e w1 ⟨rfl, hb⟩
  have HX1 := Lib.hid (HX0.out.below hb HX0.out.lt)
  have HB1 := Lib.hid (HA0.out.trans (hb.mono HA0.out.size))
  have HG := Lib.hid (heap_alloc_last w1 (.cells (Array.replicate 256 (.int .u32 0)) 27))
  clear hb hw0' hx1
  go_wp2_with (refine wpList_store_row rfl 27 _ _ rfl w1.heap.size tabCells rfl rfl 27 _ HG.out HSZ.out (by rw [Array.size_replicate, tabCells_size]) tabCells_one ?_; rw [World.setRow_alloc_new]; have HTB := Lib.hid (table_new w1); have HX2 := Lib.hid (HX1.out.alloc (.cells tabCells 27)); have HB2 := Lib.hid (HB1.out.alloc HB1.out.size (.cells tabCells 27)); generalize w1.alloc (.cells tabCells 27) = w2 at *; have y0 : w2.cell? ⟨w.heap.size, 0, none⟩ = some (.int .i64 (m : Int)) := HX2.out.cell 0; have y1 : w2.cell? ⟨w.heap.size, 1, none⟩ = some (.string s) := HX2.out.cell 1; have y2 : w2.cell? ⟨w.heap.size, 2, none⟩ = some (.int .i64 (sz : Int)) := HX2.out.cell 2; have y3 : w2.cell? ⟨w.heap.size, 3, none⟩ = some (.int .i64 (ar : Int)) := HX2.out.cell 3; have y4 : w2.cell? ⟨w.heap.size, 4, none⟩ = some (.int .u32 (su : Int)) := HX2.out.cell 4)
  clear hz HG HSZ y0 y1 y2 y3 y4
  refine (HP.out w1.heap.size w2 (HWI.out.below HB2.out hw0 (by have := HB2.out.size; omega)) HTB.out).mono ?_
  rintro e w3 ⟨A, k, rfl, hown, hb⟩
  have HX3 := Lib.hid (HX2.out.below hb HX2.out.lt)
  have HB3 := Lib.hid (HB2.out.trans (hb.mono HB2.out.size))
  have HT3 := Lib.hid (HTB.out.below hb HTB.out.lt)
  have HY3 := Lib.hid hown.cells
  have hk := own_cap hown
  clear hb hown HP
  go_wp2_with fail
  refine (refFlip_any A (22 + s.size) k bs a bits w3 HLN.out (by omega) a0 (by omega) b0 b1 HY3.out).mono ?_
  rintro e w4 ⟨A', k', rfl, hy, hb, hk'⟩
  have HX4 := Lib.hid (HX3.out.below hb HX3.out.lt)
  have HB4 := Lib.hid (HB3.out.trans (hb.mono HB3.out.size))
  have HT4 := Lib.hid (HT3.out.below hb HT3.out.lt)
  have HYA := Lib.hid (HY3.out.below hb (Nat.le_refl _))
  have HYC := Lib.hid hy
  have hz4 := hb.size
  clear hb hy
  have HLC : Hid ((flipK bs a.toNat bits.toNat 32).length = 22 + s.size) := by show _ = _; rw [length_flipK]; exact HLN.out
  have HC5 : Hid (∃ y : UInt8, (flipK bs a.toNat bits.toNat 32)[5]? = some y) := ⟨_, List.getElem?_eq_getElem (by rw [HLC.out]; exact h9)⟩
  generalize flipK bs a.toNat bits.toNat 32 = cs at *
  obtain ⟨y, hy⟩ := HC5.out
  have HY5 := Lib.hid hy
  obtain ⟨ga, oa, rfl, hga, hca⟩ := HYA.out (by rw [byteCells_length, HLN.out]; omega)
  obtain ⟨gc, oc, rfl, hgc, hcc⟩ := HYC.out (by rw [byteCells_length, HLC.out]; omega)
  have c1 : w4.cell? ⟨ga, oa + 5, none⟩ = some (.int .u8 (s.size : Int)) := hca 5 _ (by
    unfold byteCells
    rw [List.getElem?_map, H5.out]
    show some (Value.int .u8 (((UInt8.ofNat s.size).toNat : Nat) : Int)) = _
    rw [byte_toNat, show s.size % 256 = s.size by omega])
  have c2 : w4.cell? ⟨gc, oc + 5, none⟩ = some (.int .u8 (y.toNat : Int)) := hcc 5 _ (by unfold byteCells; rw [List.getElem?_map, hy]; rfl)
  have hyl := UInt8.toNat_lt y
  have HTK := Lib.hid (fun n => lcTake_all w1.heap.size (some ⟨gc, oc, none⟩) (22 + s.size) k' cs w4.heap.size 0 (w4.drewN n) HT4.out (HWI.out.below (below_drewN HB4.out n) hw0 (by have := (below_drewN HB4.out n).size; omega)) HLC.out (by omega) hk' (HYC.out.drewN n) (Nat.le_refl _))
  obtain ⟨yn, hyn⟩ : ∃ yn, y.toNat = yn := ⟨_, rfl⟩
  rw [hyn] at c2 hyl
  have hyl' : yn < 256 := hyl
  clear hy hca hcc hyl
  by_cases hq : yn = s.size
  · have HEQ : Hid (cs[5]? = bs[5]?) := by
      show _ = _
      rw [HY5.out, H5.out, ← hq, ← hyn, UInt8.ofNat_toNat]
    subst hq
    clear hyn
    go_wp2_with fail
    go_quiet (fail)
    have HSA := Lib.hid (fun (w5 : World) (hb : Below w4.heap.size (w4.drewN nq) w5) => same_any (some ⟨ga, oa, none⟩) (22 + s.size) k bs (some ⟨gc, oc, none⟩) (22 + s.size) k' cs w3.heap.size w4.heap.size w5 HLN.out HLC.out ((HYA.out.drewN nq).below hb hz4) ((HYC.out.drewN nq).below hb (Nat.le_refl _)))
    have HTQ := Lib.hid (HTK.out nq)
    have HB5 := Lib.hid (below_drewN HB4.out nq)
    have HX5 := Lib.hid (HX4.out.drewN nq)
    by_cases hs : bs = cs
    · subst hs
      rw [HS.out] at HTQ
      go_wp2_with (first | (go_at_call 14; refine HTQ.out.mono ?_; rintro e w5 ⟨rfl, hb⟩; have HSB := Lib.hid (HSA.out _ (hb.alloc hb.size (.cells #[.int .i64 (m : Int), .string s, .int .i64 (sz : Int), .int .i64 (ar : Int), .int .u32 (su : Int)] 24))); have HB6 := Lib.hid (HB5.out.trans (hb.mono HB5.out.size)); have HB7 := Lib.hid (HB6.out.alloc HB6.out.size (.cells #[.int .i64 (m : Int), .string s, .int .i64 (sz : Int), .int .i64 (ar : Int), .int .u32 (su : Int)] 24)); have HX6 := Lib.hid (HX5.out.below hb HX5.out.lt); have HX7 := Lib.hid (HX6.out.alloc (.cells #[.int .i64 (m : Int), .string s, .int .i64 (sz : Int), .int .i64 (ar : Int), .int .u32 (su : Int)] 24)); have HZ7 : Hid (Box (w5.alloc (.cells #[.int .i64 (m : Int), .string s, .int .i64 (sz : Int), .int .i64 (ar : Int), .int .u32 (su : Int)] 24)) w5.heap.size #[.int .i64 (m : Int), .string s, .int .i64 (sz : Int), .int .i64 (ar : Int), .int .u32 (su : Int)] 24) := heap_alloc_new w5 _; clear hb; obtain ⟨w8, hw8⟩ : ∃ w8, w5.alloc (.cells #[.int .i64 (m : Int), .string s, .int .i64 (sz : Int), .int .i64 (ar : Int), .int .u32 (su : Int)] 24) = w8 := ⟨_, rfl⟩; rw [hw8] at HSB HB7 HX7 HZ7; have y0 : w8.cell? ⟨w.heap.size, 0, none⟩ = some (.int .i64 (m : Int)) := HX7.out.cell 0; have z0 : w8.cell? ⟨w5.heap.size, 0, none⟩ = some (.int .i64 (m : Int)) := HZ7.out.cell 0; have y1 : w8.cell? ⟨w.heap.size, 1, none⟩ = some (.string s) := HX7.out.cell 1; have z1 : w8.cell? ⟨w5.heap.size, 1, none⟩ = some (.string s) := HZ7.out.cell 1; have y2 : w8.cell? ⟨w.heap.size, 2, none⟩ = some (.int .i64 (sz : Int)) := HX7.out.cell 2; have z2 : w8.cell? ⟨w5.heap.size, 2, none⟩ = some (.int .i64 (sz : Int)) := HZ7.out.cell 2; have y3 : w8.cell? ⟨w.heap.size, 3, none⟩ = some (.int .i64 (ar : Int)) := HX7.out.cell 3; have z3 : w8.cell? ⟨w5.heap.size, 3, none⟩ = some (.int .i64 (ar : Int)) := HZ7.out.cell 3; have y4 : w8.cell? ⟨w.heap.size, 4, none⟩ = some (.int .u32 (su : Int)) := HX7.out.cell 4; have z4 : w8.cell? ⟨w5.heap.size, 4, none⟩ = some (.int .u32 (su : Int)) := HZ7.out.cell 4) | (go_at_call 18; refine HSB.out.mono ?_; rintro e w' ⟨rfl, rfl⟩) | (go_at_call 7; refine (lcLives_any _ (HWI.out.below HB7.out hw0 (by have := HB7.out.size; omega))).mono ?_; rintro e w6 ⟨rfl, hb⟩; have HB9 := Lib.hid (HB7.out.trans (hb.mono HB7.out.size)); clear hb))
      go_ret
      exact ⟨rfl, HB9.out⟩
    · obtain ⟨E, hE, he⟩ := HF.out HEQ.out hs
      rw [he] at HTQ
      have hsd : decide (bs = cs) = false := decide_eq_false hs
      clear he
      rcases hE with rfl | rfl
      · go_wp2_with (first | (go_at_call 14; refine HTQ.out.mono ?_; rintro e w5 ⟨rfl, hb⟩; have HSB := Lib.hid (HSA.out _ (hb.alloc hb.size (.cells #[.int .i64 0, .string ⟨#[]⟩, .int .i64 0, .int .i64 0, .int .u32 0] 24))); have HB6 := Lib.hid (HB5.out.trans (hb.mono HB5.out.size)); have HB7 := Lib.hid (HB6.out.alloc HB6.out.size (.cells #[.int .i64 0, .string ⟨#[]⟩, .int .i64 0, .int .i64 0, .int .u32 0] 24)); clear hb) | (go_at_call 18; refine HSB.out.mono ?_; rintro e w' ⟨rfl, rfl⟩; rw [hsd]) | (go_at_call 7; refine (lcLives_any _ (HWI.out.below HB7.out hw0 (by have := HB7.out.size; omega))).mono ?_; rintro e w6 ⟨rfl, hb⟩; have HB9 := Lib.hid (HB7.out.trans (hb.mono HB7.out.size)); clear hb))
        go_ret
        exact ⟨rfl, HB9.out⟩
      · go_wp2_with (first | (go_at_call 14; refine HTQ.out.mono ?_; rintro e w5 ⟨rfl, hb⟩; have HSB := Lib.hid (HSA.out _ (hb.alloc hb.size (.cells #[.int .i64 0, .string ⟨#[]⟩, .int .i64 0, .int .i64 0, .int .u32 0] 24))); have HB6 := Lib.hid (HB5.out.trans (hb.mono HB5.out.size)); have HB7 := Lib.hid (HB6.out.alloc HB6.out.size (.cells #[.int .i64 0, .string ⟨#[]⟩, .int .i64 0, .int .i64 0, .int .u32 0] 24)); clear hb) | (go_at_call 18; refine HSB.out.mono ?_; rintro e w' ⟨rfl, rfl⟩; rw [hsd]) | (go_at_call 7; refine (lcLives_any _ (HWI.out.below HB7.out hw0 (by have := HB7.out.size; omega))).mono ?_; rintro e w6 ⟨rfl, hb⟩; have HB9 := Lib.hid (HB7.out.trans (hb.mono HB7.out.size)); clear hb))
        go_ret
        exact ⟨rfl, HB9.out⟩
  · clear hyn
    go_wp2_with fail
    go_quiet (fail)
    have HB5 := Lib.hid (below_drewN HB4.out nq)
    go_wp2_with (go_at_call 7; refine (lcLives_any _ (HWI.out.below HB5.out hw0 (by have := HB5.out.size; omega))).mono ?_; rintro e w6 ⟨rfl, hb⟩; have HB9 := Lib.hid (HB5.out.trans (hb.mono HB5.out.size)); clear hb)
    go_ret
    exact ⟨rfl, HB9.out⟩

theorem lcflips_any (m : Int) (s : ByteArray) (sz ar su a bits : Int) (w : World) (hW : Wid w) (b0 : 0 ≤ bits) (b1 : bits < 4294967296) (s0 : 0 ≤ su) (s1 : su < 4294967296) :
    Calls Tryd.prog 6 #[.agg #[.int .i64 m, .string s, .int .i64 sz, .int .i64 ar, .int .u32 su], .int .i64 a, .int .u32 bits] w fun e w' => e = .returned (.bool true) ∧ Below w.heap.size w w' := by
  by_cases h : 300 < s.size ∨ a < 0 ∨ 3000 < a
  · exact lcflips_early m s sz ar su a bits w hW h
  cases hd : hdB m s.data.toList sz ar su with
  | false => exact lcflips_bad m s sz ar su a bits w hW (by omega) (by omega) (by omega) hd
  | true =>
    obtain ⟨h1, _, h2, _, h3, _⟩ := hdB_nums hd
    obtain ⟨m, rfl⟩ := Int.eq_ofNat_of_zero_le h1
    obtain ⟨sz, rfl⟩ := Int.eq_ofNat_of_zero_le h2
    obtain ⟨ar, rfl⟩ := Int.eq_ofNat_of_zero_le h3
    obtain ⟨su, rfl⟩ := Int.eq_ofNat_of_zero_le s0
    exact lcflips_good m s sz ar su a bits w hW (by omega) (by omega) (by omega) b0 b1 (by omega) hd
end Go.Proofs.YtakjpkhholgdbabDoor
