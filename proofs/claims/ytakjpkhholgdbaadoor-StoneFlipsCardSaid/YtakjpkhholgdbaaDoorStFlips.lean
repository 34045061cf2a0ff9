/- Layer 17: StoneFlips walked. -/
import Derived.Test.YtakjpkhholgdbaaDoorStAns
import Derived.Test.YtakjpkhholgdbaaDoorKFlip
import Derived.Test.YtakjpkhholgdbaaDoorCrcRes
namespace Go.Proofs.YtakjpkhholgdbaaDoor
open Go.RowKit CrcP FieldP
attribute [local go_sem ↓] Go.wp_at_zero Go.wp_at_succ

theorem tombB_four (l : List UInt8) : (tombB l)[4]? = some (UInt8.ofNat l.length) := by
  rw [tombB_parts, List.getElem?_append_right (by show 4 ≤ 4; exact Nat.le_refl _)]
  rfl
theorem flips_ans {l : List UInt8} {a bits : Nat} (hr : rightB l = true) (h4 : (flipK (tombB l) a bits 32)[4]? = (tombB l)[4]?) (hne : tombB l ≠ flipK (tombB l) a bits 32) :
    ∃ E, (E = 3 ∨ E = 4) ∧ stAns (flipK (tombB l) a bits 32) 0 = .tuple #[.string ⟨#[]⟩, .int .i64 0, .int .i64 E] := by
  have h64 := (rightB_len hr).2
  have hl : (flipK (tombB l) a bits 32).length = 9 + l.length := by rw [length_flipK, tombB_length]
  have hx : (UInt8.ofNat l.length).toNat = l.length := by rw [byte_toNat]; omega
  rw [tombB_four] at h4
  have h0 : ¬ ((0 : Int) < 0 ∨ ((flipK (tombB l) a bits 32).length : Int) < 0) := by omega
  cases hi : isB tombBytes (flipK (tombB l) a bits 32) 0 with
  | false =>
    refine ⟨3, .inl rfl, ?_⟩
    unfold stAns
    rw [if_neg h0, if_pos ⟨by rw [hl]; omega, hi⟩]
  | true =>
    refine ⟨4, .inr rfl, ?_⟩
    have hR : stR (flipK (tombB l) a bits 32) 0 = 4 := by
      rw [stR_full (p := 0) (x := UInt8.ofNat l.length) (by rw [Nat.zero_add]; exact h4) (by rw [hl, hx]; omega), hx, Nat.zero_add, List.drop_zero]
      refine if_neg fun hv => hne ?_
      exact burst_sealed (k := 5 + l.length) (by show (tombB l).length = _; rw [tombB_length]; omega) hv
    unfold stAns
    rw [if_neg h0, if_neg (fun h => by rw [hi] at h; exact absurd h.2 (by decide))]
    show stV _ 0 = _
    rw [stV_bad (by rw [hR]; decide), hR]
    rfl
theorem same_ans (s : ByteArray) (hr : rightB s.data.toList = true) : stAns (tombB s.data.toList) 0 = .tuple #[.string s, .int .i64 ((9 + s.data.toList.length : Nat) : Int), .int .i64 0] := by
  have ht : ((tombB s.data.toList).drop 0).take (9 + s.data.toList.length) = tombB s.data.toList := by rw [List.drop_zero]; exact List.take_of_length_le (by rw [tombB_length]; exact Nat.le_refl _)
  obtain ⟨_, hi, _⟩ := tomb_back (p := 0) hr ht
  have hi' : isB tombBytes (tombB s.data.toList) 0 = true := hi
  have hs : (⟨s.data.toList.toArray⟩ : ByteArray) = s := by rw [Array.toArray_toList]
  unfold stAns
  rw [if_neg (by omega), if_neg (fun h => by rw [hi'] at h; exact absurd h.2 (by decide))]
  show stV _ 0 = _
  rw [stV_back hr ht, hs, show 0 + 9 + s.data.toList.length = 9 + s.data.toList.length by omega]

set_option maxRecDepth 100000 in
set_option maxHeartbeats 2000000 in
theorem stflips_early (s : ByteArray) (a bits : Int) (w : World) (hm : s.size ≤ maxLen) (h : 300 < s.size ∨ a < 0 ∨ 3000 < a ∨ rightB s.data.toList = false) :
    Calls Tryd.prog 6 #[.string s, .int .i64 a, .int .u32 bits] w fun e w' => e = .returned (.bool true) ∧ Below w.heap.size w w' := by
  have hz := (zero_of_info tableInfo).1
  have HSZ := Lib.hid tableSize
  have HH := Lib.hid h
  have HM := Lib.hid hm
  clear h hm
  go_enter Tryd.func6, Tryd.ntmps6
  go_wp2_with fail
  refine (make_any _).mono ?_
  rintro e w1 ⟨rfl, hb⟩
  have HG := Lib.hid (heap_alloc_last w1 (.cells (Array.replicate 256 (.int .u32 0)) 25))
  have HB := Lib.hid hb
  clear hb
  go_wp2_with (refine wpList_store_row rfl 25 _ _ rfl w1.heap.size tabCells rfl rfl 25 _ HG.out HSZ.out (by rw [Array.size_replicate, tabCells_size]) tabCells_one ?_; rw [World.setRow_alloc_new])
  have HTB := Lib.hid (table_new w1)
  have HB2 := Lib.hid (HB.out.alloc HB.out.size (.cells tabCells 25))
  generalize w1.alloc (.cells tabCells 25) = w2 at *
  clear hz HG HSZ
  cases hr : rightB s.data.toList with
  | false =>
    refine (stPut_no w1.heap.size s w2 HM.out hr).mono ?_
    rintro e w3 ⟨rfl, hb⟩
    have HB3 := Lib.hid (HB2.out.trans (hb.mono HB2.out.size))
    clear hb hr HH
    by_cases hL : 300 < s.size
    · have hL' : (300 : Int) < s.size := by omega
      go_wp2_with (go_at_call 7; refine (stLives_any _).mono ?_; rintro e w6 ⟨rfl, hb⟩; have HB6 := Lib.hid (HB3.out.trans (hb.mono HB3.out.size)); clear hb)
      go_ret
      exact ⟨rfl, HB6.out⟩
    have hL' : ¬ (300 : Int) < s.size := by omega
    by_cases h0 : a < 0
    · go_wp2_with (go_at_call 7; refine (stLives_any _).mono ?_; rintro e w6 ⟨rfl, hb⟩; have HB6 := Lib.hid (HB3.out.trans (hb.mono HB3.out.size)); clear hb)
      go_ret
      exact ⟨rfl, HB6.out⟩
    by_cases h3 : 3000 < a
    · go_wp2_with (go_at_call 7; refine (stLives_any _).mono ?_; rintro e w6 ⟨rfl, hb⟩; have HB6 := Lib.hid (HB3.out.trans (hb.mono HB3.out.size)); clear hb)
      go_ret
      exact ⟨rfl, HB6.out⟩
    · go_wp2_with (go_at_call 7; refine (stLives_any _).mono ?_; rintro e w6 ⟨rfl, hb⟩; have HB6 := Lib.hid (HB3.out.trans (hb.mono HB3.out.size)); clear hb)
      go_ret
      exact ⟨rfl, HB6.out⟩
  | true =>
    have h64 := (rightB_len hr).2
    have hln : s.data.toList.length = s.size := by rw [Array.length_toList]; rfl
    refine (stPut_yes w1.heap.size s w2 HM.out hr HTB.out).mono ?_
    rintro e w3 ⟨A, k, rfl, hown, hb⟩
    have HB3 := Lib.hid (HB2.out.trans (hb.mono HB2.out.size))
    have hL' : ¬ (300 : Int) < s.size := by omega
    have h5 : decide ((5 : Int) ≤ ((9 + s.size : Nat) : Int)) = true := by simp; omega
    have ha : a < 0 ∨ 3000 < a := by
      rcases HH.out with h | h | h | h
      · omega
      · exact .inl h
      · exact .inr h
      · rw [hr] at h; exact absurd h (by decide)
    clear hb hr HH hown hln h64
    by_cases h0 : a < 0
    · clear ha
      go_wp2_with (go_at_call 7; refine (stLives_any _).mono ?_; rintro e w6 ⟨rfl, hb⟩; have HB6 := Lib.hid (HB3.out.trans (hb.mono HB3.out.size)); clear hb)
      go_ret
      exact ⟨rfl, HB6.out⟩
    · have h3 : 3000 < a := by omega
      clear ha
      go_wp2_with (go_at_call 7; refine (stLives_any _).mono ?_; rintro e w6 ⟨rfl, hb⟩; have HB6 := Lib.hid (HB3.out.trans (hb.mono HB3.out.size)); clear hb)
      go_ret
      exact ⟨rfl, HB6.out⟩

set_option maxRecDepth 100000 in
set_option maxHeartbeats 4000000 in
theorem stflips_main (s : ByteArray) (a bits : Int) (w : World) (hm : s.size ≤ 300) (a0 : 0 ≤ a) (a1 : a ≤ 3000) (b0 : 0 ≤ bits) (b1 : bits < 4294967296) (hr : rightB s.data.toList = true) :
    Calls Tryd.prog 6 #[.string s, .int .i64 a, .int .u32 bits] w fun e w' => e = .returned (.bool true) ∧ Below w.heap.size w w' := by
  have hz := (zero_of_info tableInfo).1
  have HSZ := Lib.hid tableSize
  have h64 := (rightB_len hr).2
  have hln : s.data.toList.length = s.size := by rw [Array.length_toList]; rfl
  have HP := Lib.hid (fun g W (hT : Table W g) => stPut_yes g s W (by unfold maxLen; omega) hr hT)
  have HLN : Hid ((tombB s.data.toList).length = 9 + s.size) := by show _ = _; rw [tombB_length, hln]
  have HF := Lib.hid (fun (h4 : (flipK (tombB s.data.toList) a.toNat bits.toNat 32)[4]? = (tombB s.data.toList)[4]?) (hne : tombB s.data.toList ≠ flipK (tombB s.data.toList) a.toNat bits.toNat 32) => flips_ans hr h4 hne)
  have HS := Lib.hid (same_ans s hr)
  have H4 : Hid ((tombB s.data.toList)[4]? = some (UInt8.ofNat s.size)) := by show _ = _; rw [tombB_four, hln]
  have hL' : ¬ (300 : Int) < s.size := by omega
  have ha1 : ¬ (3000 : Int) < a := by omega
  have h5 : decide (((9 + s.size : Nat) : Int) < (5 : Int)) = false := by simp; omega
  rw [hln] at h64
  have h9 : 4 < 9 + s.size := by omega
  clear hr hln
  generalize tombB s.data.toList = bs at *
  go_enter Tryd.func6, Tryd.ntmps6
  go_wp2_with fail
  refine (make_any _).mono ?_
  rintro e w1 ⟨rfl, hb⟩
  have HG := Lib.hid (heap_alloc_last w1 (.cells (Array.replicate 256 (.int .u32 0)) 25))
  have HB := Lib.hid hb
  clear hb
  go_wp2_with (refine wpList_store_row rfl 25 _ _ rfl w1.heap.size tabCells rfl rfl 25 _ HG.out HSZ.out (by rw [Array.size_replicate, tabCells_size]) tabCells_one ?_; rw [World.setRow_alloc_new])
  have HTB := Lib.hid (table_new w1)
  have HB2 := Lib.hid (HB.out.alloc HB.out.size (.cells tabCells 25))
  generalize w1.alloc (.cells tabCells 25) = w2 at *
  clear hz HG HSZ
  refine (HP.out _ _ HTB.out).mono ?_
  rintro e w3 ⟨A, k, rfl, hown, hb⟩
  have HB3 := Lib.hid (HB2.out.trans (hb.mono HB2.out.size))
  have HT3 := Lib.hid (HTB.out.below hb HTB.out.lt)
  have HY3 := Lib.hid hown.cells
  have hk := own_cap hown
  clear hb hown HP
  go_wp2_with fail
  refine (refFlip_any A (9 + s.size) k bs a bits w3 HLN.out (by omega) a0 (by omega) b0 b1 HY3.out).mono ?_
  rintro e w4 ⟨A', k', rfl, hy, hb, hk'⟩
  have HB4 := Lib.hid (HB3.out.trans (hb.mono HB3.out.size))
  have HT4 := Lib.hid (HT3.out.below hb HT3.out.lt)
  have HYA := Lib.hid (HY3.out.below hb (Nat.le_refl _))
  have HYC := Lib.hid hy
  have hz4 := hb.size
  clear hb hy
  have HLC : Hid ((flipK bs a.toNat bits.toNat 32).length = 9 + s.size) := by show _ = _; rw [length_flipK]; exact HLN.out
  have HC4 : Hid (∃ y : UInt8, (flipK bs a.toNat bits.toNat 32)[4]? = some y) := ⟨_, List.getElem?_eq_getElem (by rw [HLC.out]; exact h9)⟩
  generalize flipK bs a.toNat bits.toNat 32 = cs at *
  obtain ⟨y, hy⟩ := HC4.out
  have HY4 := Lib.hid hy
  obtain ⟨ga, oa, rfl, hga, hca⟩ := HYA.out (by rw [byteCells_length, HLN.out]; omega)
  obtain ⟨gc, oc, rfl, hgc, hcc⟩ := HYC.out (by rw [byteCells_length, HLC.out]; omega)
  have c1 : w4.cell? ⟨ga, oa + 4, none⟩ = some (.int .u8 (s.size : Int)) := hca 4 _ (by
    unfold byteCells
    rw [List.getElem?_map, H4.out]
    show some (Value.int .u8 (((UInt8.ofNat s.size).toNat : Nat) : Int)) = _
    rw [byte_toNat, show s.size % 256 = s.size by omega])
  have c2 : w4.cell? ⟨gc, oc + 4, none⟩ = some (.int .u8 (y.toNat : Int)) := hcc 4 _ (by unfold byteCells; rw [List.getElem?_map, hy]; rfl)
  have hyl := UInt8.toNat_lt y
  have HTK := Lib.hid (fun n => stTake_any w1.heap.size (some ⟨gc, oc, none⟩) (9 + s.size) k' cs w4.heap.size 0 (w4.drewN n) HT4.out HLC.out (by omega) hk' (HYC.out.drewN n) (Nat.le_refl _))
  obtain ⟨yn, hyn⟩ : ∃ yn, y.toNat = yn := ⟨_, rfl⟩
  rw [hyn] at c2 hyl
  have hyl' : yn < 256 := hyl
  clear hy hca hcc hyl
  by_cases hq : yn = s.size
  · have HEQ : Hid (cs[4]? = bs[4]?) := by
      show _ = _
      rw [HY4.out, H4.out, ← hq, ← hyn, UInt8.ofNat_toNat]
    subst hq
    clear hyn
    go_wp2_with fail
    go_quiet (fail)
    have HSA := Lib.hid (fun (w5 : World) (hb : Below w4.heap.size (w4.drewN nq) w5) => same_any (some ⟨ga, oa, none⟩) (9 + s.size) k bs (some ⟨gc, oc, none⟩) (9 + s.size) k' cs w3.heap.size w4.heap.size w5 HLN.out HLC.out ((HYA.out.drewN nq).below hb hz4) ((HYC.out.drewN nq).below hb (Nat.le_refl _)))
    have HTQ := Lib.hid (HTK.out nq)
    have HB5 := Lib.hid (below_drewN HB4.out nq)
    by_cases hs : bs = cs
    · subst hs
      rw [HS.out] at HTQ
      go_wp2_with (first | (go_at_call 13; refine HTQ.out.mono ?_; rintro e w5 ⟨rfl, hb⟩; have HSB := Lib.hid (HSA.out w5 hb); have HB6 := Lib.hid (HB5.out.trans (hb.mono HB5.out.size)); clear hb) | (go_at_call 18; refine HSB.out.mono ?_; rintro e w' ⟨rfl, rfl⟩) | (go_at_call 7; refine (stLives_any _).mono ?_; rintro e w6 ⟨rfl, hb⟩; have HB7 := Lib.hid (HB6.out.trans (hb.mono HB6.out.size)); clear hb))
      go_ret
      exact ⟨rfl, HB7.out⟩
    · obtain ⟨E, hE, he⟩ := HF.out HEQ.out hs
      rw [he] at HTQ
      have hsd : decide (bs = cs) = false := decide_eq_false hs
      clear he
      rcases hE with rfl | rfl
      · go_wp2_with (first | (go_at_call 13; refine HTQ.out.mono ?_; rintro e w5 ⟨rfl, hb⟩; have HSB := Lib.hid (HSA.out w5 hb); have HB6 := Lib.hid (HB5.out.trans (hb.mono HB5.out.size)); clear hb) | (go_at_call 18; refine HSB.out.mono ?_; rintro e w' ⟨rfl, rfl⟩; rw [hsd]) | (go_at_call 7; refine (stLives_any _).mono ?_; rintro e w6 ⟨rfl, hb⟩; have HB7 := Lib.hid (HB6.out.trans (hb.mono HB6.out.size)); clear hb))
        go_ret
        exact ⟨rfl, HB7.out⟩
      · go_wp2_with (first | (go_at_call 13; refine HTQ.out.mono ?_; rintro e w5 ⟨rfl, hb⟩; have HSB := Lib.hid (HSA.out w5 hb); have HB6 := Lib.hid (HB5.out.trans (hb.mono HB5.out.size)); clear hb) | (go_at_call 18; refine HSB.out.mono ?_; rintro e w' ⟨rfl, rfl⟩; rw [hsd]) | (go_at_call 7; refine (stLives_any _).mono ?_; rintro e w6 ⟨rfl, hb⟩; have HB7 := Lib.hid (HB6.out.trans (hb.mono HB6.out.size)); clear hb))
        go_ret
        exact ⟨rfl, HB7.out⟩
  · clear hyn
    go_wp2_with fail
    go_quiet (fail)
    have HB5 := Lib.hid (below_drewN HB4.out nq)
    go_wp2_with (go_at_call 7; refine (stLives_any _).mono ?_; rintro e w6 ⟨rfl, hb⟩; have HB7 := Lib.hid (HB5.out.trans (hb.mono HB5.out.size)); clear hb)
    go_ret
    exact ⟨rfl, HB7.out⟩

theorem stflips_any (s : ByteArray) (a bits : Int) (w : World) (hm : s.size ≤ maxLen) (b0 : 0 ≤ bits) (b1 : bits < 4294967296) :
    Calls Tryd.prog 6 #[.string s, .int .i64 a, .int .u32 bits] w fun e w' => e = .returned (.bool true) ∧ Below w.heap.size w w' := by
  by_cases h : 300 < s.size ∨ a < 0 ∨ 3000 < a ∨ rightB s.data.toList = false
  · exact stflips_early s a bits w hm h
  · exact stflips_main s a bits w (by omega) (by omega) (by omega) b0 b1 (by cases hr : rightB s.data.toList with | true => rfl | false => exact absurd (.inr (.inr (.inr hr))) h)
end Go.Proofs.YtakjpkhholgdbaaDoor
