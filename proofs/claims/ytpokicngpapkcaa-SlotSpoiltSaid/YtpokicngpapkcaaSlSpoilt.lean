/- Layer 21: SlotSpoilt walked. -/
import Derived.Test.YtpokicngpapkcaaSlRef
import Derived.Test.YtpokicngpapkcaaKFlip
namespace Go.Proofs.Ytpokicngpapkcaa
open Go.RowKit CrcP FieldP
attribute [local go_sem ↓] Go.wp_at_zero Go.wp_at_succ

theorem below_drewN {B : Nat} {w w' : World} (h : Below B w w') (n : Nat) : Below B w (w'.drewN n) := ⟨h.os, h.tape, h.output, h.size, h.block⟩
set_option maxRecDepth 100000 in
set_option maxHeartbeats 1000000 in
theorem spoilt_no (q e d : Int) (c : Bool) (a bits : Int) (w : World) (h : slB q e d c = false) :
    Calls Try.prog 6 #[.agg #[.int .i64 q, .int .i64 e, .int .i64 d, .bool c], .int .i64 a, .int .u32 bits] w fun x w' => x = .returned (.bool true) ∧ Below w.heap.size w w' := by
  have hz := (zero_of_info tableInfo).1
  have HSZ := Lib.hid tableSize
  obtain ⟨w0, hw0⟩ : ∃ w0, w.alloc (.cells #[.int .i64 q, .int .i64 e, .int .i64 d, .bool c] 23) = w0 := ⟨_, rfl⟩
  have HX0 : Hid (Box w0 w.heap.size #[.int .i64 q, .int .i64 e, .int .i64 d, .bool c] 23) := by rw [← hw0]; exact heap_alloc_new w _
  have HA0 : Hid (Below w.heap.size w w0) := by rw [← hw0]; exact (Below.refl w.heap.size w).alloc (Nat.le_refl _) _
  go_enter Try.func6, Try.ntmps6
  go_wp2_with fail
  refine (make_any _).mono ?_
  rintro x w1 ⟨rfl, hb⟩
  have HX1 := Lib.hid (HX0.out.below hb HX0.out.lt)
  have HB1 := Lib.hid (HA0.out.trans (hb.mono HA0.out.size))
  have HG := Lib.hid (heap_alloc_last w1 (.cells (Array.replicate 256 (.int .u32 0)) 26))
  clear hb hw0
  go_wp2_with (refine wpList_store_row rfl 26 _ _ rfl w1.heap.size tabCells rfl rfl 26 _ HG.out HSZ.out (by rw [Array.size_replicate, tabCells_size]) tabCells_one ?_; rw [World.setRow_alloc_new]; have HTB := Lib.hid (table_new w1); have HX2 := Lib.hid (HX1.out.alloc (.cells tabCells 26)); have HB2 := Lib.hid (HB1.out.alloc HB1.out.size (.cells tabCells 26)); generalize w1.alloc (.cells tabCells 26) = w2 at *; have x0 : w2.cell? ⟨w.heap.size, 0, none⟩ = some (.int .i64 q) := HX2.out.cell 0; have x1 : w2.cell? ⟨w.heap.size, 1, none⟩ = some (.int .i64 e) := HX2.out.cell 1; have x2 : w2.cell? ⟨w.heap.size, 2, none⟩ = some (.int .i64 d) := HX2.out.cell 2; have x3 : w2.cell? ⟨w.heap.size, 3, none⟩ = some (.bool c) := HX2.out.cell 3)
  clear hz HG HSZ x0 x1 x2 x3
  refine (slPut_no w1.heap.size q e d c w2 h).mono ?_
  rintro x w3 ⟨rfl, hb⟩
  have HX3 := Lib.hid (HX2.out.below hb HX2.out.lt)
  have HB3 := Lib.hid (HB2.out.trans (hb.mono HB2.out.size))
  clear hb
  have x0 : w3.cell? ⟨w.heap.size, 0, none⟩ = some (.int .i64 q) := HX3.out.cell 0
  have x1 : w3.cell? ⟨w.heap.size, 1, none⟩ = some (.int .i64 e) := HX3.out.cell 1
  have x2 : w3.cell? ⟨w.heap.size, 2, none⟩ = some (.int .i64 d) := HX3.out.cell 2
  have x3 : w3.cell? ⟨w.heap.size, 3, none⟩ = some (.bool c) := HX3.out.cell 3
  have HRR := Lib.hid (fun W => slRefRight_any q e d c W)
  rw [h] at HRR
  unfold slC at HRR
  clear h
  go_wp2_with (first | (go_at_call 9; refine (HRR.out _).mono ?_; rintro x w4 ⟨rfl, hw4⟩; have HB4 : Hid (Below w.heap.size w w4) := (by rw [← hw4]; exact HB3.out.alloc HB3.out.size _); clear hw4) | (go_at_call 12; refine (slLives_any _).mono ?_; rintro x w6 ⟨rfl, hb⟩; have HB9 := Lib.hid (HB4.out.trans (hb.mono HB4.out.size)); clear hb))
  go_ret
  exact ⟨rfl, HB9.out⟩

set_option maxRecDepth 100000 in
set_option maxHeartbeats 2000000 in
theorem spoilt_yes (q e d : Nat) (c : Bool) (a bits : Int) (w : World) (b0 : 0 ≤ bits) (b1 : bits < 4294967296) (h : slB q e d c = true) :
    Calls Try.prog 6 #[.agg #[.int .i64 (q : Int), .int .i64 (e : Int), .int .i64 (d : Int), .bool c], .int .i64 a, .int .u32 bits] w fun x w' => x = .returned (.bool true) ∧ Below w.heap.size w w' := by
  have HP := Lib.hid (fun g W (hT : Table W g) => slPut_yes g q e d c W h hT)
  have HLN := Lib.hid (slotB_length q e d c)
  have HBK := Lib.hid (slV_back h)
  have HFL := Lib.hid (fun hne => slot_flip (q := q) (e := e) (d := d) (c := c) (a := a.toNat) (bits := bits.toNat) hne)
  have HRR := Lib.hid (fun W => slRefRight_any (q : Int) (e : Int) (d : Int) c W)
  rw [h] at HRR
  unfold slC at HRR
  clear h
  generalize slotB q e d c = bs at *
  have hz := (zero_of_info tableInfo).1
  have HSZ := Lib.hid tableSize
  obtain ⟨w0, hw0⟩ : ∃ w0, w.alloc (.cells #[.int .i64 (q : Int), .int .i64 (e : Int), .int .i64 (d : Int), .bool c] 23) = w0 := ⟨_, rfl⟩
  have HX0 : Hid (Box w0 w.heap.size #[.int .i64 (q : Int), .int .i64 (e : Int), .int .i64 (d : Int), .bool c] 23) := by rw [← hw0]; exact heap_alloc_new w _
  have HA0 : Hid (Below w.heap.size w w0) := by rw [← hw0]; exact (Below.refl w.heap.size w).alloc (Nat.le_refl _) _
  go_enter Try.func6, Try.ntmps6
  go_wp2_with fail
  refine (make_any _).mono ?_
  rintro x w1 ⟨rfl, hb⟩
  have HX1 := Lib.hid (HX0.out.below hb HX0.out.lt)
  have HB1 := Lib.hid (HA0.out.trans (hb.mono HA0.out.size))
  have HG := Lib.hid (heap_alloc_last w1 (.cells (Array.replicate 256 (.int .u32 0)) 26))
  clear hb hw0
  go_wp2_with (refine wpList_store_row rfl 26 _ _ rfl w1.heap.size tabCells rfl rfl 26 _ HG.out HSZ.out (by rw [Array.size_replicate, tabCells_size]) tabCells_one ?_; rw [World.setRow_alloc_new]; have HTB := Lib.hid (table_new w1); have HX2 := Lib.hid (HX1.out.alloc (.cells tabCells 26)); have HB2 := Lib.hid (HB1.out.alloc HB1.out.size (.cells tabCells 26)); generalize w1.alloc (.cells tabCells 26) = w2 at *; have x0 : w2.cell? ⟨w.heap.size, 0, none⟩ = some (.int .i64 (q : Int)) := HX2.out.cell 0; have x1 : w2.cell? ⟨w.heap.size, 1, none⟩ = some (.int .i64 (e : Int)) := HX2.out.cell 1; have x2 : w2.cell? ⟨w.heap.size, 2, none⟩ = some (.int .i64 (d : Int)) := HX2.out.cell 2; have x3 : w2.cell? ⟨w.heap.size, 3, none⟩ = some (.bool c) := HX2.out.cell 3)
  clear hz HG HSZ x0 x1 x2 x3
  refine (HP.out w1.heap.size w2 HTB.out).mono ?_
  rintro x w3 ⟨A, k, rfl, hown, hb⟩
  have HX3 := Lib.hid (HX2.out.below hb HX2.out.lt)
  have HB3 := Lib.hid (HB2.out.trans (hb.mono HB2.out.size))
  have HT3 := Lib.hid (HTB.out.below hb HTB.out.lt)
  have HY3 := Lib.hid hown.cells
  have hk := own_cap hown
  clear hb hown HP
  have x0 : w3.cell? ⟨w.heap.size, 0, none⟩ = some (.int .i64 (q : Int)) := HX3.out.cell 0
  have x1 : w3.cell? ⟨w.heap.size, 1, none⟩ = some (.int .i64 (e : Int)) := HX3.out.cell 1
  have x2 : w3.cell? ⟨w.heap.size, 2, none⟩ = some (.int .i64 (d : Int)) := HX3.out.cell 2
  have x3 : w3.cell? ⟨w.heap.size, 3, none⟩ = some (.bool c) := HX3.out.cell 3
  by_cases ha : a < 0
  · go_wp2_with (first | (go_at_call 9; refine (HRR.out _).mono ?_; rintro x w4 ⟨rfl, hw4⟩; have HB4 : Hid (Below w.heap.size w w4) := (by rw [← hw4]; exact HB3.out.alloc HB3.out.size _); clear hw4) | (go_at_call 12; refine (slLives_any _).mono ?_; rintro x w6 ⟨rfl, hb⟩; have HB9 := Lib.hid (HB4.out.trans (hb.mono HB4.out.size)); clear hb))
    go_ret
    exact ⟨rfl, HB9.out⟩
  by_cases ha2 : 10000 < a
  · go_wp2_with (first | (go_at_call 9; refine (HRR.out _).mono ?_; rintro x w4 ⟨rfl, hw4⟩; have HB4 : Hid (Below w.heap.size w w4) := (by rw [← hw4]; exact HB3.out.alloc HB3.out.size _); clear hw4) | (go_at_call 12; refine (slLives_any _).mono ?_; rintro x w6 ⟨rfl, hb⟩; have HB9 := Lib.hid (HB4.out.trans (hb.mono HB4.out.size)); clear hb))
    go_ret
    exact ⟨rfl, HB9.out⟩
  have d1 : decide (a < 0) = false := decide_eq_false ha
  have d2 : decide (10000 < a) = false := decide_eq_false ha2
  have HA1 : Hid (0 ≤ a ∧ a ≤ 10000) := ⟨by omega, by omega⟩
  clear ha ha2
  go_wp2_with fail
  refine (refFlip_any A 512 k bs a bits w3 HLN.out (by omega) HA1.out.1 (by have := HA1.out.2; omega) b0 b1 HY3.out).mono ?_
  rintro x w4 ⟨A', k', rfl, hy, hb, hk'⟩
  have HX4 := Lib.hid (HX3.out.below hb HX3.out.lt)
  have HB4 := Lib.hid (HB3.out.trans (hb.mono HB3.out.size))
  have HT4 := Lib.hid (HT3.out.below hb HT3.out.lt)
  have HYA := Lib.hid (HY3.out.below hb (Nat.le_refl _))
  have HYC := Lib.hid hy
  have hz4 := hb.size
  clear hb hy x0 x1 x2 x3
  have HLC : Hid ((flipK bs a.toNat bits.toNat 32).length = 512) := by show _ = _; rw [length_flipK]; exact HLN.out
  generalize flipK bs a.toNat bits.toNat 32 = cs at *
  have HTK := Lib.hid (slTake_all w1.heap.size A' k' cs w4.heap.size w4 HT4.out HLC.out hk' HYC.out (Nat.le_refl _))
  have HSA := Lib.hid (fun (w5 : World) (hb : Below w4.heap.size w4 w5) => same_any A 512 k bs A' 512 k' cs w3.heap.size w4.heap.size w5 HLN.out HLC.out (HYA.out.below hb hz4) (HYC.out.below hb (Nat.le_refl _)))
  by_cases hs : bs = cs
  · subst hs
    rw [HBK.out] at HTK
    clear HFL
    go_wp2_with (first | (go_at_call 17; refine HTK.out.mono ?_; rintro x w5 ⟨rfl, hb⟩; have HX5 := Lib.hid (HX4.out.below hb HX4.out.lt); have HB5 := Lib.hid (HB4.out.trans (hb.mono HB4.out.size)); have HSB := Lib.hid (HSA.out (w5.alloc (.cells #[.int .i64 (q : Int), .int .i64 (e : Int), .int .i64 (d : Int), .bool c] 23)) (hb.alloc hb.size _)); clear hb; have x0 : w5.cell? ⟨w.heap.size, 0, none⟩ = some (.int .i64 (q : Int)) := HX5.out.cell 0; have x1 : w5.cell? ⟨w.heap.size, 1, none⟩ = some (.int .i64 (e : Int)) := HX5.out.cell 1; have x2 : w5.cell? ⟨w.heap.size, 2, none⟩ = some (.int .i64 (d : Int)) := HX5.out.cell 2; have x3 : w5.cell? ⟨w.heap.size, 3, none⟩ = some (.bool c) := HX5.out.cell 3; have hx5 := HX5.out.lt) | (go_at_call 19; refine HSB.out.mono ?_; rintro x w' ⟨rfl, rfl⟩) | (go_at_call 12; refine (slLives_any _).mono ?_; rintro x w6 ⟨rfl, hb⟩; have HB7 := Lib.hid ((HB5.out.alloc HB5.out.size _).trans (hb.mono (HB5.out.alloc HB5.out.size _).size)); clear hb))
    trace_state
    go_ret
    exact ⟨rfl, HB7.out⟩
  · have hE := HFL.out hs
    have HVB := slV_bad hE
    rw [HVB] at HTK
    obtain ⟨E, hE2⟩ : ∃ E, slE cs = E := ⟨_, rfl⟩
    rw [hE2] at HTK hE
    have he1 : ((E : Int) == 0) = false := by simp; omega
    have he2 : ((E : Int) != 0) = true := by simp; omega
    have hsd : decide (bs = cs) = false := decide_eq_false hs
    clear HFL hE hE2 HVB hs HBK
    go_wp2_with (first | (go_at_call 17; refine HTK.out.mono ?_; rintro x w5 ⟨rfl, hb⟩; have HX5 := Lib.hid (HX4.out.below hb HX4.out.lt); have HB5 := Lib.hid (HB4.out.trans (hb.mono HB4.out.size)); have HSB := Lib.hid (HSA.out (w5.alloc (.cells #[.int .i64 0, .int .i64 0, .int .i64 0, .bool false] 23)) (hb.alloc hb.size _)); clear hb; have x0 : w5.cell? ⟨w.heap.size, 0, none⟩ = some (.int .i64 (q : Int)) := HX5.out.cell 0; have x1 : w5.cell? ⟨w.heap.size, 1, none⟩ = some (.int .i64 (e : Int)) := HX5.out.cell 1; have x2 : w5.cell? ⟨w.heap.size, 2, none⟩ = some (.int .i64 (d : Int)) := HX5.out.cell 2; have x3 : w5.cell? ⟨w.heap.size, 3, none⟩ = some (.bool c) := HX5.out.cell 3; have hx5 := HX5.out.lt) | (go_at_call 19; refine HSB.out.mono ?_; rintro x w' ⟨rfl, rfl⟩; rw [hsd]) | (go_at_call 12; refine (slLives_any _).mono ?_; rintro x w6 ⟨rfl, hb⟩; have HB7 := Lib.hid ((HB5.out.alloc HB5.out.size _).trans (hb.mono (HB5.out.alloc HB5.out.size _).size)); clear hb))
    go_ret
    exact ⟨rfl, HB7.out⟩

theorem spoilt_any (q e d : Int) (c : Bool) (a bits : Int) (w : World) (b0 : 0 ≤ bits) (b1 : bits < 4294967296) :
    Calls Try.prog 6 #[.agg #[.int .i64 q, .int .i64 e, .int .i64 d, .bool c], .int .i64 a, .int .u32 bits] w fun x w' => x = .returned (.bool true) ∧ Below w.heap.size w w' := by
  cases h : slB q e d c with
  | false => exact spoilt_no q e d c a bits w h
  | true =>
    have hp : slP q e d c := of_decide_eq_true h
    obtain ⟨p1, p2, p3, p4, p5⟩ := hp
    have hd : 0 ≤ d := by
      cases c with
      | true => simp at p5; omega
      | false => simp at p5; omega
    obtain ⟨q, rfl⟩ := Int.eq_ofNat_of_zero_le p1
    obtain ⟨e, rfl⟩ := Int.eq_ofNat_of_zero_le (show 0 ≤ e by omega)
    obtain ⟨d, rfl⟩ := Int.eq_ofNat_of_zero_le hd
    exact spoilt_yes q e d c a bits w b0 b1 h
end Go.Proofs.Ytpokicngpapkcaa
