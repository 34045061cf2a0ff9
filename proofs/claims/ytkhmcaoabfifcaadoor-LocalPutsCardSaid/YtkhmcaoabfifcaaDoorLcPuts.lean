/- Layer 16: LocalPuts walked. -/
import Derived.Test.YtkhmcaoabfifcaaDoorLcRefPut
import Derived.Test.YtkhmcaoabfifcaaDoorLcLives
import Derived.Test.YtkhmcaoabfifcaaDoorQuietF
namespace Go.Proofs.YtkhmcaoabfifcaaDoor
open Go.RowKit CrcP FieldP
attribute [local go_sem ↓] Go.wp_at_zero Go.wp_at_succ

set_option maxHeartbeats 1000000 in
theorem lcputs_long (m : Int) (s : ByteArray) (sz ar su : Int) (w : World) (hW : Wid w) (h : 300 < s.size) :
    Calls Tryd.prog 3 #[.agg #[.int .i64 m, .string s, .int .i64 sz, .int .i64 ar, .int .u32 su]] w fun e w' => e = .returned (.bool true) ∧ Below w.heap.size w w' := by
  have HWI := Lib.hid hW
  have hw0 := hW.1
  have HB0 := Lib.hid ((Below.refl w.heap.size w).alloc (Nat.le_refl _) (.cells #[.int .i64 m, .string s, .int .i64 sz, .int .i64 ar, .int .u32 su] 24))
  clear hW
  have hL : (300 : Int) < s.size := by omega
  clear h
  go_enter Tryd.func3, Tryd.ntmps3
  go_wp2_with (go_at_call 6; refine (lcLives_any _ (HWI.out.below HB0.out hw0 (by have := HB0.out.size; omega))).mono ?_; rintro e w16 ⟨rfl, hb⟩; have HB16 := Lib.hid (HB0.out.trans (hb.mono HB0.out.size)); clear hb)
  go_ret
  exact ⟨rfl, HB16.out⟩

set_option maxRecDepth 100000 in
set_option maxHeartbeats 2000000 in
theorem lcputs_no (m : Int) (s : ByteArray) (sz ar su : Int) (w : World) (hW : Wid w) (hm : s.size ≤ 300) (hr : hdB m s.data.toList sz ar su = false) :
    Calls Tryd.prog 3 #[.agg #[.int .i64 m, .string s, .int .i64 sz, .int .i64 ar, .int .u32 su]] w fun e w' => e = .returned (.bool true) ∧ Below w.heap.size w w' := by
  have hz := (zero_of_info tableInfo).1
  have HSZ := Lib.hid tableSize
  have hL1 : ¬ (300 : Int) < s.size := by omega
  have HWI := Lib.hid hW
  have hw0 := hW.1
  have HRR := Lib.hid (fun W => refHd_any m s sz ar su W (by unfold maxLen; omega))
  have HRC := Lib.hid (fun W => lcRight_any m s sz ar su W (by unfold maxLen; omega))
  rw [hr] at HRR HRC
  have HLE := Lib.hid (fun W => lcLen_any s W (by omega))
  have hln22 : IntKind.i64.wrap ((22 : Int) + (s.size : Int)) = 22 + (s.size : Int) := IntWalk.i64_in _ (by omega)
  obtain ⟨w0, hw0'⟩ : ∃ w0, w.alloc (.cells #[.int .i64 m, .string s, .int .i64 sz, .int .i64 ar, .int .u32 su] 24) = w0 := ⟨_, rfl⟩
  have HX0 : Hid (Box w0 w.heap.size #[.int .i64 m, .string s, .int .i64 sz, .int .i64 ar, .int .u32 su] 24) := by rw [← hw0']; exact heap_alloc_new w _
  have HA0 : Hid (Below w.heap.size w w0) := by rw [← hw0']; exact (Below.refl w.heap.size w).alloc (Nat.le_refl _) _
  have hx1 : w0.cell? ⟨w.heap.size, 1, none⟩ = some (.string s) := HX0.out.cell 1
  clear hW
  go_enter Tryd.func3, Tryd.ntmps3
  go_wp2_with fail
  refine (make_any _).mono ?_
  rintro e w1 ⟨rfl, hb⟩
  have HX1 := Lib.hid (HX0.out.below hb HX0.out.lt)
  have HB1 := Lib.hid (HA0.out.trans (hb.mono HA0.out.size))
  have HG := Lib.hid (heap_alloc_last w1 (.cells (Array.replicate 256 (.int .u32 0)) 27))
  clear hb hw0' hx1
  go_wp2_with (refine wpList_store_row rfl 27 _ _ rfl w1.heap.size tabCells rfl rfl 27 _ HG.out HSZ.out (by rw [Array.size_replicate, tabCells_size]) tabCells_one ?_; rw [World.setRow_alloc_new]; have HTB := Lib.hid (table_new w1); have HX2 := Lib.hid (HX1.out.alloc (.cells tabCells 27)); have HB2 := Lib.hid (HB1.out.alloc HB1.out.size (.cells tabCells 27)); generalize w1.alloc (.cells tabCells 27) = w2 at *; have y0 : w2.cell? ⟨w.heap.size, 0, none⟩ = some (.int .i64 m) := HX2.out.cell 0; have y1 : w2.cell? ⟨w.heap.size, 1, none⟩ = some (.string s) := HX2.out.cell 1; have y2 : w2.cell? ⟨w.heap.size, 2, none⟩ = some (.int .i64 sz) := HX2.out.cell 2; have y3 : w2.cell? ⟨w.heap.size, 3, none⟩ = some (.int .i64 ar) := HX2.out.cell 3; have y4 : w2.cell? ⟨w.heap.size, 4, none⟩ = some (.int .u32 su) := HX2.out.cell 4)
  clear hz HG HSZ y0 y1 y2 y3 y4
  refine (lcPut_no w1.heap.size m s sz ar su w2 (by unfold maxLen; omega) hr).mono ?_
  rintro e w3 ⟨rfl, hb⟩
  have HX3 := Lib.hid (HX2.out.below hb HX2.out.lt)
  have HB3 := Lib.hid (HB2.out.trans (hb.mono HB2.out.size))
  clear hb hr
  have y0 : w3.cell? ⟨w.heap.size, 0, none⟩ = some (.int .i64 m) := HX3.out.cell 0
  have y1 : w3.cell? ⟨w.heap.size, 1, none⟩ = some (.string s) := HX3.out.cell 1
  have y2 : w3.cell? ⟨w.heap.size, 2, none⟩ = some (.int .i64 sz) := HX3.out.cell 2
  have y3 : w3.cell? ⟨w.heap.size, 3, none⟩ = some (.int .i64 ar) := HX3.out.cell 3
  have y4 : w3.cell? ⟨w.heap.size, 4, none⟩ = some (.int .u32 su) := HX3.out.cell 4
  go_wp2_with fail
  refine (HRR.out _).mono ?_
  rintro e w4 ⟨rfl, hb⟩
  have HX4 := Lib.hid (HX3.out.below hb HX3.out.lt)
  have HB4 := Lib.hid (HB3.out.trans (hb.mono HB3.out.size))
  clear hb y0 y1 y2 y3 y4
  go_wp2_with fail
  obtain ⟨ι, f, n0, hf0, hfb, hfu⟩ := below_class w4
  have HFU := Lib.hid hfu
  have HFB := Lib.hid hfb
  have y0 : ∀ n, (f n).cell? ⟨w.heap.size, 0, none⟩ = some (.int .i64 m) := fun n => by rw [(HFB.out n).cell (show w.heap.size < w4.heap.size from HX4.out.lt)]; exact HX4.out.cell 0
  have y1 : ∀ n, (f n).cell? ⟨w.heap.size, 1, none⟩ = some (.string s) := fun n => by rw [(HFB.out n).cell (show w.heap.size < w4.heap.size from HX4.out.lt)]; exact HX4.out.cell 1
  have y2 : ∀ n, (f n).cell? ⟨w.heap.size, 2, none⟩ = some (.int .i64 sz) := fun n => by rw [(HFB.out n).cell (show w.heap.size < w4.heap.size from HX4.out.lt)]; exact HX4.out.cell 2
  have y3 : ∀ n, (f n).cell? ⟨w.heap.size, 3, none⟩ = some (.int .i64 ar) := fun n => by rw [(HFB.out n).cell (show w.heap.size < w4.heap.size from HX4.out.lt)]; exact HX4.out.cell 3
  have y4 : ∀ n, (f n).cell? ⟨w.heap.size, 4, none⟩ = some (.int .u32 su) := fun n => by rw [(HFB.out n).cell (show w.heap.size < w4.heap.size from HX4.out.lt)]; exact HX4.out.cell 4
  haveI : Nonempty ι := ⟨n0⟩
  clear hfb hfu
  refine region_quiet_f f n0 hf0 (by kernel_rfl) (by kernel_rfl) ?_
  repeat (go_big_quiet_step (first | (go_at_call 10; exact quiet_f HFU.out (HRC.out _)) | (go_at_call 11; exact quiet_same (HLE.out _))))
  refine wpQuiet_nil ?_
  rintro _ ⟨nq, rfl⟩
  have HB5 := Lib.hid (HB4.out.trans ((HFB.out nq).mono HB4.out.size))
  have HX5 : Hid (Box (f nq) w.heap.size #[.int .i64 m, .string s, .int .i64 sz, .int .i64 ar, .int .u32 su] 24) := HX4.out.below (HFB.out nq) HX4.out.lt
  generalize f nq = w5 at *
  clear y0 y1 y2 y3 y4 HFB HFU hf0
  go_wp2_with (go_at_call 6; refine (lcLives_any _ (HWI.out.below HB5.out hw0 (by have := HB5.out.size; omega))).mono ?_; rintro e w16 ⟨rfl, hb⟩; have HB16 := Lib.hid (HB5.out.trans (hb.mono HB5.out.size)); clear hb)
  go_ret
  exact ⟨rfl, HB16.out⟩

set_option maxRecDepth 100000 in
set_option maxHeartbeats 2000000 in
theorem lcputs_yes (m : Nat) (s : ByteArray) (sz ar su : Nat) (w : World) (hW : Wid w) (hm : s.size ≤ 300) (hsu : su < 4294967296) (hr : hdB m s.data.toList sz ar su = true) :
    Calls Tryd.prog 3 #[.agg #[.int .i64 (m : Int), .string s, .int .i64 (sz : Int), .int .i64 (ar : Int), .int .u32 (su : Int)]] w fun e w' => e = .returned (.bool true) ∧ Below w.heap.size w w' := by
  have hz := (zero_of_info tableInfo).1
  have HSZ := Lib.hid tableSize
  have hL1 : ¬ (300 : Int) < s.size := by omega
  have HWI := Lib.hid hW
  have hw0 := hW.1
  have HRR := Lib.hid (fun W => refHd_any m s sz ar su W (by unfold maxLen; omega))
  have HRC := Lib.hid (fun W => lcRight_any m s sz ar su W (by unfold maxLen; omega))
  rw [hr] at HRR HRC
  have HLE := Lib.hid (fun W => lcLen_any s W (by omega))
  have hln22 : IntKind.i64.wrap ((22 : Int) + (s.size : Int)) = 22 + (s.size : Int) := IntWalk.i64_in _ (by omega)
  have hln : s.data.toList.length = s.size := by rw [Array.length_toList]; rfl
  have HP := Lib.hid (fun g W (hV : Wid W) (hT : Table W g) => lcPut_yes g m s sz ar su W hV hsu hr hT)
  have HREF := Lib.hid (fun W => lcRefPut_any m s sz ar su W hr hsu)
  have HLN : Hid ((headB m s.data.toList sz ar su).length = 22 + s.size) := by show _ = _; rw [headB_length, hln]
  clear hr hln
  generalize headB m s.data.toList sz ar su = bs at *
  obtain ⟨w0, hw0'⟩ : ∃ w0, w.alloc (.cells #[.int .i64 (m : Int), .string s, .int .i64 (sz : Int), .int .i64 (ar : Int), .int .u32 (su : Int)] 24) = w0 := ⟨_, rfl⟩
  have HX0 : Hid (Box w0 w.heap.size #[.int .i64 (m : Int), .string s, .int .i64 (sz : Int), .int .i64 (ar : Int), .int .u32 (su : Int)] 24) := by rw [← hw0']; exact heap_alloc_new w _
  have HA0 : Hid (Below w.heap.size w w0) := by rw [← hw0']; exact (Below.refl w.heap.size w).alloc (Nat.le_refl _) _
  have hx1 : w0.cell? ⟨w.heap.size, 1, none⟩ = some (.string s) := HX0.out.cell 1
  clear hW
  go_enter Tryd.func3, Tryd.ntmps3
  go_wp2_with fail
  refine (make_any _).mono ?_
  rintro e w1 ⟨rfl, hb⟩
  have HX1 := Lib.hid (HX0.out.below hb HX0.out.lt)
  have HB1 := Lib.hid (HA0.out.trans (hb.mono HA0.out.size))
  have HG := Lib.hid (heap_alloc_last w1 (.cells (Array.replicate 256 (.int .u32 0)) 27))
  clear hb hw0' hx1
  go_wp2_with (refine wpList_store_row rfl 27 _ _ rfl w1.heap.size tabCells rfl rfl 27 _ HG.out HSZ.out (by rw [Array.size_replicate, tabCells_size]) tabCells_one ?_; rw [World.setRow_alloc_new]; have HTB := Lib.hid (table_new w1); have HX2 := Lib.hid (HX1.out.alloc (.cells tabCells 27)); have HB2 := Lib.hid (HB1.out.alloc HB1.out.size (.cells tabCells 27)); generalize w1.alloc (.cells tabCells 27) = w2 at *; have y0 : w2.cell? ⟨w.heap.size, 0, none⟩ = some (.int .i64 (m : Int)) := HX2.out.cell 0; have y1 : w2.cell? ⟨w.heap.size, 1, none⟩ = some (.string s) := HX2.out.cell 1; have y2 : w2.cell? ⟨w.heap.size, 2, none⟩ = some (.int .i64 (sz : Int)) := HX2.out.cell 2; have y3 : w2.cell? ⟨w.heap.size, 3, none⟩ = some (.int .i64 (ar : Int)) := HX2.out.cell 3; have y4 : w2.cell? ⟨w.heap.size, 4, none⟩ = some (.int .u32 (su : Int)) := HX2.out.cell 4)
  clear hz HG HSZ y0 y1 y2 y3 y4
  refine (HP.out _ _ (HWI.out.below HB2.out hw0 (by have := HB2.out.size; omega)) HTB.out).mono ?_
  rintro e w3 ⟨A, k, rfl, hown, hb⟩
  have HX3 := Lib.hid (HX2.out.below hb HX2.out.lt)
  have HB3 := Lib.hid (HB2.out.trans (hb.mono HB2.out.size))
  have HY3 := Lib.hid hown.cells
  clear hb hown HP
  have y0 : w3.cell? ⟨w.heap.size, 0, none⟩ = some (.int .i64 (m : Int)) := HX3.out.cell 0
  have y1 : w3.cell? ⟨w.heap.size, 1, none⟩ = some (.string s) := HX3.out.cell 1
  have y2 : w3.cell? ⟨w.heap.size, 2, none⟩ = some (.int .i64 (sz : Int)) := HX3.out.cell 2
  have y3 : w3.cell? ⟨w.heap.size, 3, none⟩ = some (.int .i64 (ar : Int)) := HX3.out.cell 3
  have y4 : w3.cell? ⟨w.heap.size, 4, none⟩ = some (.int .u32 (su : Int)) := HX3.out.cell 4
  go_wp2_with fail
  refine (HRR.out _).mono ?_
  rintro e w4 ⟨rfl, hb⟩
  have HX4 := Lib.hid (HX3.out.below hb HX3.out.lt)
  have HB4 := Lib.hid (HB3.out.trans (hb.mono HB3.out.size))
  have HY4 := Lib.hid (HY3.out.below hb (Nat.le_refl _))
  have hz4 := hb.size
  clear hb y0 y1 y2 y3 y4
  go_wp2_with fail
  obtain ⟨ι, f, n0, hf0, hfb, hfu⟩ := below_class w4
  have HFU := Lib.hid hfu
  have HFB := Lib.hid hfb
  have y0 : ∀ n, (f n).cell? ⟨w.heap.size, 0, none⟩ = some (.int .i64 (m : Int)) := fun n => by rw [(HFB.out n).cell (show w.heap.size < w4.heap.size from HX4.out.lt)]; exact HX4.out.cell 0
  have y1 : ∀ n, (f n).cell? ⟨w.heap.size, 1, none⟩ = some (.string s) := fun n => by rw [(HFB.out n).cell (show w.heap.size < w4.heap.size from HX4.out.lt)]; exact HX4.out.cell 1
  have y2 : ∀ n, (f n).cell? ⟨w.heap.size, 2, none⟩ = some (.int .i64 (sz : Int)) := fun n => by rw [(HFB.out n).cell (show w.heap.size < w4.heap.size from HX4.out.lt)]; exact HX4.out.cell 2
  have y3 : ∀ n, (f n).cell? ⟨w.heap.size, 3, none⟩ = some (.int .i64 (ar : Int)) := fun n => by rw [(HFB.out n).cell (show w.heap.size < w4.heap.size from HX4.out.lt)]; exact HX4.out.cell 3
  have y4 : ∀ n, (f n).cell? ⟨w.heap.size, 4, none⟩ = some (.int .u32 (su : Int)) := fun n => by rw [(HFB.out n).cell (show w.heap.size < w4.heap.size from HX4.out.lt)]; exact HX4.out.cell 4
  haveI : Nonempty ι := ⟨n0⟩
  clear hfb hfu
  refine region_quiet_f f n0 hf0 (by kernel_rfl) (by kernel_rfl) ?_
  repeat (go_big_quiet_step (first | (go_at_call 10; exact quiet_f HFU.out (HRC.out _)) | (go_at_call 11; exact quiet_same (HLE.out _))))
  refine wpQuiet_nil ?_
  rintro _ ⟨nq, rfl⟩
  have HB5 := Lib.hid (HB4.out.trans ((HFB.out nq).mono HB4.out.size))
  have HX5 : Hid (Box (f nq) w.heap.size #[.int .i64 (m : Int), .string s, .int .i64 (sz : Int), .int .i64 (ar : Int), .int .u32 (su : Int)] 24) := HX4.out.below (HFB.out nq) HX4.out.lt
  have HY5 := Lib.hid (HY4.out.below (HFB.out nq) hz4)
  have hz5 := Nat.le_trans hz4 (HFB.out nq).size
  generalize f nq = w5 at *
  clear y0 y1 y2 y3 y4 HFB HFU hf0
  have z0 : w5.cell? ⟨w.heap.size, 0, none⟩ = some (.int .i64 (m : Int)) := HX5.out.cell 0
  have z1 : w5.cell? ⟨w.heap.size, 1, none⟩ = some (.string s) := HX5.out.cell 1
  have z2 : w5.cell? ⟨w.heap.size, 2, none⟩ = some (.int .i64 (sz : Int)) := HX5.out.cell 2
  have z3 : w5.cell? ⟨w.heap.size, 3, none⟩ = some (.int .i64 (ar : Int)) := HX5.out.cell 3
  have z4 : w5.cell? ⟨w.heap.size, 4, none⟩ = some (.int .u32 (su : Int)) := HX5.out.cell 4
  have HCV : Hid (∀ (W : World) (A : Option Addr) (c' B : Nat), Bytes W B A bs → (convert 29 9 (.slice A (22 + s.size) c')).run Tryd.prog W = .ok (.string ⟨bs.toArray⟩) W) := fun W A c' B h => run_string_of 29 9 5 Tryd.underlying29 Tryd.underlying5 Tryd.underlying9 h HLN.out
  generalize hs1 : (⟨bs.toArray⟩ : ByteArray) = st at *
  have k1 := HCV.out w5.drew A k _ HY5.out
  clear hs1
  go_wp2_with fail
  go_region_with (first
    | (go_at_call 12; refine (HREF.out _).mono ?_; rintro x w6 ⟨A6, c6, rfl, hown, hbel⟩; have HB6 := Lib.hid hbel; have k3 := HCV.out w6 A6 c6 _ hown.cells; have k4 := HCV.out w6 A k _ (HY5.out.drew.below hbel hz5); clear hown hbel)
    | (go_at_call 6; refine (lcLives_any _ (HWI.out.below (HB5.out.drew.trans (HB6.out.mono HB5.out.size)) hw0 (by have h7 := (HB5.out.drew.trans (HB6.out.mono HB5.out.size)).size; omega))).mono ?_; rintro e w16 ⟨rfl, hb7⟩; have HB7 := Lib.hid hb7; clear hb7))
  all_goals
    go_wp2
    go_ret
    exact ⟨rfl, (HB5.out.drew.trans (HB6.out.mono HB5.out.size)).trans (HB7.out.mono (Nat.le_trans HB5.out.size HB6.out.size))⟩

theorem lcputs_any (m : Int) (s : ByteArray) (sz ar su : Int) (w : World) (hW : Wid w) (s0 : 0 ≤ su) (s1 : su < 4294967296) :
    Calls Tryd.prog 3 #[.agg #[.int .i64 m, .string s, .int .i64 sz, .int .i64 ar, .int .u32 su]] w fun e w' => e = .returned (.bool true) ∧ Below w.heap.size w w' := by
  by_cases hl : 300 < s.size
  · exact lcputs_long m s sz ar su w hW hl
  cases hr : hdB m s.data.toList sz ar su with
  | false => exact lcputs_no m s sz ar su w hW (by omega) hr
  | true =>
    obtain ⟨m0, _, z0, _, a0, _⟩ := hdB_nums hr
    obtain ⟨m, rfl⟩ := Int.eq_ofNat_of_zero_le m0
    obtain ⟨sz, rfl⟩ := Int.eq_ofNat_of_zero_le z0
    obtain ⟨ar, rfl⟩ := Int.eq_ofNat_of_zero_le a0
    obtain ⟨su, rfl⟩ := Int.eq_ofNat_of_zero_le s0
    exact lcputs_yes m s sz ar su w hW (by omega) (by omega) hr
end Go.Proofs.YtkhmcaoabfifcaaDoor
