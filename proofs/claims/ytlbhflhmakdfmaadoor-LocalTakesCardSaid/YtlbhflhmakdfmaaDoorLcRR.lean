/- Layer 16: the reference's Right of a head. -/
import Derived.Test.YtlbhflhmakdfmaaDoorLc
import Derived.Test.YtlbhflhmakdfmaaDoorRef15
namespace Go.Proofs.YtlbhflhmakdfmaaDoor
open Go.RowKit

theorem hdB_of {m : Int} {l : List UInt8} {sz ar su : Int} (h : rightB l = true) : hdB m l sz ar su = (decide (0 ≤ sz) && decide (sz ≤ 65536) && (if m = 0 then ar == sz else if m = 1 then decide (0 ≤ ar) && decide (ar < sz) else if m = 2 then sz == 0 && ar == 0 && su == 0 else false)) := by
  unfold hdB
  rw [h, Bool.true_and]

set_option maxRecDepth 100000 in
set_option maxHeartbeats 1000000 in
theorem refHd_no (m : Int) (s : ByteArray) (sz ar su : Int) (w : World) (hm : s.size ≤ maxLen) (hr : rightB s.data.toList = false) :
    Calls Tryd.prog 20 #[.agg #[.int .i64 m, .string s, .int .i64 sz, .int .i64 ar, .int .u32 su]] w fun e w' => e = .returned (.bool false) ∧ Below w.heap.size w w' := by
  obtain ⟨w0, hw0⟩ : ∃ w0, w.alloc (.cells #[.int .i64 m, .string s, .int .i64 sz, .int .i64 ar, .int .u32 su] 34) = w0 := ⟨_, rfl⟩
  have HX0 : Hid (Box w0 w.heap.size #[.int .i64 m, .string s, .int .i64 sz, .int .i64 ar, .int .u32 su] 34) := by rw [← hw0]; exact heap_alloc_new w _
  have HB0 : Hid (Below w.heap.size w w0) := by rw [← hw0]; exact (Below.refl w.heap.size w).alloc (Nat.le_refl _) _
  have HR := Lib.hid (fun W => refRight_any s W hm)
  have hx1 : w0.cell? ⟨w.heap.size, 1, none⟩ = some (.string s) := HX0.out.cell 1
  rw [hr] at HR
  clear hm
  go_enter Tryd.func20, Tryd.ntmps20
  go_wp2_with (go_at_call 34; refine (HR.out _).mono ?_; rintro e w1 ⟨rfl, hb⟩; have HB1 := Lib.hid (HB0.out.trans (hb.mono HB0.out.size)); have HX1 := Lib.hid (HX0.out.below hb HX0.out.lt); clear hb; have hy0 : w1.cell? ⟨w.heap.size, 0, none⟩ = some (.int .i64 m) := HX1.out.cell 0; have hy2 : w1.cell? ⟨w.heap.size, 2, none⟩ = some (.int .i64 sz) := HX1.out.cell 2; have hy3 : w1.cell? ⟨w.heap.size, 3, none⟩ = some (.int .i64 ar) := HX1.out.cell 3; have hy4 : w1.cell? ⟨w.heap.size, 4, none⟩ = some (.int .u32 su) := HX1.out.cell 4)
  go_ret
  exact ⟨rfl, HB1.out⟩

set_option maxRecDepth 100000 in
set_option maxHeartbeats 1000000 in
theorem refHd_two0 (m : Int) (s : ByteArray) (sz ar su : Int) (w : World) (hm : s.size ≤ maxLen) (hr : rightB s.data.toList = true) (h2 : (m == 2) = true) (hs : (sz == 0) = true) (ha : (ar == 0) = true) :
    Calls Tryd.prog 20 #[.agg #[.int .i64 m, .string s, .int .i64 sz, .int .i64 ar, .int .u32 su]] w fun e w' => e = .returned (.bool (su == 0)) ∧ Below w.heap.size w w' := by
  obtain ⟨w0, hw0⟩ : ∃ w0, w.alloc (.cells #[.int .i64 m, .string s, .int .i64 sz, .int .i64 ar, .int .u32 su] 34) = w0 := ⟨_, rfl⟩
  have HX0 : Hid (Box w0 w.heap.size #[.int .i64 m, .string s, .int .i64 sz, .int .i64 ar, .int .u32 su] 34) := by rw [← hw0]; exact heap_alloc_new w _
  have HB0 : Hid (Below w.heap.size w w0) := by rw [← hw0]; exact (Below.refl w.heap.size w).alloc (Nat.le_refl _) _
  have HR := Lib.hid (fun W => refRight_any s W hm)
  have hx1 : w0.cell? ⟨w.heap.size, 1, none⟩ = some (.string s) := HX0.out.cell 1
  rw [hr] at HR
  clear hm
  go_enter Tryd.func20, Tryd.ntmps20
  go_wp2_with (go_at_call 34; refine (HR.out _).mono ?_; rintro e w1 ⟨rfl, hb⟩; have HB1 := Lib.hid (HB0.out.trans (hb.mono HB0.out.size)); have HX1 := Lib.hid (HX0.out.below hb HX0.out.lt); clear hb; have hy0 : w1.cell? ⟨w.heap.size, 0, none⟩ = some (.int .i64 m) := HX1.out.cell 0; have hy2 : w1.cell? ⟨w.heap.size, 2, none⟩ = some (.int .i64 sz) := HX1.out.cell 2; have hy3 : w1.cell? ⟨w.heap.size, 3, none⟩ = some (.int .i64 ar) := HX1.out.cell 3; have hy4 : w1.cell? ⟨w.heap.size, 4, none⟩ = some (.int .u32 su) := HX1.out.cell 4)
  go_ret
  exact ⟨rfl, HB1.out⟩

set_option maxRecDepth 100000 in
set_option maxHeartbeats 1000000 in
theorem refHd_two1 (m : Int) (s : ByteArray) (sz ar su : Int) (w : World) (hm : s.size ≤ maxLen) (hr : rightB s.data.toList = true) (h2 : (m == 2) = true) (hs : (sz == 0) = true) (ha : (ar == 0) = false) :
    Calls Tryd.prog 20 #[.agg #[.int .i64 m, .string s, .int .i64 sz, .int .i64 ar, .int .u32 su]] w fun e w' => e = .returned (.bool false) ∧ Below w.heap.size w w' := by
  obtain ⟨w0, hw0⟩ : ∃ w0, w.alloc (.cells #[.int .i64 m, .string s, .int .i64 sz, .int .i64 ar, .int .u32 su] 34) = w0 := ⟨_, rfl⟩
  have HX0 : Hid (Box w0 w.heap.size #[.int .i64 m, .string s, .int .i64 sz, .int .i64 ar, .int .u32 su] 34) := by rw [← hw0]; exact heap_alloc_new w _
  have HB0 : Hid (Below w.heap.size w w0) := by rw [← hw0]; exact (Below.refl w.heap.size w).alloc (Nat.le_refl _) _
  have HR := Lib.hid (fun W => refRight_any s W hm)
  have hx1 : w0.cell? ⟨w.heap.size, 1, none⟩ = some (.string s) := HX0.out.cell 1
  rw [hr] at HR
  clear hm
  go_enter Tryd.func20, Tryd.ntmps20
  go_wp2_with (go_at_call 34; refine (HR.out _).mono ?_; rintro e w1 ⟨rfl, hb⟩; have HB1 := Lib.hid (HB0.out.trans (hb.mono HB0.out.size)); have HX1 := Lib.hid (HX0.out.below hb HX0.out.lt); clear hb; have hy0 : w1.cell? ⟨w.heap.size, 0, none⟩ = some (.int .i64 m) := HX1.out.cell 0; have hy2 : w1.cell? ⟨w.heap.size, 2, none⟩ = some (.int .i64 sz) := HX1.out.cell 2; have hy3 : w1.cell? ⟨w.heap.size, 3, none⟩ = some (.int .i64 ar) := HX1.out.cell 3; have hy4 : w1.cell? ⟨w.heap.size, 4, none⟩ = some (.int .u32 su) := HX1.out.cell 4)
  go_ret
  exact ⟨rfl, HB1.out⟩

set_option maxRecDepth 100000 in
set_option maxHeartbeats 1000000 in
theorem refHd_two2 (m : Int) (s : ByteArray) (sz ar su : Int) (w : World) (hm : s.size ≤ maxLen) (hr : rightB s.data.toList = true) (h2 : (m == 2) = true) (hs : (sz == 0) = false) :
    Calls Tryd.prog 20 #[.agg #[.int .i64 m, .string s, .int .i64 sz, .int .i64 ar, .int .u32 su]] w fun e w' => e = .returned (.bool false) ∧ Below w.heap.size w w' := by
  obtain ⟨w0, hw0⟩ : ∃ w0, w.alloc (.cells #[.int .i64 m, .string s, .int .i64 sz, .int .i64 ar, .int .u32 su] 34) = w0 := ⟨_, rfl⟩
  have HX0 : Hid (Box w0 w.heap.size #[.int .i64 m, .string s, .int .i64 sz, .int .i64 ar, .int .u32 su] 34) := by rw [← hw0]; exact heap_alloc_new w _
  have HB0 : Hid (Below w.heap.size w w0) := by rw [← hw0]; exact (Below.refl w.heap.size w).alloc (Nat.le_refl _) _
  have HR := Lib.hid (fun W => refRight_any s W hm)
  have hx1 : w0.cell? ⟨w.heap.size, 1, none⟩ = some (.string s) := HX0.out.cell 1
  rw [hr] at HR
  clear hm
  go_enter Tryd.func20, Tryd.ntmps20
  go_wp2_with (go_at_call 34; refine (HR.out _).mono ?_; rintro e w1 ⟨rfl, hb⟩; have HB1 := Lib.hid (HB0.out.trans (hb.mono HB0.out.size)); have HX1 := Lib.hid (HX0.out.below hb HX0.out.lt); clear hb; have hy0 : w1.cell? ⟨w.heap.size, 0, none⟩ = some (.int .i64 m) := HX1.out.cell 0; have hy2 : w1.cell? ⟨w.heap.size, 2, none⟩ = some (.int .i64 sz) := HX1.out.cell 2; have hy3 : w1.cell? ⟨w.heap.size, 3, none⟩ = some (.int .i64 ar) := HX1.out.cell 3; have hy4 : w1.cell? ⟨w.heap.size, 4, none⟩ = some (.int .u32 su) := HX1.out.cell 4)
  go_ret
  exact ⟨rfl, HB1.out⟩

set_option maxRecDepth 100000 in
set_option maxHeartbeats 1000000 in
theorem refHd_neg (m : Int) (s : ByteArray) (sz ar su : Int) (w : World) (hm : s.size ≤ maxLen) (hr : rightB s.data.toList = true) (h2 : (m == 2) = false) (hs : sz < 0) :
    Calls Tryd.prog 20 #[.agg #[.int .i64 m, .string s, .int .i64 sz, .int .i64 ar, .int .u32 su]] w fun e w' => e = .returned (.bool false) ∧ Below w.heap.size w w' := by
  obtain ⟨w0, hw0⟩ : ∃ w0, w.alloc (.cells #[.int .i64 m, .string s, .int .i64 sz, .int .i64 ar, .int .u32 su] 34) = w0 := ⟨_, rfl⟩
  have HX0 : Hid (Box w0 w.heap.size #[.int .i64 m, .string s, .int .i64 sz, .int .i64 ar, .int .u32 su] 34) := by rw [← hw0]; exact heap_alloc_new w _
  have HB0 : Hid (Below w.heap.size w w0) := by rw [← hw0]; exact (Below.refl w.heap.size w).alloc (Nat.le_refl _) _
  have HR := Lib.hid (fun W => refRight_any s W hm)
  have hx1 : w0.cell? ⟨w.heap.size, 1, none⟩ = some (.string s) := HX0.out.cell 1
  rw [hr] at HR
  clear hm
  go_enter Tryd.func20, Tryd.ntmps20
  go_wp2_with (go_at_call 34; refine (HR.out _).mono ?_; rintro e w1 ⟨rfl, hb⟩; have HB1 := Lib.hid (HB0.out.trans (hb.mono HB0.out.size)); have HX1 := Lib.hid (HX0.out.below hb HX0.out.lt); clear hb; have hy0 : w1.cell? ⟨w.heap.size, 0, none⟩ = some (.int .i64 m) := HX1.out.cell 0; have hy2 : w1.cell? ⟨w.heap.size, 2, none⟩ = some (.int .i64 sz) := HX1.out.cell 2; have hy3 : w1.cell? ⟨w.heap.size, 3, none⟩ = some (.int .i64 ar) := HX1.out.cell 3; have hy4 : w1.cell? ⟨w.heap.size, 4, none⟩ = some (.int .u32 su) := HX1.out.cell 4)
  go_ret
  exact ⟨rfl, HB1.out⟩

set_option maxRecDepth 100000 in
set_option maxHeartbeats 1000000 in
theorem refHd_big (m : Int) (s : ByteArray) (sz ar su : Int) (w : World) (hm : s.size ≤ maxLen) (hr : rightB s.data.toList = true) (h2 : (m == 2) = false) (h0 : ¬ sz < 0) (hs : 65536 < sz) :
    Calls Tryd.prog 20 #[.agg #[.int .i64 m, .string s, .int .i64 sz, .int .i64 ar, .int .u32 su]] w fun e w' => e = .returned (.bool false) ∧ Below w.heap.size w w' := by
  obtain ⟨w0, hw0⟩ : ∃ w0, w.alloc (.cells #[.int .i64 m, .string s, .int .i64 sz, .int .i64 ar, .int .u32 su] 34) = w0 := ⟨_, rfl⟩
  have HX0 : Hid (Box w0 w.heap.size #[.int .i64 m, .string s, .int .i64 sz, .int .i64 ar, .int .u32 su] 34) := by rw [← hw0]; exact heap_alloc_new w _
  have HB0 : Hid (Below w.heap.size w w0) := by rw [← hw0]; exact (Below.refl w.heap.size w).alloc (Nat.le_refl _) _
  have HR := Lib.hid (fun W => refRight_any s W hm)
  have hx1 : w0.cell? ⟨w.heap.size, 1, none⟩ = some (.string s) := HX0.out.cell 1
  rw [hr] at HR
  clear hm
  go_enter Tryd.func20, Tryd.ntmps20
  go_wp2_with (go_at_call 34; refine (HR.out _).mono ?_; rintro e w1 ⟨rfl, hb⟩; have HB1 := Lib.hid (HB0.out.trans (hb.mono HB0.out.size)); have HX1 := Lib.hid (HX0.out.below hb HX0.out.lt); clear hb; have hy0 : w1.cell? ⟨w.heap.size, 0, none⟩ = some (.int .i64 m) := HX1.out.cell 0; have hy2 : w1.cell? ⟨w.heap.size, 2, none⟩ = some (.int .i64 sz) := HX1.out.cell 2; have hy3 : w1.cell? ⟨w.heap.size, 3, none⟩ = some (.int .i64 ar) := HX1.out.cell 3; have hy4 : w1.cell? ⟨w.heap.size, 4, none⟩ = some (.int .u32 su) := HX1.out.cell 4)
  go_ret
  exact ⟨rfl, HB1.out⟩

set_option maxRecDepth 100000 in
set_option maxHeartbeats 1000000 in
theorem refHd_area (m : Int) (s : ByteArray) (sz ar su : Int) (w : World) (hm : s.size ≤ maxLen) (hr : rightB s.data.toList = true) (h2 : (m == 2) = false) (h0 : ¬ sz < 0) (hs : ¬ 65536 < sz) (ha : ar < 0) :
    Calls Tryd.prog 20 #[.agg #[.int .i64 m, .string s, .int .i64 sz, .int .i64 ar, .int .u32 su]] w fun e w' => e = .returned (.bool false) ∧ Below w.heap.size w w' := by
  obtain ⟨w0, hw0⟩ : ∃ w0, w.alloc (.cells #[.int .i64 m, .string s, .int .i64 sz, .int .i64 ar, .int .u32 su] 34) = w0 := ⟨_, rfl⟩
  have HX0 : Hid (Box w0 w.heap.size #[.int .i64 m, .string s, .int .i64 sz, .int .i64 ar, .int .u32 su] 34) := by rw [← hw0]; exact heap_alloc_new w _
  have HB0 : Hid (Below w.heap.size w w0) := by rw [← hw0]; exact (Below.refl w.heap.size w).alloc (Nat.le_refl _) _
  have HR := Lib.hid (fun W => refRight_any s W hm)
  have hx1 : w0.cell? ⟨w.heap.size, 1, none⟩ = some (.string s) := HX0.out.cell 1
  rw [hr] at HR
  clear hm
  go_enter Tryd.func20, Tryd.ntmps20
  go_wp2_with (go_at_call 34; refine (HR.out _).mono ?_; rintro e w1 ⟨rfl, hb⟩; have HB1 := Lib.hid (HB0.out.trans (hb.mono HB0.out.size)); have HX1 := Lib.hid (HX0.out.below hb HX0.out.lt); clear hb; have hy0 : w1.cell? ⟨w.heap.size, 0, none⟩ = some (.int .i64 m) := HX1.out.cell 0; have hy2 : w1.cell? ⟨w.heap.size, 2, none⟩ = some (.int .i64 sz) := HX1.out.cell 2; have hy3 : w1.cell? ⟨w.heap.size, 3, none⟩ = some (.int .i64 ar) := HX1.out.cell 3; have hy4 : w1.cell? ⟨w.heap.size, 4, none⟩ = some (.int .u32 su) := HX1.out.cell 4)
  go_ret
  exact ⟨rfl, HB1.out⟩

set_option maxRecDepth 100000 in
set_option maxHeartbeats 1000000 in
theorem refHd_st1 (m : Int) (s : ByteArray) (sz ar su : Int) (w : World) (hm : s.size ≤ maxLen) (hr : rightB s.data.toList = true) (h2 : (m == 2) = false) (h0 : ¬ sz < 0) (hs : ¬ 65536 < sz) (ha : ¬ ar < 0) (hm0 : (m == 0) = true) (hq : (ar == sz) = true) :
    Calls Tryd.prog 20 #[.agg #[.int .i64 m, .string s, .int .i64 sz, .int .i64 ar, .int .u32 su]] w fun e w' => e = .returned (.bool true) ∧ Below w.heap.size w w' := by
  obtain ⟨w0, hw0⟩ : ∃ w0, w.alloc (.cells #[.int .i64 m, .string s, .int .i64 sz, .int .i64 ar, .int .u32 su] 34) = w0 := ⟨_, rfl⟩
  have HX0 : Hid (Box w0 w.heap.size #[.int .i64 m, .string s, .int .i64 sz, .int .i64 ar, .int .u32 su] 34) := by rw [← hw0]; exact heap_alloc_new w _
  have HB0 : Hid (Below w.heap.size w w0) := by rw [← hw0]; exact (Below.refl w.heap.size w).alloc (Nat.le_refl _) _
  have HR := Lib.hid (fun W => refRight_any s W hm)
  have hx1 : w0.cell? ⟨w.heap.size, 1, none⟩ = some (.string s) := HX0.out.cell 1
  rw [hr] at HR
  clear hm
  go_enter Tryd.func20, Tryd.ntmps20
  go_wp2_with (go_at_call 34; refine (HR.out _).mono ?_; rintro e w1 ⟨rfl, hb⟩; have HB1 := Lib.hid (HB0.out.trans (hb.mono HB0.out.size)); have HX1 := Lib.hid (HX0.out.below hb HX0.out.lt); clear hb; have hy0 : w1.cell? ⟨w.heap.size, 0, none⟩ = some (.int .i64 m) := HX1.out.cell 0; have hy2 : w1.cell? ⟨w.heap.size, 2, none⟩ = some (.int .i64 sz) := HX1.out.cell 2; have hy3 : w1.cell? ⟨w.heap.size, 3, none⟩ = some (.int .i64 ar) := HX1.out.cell 3; have hy4 : w1.cell? ⟨w.heap.size, 4, none⟩ = some (.int .u32 su) := HX1.out.cell 4)
  go_ret
  exact ⟨rfl, HB1.out⟩

set_option maxRecDepth 100000 in
set_option maxHeartbeats 1000000 in
theorem refHd_st0 (m : Int) (s : ByteArray) (sz ar su : Int) (w : World) (hm : s.size ≤ maxLen) (hr : rightB s.data.toList = true) (h2 : (m == 2) = false) (h0 : ¬ sz < 0) (hs : ¬ 65536 < sz) (ha : ¬ ar < 0) (hm0 : (m == 0) = true) (hm1 : (m == 1) = false) (hq : (ar == sz) = false) :
    Calls Tryd.prog 20 #[.agg #[.int .i64 m, .string s, .int .i64 sz, .int .i64 ar, .int .u32 su]] w fun e w' => e = .returned (.bool false) ∧ Below w.heap.size w w' := by
  obtain ⟨w0, hw0⟩ : ∃ w0, w.alloc (.cells #[.int .i64 m, .string s, .int .i64 sz, .int .i64 ar, .int .u32 su] 34) = w0 := ⟨_, rfl⟩
  have HX0 : Hid (Box w0 w.heap.size #[.int .i64 m, .string s, .int .i64 sz, .int .i64 ar, .int .u32 su] 34) := by rw [← hw0]; exact heap_alloc_new w _
  have HB0 : Hid (Below w.heap.size w w0) := by rw [← hw0]; exact (Below.refl w.heap.size w).alloc (Nat.le_refl _) _
  have HR := Lib.hid (fun W => refRight_any s W hm)
  have hx1 : w0.cell? ⟨w.heap.size, 1, none⟩ = some (.string s) := HX0.out.cell 1
  rw [hr] at HR
  clear hm
  go_enter Tryd.func20, Tryd.ntmps20
  go_wp2_with (go_at_call 34; refine (HR.out _).mono ?_; rintro e w1 ⟨rfl, hb⟩; have HB1 := Lib.hid (HB0.out.trans (hb.mono HB0.out.size)); have HX1 := Lib.hid (HX0.out.below hb HX0.out.lt); clear hb; have hy0 : w1.cell? ⟨w.heap.size, 0, none⟩ = some (.int .i64 m) := HX1.out.cell 0; have hy2 : w1.cell? ⟨w.heap.size, 2, none⟩ = some (.int .i64 sz) := HX1.out.cell 2; have hy3 : w1.cell? ⟨w.heap.size, 3, none⟩ = some (.int .i64 ar) := HX1.out.cell 3; have hy4 : w1.cell? ⟨w.heap.size, 4, none⟩ = some (.int .u32 su) := HX1.out.cell 4)
  go_ret
  exact ⟨rfl, HB1.out⟩

set_option maxRecDepth 100000 in
set_option maxHeartbeats 1000000 in
theorem refHd_pk (m : Int) (s : ByteArray) (sz ar su : Int) (w : World) (hm : s.size ≤ maxLen) (hr : rightB s.data.toList = true) (h2 : (m == 2) = false) (h0 : ¬ sz < 0) (hs : ¬ 65536 < sz) (ha : ¬ ar < 0) (hm0 : (m == 0) = false) (hm1 : (m == 1) = true) :
    Calls Tryd.prog 20 #[.agg #[.int .i64 m, .string s, .int .i64 sz, .int .i64 ar, .int .u32 su]] w fun e w' => e = .returned (.bool (decide (ar < sz))) ∧ Below w.heap.size w w' := by
  obtain ⟨w0, hw0⟩ : ∃ w0, w.alloc (.cells #[.int .i64 m, .string s, .int .i64 sz, .int .i64 ar, .int .u32 su] 34) = w0 := ⟨_, rfl⟩
  have HX0 : Hid (Box w0 w.heap.size #[.int .i64 m, .string s, .int .i64 sz, .int .i64 ar, .int .u32 su] 34) := by rw [← hw0]; exact heap_alloc_new w _
  have HB0 : Hid (Below w.heap.size w w0) := by rw [← hw0]; exact (Below.refl w.heap.size w).alloc (Nat.le_refl _) _
  have HR := Lib.hid (fun W => refRight_any s W hm)
  have hx1 : w0.cell? ⟨w.heap.size, 1, none⟩ = some (.string s) := HX0.out.cell 1
  rw [hr] at HR
  clear hm
  go_enter Tryd.func20, Tryd.ntmps20
  go_wp2_with (go_at_call 34; refine (HR.out _).mono ?_; rintro e w1 ⟨rfl, hb⟩; have HB1 := Lib.hid (HB0.out.trans (hb.mono HB0.out.size)); have HX1 := Lib.hid (HX0.out.below hb HX0.out.lt); clear hb; have hy0 : w1.cell? ⟨w.heap.size, 0, none⟩ = some (.int .i64 m) := HX1.out.cell 0; have hy2 : w1.cell? ⟨w.heap.size, 2, none⟩ = some (.int .i64 sz) := HX1.out.cell 2; have hy3 : w1.cell? ⟨w.heap.size, 3, none⟩ = some (.int .i64 ar) := HX1.out.cell 3; have hy4 : w1.cell? ⟨w.heap.size, 4, none⟩ = some (.int .u32 su) := HX1.out.cell 4)
  go_ret
  exact ⟨rfl, HB1.out⟩

set_option maxRecDepth 100000 in
set_option maxHeartbeats 1000000 in
theorem refHd_else (m : Int) (s : ByteArray) (sz ar su : Int) (w : World) (hm : s.size ≤ maxLen) (hr : rightB s.data.toList = true) (h2 : (m == 2) = false) (h0 : ¬ sz < 0) (hs : ¬ 65536 < sz) (ha : ¬ ar < 0) (hm0 : (m == 0) = false) (hm1 : (m == 1) = false) :
    Calls Tryd.prog 20 #[.agg #[.int .i64 m, .string s, .int .i64 sz, .int .i64 ar, .int .u32 su]] w fun e w' => e = .returned (.bool false) ∧ Below w.heap.size w w' := by
  obtain ⟨w0, hw0⟩ : ∃ w0, w.alloc (.cells #[.int .i64 m, .string s, .int .i64 sz, .int .i64 ar, .int .u32 su] 34) = w0 := ⟨_, rfl⟩
  have HX0 : Hid (Box w0 w.heap.size #[.int .i64 m, .string s, .int .i64 sz, .int .i64 ar, .int .u32 su] 34) := by rw [← hw0]; exact heap_alloc_new w _
  have HB0 : Hid (Below w.heap.size w w0) := by rw [← hw0]; exact (Below.refl w.heap.size w).alloc (Nat.le_refl _) _
  have HR := Lib.hid (fun W => refRight_any s W hm)
  have hx1 : w0.cell? ⟨w.heap.size, 1, none⟩ = some (.string s) := HX0.out.cell 1
  rw [hr] at HR
  clear hm
  go_enter Tryd.func20, Tryd.ntmps20
  go_wp2_with (go_at_call 34; refine (HR.out _).mono ?_; rintro e w1 ⟨rfl, hb⟩; have HB1 := Lib.hid (HB0.out.trans (hb.mono HB0.out.size)); have HX1 := Lib.hid (HX0.out.below hb HX0.out.lt); clear hb; have hy0 : w1.cell? ⟨w.heap.size, 0, none⟩ = some (.int .i64 m) := HX1.out.cell 0; have hy2 : w1.cell? ⟨w.heap.size, 2, none⟩ = some (.int .i64 sz) := HX1.out.cell 2; have hy3 : w1.cell? ⟨w.heap.size, 3, none⟩ = some (.int .i64 ar) := HX1.out.cell 3; have hy4 : w1.cell? ⟨w.heap.size, 4, none⟩ = some (.int .u32 su) := HX1.out.cell 4)
  go_ret
  exact ⟨rfl, HB1.out⟩

theorem refHd_any (m : Int) (s : ByteArray) (sz ar su : Int) (w : World) (hm : s.size ≤ maxLen) :
    Calls Tryd.prog 20 #[.agg #[.int .i64 m, .string s, .int .i64 sz, .int .i64 ar, .int .u32 su]] w fun e w' => e = .returned (.bool (hdB m s.data.toList sz ar su)) ∧ Below w.heap.size w w' := by
  cases hr : rightB s.data.toList with
  | false =>
    have e : hdB m s.data.toList sz ar su = false := by unfold hdB; rw [hr]; rfl
    rw [e]
    exact refHd_no m s sz ar su w hm hr
  | true =>
    rw [hdB_of hr]
    by_cases h2 : m = 2
    · subst h2
      by_cases hs : sz = 0
      · subst hs
        by_cases ha : ar = 0
        · subst ha
          exact refHd_two0 2 s 0 0 su w hm hr rfl rfl rfl
        · have := refHd_two1 2 s 0 ar su w hm hr rfl rfl (beq_eq_false_iff_ne.2 ha)
          simpa [beq_eq_false_iff_ne.2 ha] using this
      · have := refHd_two2 2 s sz ar su w hm hr rfl (beq_eq_false_iff_ne.2 hs)
        simpa [beq_eq_false_iff_ne.2 hs] using this
    have h2' : (m == 2) = false := beq_eq_false_iff_ne.2 h2
    by_cases h0 : sz < 0
    · rw [decide_eq_false (show ¬ 0 ≤ sz by omega)]
      exact refHd_neg m s sz ar su w hm hr h2' h0
    rw [decide_eq_true (show 0 ≤ sz by omega)]
    by_cases h1 : 65536 < sz
    · rw [decide_eq_false (show ¬ sz ≤ 65536 by omega)]
      exact refHd_big m s sz ar su w hm hr h2' h0 h1
    rw [decide_eq_true (show sz ≤ 65536 by omega)]
    by_cases ha : ar < 0
    · have := refHd_area m s sz ar su w hm hr h2' h0 h1 ha
      have e : (true && true && (if m = 0 then ar == sz else if m = 1 then decide (0 ≤ ar) && decide (ar < sz) else if m = 2 then sz == 0 && ar == 0 && su == 0 else false)) = false := by
        rw [if_neg h2, decide_eq_false (show ¬ 0 ≤ ar by omega), beq_eq_false_iff_ne.2 (show ar ≠ sz by omega)]
        simp
      rw [e]
      exact this
    by_cases h3 : m = 0
    · subst h3
      rw [if_pos rfl]
      by_cases hq : ar = sz
      · have hq' : (ar == sz) = true := by simp [hq]
        rw [hq']
        exact refHd_st1 0 s sz ar su w hm hr h2' h0 h1 ha rfl hq'
      · have hq' : (ar == sz) = false := beq_eq_false_iff_ne.2 hq
        rw [hq']
        exact refHd_st0 0 s sz ar su w hm hr h2' h0 h1 ha rfl rfl hq'
    rw [if_neg h3]
    by_cases h4 : m = 1
    · subst h4
      rw [if_pos rfl, decide_eq_true (show 0 ≤ ar by omega)]
      exact refHd_pk 1 s sz ar su w hm hr h2' h0 h1 ha rfl rfl
    rw [if_neg h4, if_neg h2]
    exact refHd_else m s sz ar su w hm hr h2' h0 h1 ha (beq_eq_false_iff_ne.2 h3) (beq_eq_false_iff_ne.2 h4)
end Go.Proofs.YtlbhflhmakdfmaaDoor
