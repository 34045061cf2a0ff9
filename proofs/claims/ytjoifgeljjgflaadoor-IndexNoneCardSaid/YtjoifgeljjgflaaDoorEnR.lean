/- Layer 19: whether a member may be: the reference's. -/
import Derived.Test.YtjoifgeljjgflaaDoorEn
import Derived.Test.YtjoifgeljjgflaaDoorRef15
namespace Go.Proofs.YtjoifgeljjgflaaDoor
open Go.RowKit

theorem inB_of {n a b : Int} (h1 : a ≤ n) (h2 : n ≤ b) : inB n a b = true := by simp [inB, h1, h2]
theorem inB_lo {n a b : Int} (h1 : n < a) : inB n a b = false := by simp [inB]; omega
theorem inB_hi {n a b : Int} (h1 : b < n) : inB n a b = false := by simp [inB]; omega
theorem from_eq {fr at_ n : Int} (h1 : -9223372036854775808 ≤ fr) (h2 : fr ≤ 9223372036854775807) (a0 : 1024 ≤ at_) (a1 : at_ ≤ 1073741824) (n0 : 0 ≤ n) (n1 : n ≤ 64) :
    (IntKind.i64.wrap (fr - at_) == 22 + n) = (fr == at_ + (22 + n)) := by
  rw [IntKind.wrap_i64, Bool.eq_iff_iff, beq_iff_eq, beq_iff_eq]
  omega

set_option maxRecDepth 100000 in
set_option maxHeartbeats 1000000 in
theorem refEn_no (nm : ByteArray) (at_ fr ar sz su me : Int) (w : World) (hm : nm.size ≤ maxLen) (hr : rightB nm.data.toList = false) :
    Calls Tryd.prog 29 #[.agg #[.string nm, .int .i64 at_, .int .i64 fr, .int .i64 ar, .int .i64 sz, .int .u32 su, .int .i64 me]] w fun e w' => e = .returned (.bool false) ∧ Below w.heap.size w w' := by
  obtain ⟨w0, hw0⟩ : ∃ w0, w.alloc (.cells #[.string nm, .int .i64 at_, .int .i64 fr, .int .i64 ar, .int .i64 sz, .int .u32 su, .int .i64 me] 32) = w0 := ⟨_, rfl⟩
  have HX0 : Hid (Box w0 w.heap.size #[.string nm, .int .i64 at_, .int .i64 fr, .int .i64 ar, .int .i64 sz, .int .u32 su, .int .i64 me] 32) := by rw [← hw0]; exact heap_alloc_new w _
  have HB0 : Hid (Below w.heap.size w w0) := by rw [← hw0]; exact (Below.refl w.heap.size w).alloc (Nat.le_refl _) _
  have HR := Lib.hid (fun W => refRight_any nm W hm)
  rw [hr] at HR
  have k0 : w0.cell? ⟨w.heap.size, 0, none⟩ = some (.string nm) := HX0.out.cell 0
  clear hr hm
  go_enter Tryd.func29, Tryd.ntmps29
  go_wp2_with (go_at_call 44; refine (HR.out _).mono ?_; rintro e w1 ⟨rfl, hb⟩; have HB1 := Lib.hid (HB0.out.trans (hb.mono HB0.out.size)); have HX1 : Hid (Box w1 w.heap.size #[.string nm, .int .i64 at_, .int .i64 fr, .int .i64 ar, .int .i64 sz, .int .u32 su, .int .i64 me] 32) := HX0.out.below hb HX0.out.lt; clear hb k0; have y0 : w1.cell? ⟨w.heap.size, 0, none⟩ = some (.string nm) := HX1.out.cell 0; have y1 : w1.cell? ⟨w.heap.size, 1, none⟩ = some (.int .i64 at_) := HX1.out.cell 1; have y2 : w1.cell? ⟨w.heap.size, 2, none⟩ = some (.int .i64 fr) := HX1.out.cell 2; have y3 : w1.cell? ⟨w.heap.size, 3, none⟩ = some (.int .i64 ar) := HX1.out.cell 3; have y4 : w1.cell? ⟨w.heap.size, 4, none⟩ = some (.int .i64 sz) := HX1.out.cell 4; have y5 : w1.cell? ⟨w.heap.size, 5, none⟩ = some (.int .u32 su) := HX1.out.cell 5; have y6 : w1.cell? ⟨w.heap.size, 6, none⟩ = some (.int .i64 me) := HX1.out.cell 6)
  go_ret
  exact ⟨rfl, HB1.out⟩

set_option maxRecDepth 100000 in
set_option maxHeartbeats 1000000 in
theorem refEn_m1 (nm : ByteArray) (at_ fr ar sz su me : Int) (w : World) (hm : nm.size ≤ maxLen) (hr : rightB nm.data.toList = true) (h1 : me < 0) :
    Calls Tryd.prog 29 #[.agg #[.string nm, .int .i64 at_, .int .i64 fr, .int .i64 ar, .int .i64 sz, .int .u32 su, .int .i64 me]] w fun e w' => e = .returned (.bool false) ∧ Below w.heap.size w w' := by
  obtain ⟨w0, hw0⟩ : ∃ w0, w.alloc (.cells #[.string nm, .int .i64 at_, .int .i64 fr, .int .i64 ar, .int .i64 sz, .int .u32 su, .int .i64 me] 32) = w0 := ⟨_, rfl⟩
  have HX0 : Hid (Box w0 w.heap.size #[.string nm, .int .i64 at_, .int .i64 fr, .int .i64 ar, .int .i64 sz, .int .u32 su, .int .i64 me] 32) := by rw [← hw0]; exact heap_alloc_new w _
  have HB0 : Hid (Below w.heap.size w w0) := by rw [← hw0]; exact (Below.refl w.heap.size w).alloc (Nat.le_refl _) _
  have HR := Lib.hid (fun W => refRight_any nm W hm)
  rw [hr] at HR
  have k0 : w0.cell? ⟨w.heap.size, 0, none⟩ = some (.string nm) := HX0.out.cell 0
  have hnm : nm.size ≤ 64 := (rightB_size hr).2
  clear hr hm
  go_enter Tryd.func29, Tryd.ntmps29
  go_wp2_with (go_at_call 44; refine (HR.out _).mono ?_; rintro e w1 ⟨rfl, hb⟩; have HB1 := Lib.hid (HB0.out.trans (hb.mono HB0.out.size)); have HX1 : Hid (Box w1 w.heap.size #[.string nm, .int .i64 at_, .int .i64 fr, .int .i64 ar, .int .i64 sz, .int .u32 su, .int .i64 me] 32) := HX0.out.below hb HX0.out.lt; clear hb k0; have y0 : w1.cell? ⟨w.heap.size, 0, none⟩ = some (.string nm) := HX1.out.cell 0; have y1 : w1.cell? ⟨w.heap.size, 1, none⟩ = some (.int .i64 at_) := HX1.out.cell 1; have y2 : w1.cell? ⟨w.heap.size, 2, none⟩ = some (.int .i64 fr) := HX1.out.cell 2; have y3 : w1.cell? ⟨w.heap.size, 3, none⟩ = some (.int .i64 ar) := HX1.out.cell 3; have y4 : w1.cell? ⟨w.heap.size, 4, none⟩ = some (.int .i64 sz) := HX1.out.cell 4; have y5 : w1.cell? ⟨w.heap.size, 5, none⟩ = some (.int .u32 su) := HX1.out.cell 5; have y6 : w1.cell? ⟨w.heap.size, 6, none⟩ = some (.int .i64 me) := HX1.out.cell 6)
  go_ret
  exact ⟨rfl, HB1.out⟩

set_option maxRecDepth 100000 in
set_option maxHeartbeats 1000000 in
theorem refEn_m2 (nm : ByteArray) (at_ fr ar sz su me : Int) (w : World) (hm : nm.size ≤ maxLen) (hr : rightB nm.data.toList = true) (h1 : ¬ me < 0) (h2 : 2 < me) :
    Calls Tryd.prog 29 #[.agg #[.string nm, .int .i64 at_, .int .i64 fr, .int .i64 ar, .int .i64 sz, .int .u32 su, .int .i64 me]] w fun e w' => e = .returned (.bool false) ∧ Below w.heap.size w w' := by
  obtain ⟨w0, hw0⟩ : ∃ w0, w.alloc (.cells #[.string nm, .int .i64 at_, .int .i64 fr, .int .i64 ar, .int .i64 sz, .int .u32 su, .int .i64 me] 32) = w0 := ⟨_, rfl⟩
  have HX0 : Hid (Box w0 w.heap.size #[.string nm, .int .i64 at_, .int .i64 fr, .int .i64 ar, .int .i64 sz, .int .u32 su, .int .i64 me] 32) := by rw [← hw0]; exact heap_alloc_new w _
  have HB0 : Hid (Below w.heap.size w w0) := by rw [← hw0]; exact (Below.refl w.heap.size w).alloc (Nat.le_refl _) _
  have HR := Lib.hid (fun W => refRight_any nm W hm)
  rw [hr] at HR
  have k0 : w0.cell? ⟨w.heap.size, 0, none⟩ = some (.string nm) := HX0.out.cell 0
  have hnm : nm.size ≤ 64 := (rightB_size hr).2
  clear hr hm
  go_enter Tryd.func29, Tryd.ntmps29
  go_wp2_with (go_at_call 44; refine (HR.out _).mono ?_; rintro e w1 ⟨rfl, hb⟩; have HB1 := Lib.hid (HB0.out.trans (hb.mono HB0.out.size)); have HX1 : Hid (Box w1 w.heap.size #[.string nm, .int .i64 at_, .int .i64 fr, .int .i64 ar, .int .i64 sz, .int .u32 su, .int .i64 me] 32) := HX0.out.below hb HX0.out.lt; clear hb k0; have y0 : w1.cell? ⟨w.heap.size, 0, none⟩ = some (.string nm) := HX1.out.cell 0; have y1 : w1.cell? ⟨w.heap.size, 1, none⟩ = some (.int .i64 at_) := HX1.out.cell 1; have y2 : w1.cell? ⟨w.heap.size, 2, none⟩ = some (.int .i64 fr) := HX1.out.cell 2; have y3 : w1.cell? ⟨w.heap.size, 3, none⟩ = some (.int .i64 ar) := HX1.out.cell 3; have y4 : w1.cell? ⟨w.heap.size, 4, none⟩ = some (.int .i64 sz) := HX1.out.cell 4; have y5 : w1.cell? ⟨w.heap.size, 5, none⟩ = some (.int .u32 su) := HX1.out.cell 5; have y6 : w1.cell? ⟨w.heap.size, 6, none⟩ = some (.int .i64 me) := HX1.out.cell 6)
  go_ret
  exact ⟨rfl, HB1.out⟩

set_option maxRecDepth 100000 in
set_option maxHeartbeats 1000000 in
theorem refEn_a1 (nm : ByteArray) (at_ fr ar sz su me : Int) (w : World) (hm : nm.size ≤ maxLen) (hr : rightB nm.data.toList = true) (h1 : ¬ me < 0) (h2 : ¬ 2 < me) (h3 : at_ < 1024) :
    Calls Tryd.prog 29 #[.agg #[.string nm, .int .i64 at_, .int .i64 fr, .int .i64 ar, .int .i64 sz, .int .u32 su, .int .i64 me]] w fun e w' => e = .returned (.bool false) ∧ Below w.heap.size w w' := by
  obtain ⟨w0, hw0⟩ : ∃ w0, w.alloc (.cells #[.string nm, .int .i64 at_, .int .i64 fr, .int .i64 ar, .int .i64 sz, .int .u32 su, .int .i64 me] 32) = w0 := ⟨_, rfl⟩
  have HX0 : Hid (Box w0 w.heap.size #[.string nm, .int .i64 at_, .int .i64 fr, .int .i64 ar, .int .i64 sz, .int .u32 su, .int .i64 me] 32) := by rw [← hw0]; exact heap_alloc_new w _
  have HB0 : Hid (Below w.heap.size w w0) := by rw [← hw0]; exact (Below.refl w.heap.size w).alloc (Nat.le_refl _) _
  have HR := Lib.hid (fun W => refRight_any nm W hm)
  rw [hr] at HR
  have k0 : w0.cell? ⟨w.heap.size, 0, none⟩ = some (.string nm) := HX0.out.cell 0
  have hnm : nm.size ≤ 64 := (rightB_size hr).2
  clear hr hm
  go_enter Tryd.func29, Tryd.ntmps29
  go_wp2_with (go_at_call 44; refine (HR.out _).mono ?_; rintro e w1 ⟨rfl, hb⟩; have HB1 := Lib.hid (HB0.out.trans (hb.mono HB0.out.size)); have HX1 : Hid (Box w1 w.heap.size #[.string nm, .int .i64 at_, .int .i64 fr, .int .i64 ar, .int .i64 sz, .int .u32 su, .int .i64 me] 32) := HX0.out.below hb HX0.out.lt; clear hb k0; have y0 : w1.cell? ⟨w.heap.size, 0, none⟩ = some (.string nm) := HX1.out.cell 0; have y1 : w1.cell? ⟨w.heap.size, 1, none⟩ = some (.int .i64 at_) := HX1.out.cell 1; have y2 : w1.cell? ⟨w.heap.size, 2, none⟩ = some (.int .i64 fr) := HX1.out.cell 2; have y3 : w1.cell? ⟨w.heap.size, 3, none⟩ = some (.int .i64 ar) := HX1.out.cell 3; have y4 : w1.cell? ⟨w.heap.size, 4, none⟩ = some (.int .i64 sz) := HX1.out.cell 4; have y5 : w1.cell? ⟨w.heap.size, 5, none⟩ = some (.int .u32 su) := HX1.out.cell 5; have y6 : w1.cell? ⟨w.heap.size, 6, none⟩ = some (.int .i64 me) := HX1.out.cell 6)
  go_ret
  exact ⟨rfl, HB1.out⟩

set_option maxRecDepth 100000 in
set_option maxHeartbeats 1000000 in
theorem refEn_a2 (nm : ByteArray) (at_ fr ar sz su me : Int) (w : World) (hm : nm.size ≤ maxLen) (hr : rightB nm.data.toList = true) (h1 : ¬ me < 0) (h2 : ¬ 2 < me) (h3 : ¬ at_ < 1024) (h4 : 1073741824 < at_) :
    Calls Tryd.prog 29 #[.agg #[.string nm, .int .i64 at_, .int .i64 fr, .int .i64 ar, .int .i64 sz, .int .u32 su, .int .i64 me]] w fun e w' => e = .returned (.bool false) ∧ Below w.heap.size w w' := by
  obtain ⟨w0, hw0⟩ : ∃ w0, w.alloc (.cells #[.string nm, .int .i64 at_, .int .i64 fr, .int .i64 ar, .int .i64 sz, .int .u32 su, .int .i64 me] 32) = w0 := ⟨_, rfl⟩
  have HX0 : Hid (Box w0 w.heap.size #[.string nm, .int .i64 at_, .int .i64 fr, .int .i64 ar, .int .i64 sz, .int .u32 su, .int .i64 me] 32) := by rw [← hw0]; exact heap_alloc_new w _
  have HB0 : Hid (Below w.heap.size w w0) := by rw [← hw0]; exact (Below.refl w.heap.size w).alloc (Nat.le_refl _) _
  have HR := Lib.hid (fun W => refRight_any nm W hm)
  rw [hr] at HR
  have k0 : w0.cell? ⟨w.heap.size, 0, none⟩ = some (.string nm) := HX0.out.cell 0
  have hnm : nm.size ≤ 64 := (rightB_size hr).2
  clear hr hm
  go_enter Tryd.func29, Tryd.ntmps29
  go_wp2_with (go_at_call 44; refine (HR.out _).mono ?_; rintro e w1 ⟨rfl, hb⟩; have HB1 := Lib.hid (HB0.out.trans (hb.mono HB0.out.size)); have HX1 : Hid (Box w1 w.heap.size #[.string nm, .int .i64 at_, .int .i64 fr, .int .i64 ar, .int .i64 sz, .int .u32 su, .int .i64 me] 32) := HX0.out.below hb HX0.out.lt; clear hb k0; have y0 : w1.cell? ⟨w.heap.size, 0, none⟩ = some (.string nm) := HX1.out.cell 0; have y1 : w1.cell? ⟨w.heap.size, 1, none⟩ = some (.int .i64 at_) := HX1.out.cell 1; have y2 : w1.cell? ⟨w.heap.size, 2, none⟩ = some (.int .i64 fr) := HX1.out.cell 2; have y3 : w1.cell? ⟨w.heap.size, 3, none⟩ = some (.int .i64 ar) := HX1.out.cell 3; have y4 : w1.cell? ⟨w.heap.size, 4, none⟩ = some (.int .i64 sz) := HX1.out.cell 4; have y5 : w1.cell? ⟨w.heap.size, 5, none⟩ = some (.int .u32 su) := HX1.out.cell 5; have y6 : w1.cell? ⟨w.heap.size, 6, none⟩ = some (.int .i64 me) := HX1.out.cell 6)
  go_ret
  exact ⟨rfl, HB1.out⟩

set_option maxRecDepth 100000 in
set_option maxHeartbeats 1000000 in
theorem refEn_f (nm : ByteArray) (at_ fr ar sz su me : Int) (w : World) (hm : nm.size ≤ maxLen) (hr : rightB nm.data.toList = true) (h1 : ¬ me < 0) (h2 : ¬ 2 < me) (h3 : ¬ at_ < 1024) (h4 : ¬ 1073741824 < at_) (D : Int) (hD : IntKind.i64.wrap (fr - at_) = D) (_h5 : (D == 22 + (nm.size : Int)) = false) (h5' : (D != 22 + (nm.size : Int)) = true) :
    Calls Tryd.prog 29 #[.agg #[.string nm, .int .i64 at_, .int .i64 fr, .int .i64 ar, .int .i64 sz, .int .u32 su, .int .i64 me]] w fun e w' => e = .returned (.bool false) ∧ Below w.heap.size w w' := by
  obtain ⟨w0, hw0⟩ : ∃ w0, w.alloc (.cells #[.string nm, .int .i64 at_, .int .i64 fr, .int .i64 ar, .int .i64 sz, .int .u32 su, .int .i64 me] 32) = w0 := ⟨_, rfl⟩
  have HX0 : Hid (Box w0 w.heap.size #[.string nm, .int .i64 at_, .int .i64 fr, .int .i64 ar, .int .i64 sz, .int .u32 su, .int .i64 me] 32) := by rw [← hw0]; exact heap_alloc_new w _
  have HB0 : Hid (Below w.heap.size w w0) := by rw [← hw0]; exact (Below.refl w.heap.size w).alloc (Nat.le_refl _) _
  have HR := Lib.hid (fun W => refRight_any nm W hm)
  rw [hr] at HR
  have k0 : w0.cell? ⟨w.heap.size, 0, none⟩ = some (.string nm) := HX0.out.cell 0
  have hnm : nm.size ≤ 64 := (rightB_size hr).2
  clear hr hm
  go_enter Tryd.func29, Tryd.ntmps29
  go_wp2_with (go_at_call 44; refine (HR.out _).mono ?_; rintro e w1 ⟨rfl, hb⟩; have HB1 := Lib.hid (HB0.out.trans (hb.mono HB0.out.size)); have HX1 : Hid (Box w1 w.heap.size #[.string nm, .int .i64 at_, .int .i64 fr, .int .i64 ar, .int .i64 sz, .int .u32 su, .int .i64 me] 32) := HX0.out.below hb HX0.out.lt; clear hb k0; have y0 : w1.cell? ⟨w.heap.size, 0, none⟩ = some (.string nm) := HX1.out.cell 0; have y1 : w1.cell? ⟨w.heap.size, 1, none⟩ = some (.int .i64 at_) := HX1.out.cell 1; have y2 : w1.cell? ⟨w.heap.size, 2, none⟩ = some (.int .i64 fr) := HX1.out.cell 2; have y3 : w1.cell? ⟨w.heap.size, 3, none⟩ = some (.int .i64 ar) := HX1.out.cell 3; have y4 : w1.cell? ⟨w.heap.size, 4, none⟩ = some (.int .i64 sz) := HX1.out.cell 4; have y5 : w1.cell? ⟨w.heap.size, 5, none⟩ = some (.int .u32 su) := HX1.out.cell 5; have y6 : w1.cell? ⟨w.heap.size, 6, none⟩ = some (.int .i64 me) := HX1.out.cell 6)
  go_ret
  exact ⟨rfl, HB1.out⟩

set_option maxRecDepth 100000 in
set_option maxHeartbeats 1000000 in
theorem refEn_r1 (nm : ByteArray) (at_ fr ar sz su me : Int) (w : World) (hm : nm.size ≤ maxLen) (hr : rightB nm.data.toList = true) (h1 : ¬ me < 0) (h2 : ¬ 2 < me) (h3 : ¬ at_ < 1024) (h4 : ¬ 1073741824 < at_) (D : Int) (hD : IntKind.i64.wrap (fr - at_) = D) (_h5 : (D == 22 + (nm.size : Int)) = true) (h5' : (D != 22 + (nm.size : Int)) = false) (h6 : ar < 0) :
    Calls Tryd.prog 29 #[.agg #[.string nm, .int .i64 at_, .int .i64 fr, .int .i64 ar, .int .i64 sz, .int .u32 su, .int .i64 me]] w fun e w' => e = .returned (.bool false) ∧ Below w.heap.size w w' := by
  obtain ⟨w0, hw0⟩ : ∃ w0, w.alloc (.cells #[.string nm, .int .i64 at_, .int .i64 fr, .int .i64 ar, .int .i64 sz, .int .u32 su, .int .i64 me] 32) = w0 := ⟨_, rfl⟩
  have HX0 : Hid (Box w0 w.heap.size #[.string nm, .int .i64 at_, .int .i64 fr, .int .i64 ar, .int .i64 sz, .int .u32 su, .int .i64 me] 32) := by rw [← hw0]; exact heap_alloc_new w _
  have HB0 : Hid (Below w.heap.size w w0) := by rw [← hw0]; exact (Below.refl w.heap.size w).alloc (Nat.le_refl _) _
  have HR := Lib.hid (fun W => refRight_any nm W hm)
  rw [hr] at HR
  have k0 : w0.cell? ⟨w.heap.size, 0, none⟩ = some (.string nm) := HX0.out.cell 0
  have hnm : nm.size ≤ 64 := (rightB_size hr).2
  clear hr hm
  go_enter Tryd.func29, Tryd.ntmps29
  go_wp2_with (go_at_call 44; refine (HR.out _).mono ?_; rintro e w1 ⟨rfl, hb⟩; have HB1 := Lib.hid (HB0.out.trans (hb.mono HB0.out.size)); have HX1 : Hid (Box w1 w.heap.size #[.string nm, .int .i64 at_, .int .i64 fr, .int .i64 ar, .int .i64 sz, .int .u32 su, .int .i64 me] 32) := HX0.out.below hb HX0.out.lt; clear hb k0; have y0 : w1.cell? ⟨w.heap.size, 0, none⟩ = some (.string nm) := HX1.out.cell 0; have y1 : w1.cell? ⟨w.heap.size, 1, none⟩ = some (.int .i64 at_) := HX1.out.cell 1; have y2 : w1.cell? ⟨w.heap.size, 2, none⟩ = some (.int .i64 fr) := HX1.out.cell 2; have y3 : w1.cell? ⟨w.heap.size, 3, none⟩ = some (.int .i64 ar) := HX1.out.cell 3; have y4 : w1.cell? ⟨w.heap.size, 4, none⟩ = some (.int .i64 sz) := HX1.out.cell 4; have y5 : w1.cell? ⟨w.heap.size, 5, none⟩ = some (.int .u32 su) := HX1.out.cell 5; have y6 : w1.cell? ⟨w.heap.size, 6, none⟩ = some (.int .i64 me) := HX1.out.cell 6)
  go_ret
  exact ⟨rfl, HB1.out⟩

set_option maxRecDepth 100000 in
set_option maxHeartbeats 1000000 in
theorem refEn_r2 (nm : ByteArray) (at_ fr ar sz su me : Int) (w : World) (hm : nm.size ≤ maxLen) (hr : rightB nm.data.toList = true) (h1 : ¬ me < 0) (h2 : ¬ 2 < me) (h3 : ¬ at_ < 1024) (h4 : ¬ 1073741824 < at_) (D : Int) (hD : IntKind.i64.wrap (fr - at_) = D) (_h5 : (D == 22 + (nm.size : Int)) = true) (h5' : (D != 22 + (nm.size : Int)) = false) (h6 : ¬ ar < 0) (h7 : 262144 < ar) :
    Calls Tryd.prog 29 #[.agg #[.string nm, .int .i64 at_, .int .i64 fr, .int .i64 ar, .int .i64 sz, .int .u32 su, .int .i64 me]] w fun e w' => e = .returned (.bool false) ∧ Below w.heap.size w w' := by
  obtain ⟨w0, hw0⟩ : ∃ w0, w.alloc (.cells #[.string nm, .int .i64 at_, .int .i64 fr, .int .i64 ar, .int .i64 sz, .int .u32 su, .int .i64 me] 32) = w0 := ⟨_, rfl⟩
  have HX0 : Hid (Box w0 w.heap.size #[.string nm, .int .i64 at_, .int .i64 fr, .int .i64 ar, .int .i64 sz, .int .u32 su, .int .i64 me] 32) := by rw [← hw0]; exact heap_alloc_new w _
  have HB0 : Hid (Below w.heap.size w w0) := by rw [← hw0]; exact (Below.refl w.heap.size w).alloc (Nat.le_refl _) _
  have HR := Lib.hid (fun W => refRight_any nm W hm)
  rw [hr] at HR
  have k0 : w0.cell? ⟨w.heap.size, 0, none⟩ = some (.string nm) := HX0.out.cell 0
  have hnm : nm.size ≤ 64 := (rightB_size hr).2
  clear hr hm
  go_enter Tryd.func29, Tryd.ntmps29
  go_wp2_with (go_at_call 44; refine (HR.out _).mono ?_; rintro e w1 ⟨rfl, hb⟩; have HB1 := Lib.hid (HB0.out.trans (hb.mono HB0.out.size)); have HX1 : Hid (Box w1 w.heap.size #[.string nm, .int .i64 at_, .int .i64 fr, .int .i64 ar, .int .i64 sz, .int .u32 su, .int .i64 me] 32) := HX0.out.below hb HX0.out.lt; clear hb k0; have y0 : w1.cell? ⟨w.heap.size, 0, none⟩ = some (.string nm) := HX1.out.cell 0; have y1 : w1.cell? ⟨w.heap.size, 1, none⟩ = some (.int .i64 at_) := HX1.out.cell 1; have y2 : w1.cell? ⟨w.heap.size, 2, none⟩ = some (.int .i64 fr) := HX1.out.cell 2; have y3 : w1.cell? ⟨w.heap.size, 3, none⟩ = some (.int .i64 ar) := HX1.out.cell 3; have y4 : w1.cell? ⟨w.heap.size, 4, none⟩ = some (.int .i64 sz) := HX1.out.cell 4; have y5 : w1.cell? ⟨w.heap.size, 5, none⟩ = some (.int .u32 su) := HX1.out.cell 5; have y6 : w1.cell? ⟨w.heap.size, 6, none⟩ = some (.int .i64 me) := HX1.out.cell 6)
  go_ret
  exact ⟨rfl, HB1.out⟩

set_option maxRecDepth 100000 in
set_option maxHeartbeats 1000000 in
theorem refEn_s1 (nm : ByteArray) (at_ fr ar sz su me : Int) (w : World) (hm : nm.size ≤ maxLen) (hr : rightB nm.data.toList = true) (h1 : ¬ me < 0) (h2 : ¬ 2 < me) (h3 : ¬ at_ < 1024) (h4 : ¬ 1073741824 < at_) (D : Int) (hD : IntKind.i64.wrap (fr - at_) = D) (_h5 : (D == 22 + (nm.size : Int)) = true) (h5' : (D != 22 + (nm.size : Int)) = false) (h6 : ¬ ar < 0) (h7 : ¬ 262144 < ar) (h8 : sz < 0) :
    Calls Tryd.prog 29 #[.agg #[.string nm, .int .i64 at_, .int .i64 fr, .int .i64 ar, .int .i64 sz, .int .u32 su, .int .i64 me]] w fun e w' => e = .returned (.bool false) ∧ Below w.heap.size w w' := by
  obtain ⟨w0, hw0⟩ : ∃ w0, w.alloc (.cells #[.string nm, .int .i64 at_, .int .i64 fr, .int .i64 ar, .int .i64 sz, .int .u32 su, .int .i64 me] 32) = w0 := ⟨_, rfl⟩
  have HX0 : Hid (Box w0 w.heap.size #[.string nm, .int .i64 at_, .int .i64 fr, .int .i64 ar, .int .i64 sz, .int .u32 su, .int .i64 me] 32) := by rw [← hw0]; exact heap_alloc_new w _
  have HB0 : Hid (Below w.heap.size w w0) := by rw [← hw0]; exact (Below.refl w.heap.size w).alloc (Nat.le_refl _) _
  have HR := Lib.hid (fun W => refRight_any nm W hm)
  rw [hr] at HR
  have k0 : w0.cell? ⟨w.heap.size, 0, none⟩ = some (.string nm) := HX0.out.cell 0
  have hnm : nm.size ≤ 64 := (rightB_size hr).2
  have h8d : decide (0 ≤ sz) = false := by simp; omega
  clear hr hm
  go_enter Tryd.func29, Tryd.ntmps29
  go_wp2_with (go_at_call 44; refine (HR.out _).mono ?_; rintro e w1 ⟨rfl, hb⟩; have HB1 := Lib.hid (HB0.out.trans (hb.mono HB0.out.size)); have HX1 : Hid (Box w1 w.heap.size #[.string nm, .int .i64 at_, .int .i64 fr, .int .i64 ar, .int .i64 sz, .int .u32 su, .int .i64 me] 32) := HX0.out.below hb HX0.out.lt; clear hb k0; have y0 : w1.cell? ⟨w.heap.size, 0, none⟩ = some (.string nm) := HX1.out.cell 0; have y1 : w1.cell? ⟨w.heap.size, 1, none⟩ = some (.int .i64 at_) := HX1.out.cell 1; have y2 : w1.cell? ⟨w.heap.size, 2, none⟩ = some (.int .i64 fr) := HX1.out.cell 2; have y3 : w1.cell? ⟨w.heap.size, 3, none⟩ = some (.int .i64 ar) := HX1.out.cell 3; have y4 : w1.cell? ⟨w.heap.size, 4, none⟩ = some (.int .i64 sz) := HX1.out.cell 4; have y5 : w1.cell? ⟨w.heap.size, 5, none⟩ = some (.int .u32 su) := HX1.out.cell 5; have y6 : w1.cell? ⟨w.heap.size, 6, none⟩ = some (.int .i64 me) := HX1.out.cell 6)
  go_ret
  exact ⟨rfl, HB1.out⟩

set_option maxRecDepth 100000 in
set_option maxHeartbeats 1000000 in
theorem refEn_s2 (nm : ByteArray) (at_ fr ar sz su me : Int) (w : World) (hm : nm.size ≤ maxLen) (hr : rightB nm.data.toList = true) (h1 : ¬ me < 0) (h2 : ¬ 2 < me) (h3 : ¬ at_ < 1024) (h4 : ¬ 1073741824 < at_) (D : Int) (hD : IntKind.i64.wrap (fr - at_) = D) (_h5 : (D == 22 + (nm.size : Int)) = true) (h5' : (D != 22 + (nm.size : Int)) = false) (h6 : ¬ ar < 0) (h7 : ¬ 262144 < ar) (h8 : ¬ sz < 0) (h9 : 65536 < sz) :
    Calls Tryd.prog 29 #[.agg #[.string nm, .int .i64 at_, .int .i64 fr, .int .i64 ar, .int .i64 sz, .int .u32 su, .int .i64 me]] w fun e w' => e = .returned (.bool false) ∧ Below w.heap.size w w' := by
  obtain ⟨w0, hw0⟩ : ∃ w0, w.alloc (.cells #[.string nm, .int .i64 at_, .int .i64 fr, .int .i64 ar, .int .i64 sz, .int .u32 su, .int .i64 me] 32) = w0 := ⟨_, rfl⟩
  have HX0 : Hid (Box w0 w.heap.size #[.string nm, .int .i64 at_, .int .i64 fr, .int .i64 ar, .int .i64 sz, .int .u32 su, .int .i64 me] 32) := by rw [← hw0]; exact heap_alloc_new w _
  have HB0 : Hid (Below w.heap.size w w0) := by rw [← hw0]; exact (Below.refl w.heap.size w).alloc (Nat.le_refl _) _
  have HR := Lib.hid (fun W => refRight_any nm W hm)
  rw [hr] at HR
  have k0 : w0.cell? ⟨w.heap.size, 0, none⟩ = some (.string nm) := HX0.out.cell 0
  have hnm : nm.size ≤ 64 := (rightB_size hr).2
  have h8d : decide (0 ≤ sz) = true := by simp; omega
  have h9d : decide (sz ≤ 65536) = false := by simp; omega
  clear hr hm
  go_enter Tryd.func29, Tryd.ntmps29
  go_wp2_with (go_at_call 44; refine (HR.out _).mono ?_; rintro e w1 ⟨rfl, hb⟩; have HB1 := Lib.hid (HB0.out.trans (hb.mono HB0.out.size)); have HX1 : Hid (Box w1 w.heap.size #[.string nm, .int .i64 at_, .int .i64 fr, .int .i64 ar, .int .i64 sz, .int .u32 su, .int .i64 me] 32) := HX0.out.below hb HX0.out.lt; clear hb k0; have y0 : w1.cell? ⟨w.heap.size, 0, none⟩ = some (.string nm) := HX1.out.cell 0; have y1 : w1.cell? ⟨w.heap.size, 1, none⟩ = some (.int .i64 at_) := HX1.out.cell 1; have y2 : w1.cell? ⟨w.heap.size, 2, none⟩ = some (.int .i64 fr) := HX1.out.cell 2; have y3 : w1.cell? ⟨w.heap.size, 3, none⟩ = some (.int .i64 ar) := HX1.out.cell 3; have y4 : w1.cell? ⟨w.heap.size, 4, none⟩ = some (.int .i64 sz) := HX1.out.cell 4; have y5 : w1.cell? ⟨w.heap.size, 5, none⟩ = some (.int .u32 su) := HX1.out.cell 5; have y6 : w1.cell? ⟨w.heap.size, 6, none⟩ = some (.int .i64 me) := HX1.out.cell 6)
  go_ret
  exact ⟨rfl, HB1.out⟩

set_option maxRecDepth 100000 in
set_option maxHeartbeats 1000000 in
theorem refEn_yes (nm : ByteArray) (at_ fr ar sz su me : Int) (w : World) (hm : nm.size ≤ maxLen) (hr : rightB nm.data.toList = true) (h1 : ¬ me < 0) (h2 : ¬ 2 < me) (h3 : ¬ at_ < 1024) (h4 : ¬ 1073741824 < at_) (D : Int) (hD : IntKind.i64.wrap (fr - at_) = D) (_h5 : (D == 22 + (nm.size : Int)) = true) (h5' : (D != 22 + (nm.size : Int)) = false) (h6 : ¬ ar < 0) (h7 : ¬ 262144 < ar) (h8 : ¬ sz < 0) (h9 : ¬ 65536 < sz) :
    Calls Tryd.prog 29 #[.agg #[.string nm, .int .i64 at_, .int .i64 fr, .int .i64 ar, .int .i64 sz, .int .u32 su, .int .i64 me]] w fun e w' => e = .returned (.bool true) ∧ Below w.heap.size w w' := by
  obtain ⟨w0, hw0⟩ : ∃ w0, w.alloc (.cells #[.string nm, .int .i64 at_, .int .i64 fr, .int .i64 ar, .int .i64 sz, .int .u32 su, .int .i64 me] 32) = w0 := ⟨_, rfl⟩
  have HX0 : Hid (Box w0 w.heap.size #[.string nm, .int .i64 at_, .int .i64 fr, .int .i64 ar, .int .i64 sz, .int .u32 su, .int .i64 me] 32) := by rw [← hw0]; exact heap_alloc_new w _
  have HB0 : Hid (Below w.heap.size w w0) := by rw [← hw0]; exact (Below.refl w.heap.size w).alloc (Nat.le_refl _) _
  have HR := Lib.hid (fun W => refRight_any nm W hm)
  rw [hr] at HR
  have k0 : w0.cell? ⟨w.heap.size, 0, none⟩ = some (.string nm) := HX0.out.cell 0
  have hnm : nm.size ≤ 64 := (rightB_size hr).2
  have h8d : decide (0 ≤ sz) = true := by simp; omega
  have h9d : decide (sz ≤ 65536) = true := by simp; omega
  clear hr hm
  go_enter Tryd.func29, Tryd.ntmps29
  go_wp2_with (go_at_call 44; refine (HR.out _).mono ?_; rintro e w1 ⟨rfl, hb⟩; have HB1 := Lib.hid (HB0.out.trans (hb.mono HB0.out.size)); have HX1 : Hid (Box w1 w.heap.size #[.string nm, .int .i64 at_, .int .i64 fr, .int .i64 ar, .int .i64 sz, .int .u32 su, .int .i64 me] 32) := HX0.out.below hb HX0.out.lt; clear hb k0; have y0 : w1.cell? ⟨w.heap.size, 0, none⟩ = some (.string nm) := HX1.out.cell 0; have y1 : w1.cell? ⟨w.heap.size, 1, none⟩ = some (.int .i64 at_) := HX1.out.cell 1; have y2 : w1.cell? ⟨w.heap.size, 2, none⟩ = some (.int .i64 fr) := HX1.out.cell 2; have y3 : w1.cell? ⟨w.heap.size, 3, none⟩ = some (.int .i64 ar) := HX1.out.cell 3; have y4 : w1.cell? ⟨w.heap.size, 4, none⟩ = some (.int .i64 sz) := HX1.out.cell 4; have y5 : w1.cell? ⟨w.heap.size, 5, none⟩ = some (.int .u32 su) := HX1.out.cell 5; have y6 : w1.cell? ⟨w.heap.size, 6, none⟩ = some (.int .i64 me) := HX1.out.cell 6)
  go_ret
  exact ⟨rfl, HB1.out⟩

theorem refEn_any (nm : ByteArray) (at_ fr ar sz su me : Int) (w : World) (hm : nm.size ≤ maxLen) (f0 : -9223372036854775808 ≤ fr) (f1 : fr ≤ 9223372036854775807) :
    Calls Tryd.prog 29 #[.agg #[.string nm, .int .i64 at_, .int .i64 fr, .int .i64 ar, .int .i64 sz, .int .u32 su, .int .i64 me]] w fun e w' => e = .returned (.bool (memB nm at_ fr ar sz me)) ∧ Below w.heap.size w w' := by
  cases hr : rightB nm.data.toList with
  | false => rw [show memB nm at_ fr ar sz me = false by unfold memB; rw [hr]; rfl]; exact refEn_no nm at_ fr ar sz su me w hm hr
  | true =>
  by_cases h1 : me < 0
  · rw [show memB nm at_ fr ar sz me = false by unfold memB; rw [inB_lo h1]; simp]; exact refEn_m1 nm at_ fr ar sz su me w hm hr h1
  by_cases h2 : 2 < me
  · rw [show memB nm at_ fr ar sz me = false by unfold memB; rw [inB_hi h2]; simp]; exact refEn_m2 nm at_ fr ar sz su me w hm hr h1 h2
  by_cases h3 : at_ < 1024
  · rw [show memB nm at_ fr ar sz me = false by unfold memB; rw [inB_lo h3]; simp]; exact refEn_a1 nm at_ fr ar sz su me w hm hr h1 h2 h3
  by_cases h4 : 1073741824 < at_
  · rw [show memB nm at_ fr ar sz me = false by unfold memB; rw [inB_hi h4]; simp]; exact refEn_a2 nm at_ fr ar sz su me w hm hr h1 h2 h3 h4
  have hq := from_eq (n := (nm.size : Int)) f0 f1 (by omega : 1024 ≤ at_) (by omega) (by omega) (by have := (rightB_size hr).2; omega)
  obtain ⟨D, hD⟩ : ∃ D, IntKind.i64.wrap (fr - at_) = D := ⟨_, rfl⟩
  rw [hD] at hq
  cases h5 : (fr == at_ + (22 + (nm.size : Int))) with
  | false => rw [h5] at hq; rw [show memB nm at_ fr ar sz me = false by unfold memB; rw [h5]; simp]; exact refEn_f nm at_ fr ar sz su me w hm hr h1 h2 h3 h4 D hD hq (by unfold bne; rw [hq]; rfl)
  | true =>
  rw [h5] at hq
  have hq' : (D != 22 + (nm.size : Int)) = false := by unfold bne; rw [hq]; rfl
  by_cases h6 : ar < 0
  · rw [show memB nm at_ fr ar sz me = false by unfold memB; rw [inB_lo h6]; simp]; exact refEn_r1 nm at_ fr ar sz su me w hm hr h1 h2 h3 h4 D hD hq hq' h6
  by_cases h7 : 262144 < ar
  · rw [show memB nm at_ fr ar sz me = false by unfold memB; rw [inB_hi h7]; simp]; exact refEn_r2 nm at_ fr ar sz su me w hm hr h1 h2 h3 h4 D hD hq hq' h6 h7
  by_cases h8 : sz < 0
  · rw [show memB nm at_ fr ar sz me = false by unfold memB; rw [inB_lo h8]; simp]; exact refEn_s1 nm at_ fr ar sz su me w hm hr h1 h2 h3 h4 D hD hq hq' h6 h7 h8
  by_cases h9 : 65536 < sz
  · rw [show memB nm at_ fr ar sz me = false by unfold memB; rw [inB_hi h9]; simp]; exact refEn_s2 nm at_ fr ar sz su me w hm hr h1 h2 h3 h4 D hD hq hq' h6 h7 h8 h9
  · rw [show memB nm at_ fr ar sz me = true by unfold memB; rw [hr, inB_of (by omega : 0 ≤ me) (by omega), inB_of (by omega : 1024 ≤ at_) (by omega), h5, inB_of (by omega : 0 ≤ ar) (by omega), inB_of (by omega : 0 ≤ sz) (by omega)]; rfl]
    exact refEn_yes nm at_ fr ar sz su me w hm hr h1 h2 h3 h4 D hD hq hq' h6 h7 h8 h9
end Go.Proofs.YtjoifgeljjgflaaDoor
