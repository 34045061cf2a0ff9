/- Layer 16: whether a head may be. -/
import Derived.Test.YtlbhflhmakdfmaaDoorMemR
import Derived.Test.YtlbhflhmakdfmaaDoorTail
namespace Go.Proofs.YtlbhflhmakdfmaaDoor
open Go.RowKit

/-- A head that may be. -/
def hdB (m : Int) (l : List UInt8) (sz ar su : Int) : Bool :=
  rightB l && decide (0 ≤ sz) && decide (sz ≤ 65536) && (if m = 0 then ar == sz else if m = 1 then decide (0 ≤ ar) && decide (ar < sz) else if m = 2 then sz == 0 && ar == 0 && su == 0 else false)
def headC (m : Int) (s : ByteArray) (sz ar su : Int) : Array Value := #[.int .i64 m, .string s, .int .i64 sz, .int .i64 ar, .int .u32 su]

set_option maxRecDepth 100000 in
set_option maxHeartbeats 2000000 in
theorem lcRight_any (m : Int) (s : ByteArray) (sz ar su : Int) (w : World) (hm : s.size ≤ maxLen) :
    Calls Tryd.prog 16 #[.agg #[.int .i64 m, .string s, .int .i64 sz, .int .i64 ar, .int .u32 su]] w fun e w' => e = .returned (.bool (hdB m s.data.toList sz ar su)) ∧ Below w.heap.size w w' := by
  obtain ⟨w0, hw0⟩ : ∃ w0, w.alloc (.cells #[.int .i64 m, .string s, .int .i64 sz, .int .i64 ar, .int .u32 su] 29) = w0 := ⟨_, rfl⟩
  have HX0 : Hid (Box w0 w.heap.size #[.int .i64 m, .string s, .int .i64 sz, .int .i64 ar, .int .u32 su] 29) := by rw [← hw0]; exact heap_alloc_new w _
  have HB0 : Hid (Below w.heap.size w w0) := by rw [← hw0]; exact (Below.refl w.heap.size w).alloc (Nat.le_refl _) _
  have HR := Lib.hid (fun W => right_any s W hm)
  have HD : Hid (hdB m s.data.toList sz ar su = (rightB s.data.toList && decide (0 ≤ sz) && decide (sz ≤ 65536) && (if m = 0 then ar == sz else if m = 1 then decide (0 ≤ ar) && decide (ar < sz) else if m = 2 then sz == 0 && ar == 0 && su == 0 else false))) := rfl
  have hx1 : w0.cell? ⟨w.heap.size, 1, none⟩ = some (.string s) := HX0.out.cell 1
  obtain ⟨rb, hrb⟩ : ∃ rb, rightB s.data.toList = rb := ⟨_, rfl⟩
  rw [hrb] at HR HD
  clear hrb hm
  cases rb with
  | false =>
    have HD2 : Hid (hdB m s.data.toList sz ar su = false) := HD.out
    clear HD
    go_enter Tryd.func16, Tryd.ntmps16
    go_wp2_with (go_at_call 31; refine (HR.out _).mono ?_; rintro e w1 ⟨rfl, hb⟩; have HB1 := Lib.hid (HB0.out.trans (hb.mono HB0.out.size)); clear hb)
    go_ret
    exact ⟨by rw [HD2.out]; rfl, HB1.out⟩
  | true =>
    by_cases h0 : sz < 0
    · have HD2 : Hid (hdB m s.data.toList sz ar su = false) := by show _ = _; rw [HD.out, decide_eq_false (show ¬ 0 ≤ sz by omega)]; rfl
      clear HD
      go_enter Tryd.func16, Tryd.ntmps16
      go_wp2_with (go_at_call 31; refine (HR.out _).mono ?_; rintro e w1 ⟨rfl, hb⟩; have HB1 := Lib.hid (HB0.out.trans (hb.mono HB0.out.size)); have HX1 := Lib.hid (HX0.out.below hb HX0.out.lt); clear hb; have hy2 : w1.cell? ⟨w.heap.size, 2, none⟩ = some (.int .i64 sz) := HX1.out.cell 2)
      go_ret
      exact ⟨by rw [HD2.out]; rfl, HB1.out⟩
    by_cases h1 : 65536 < sz
    · have HD2 : Hid (hdB m s.data.toList sz ar su = false) := by show _ = _; rw [HD.out, decide_eq_false (show ¬ sz ≤ 65536 by omega)]; simp
      clear HD
      go_enter Tryd.func16, Tryd.ntmps16
      go_wp2_with (go_at_call 31; refine (HR.out _).mono ?_; rintro e w1 ⟨rfl, hb⟩; have HB1 := Lib.hid (HB0.out.trans (hb.mono HB0.out.size)); have HX1 := Lib.hid (HX0.out.below hb HX0.out.lt); clear hb; have hy2 : w1.cell? ⟨w.heap.size, 2, none⟩ = some (.int .i64 sz) := HX1.out.cell 2)
      go_ret
      exact ⟨by rw [HD2.out]; rfl, HB1.out⟩
    have HD1 : Hid (hdB m s.data.toList sz ar su = (if m = 0 then ar == sz else if m = 1 then decide (0 ≤ ar) && decide (ar < sz) else if m = 2 then sz == 0 && ar == 0 && su == 0 else false)) := by show _ = _; rw [HD.out, decide_eq_true (show 0 ≤ sz by omega), decide_eq_true (show sz ≤ 65536 by omega)]; rfl
    clear HD
    by_cases m0 : m = 0
    · have HD2 : Hid (hdB m s.data.toList sz ar su = (ar == sz)) := by show _ = _; rw [HD1.out, if_pos m0]
      have mt : (m == 0) = true := by simp [m0]
      clear HD1 m0
      go_enter Tryd.func16, Tryd.ntmps16
      go_wp2_with (go_at_call 31; refine (HR.out _).mono ?_; rintro e w1 ⟨rfl, hb⟩; have HB1 := Lib.hid (HB0.out.trans (hb.mono HB0.out.size)); have HX1 := Lib.hid (HX0.out.below hb HX0.out.lt); clear hb; have hy2 : w1.cell? ⟨w.heap.size, 2, none⟩ = some (.int .i64 sz) := HX1.out.cell 2; have hy0 : w1.cell? ⟨w.heap.size, 0, none⟩ = some (.int .i64 m) := HX1.out.cell 0; have hy3 : w1.cell? ⟨w.heap.size, 3, none⟩ = some (.int .i64 ar) := HX1.out.cell 3)
      go_ret
      exact ⟨by rw [HD2.out]; rfl, HB1.out⟩
    rw [if_neg m0] at HD1
    by_cases m1 : m = 1
    · have HD2 : Hid (hdB m s.data.toList sz ar su = (decide (0 ≤ ar) && decide (ar < sz))) := by show _ = _; rw [HD1.out, if_pos m1]
      have mt : (m == 1) = true := by simp [m1]
      have mf : (m == 0) = false := by simp [m1]
      clear HD1 m1 m0
      by_cases ha : 0 ≤ ar
      · have HD3 : Hid (hdB m s.data.toList sz ar su = decide (ar < sz)) := by show _ = _; rw [HD2.out, decide_eq_true ha]; rfl
        go_enter Tryd.func16, Tryd.ntmps16
        go_wp2_with (go_at_call 31; refine (HR.out _).mono ?_; rintro e w1 ⟨rfl, hb⟩; have HB1 := Lib.hid (HB0.out.trans (hb.mono HB0.out.size)); have HX1 := Lib.hid (HX0.out.below hb HX0.out.lt); clear hb; have hy2 : w1.cell? ⟨w.heap.size, 2, none⟩ = some (.int .i64 sz) := HX1.out.cell 2; have hy0 : w1.cell? ⟨w.heap.size, 0, none⟩ = some (.int .i64 m) := HX1.out.cell 0; have hy3 : w1.cell? ⟨w.heap.size, 3, none⟩ = some (.int .i64 ar) := HX1.out.cell 3)
        go_ret
        exact ⟨by rw [HD3.out]; rfl, HB1.out⟩
      · have HD3 : Hid (hdB m s.data.toList sz ar su = false) := by show _ = _; rw [HD2.out, decide_eq_false ha]; rfl
        have hn : ar < 0 := by omega
        clear ha
        go_enter Tryd.func16, Tryd.ntmps16
        go_wp2_with (go_at_call 31; refine (HR.out _).mono ?_; rintro e w1 ⟨rfl, hb⟩; have HB1 := Lib.hid (HB0.out.trans (hb.mono HB0.out.size)); have HX1 := Lib.hid (HX0.out.below hb HX0.out.lt); clear hb; have hy2 : w1.cell? ⟨w.heap.size, 2, none⟩ = some (.int .i64 sz) := HX1.out.cell 2; have hy0 : w1.cell? ⟨w.heap.size, 0, none⟩ = some (.int .i64 m) := HX1.out.cell 0; have hy3 : w1.cell? ⟨w.heap.size, 3, none⟩ = some (.int .i64 ar) := HX1.out.cell 3)
        go_ret
        exact ⟨by rw [HD3.out]; rfl, HB1.out⟩
    rw [if_neg m1] at HD1
    by_cases m2 : m = 2
    · have HD2 : Hid (hdB m s.data.toList sz ar su = (sz == 0 && ar == 0 && su == 0)) := by show _ = _; rw [HD1.out, if_pos m2]
      have mt : (m == 2) = true := by simp [m2]
      have mf : (m == 0) = false := by simp [m2]
      have mf1 : (m == 1) = false := by simp [m2]
      clear HD1 m1 m0 m2
      by_cases hs : sz = 0
      · by_cases ha : ar = 0
        · have HD3 : Hid (hdB m s.data.toList sz ar su = (su == 0)) := by show _ = _; rw [HD2.out, hs, ha]; rfl
          have hs' : (sz == 0) = true := by simp [hs]
          have ha' : (ar == 0) = true := by simp [ha]
          clear hs ha h0 h1
          have h0 : ¬ sz < 0 := by simp at hs'; omega
          have h1 : ¬ 65536 < sz := by simp at hs'; omega
          go_enter Tryd.func16, Tryd.ntmps16
          go_wp2_with (go_at_call 31; refine (HR.out _).mono ?_; rintro e w1 ⟨rfl, hb⟩; have HB1 := Lib.hid (HB0.out.trans (hb.mono HB0.out.size)); have HX1 := Lib.hid (HX0.out.below hb HX0.out.lt); clear hb; have hy2 : w1.cell? ⟨w.heap.size, 2, none⟩ = some (.int .i64 sz) := HX1.out.cell 2; have hy0 : w1.cell? ⟨w.heap.size, 0, none⟩ = some (.int .i64 m) := HX1.out.cell 0; have hy3 : w1.cell? ⟨w.heap.size, 3, none⟩ = some (.int .i64 ar) := HX1.out.cell 3; have hy4 : w1.cell? ⟨w.heap.size, 4, none⟩ = some (.int .u32 su) := HX1.out.cell 4)
          go_ret
          exact ⟨by rw [HD3.out]; rfl, HB1.out⟩
        · have HD3 : Hid (hdB m s.data.toList sz ar su = false) := by show _ = _; rw [HD2.out, hs, beq_eq_false_iff_ne.2 ha]; rfl
          have hs' : (sz == 0) = true := by simp [hs]
          have ha' : (ar == 0) = false := beq_eq_false_iff_ne.2 ha
          clear hs ha
          go_enter Tryd.func16, Tryd.ntmps16
          go_wp2_with (go_at_call 31; refine (HR.out _).mono ?_; rintro e w1 ⟨rfl, hb⟩; have HB1 := Lib.hid (HB0.out.trans (hb.mono HB0.out.size)); have HX1 := Lib.hid (HX0.out.below hb HX0.out.lt); clear hb; have hy2 : w1.cell? ⟨w.heap.size, 2, none⟩ = some (.int .i64 sz) := HX1.out.cell 2; have hy0 : w1.cell? ⟨w.heap.size, 0, none⟩ = some (.int .i64 m) := HX1.out.cell 0; have hy3 : w1.cell? ⟨w.heap.size, 3, none⟩ = some (.int .i64 ar) := HX1.out.cell 3; have hy4 : w1.cell? ⟨w.heap.size, 4, none⟩ = some (.int .u32 su) := HX1.out.cell 4)
          go_ret
          exact ⟨by rw [HD3.out]; rfl, HB1.out⟩
      · have HD3 : Hid (hdB m s.data.toList sz ar su = false) := by show _ = _; rw [HD2.out, beq_eq_false_iff_ne.2 hs]; rfl
        have hs' : (sz == 0) = false := beq_eq_false_iff_ne.2 hs
        clear hs
        go_enter Tryd.func16, Tryd.ntmps16
        go_wp2_with (go_at_call 31; refine (HR.out _).mono ?_; rintro e w1 ⟨rfl, hb⟩; have HB1 := Lib.hid (HB0.out.trans (hb.mono HB0.out.size)); have HX1 := Lib.hid (HX0.out.below hb HX0.out.lt); clear hb; have hy2 : w1.cell? ⟨w.heap.size, 2, none⟩ = some (.int .i64 sz) := HX1.out.cell 2; have hy0 : w1.cell? ⟨w.heap.size, 0, none⟩ = some (.int .i64 m) := HX1.out.cell 0; have hy3 : w1.cell? ⟨w.heap.size, 3, none⟩ = some (.int .i64 ar) := HX1.out.cell 3; have hy4 : w1.cell? ⟨w.heap.size, 4, none⟩ = some (.int .u32 su) := HX1.out.cell 4)
        go_ret
        exact ⟨by rw [HD3.out]; rfl, HB1.out⟩
    · have HD2 : Hid (hdB m s.data.toList sz ar su = false) := by show _ = _; rw [HD1.out, if_neg m2]
      clear HD1
      go_enter Tryd.func16, Tryd.ntmps16
      go_wp2_with (go_at_call 31; refine (HR.out _).mono ?_; rintro e w1 ⟨rfl, hb⟩; have HB1 := Lib.hid (HB0.out.trans (hb.mono HB0.out.size)); have HX1 := Lib.hid (HX0.out.below hb HX0.out.lt); clear hb; have hy2 : w1.cell? ⟨w.heap.size, 2, none⟩ = some (.int .i64 sz) := HX1.out.cell 2; have hy0 : w1.cell? ⟨w.heap.size, 0, none⟩ = some (.int .i64 m) := HX1.out.cell 0)
      go_ret
      exact ⟨by rw [HD2.out]; rfl, HB1.out⟩
end Go.Proofs.YtlbhflhmakdfmaaDoor
