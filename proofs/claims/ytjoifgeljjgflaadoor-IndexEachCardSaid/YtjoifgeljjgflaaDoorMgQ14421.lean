/- Layer 19: members in memory; whether one may be. -/
import Derived.Test.YtjoifgeljjgflaaDoorMgQ144SMemR
import Derived.Test.YtjoifgeljjgflaaDoorMgQ144STail
import Derived.Test.YtjoifgeljjgflaaDoorQuietF
import Derived.WalkLawsBesides
import Derived.StillTailTactics
import Derived.Test.YtjoifgeljjgflaaDoorMgQ14420
namespace Go.Proofs.YtjoifgeljjgflaaDoor
open Go.RowKit

/-- A member as it lies in memory. -/
structure LM where
  nm : ByteArray
  at_ : Int
  fr : Int
  ar : Int
  sz : Int
  su : Int
  me : Int
def LM.cells (m : LM) : List Value := [.string m.nm, .int .i64 m.at_, .int .i64 m.fr, .int .i64 m.ar, .int .i64 m.sz, .int .u32 m.su, .int .i64 m.me]
def inB (n a b : Int) : Bool := decide (a ≤ n) && decide (n ≤ b)
/-- A member that may be. -/
def memB (nm : ByteArray) (at_ fr ar sz me : Int) : Bool := rightB nm.data.toList && inB me 0 2 && inB at_ 1024 1073741824 && (fr == at_ + (22 + (nm.size : Int))) && inB ar 0 262144 && inB sz 0 65536
theorem rightB_size {nm : ByteArray} (h : rightB nm.data.toList = true) : 1 ≤ nm.size ∧ nm.size ≤ 64 := by
  simp only [rightB, Bool.and_eq_true, decide_eq_true_eq, Array.length_toList] at h
  exact ⟨h.1.1.1, h.1.1.2⟩
theorem inB_yes {n a b : Int} (h : inB n a b = true) : a ≤ n ∧ n ≤ b := by simpa [inB] using h
set_option maxHeartbeats 1000000 in
theorem enWithin_any (n a b : Int) (w : World) : Calls Tryd.prog 51 #[.int .i64 n, .int .i64 a, .int .i64 b] w fun e w' => e = .returned (.bool (inB n a b)) ∧ w = w' := by
  by_cases h1 : a ≤ n
  · by_cases h2 : n ≤ b
    · have HD : Hid (inB n a b = true) := by show _ = _; simp [inB, h1, h2]
      go_enter Tryd.func51, Tryd.ntmps51
      go_wp2
      go_ret
      exact ⟨by rw [HD.out]; rfl, rfl⟩
    · have HD : Hid (inB n a b = false) := by show _ = _; simp [inB, h2]
      have h2' : decide (n ≤ b) = false := by simpa using h2
      clear h2
      go_enter Tryd.func51, Tryd.ntmps51
      go_wp2
      go_ret
      exact ⟨by rw [HD.out]; rfl, rfl⟩
  · have HD : Hid (inB n a b = false) := by show _ = _; simp [inB, h1]
    go_enter Tryd.func51, Tryd.ntmps51
    go_wp2
    go_ret
    exact ⟨by rw [HD.out]; rfl, rfl⟩

set_option maxHeartbeats 400000 in
theorem locLen_any (s : ByteArray) (w : World) (hm : s.size ≤ 1000000000) : Calls Tryd.prog 59 #[.string s] w fun e w' => e = .returned (.int .i64 (22 + (s.size : Int))) ∧ w = w' := by
  go_enter Tryd.func59, Tryd.ntmps59
  go_wp2
  go_ret
  exact ⟨rfl, rfl⟩

set_option maxHeartbeats 1000000 in
theorem enFrom_any (nm : ByteArray) (at_ fr ar sz su me : Int) (w : World) (hm : nm.size ≤ 1000000000) (h0 : 0 ≤ at_) (h1 : at_ ≤ 1099511627776) :
    Calls Tryd.prog 52 #[.agg #[.string nm, .int .i64 at_, .int .i64 fr, .int .i64 ar, .int .i64 sz, .int .u32 su, .int .i64 me]] w fun e w' => e = .returned (.int .i64 (at_ + (22 + (nm.size : Int)))) ∧ Below w.heap.size w w' := by
  obtain ⟨w0, hw0⟩ : ∃ w0, w.alloc (.cells #[.string nm, .int .i64 at_, .int .i64 fr, .int .i64 ar, .int .i64 sz, .int .u32 su, .int .i64 me] 32) = w0 := ⟨_, rfl⟩
  have HX0 : Hid (Box w0 w.heap.size #[.string nm, .int .i64 at_, .int .i64 fr, .int .i64 ar, .int .i64 sz, .int .u32 su, .int .i64 me] 32) := by rw [← hw0]; exact heap_alloc_new w _
  have HB0 : Hid (Below w.heap.size w w0) := by rw [← hw0]; exact (Below.refl w.heap.size w).alloc (Nat.le_refl _) _
  have hsum : IntKind.i64.wrap (at_ + (22 + (nm.size : Int))) = at_ + (22 + (nm.size : Int)) := IntWalk.i64_in _ (by omega)
  go_enter Tryd.func52, Tryd.ntmps52
  go_wp2_with fail
  obtain ⟨ι, f, n0, hf0, hfb, hfu⟩ := below_class w0
  have HFU := Lib.hid hfu
  have HFB := Lib.hid hfb
  have y0 : ∀ n, (f n).cell? ⟨w.heap.size, 0, none⟩ = some (.string nm) := fun n => by rw [(HFB.out n).cell (show w.heap.size < w0.heap.size from HX0.out.lt)]; exact HX0.out.cell 0
  have y1 : ∀ n, (f n).cell? ⟨w.heap.size, 1, none⟩ = some (.int .i64 at_) := fun n => by rw [(HFB.out n).cell (show w.heap.size < w0.heap.size from HX0.out.lt)]; exact HX0.out.cell 1
  have y2 : ∀ n, (f n).cell? ⟨w.heap.size, 2, none⟩ = some (.int .i64 fr) := fun n => by rw [(HFB.out n).cell (show w.heap.size < w0.heap.size from HX0.out.lt)]; exact HX0.out.cell 2
  have y3 : ∀ n, (f n).cell? ⟨w.heap.size, 3, none⟩ = some (.int .i64 ar) := fun n => by rw [(HFB.out n).cell (show w.heap.size < w0.heap.size from HX0.out.lt)]; exact HX0.out.cell 3
  have y4 : ∀ n, (f n).cell? ⟨w.heap.size, 4, none⟩ = some (.int .i64 sz) := fun n => by rw [(HFB.out n).cell (show w.heap.size < w0.heap.size from HX0.out.lt)]; exact HX0.out.cell 4
  have y5 : ∀ n, (f n).cell? ⟨w.heap.size, 5, none⟩ = some (.int .u32 su) := fun n => by rw [(HFB.out n).cell (show w.heap.size < w0.heap.size from HX0.out.lt)]; exact HX0.out.cell 5
  have y6 : ∀ n, (f n).cell? ⟨w.heap.size, 6, none⟩ = some (.int .i64 me) := fun n => by rw [(HFB.out n).cell (show w.heap.size < w0.heap.size from HX0.out.lt)]; exact HX0.out.cell 6
  haveI : Nonempty ι := ⟨n0⟩
  clear hfb hfu
  refine region_quiet_f f n0 hf0 (by kernel_rfl) (by kernel_rfl) ?_
  repeat (go_big_quiet_step ((go_at_call 59; exact quiet_same (locLen_any _ _ hm))))
  refine wpQuiet_nil ?_
  rintro _ ⟨nq, rfl⟩
  have HB1 := Lib.hid (HB0.out.trans ((HFB.out nq).mono HB0.out.size))
  generalize f nq = w1 at *
  go_wp2
  go_ret
  exact ⟨rfl, HB1.out⟩

set_option maxRecDepth 100000 in
set_option maxHeartbeats 4000000 in
theorem enRight_no (nm : ByteArray) (at_ fr ar sz su me : Int) (w : World) (hm : nm.size ≤ maxLen) (hr : rightB nm.data.toList = false) :
    Calls Tryd.prog 41 #[.agg #[.string nm, .int .i64 at_, .int .i64 fr, .int .i64 ar, .int .i64 sz, .int .u32 su, .int .i64 me]] w fun e w' => e = .returned (.bool false) ∧ Below w.heap.size w w' := by
  obtain ⟨w0, hw0⟩ : ∃ w0, w.alloc (.cells #[.string nm, .int .i64 at_, .int .i64 fr, .int .i64 ar, .int .i64 sz, .int .u32 su, .int .i64 me] 32) = w0 := ⟨_, rfl⟩
  have HX0 : Hid (Box w0 w.heap.size #[.string nm, .int .i64 at_, .int .i64 fr, .int .i64 ar, .int .i64 sz, .int .u32 su, .int .i64 me] 32) := by rw [← hw0]; exact heap_alloc_new w _
  have HB0 : Hid (Below w.heap.size w w0) := by rw [← hw0]; exact (Below.refl w.heap.size w).alloc (Nat.le_refl _) _
  have HR := Lib.hid (fun W => rightM_any nm W hm)
  rw [hr] at HR
  clear hr hm
  go_enter Tryd.func41, Tryd.ntmps41
  go_wp2_with fail
  obtain ⟨ι, f, n0, hf0, hfb, hfu⟩ := below_class w0
  have HFU := Lib.hid hfu
  have HFB := Lib.hid hfb
  have y0 : ∀ n, (f n).cell? ⟨w.heap.size, 0, none⟩ = some (.string nm) := fun n => by rw [(HFB.out n).cell (show w.heap.size < w0.heap.size from HX0.out.lt)]; exact HX0.out.cell 0
  have y1 : ∀ n, (f n).cell? ⟨w.heap.size, 1, none⟩ = some (.int .i64 at_) := fun n => by rw [(HFB.out n).cell (show w.heap.size < w0.heap.size from HX0.out.lt)]; exact HX0.out.cell 1
  have y2 : ∀ n, (f n).cell? ⟨w.heap.size, 2, none⟩ = some (.int .i64 fr) := fun n => by rw [(HFB.out n).cell (show w.heap.size < w0.heap.size from HX0.out.lt)]; exact HX0.out.cell 2
  have y3 : ∀ n, (f n).cell? ⟨w.heap.size, 3, none⟩ = some (.int .i64 ar) := fun n => by rw [(HFB.out n).cell (show w.heap.size < w0.heap.size from HX0.out.lt)]; exact HX0.out.cell 3
  have y4 : ∀ n, (f n).cell? ⟨w.heap.size, 4, none⟩ = some (.int .i64 sz) := fun n => by rw [(HFB.out n).cell (show w.heap.size < w0.heap.size from HX0.out.lt)]; exact HX0.out.cell 4
  have y5 : ∀ n, (f n).cell? ⟨w.heap.size, 5, none⟩ = some (.int .u32 su) := fun n => by rw [(HFB.out n).cell (show w.heap.size < w0.heap.size from HX0.out.lt)]; exact HX0.out.cell 5
  have y6 : ∀ n, (f n).cell? ⟨w.heap.size, 6, none⟩ = some (.int .i64 me) := fun n => by rw [(HFB.out n).cell (show w.heap.size < w0.heap.size from HX0.out.lt)]; exact HX0.out.cell 6
  haveI : Nonempty ι := ⟨n0⟩
  clear hfb hfu
  refine region_quiet_f f n0 hf0 (by kernel_rfl) (by kernel_rfl) ?_
  repeat (go_big_quiet_step (first | (go_at_call 45; exact quiet_f HFU.out (HR.out _))))
  refine wpQuiet_nil ?_
  rintro _ ⟨nq, rfl⟩
  have HB1 := Lib.hid (HB0.out.trans ((HFB.out nq).mono HB0.out.size))
  generalize f nq = w1 at *
  go_wp2
  go_ret
  exact ⟨rfl, HB1.out⟩

set_option maxRecDepth 100000 in
set_option maxHeartbeats 4000000 in
theorem enRight_a (nm : ByteArray) (at_ fr ar sz su me : Int) (w : World) (hm : nm.size ≤ maxLen) (hr : rightB nm.data.toList = true) (hme : inB me 0 2 = false) :
    Calls Tryd.prog 41 #[.agg #[.string nm, .int .i64 at_, .int .i64 fr, .int .i64 ar, .int .i64 sz, .int .u32 su, .int .i64 me]] w fun e w' => e = .returned (.bool false) ∧ Below w.heap.size w w' := by
  obtain ⟨w0, hw0⟩ : ∃ w0, w.alloc (.cells #[.string nm, .int .i64 at_, .int .i64 fr, .int .i64 ar, .int .i64 sz, .int .u32 su, .int .i64 me] 32) = w0 := ⟨_, rfl⟩
  have HX0 : Hid (Box w0 w.heap.size #[.string nm, .int .i64 at_, .int .i64 fr, .int .i64 ar, .int .i64 sz, .int .u32 su, .int .i64 me] 32) := by rw [← hw0]; exact heap_alloc_new w _
  have HB0 : Hid (Below w.heap.size w w0) := by rw [← hw0]; exact (Below.refl w.heap.size w).alloc (Nat.le_refl _) _
  have HR := Lib.hid (fun W => rightM_any nm W hm)
  rw [hr] at HR
  have HWM := Lib.hid (fun W => enWithin_any me 0 2 W)
  rw [hme] at HWM
  clear hme
  clear hr hm
  go_enter Tryd.func41, Tryd.ntmps41
  go_wp2_with fail
  obtain ⟨ι, f, n0, hf0, hfb, hfu⟩ := below_class w0
  have HFU := Lib.hid hfu
  have HFB := Lib.hid hfb
  have y0 : ∀ n, (f n).cell? ⟨w.heap.size, 0, none⟩ = some (.string nm) := fun n => by rw [(HFB.out n).cell (show w.heap.size < w0.heap.size from HX0.out.lt)]; exact HX0.out.cell 0
  have y1 : ∀ n, (f n).cell? ⟨w.heap.size, 1, none⟩ = some (.int .i64 at_) := fun n => by rw [(HFB.out n).cell (show w.heap.size < w0.heap.size from HX0.out.lt)]; exact HX0.out.cell 1
  have y2 : ∀ n, (f n).cell? ⟨w.heap.size, 2, none⟩ = some (.int .i64 fr) := fun n => by rw [(HFB.out n).cell (show w.heap.size < w0.heap.size from HX0.out.lt)]; exact HX0.out.cell 2
  have y3 : ∀ n, (f n).cell? ⟨w.heap.size, 3, none⟩ = some (.int .i64 ar) := fun n => by rw [(HFB.out n).cell (show w.heap.size < w0.heap.size from HX0.out.lt)]; exact HX0.out.cell 3
  have y4 : ∀ n, (f n).cell? ⟨w.heap.size, 4, none⟩ = some (.int .i64 sz) := fun n => by rw [(HFB.out n).cell (show w.heap.size < w0.heap.size from HX0.out.lt)]; exact HX0.out.cell 4
  have y5 : ∀ n, (f n).cell? ⟨w.heap.size, 5, none⟩ = some (.int .u32 su) := fun n => by rw [(HFB.out n).cell (show w.heap.size < w0.heap.size from HX0.out.lt)]; exact HX0.out.cell 5
  have y6 : ∀ n, (f n).cell? ⟨w.heap.size, 6, none⟩ = some (.int .i64 me) := fun n => by rw [(HFB.out n).cell (show w.heap.size < w0.heap.size from HX0.out.lt)]; exact HX0.out.cell 6
  haveI : Nonempty ι := ⟨n0⟩
  clear hfb hfu
  refine region_quiet_f f n0 hf0 (by kernel_rfl) (by kernel_rfl) ?_
  repeat (go_big_quiet_step (first | (go_at_call 45; exact quiet_f HFU.out (HR.out _)) | (go_at_call 51; with_reducible exact quiet_same (HWM.out _))))
  refine wpQuiet_nil ?_
  rintro _ ⟨nq, rfl⟩
  have HB1 := Lib.hid (HB0.out.trans ((HFB.out nq).mono HB0.out.size))
  generalize f nq = w1 at *
  go_wp2
  go_ret
  exact ⟨rfl, HB1.out⟩

set_option maxRecDepth 100000 in
set_option maxHeartbeats 4000000 in
theorem enRight_b (nm : ByteArray) (at_ fr ar sz su me : Int) (w : World) (hm : nm.size ≤ maxLen) (hr : rightB nm.data.toList = true) (hme : inB me 0 2 = true) (hat : inB at_ 1024 1073741824 = false) :
    Calls Tryd.prog 41 #[.agg #[.string nm, .int .i64 at_, .int .i64 fr, .int .i64 ar, .int .i64 sz, .int .u32 su, .int .i64 me]] w fun e w' => e = .returned (.bool false) ∧ Below w.heap.size w w' := by
  obtain ⟨w0, hw0⟩ : ∃ w0, w.alloc (.cells #[.string nm, .int .i64 at_, .int .i64 fr, .int .i64 ar, .int .i64 sz, .int .u32 su, .int .i64 me] 32) = w0 := ⟨_, rfl⟩
  have HX0 : Hid (Box w0 w.heap.size #[.string nm, .int .i64 at_, .int .i64 fr, .int .i64 ar, .int .i64 sz, .int .u32 su, .int .i64 me] 32) := by rw [← hw0]; exact heap_alloc_new w _
  have HB0 : Hid (Below w.heap.size w w0) := by rw [← hw0]; exact (Below.refl w.heap.size w).alloc (Nat.le_refl _) _
  have HR := Lib.hid (fun W => rightM_any nm W hm)
  rw [hr] at HR
  have HWM := Lib.hid (fun W => enWithin_any me 0 2 W)
  rw [hme] at HWM
  have HWA := Lib.hid (fun W => enWithin_any at_ 1024 1073741824 W)
  rw [hat] at HWA
  clear hme hat
  clear hr hm
  go_enter Tryd.func41, Tryd.ntmps41
  go_wp2_with fail
  obtain ⟨ι, f, n0, hf0, hfb, hfu⟩ := below_class w0
  have HFU := Lib.hid hfu
  have HFB := Lib.hid hfb
  have y0 : ∀ n, (f n).cell? ⟨w.heap.size, 0, none⟩ = some (.string nm) := fun n => by rw [(HFB.out n).cell (show w.heap.size < w0.heap.size from HX0.out.lt)]; exact HX0.out.cell 0
  have y1 : ∀ n, (f n).cell? ⟨w.heap.size, 1, none⟩ = some (.int .i64 at_) := fun n => by rw [(HFB.out n).cell (show w.heap.size < w0.heap.size from HX0.out.lt)]; exact HX0.out.cell 1
  have y2 : ∀ n, (f n).cell? ⟨w.heap.size, 2, none⟩ = some (.int .i64 fr) := fun n => by rw [(HFB.out n).cell (show w.heap.size < w0.heap.size from HX0.out.lt)]; exact HX0.out.cell 2
  have y3 : ∀ n, (f n).cell? ⟨w.heap.size, 3, none⟩ = some (.int .i64 ar) := fun n => by rw [(HFB.out n).cell (show w.heap.size < w0.heap.size from HX0.out.lt)]; exact HX0.out.cell 3
  have y4 : ∀ n, (f n).cell? ⟨w.heap.size, 4, none⟩ = some (.int .i64 sz) := fun n => by rw [(HFB.out n).cell (show w.heap.size < w0.heap.size from HX0.out.lt)]; exact HX0.out.cell 4
  have y5 : ∀ n, (f n).cell? ⟨w.heap.size, 5, none⟩ = some (.int .u32 su) := fun n => by rw [(HFB.out n).cell (show w.heap.size < w0.heap.size from HX0.out.lt)]; exact HX0.out.cell 5
  have y6 : ∀ n, (f n).cell? ⟨w.heap.size, 6, none⟩ = some (.int .i64 me) := fun n => by rw [(HFB.out n).cell (show w.heap.size < w0.heap.size from HX0.out.lt)]; exact HX0.out.cell 6
  haveI : Nonempty ι := ⟨n0⟩
  clear hfb hfu
  refine region_quiet_f f n0 hf0 (by kernel_rfl) (by kernel_rfl) ?_
  repeat (go_big_quiet_step (first | (go_at_call 45; exact quiet_f HFU.out (HR.out _)) | (go_at_call 51; with_reducible exact quiet_same (HWM.out _)) | (go_at_call 51; with_reducible exact quiet_same (HWA.out _))))
  refine wpQuiet_nil ?_
  rintro _ ⟨nq, rfl⟩
  have HB1 := Lib.hid (HB0.out.trans ((HFB.out nq).mono HB0.out.size))
  generalize f nq = w1 at *
  go_wp2
  go_ret
  exact ⟨rfl, HB1.out⟩

set_option maxRecDepth 100000 in
set_option maxHeartbeats 4000000 in
theorem enRight_c (nm : ByteArray) (at_ fr ar sz su me : Int) (w : World) (hm : nm.size ≤ maxLen) (hr : rightB nm.data.toList = true) (hme : inB me 0 2 = true) (hat : inB at_ 1024 1073741824 = true) (hfr : (fr == at_ + (22 + (nm.size : Int))) = false) :
    Calls Tryd.prog 41 #[.agg #[.string nm, .int .i64 at_, .int .i64 fr, .int .i64 ar, .int .i64 sz, .int .u32 su, .int .i64 me]] w fun e w' => e = .returned (.bool false) ∧ Below w.heap.size w w' := by
  obtain ⟨w0, hw0⟩ : ∃ w0, w.alloc (.cells #[.string nm, .int .i64 at_, .int .i64 fr, .int .i64 ar, .int .i64 sz, .int .u32 su, .int .i64 me] 32) = w0 := ⟨_, rfl⟩
  have HX0 : Hid (Box w0 w.heap.size #[.string nm, .int .i64 at_, .int .i64 fr, .int .i64 ar, .int .i64 sz, .int .u32 su, .int .i64 me] 32) := by rw [← hw0]; exact heap_alloc_new w _
  have HB0 : Hid (Below w.heap.size w w0) := by rw [← hw0]; exact (Below.refl w.heap.size w).alloc (Nat.le_refl _) _
  have HR := Lib.hid (fun W => rightM_any nm W hm)
  rw [hr] at HR
  have HWM := Lib.hid (fun W => enWithin_any me 0 2 W)
  rw [hme] at HWM
  have HWA := Lib.hid (fun W => enWithin_any at_ 1024 1073741824 W)
  rw [hat] at HWA
  have HFM := Lib.hid (fun W => enFrom_any nm at_ fr ar sz su me W (by have := rightB_size hr; omega) (by have := inB_yes hat; omega) (by have := inB_yes hat; omega))
  have hfr' : (fr == at_ + (22 + (nm.size : Int))) = false := hfr
  clear hme hat hfr
  clear hr hm
  go_enter Tryd.func41, Tryd.ntmps41
  go_wp2_with fail
  obtain ⟨ι, f, n0, hf0, hfb, hfu⟩ := below_class w0
  have HFU := Lib.hid hfu
  have HFB := Lib.hid hfb
  have y0 : ∀ n, (f n).cell? ⟨w.heap.size, 0, none⟩ = some (.string nm) := fun n => by rw [(HFB.out n).cell (show w.heap.size < w0.heap.size from HX0.out.lt)]; exact HX0.out.cell 0
  have y1 : ∀ n, (f n).cell? ⟨w.heap.size, 1, none⟩ = some (.int .i64 at_) := fun n => by rw [(HFB.out n).cell (show w.heap.size < w0.heap.size from HX0.out.lt)]; exact HX0.out.cell 1
  have y2 : ∀ n, (f n).cell? ⟨w.heap.size, 2, none⟩ = some (.int .i64 fr) := fun n => by rw [(HFB.out n).cell (show w.heap.size < w0.heap.size from HX0.out.lt)]; exact HX0.out.cell 2
  have y3 : ∀ n, (f n).cell? ⟨w.heap.size, 3, none⟩ = some (.int .i64 ar) := fun n => by rw [(HFB.out n).cell (show w.heap.size < w0.heap.size from HX0.out.lt)]; exact HX0.out.cell 3
  have y4 : ∀ n, (f n).cell? ⟨w.heap.size, 4, none⟩ = some (.int .i64 sz) := fun n => by rw [(HFB.out n).cell (show w.heap.size < w0.heap.size from HX0.out.lt)]; exact HX0.out.cell 4
  have y5 : ∀ n, (f n).cell? ⟨w.heap.size, 5, none⟩ = some (.int .u32 su) := fun n => by rw [(HFB.out n).cell (show w.heap.size < w0.heap.size from HX0.out.lt)]; exact HX0.out.cell 5
  have y6 : ∀ n, (f n).cell? ⟨w.heap.size, 6, none⟩ = some (.int .i64 me) := fun n => by rw [(HFB.out n).cell (show w.heap.size < w0.heap.size from HX0.out.lt)]; exact HX0.out.cell 6
  haveI : Nonempty ι := ⟨n0⟩
  clear hfb hfu
  refine region_quiet_f f n0 hf0 (by kernel_rfl) (by kernel_rfl) ?_
  repeat (go_big_quiet_step (first | (go_at_call 45; exact quiet_f HFU.out (HR.out _)) | (go_at_call 51; with_reducible exact quiet_same (HWM.out _)) | (go_at_call 51; with_reducible exact quiet_same (HWA.out _)) | (go_at_call 52; exact quiet_f HFU.out (HFM.out _))))
  refine wpQuiet_nil ?_
  rintro _ ⟨nq, rfl⟩
  have HB1 := Lib.hid (HB0.out.trans ((HFB.out nq).mono HB0.out.size))
  generalize f nq = w1 at *
  go_wp2
  go_ret
  exact ⟨rfl, HB1.out⟩

set_option maxRecDepth 100000 in
set_option maxHeartbeats 4000000 in
theorem enRight_d (nm : ByteArray) (at_ fr ar sz su me : Int) (w : World) (hm : nm.size ≤ maxLen) (hr : rightB nm.data.toList = true) (hme : inB me 0 2 = true) (hat : inB at_ 1024 1073741824 = true) (hfr : (fr == at_ + (22 + (nm.size : Int))) = true) (har : inB ar 0 262144 = false) :
    Calls Tryd.prog 41 #[.agg #[.string nm, .int .i64 at_, .int .i64 fr, .int .i64 ar, .int .i64 sz, .int .u32 su, .int .i64 me]] w fun e w' => e = .returned (.bool false) ∧ Below w.heap.size w w' := by
  obtain ⟨w0, hw0⟩ : ∃ w0, w.alloc (.cells #[.string nm, .int .i64 at_, .int .i64 fr, .int .i64 ar, .int .i64 sz, .int .u32 su, .int .i64 me] 32) = w0 := ⟨_, rfl⟩
  have HX0 : Hid (Box w0 w.heap.size #[.string nm, .int .i64 at_, .int .i64 fr, .int .i64 ar, .int .i64 sz, .int .u32 su, .int .i64 me] 32) := by rw [← hw0]; exact heap_alloc_new w _
  have HB0 : Hid (Below w.heap.size w w0) := by rw [← hw0]; exact (Below.refl w.heap.size w).alloc (Nat.le_refl _) _
  have HR := Lib.hid (fun W => rightM_any nm W hm)
  rw [hr] at HR
  have HWM := Lib.hid (fun W => enWithin_any me 0 2 W)
  rw [hme] at HWM
  have HWA := Lib.hid (fun W => enWithin_any at_ 1024 1073741824 W)
  rw [hat] at HWA
  have HFM := Lib.hid (fun W => enFrom_any nm at_ fr ar sz su me W (by have := rightB_size hr; omega) (by have := inB_yes hat; omega) (by have := inB_yes hat; omega))
  have hfr' : (fr == at_ + (22 + (nm.size : Int))) = true := hfr
  have HWR := Lib.hid (fun W => enWithin_any ar 0 262144 W)
  rw [har] at HWR
  clear hme hat hfr har
  clear hr hm
  go_enter Tryd.func41, Tryd.ntmps41
  go_wp2_with fail
  obtain ⟨ι, f, n0, hf0, hfb, hfu⟩ := below_class w0
  have HFU := Lib.hid hfu
  have HFB := Lib.hid hfb
  have y0 : ∀ n, (f n).cell? ⟨w.heap.size, 0, none⟩ = some (.string nm) := fun n => by rw [(HFB.out n).cell (show w.heap.size < w0.heap.size from HX0.out.lt)]; exact HX0.out.cell 0
  have y1 : ∀ n, (f n).cell? ⟨w.heap.size, 1, none⟩ = some (.int .i64 at_) := fun n => by rw [(HFB.out n).cell (show w.heap.size < w0.heap.size from HX0.out.lt)]; exact HX0.out.cell 1
  have y2 : ∀ n, (f n).cell? ⟨w.heap.size, 2, none⟩ = some (.int .i64 fr) := fun n => by rw [(HFB.out n).cell (show w.heap.size < w0.heap.size from HX0.out.lt)]; exact HX0.out.cell 2
  have y3 : ∀ n, (f n).cell? ⟨w.heap.size, 3, none⟩ = some (.int .i64 ar) := fun n => by rw [(HFB.out n).cell (show w.heap.size < w0.heap.size from HX0.out.lt)]; exact HX0.out.cell 3
  have y4 : ∀ n, (f n).cell? ⟨w.heap.size, 4, none⟩ = some (.int .i64 sz) := fun n => by rw [(HFB.out n).cell (show w.heap.size < w0.heap.size from HX0.out.lt)]; exact HX0.out.cell 4
  have y5 : ∀ n, (f n).cell? ⟨w.heap.size, 5, none⟩ = some (.int .u32 su) := fun n => by rw [(HFB.out n).cell (show w.heap.size < w0.heap.size from HX0.out.lt)]; exact HX0.out.cell 5
  have y6 : ∀ n, (f n).cell? ⟨w.heap.size, 6, none⟩ = some (.int .i64 me) := fun n => by rw [(HFB.out n).cell (show w.heap.size < w0.heap.size from HX0.out.lt)]; exact HX0.out.cell 6
  haveI : Nonempty ι := ⟨n0⟩
  clear hfb hfu
  refine region_quiet_f f n0 hf0 (by kernel_rfl) (by kernel_rfl) ?_
  repeat (go_big_quiet_step (first | (go_at_call 45; exact quiet_f HFU.out (HR.out _)) | (go_at_call 51; with_reducible exact quiet_same (HWM.out _)) | (go_at_call 51; with_reducible exact quiet_same (HWA.out _)) | (go_at_call 52; exact quiet_f HFU.out (HFM.out _)) | (go_at_call 51; with_reducible exact quiet_same (HWR.out _))))
  refine wpQuiet_nil ?_
  rintro _ ⟨nq, rfl⟩
  have HB1 := Lib.hid (HB0.out.trans ((HFB.out nq).mono HB0.out.size))
  generalize f nq = w1 at *
  go_wp2
  go_ret
  exact ⟨rfl, HB1.out⟩

set_option maxRecDepth 100000 in
set_option maxHeartbeats 4000000 in
theorem enRight_e (nm : ByteArray) (at_ fr ar sz su me : Int) (w : World) (hm : nm.size ≤ maxLen) (hr : rightB nm.data.toList = true) (hme : inB me 0 2 = true) (hat : inB at_ 1024 1073741824 = true) (hfr : (fr == at_ + (22 + (nm.size : Int))) = true) (har : inB ar 0 262144 = true) (hsz : inB sz 0 65536 = false) :
    Calls Tryd.prog 41 #[.agg #[.string nm, .int .i64 at_, .int .i64 fr, .int .i64 ar, .int .i64 sz, .int .u32 su, .int .i64 me]] w fun e w' => e = .returned (.bool false) ∧ Below w.heap.size w w' := by
  obtain ⟨w0, hw0⟩ : ∃ w0, w.alloc (.cells #[.string nm, .int .i64 at_, .int .i64 fr, .int .i64 ar, .int .i64 sz, .int .u32 su, .int .i64 me] 32) = w0 := ⟨_, rfl⟩
  have HX0 : Hid (Box w0 w.heap.size #[.string nm, .int .i64 at_, .int .i64 fr, .int .i64 ar, .int .i64 sz, .int .u32 su, .int .i64 me] 32) := by rw [← hw0]; exact heap_alloc_new w _
  have HB0 : Hid (Below w.heap.size w w0) := by rw [← hw0]; exact (Below.refl w.heap.size w).alloc (Nat.le_refl _) _
  have HR := Lib.hid (fun W => rightM_any nm W hm)
  rw [hr] at HR
  have HWM := Lib.hid (fun W => enWithin_any me 0 2 W)
  rw [hme] at HWM
  have HWA := Lib.hid (fun W => enWithin_any at_ 1024 1073741824 W)
  rw [hat] at HWA
  have HFM := Lib.hid (fun W => enFrom_any nm at_ fr ar sz su me W (by have := rightB_size hr; omega) (by have := inB_yes hat; omega) (by have := inB_yes hat; omega))
  have hfr' : (fr == at_ + (22 + (nm.size : Int))) = true := hfr
  have HWR := Lib.hid (fun W => enWithin_any ar 0 262144 W)
  rw [har] at HWR
  have HWS := Lib.hid (fun W => enWithin_any sz 0 65536 W)
  rw [hsz] at HWS
  clear hme hat hfr har hsz
  clear hr hm
  go_enter Tryd.func41, Tryd.ntmps41
  go_wp2_with fail
  obtain ⟨ι, f, n0, hf0, hfb, hfu⟩ := below_class w0
  have HFU := Lib.hid hfu
  have HFB := Lib.hid hfb
  have y0 : ∀ n, (f n).cell? ⟨w.heap.size, 0, none⟩ = some (.string nm) := fun n => by rw [(HFB.out n).cell (show w.heap.size < w0.heap.size from HX0.out.lt)]; exact HX0.out.cell 0
  have y1 : ∀ n, (f n).cell? ⟨w.heap.size, 1, none⟩ = some (.int .i64 at_) := fun n => by rw [(HFB.out n).cell (show w.heap.size < w0.heap.size from HX0.out.lt)]; exact HX0.out.cell 1
  have y2 : ∀ n, (f n).cell? ⟨w.heap.size, 2, none⟩ = some (.int .i64 fr) := fun n => by rw [(HFB.out n).cell (show w.heap.size < w0.heap.size from HX0.out.lt)]; exact HX0.out.cell 2
  have y3 : ∀ n, (f n).cell? ⟨w.heap.size, 3, none⟩ = some (.int .i64 ar) := fun n => by rw [(HFB.out n).cell (show w.heap.size < w0.heap.size from HX0.out.lt)]; exact HX0.out.cell 3
  have y4 : ∀ n, (f n).cell? ⟨w.heap.size, 4, none⟩ = some (.int .i64 sz) := fun n => by rw [(HFB.out n).cell (show w.heap.size < w0.heap.size from HX0.out.lt)]; exact HX0.out.cell 4
  have y5 : ∀ n, (f n).cell? ⟨w.heap.size, 5, none⟩ = some (.int .u32 su) := fun n => by rw [(HFB.out n).cell (show w.heap.size < w0.heap.size from HX0.out.lt)]; exact HX0.out.cell 5
  have y6 : ∀ n, (f n).cell? ⟨w.heap.size, 6, none⟩ = some (.int .i64 me) := fun n => by rw [(HFB.out n).cell (show w.heap.size < w0.heap.size from HX0.out.lt)]; exact HX0.out.cell 6
  haveI : Nonempty ι := ⟨n0⟩
  clear hfb hfu
  refine region_quiet_f f n0 hf0 (by kernel_rfl) (by kernel_rfl) ?_
  repeat (go_big_quiet_step (first | (go_at_call 45; exact quiet_f HFU.out (HR.out _)) | (go_at_call 51; with_reducible exact quiet_same (HWM.out _)) | (go_at_call 51; with_reducible exact quiet_same (HWA.out _)) | (go_at_call 52; exact quiet_f HFU.out (HFM.out _)) | (go_at_call 51; with_reducible exact quiet_same (HWR.out _)) | (go_at_call 51; with_reducible exact quiet_same (HWS.out _))))
  refine wpQuiet_nil ?_
  rintro _ ⟨nq, rfl⟩
  have HB1 := Lib.hid (HB0.out.trans ((HFB.out nq).mono HB0.out.size))
  generalize f nq = w1 at *
  go_wp2
  go_ret
  exact ⟨rfl, HB1.out⟩

set_option maxRecDepth 100000 in
set_option maxHeartbeats 4000000 in
theorem enRight_yes (nm : ByteArray) (at_ fr ar sz su me : Int) (w : World) (hm : nm.size ≤ maxLen) (hr : rightB nm.data.toList = true) (hme : inB me 0 2 = true) (hat : inB at_ 1024 1073741824 = true) (hfr : (fr == at_ + (22 + (nm.size : Int))) = true) (har : inB ar 0 262144 = true) (hsz : inB sz 0 65536 = true) :
    Calls Tryd.prog 41 #[.agg #[.string nm, .int .i64 at_, .int .i64 fr, .int .i64 ar, .int .i64 sz, .int .u32 su, .int .i64 me]] w fun e w' => e = .returned (.bool true) ∧ Below w.heap.size w w' := by
  obtain ⟨w0, hw0⟩ : ∃ w0, w.alloc (.cells #[.string nm, .int .i64 at_, .int .i64 fr, .int .i64 ar, .int .i64 sz, .int .u32 su, .int .i64 me] 32) = w0 := ⟨_, rfl⟩
  have HX0 : Hid (Box w0 w.heap.size #[.string nm, .int .i64 at_, .int .i64 fr, .int .i64 ar, .int .i64 sz, .int .u32 su, .int .i64 me] 32) := by rw [← hw0]; exact heap_alloc_new w _
  have HB0 : Hid (Below w.heap.size w w0) := by rw [← hw0]; exact (Below.refl w.heap.size w).alloc (Nat.le_refl _) _
  have HR := Lib.hid (fun W => rightM_any nm W hm)
  rw [hr] at HR
  have HWM := Lib.hid (fun W => enWithin_any me 0 2 W)
  rw [hme] at HWM
  have HWA := Lib.hid (fun W => enWithin_any at_ 1024 1073741824 W)
  rw [hat] at HWA
  have HFM := Lib.hid (fun W => enFrom_any nm at_ fr ar sz su me W (by have := rightB_size hr; omega) (by have := inB_yes hat; omega) (by have := inB_yes hat; omega))
  have hfr' : (fr == at_ + (22 + (nm.size : Int))) = true := hfr
  have HWR := Lib.hid (fun W => enWithin_any ar 0 262144 W)
  rw [har] at HWR
  have HWS := Lib.hid (fun W => enWithin_any sz 0 65536 W)
  rw [hsz] at HWS
  clear hme hat hfr har hsz
  clear hr hm
  go_enter Tryd.func41, Tryd.ntmps41
  go_wp2_with fail
  obtain ⟨ι, f, n0, hf0, hfb, hfu⟩ := below_class w0
  have HFU := Lib.hid hfu
  have HFB := Lib.hid hfb
  have y0 : ∀ n, (f n).cell? ⟨w.heap.size, 0, none⟩ = some (.string nm) := fun n => by rw [(HFB.out n).cell (show w.heap.size < w0.heap.size from HX0.out.lt)]; exact HX0.out.cell 0
  have y1 : ∀ n, (f n).cell? ⟨w.heap.size, 1, none⟩ = some (.int .i64 at_) := fun n => by rw [(HFB.out n).cell (show w.heap.size < w0.heap.size from HX0.out.lt)]; exact HX0.out.cell 1
  have y2 : ∀ n, (f n).cell? ⟨w.heap.size, 2, none⟩ = some (.int .i64 fr) := fun n => by rw [(HFB.out n).cell (show w.heap.size < w0.heap.size from HX0.out.lt)]; exact HX0.out.cell 2
  have y3 : ∀ n, (f n).cell? ⟨w.heap.size, 3, none⟩ = some (.int .i64 ar) := fun n => by rw [(HFB.out n).cell (show w.heap.size < w0.heap.size from HX0.out.lt)]; exact HX0.out.cell 3
  have y4 : ∀ n, (f n).cell? ⟨w.heap.size, 4, none⟩ = some (.int .i64 sz) := fun n => by rw [(HFB.out n).cell (show w.heap.size < w0.heap.size from HX0.out.lt)]; exact HX0.out.cell 4
  have y5 : ∀ n, (f n).cell? ⟨w.heap.size, 5, none⟩ = some (.int .u32 su) := fun n => by rw [(HFB.out n).cell (show w.heap.size < w0.heap.size from HX0.out.lt)]; exact HX0.out.cell 5
  have y6 : ∀ n, (f n).cell? ⟨w.heap.size, 6, none⟩ = some (.int .i64 me) := fun n => by rw [(HFB.out n).cell (show w.heap.size < w0.heap.size from HX0.out.lt)]; exact HX0.out.cell 6
  haveI : Nonempty ι := ⟨n0⟩
  clear hfb hfu
  refine region_quiet_f f n0 hf0 (by kernel_rfl) (by kernel_rfl) ?_
  repeat (go_big_quiet_step (first | (go_at_call 45; exact quiet_f HFU.out (HR.out _)) | (go_at_call 51; with_reducible exact quiet_same (HWM.out _)) | (go_at_call 51; with_reducible exact quiet_same (HWA.out _)) | (go_at_call 52; exact quiet_f HFU.out (HFM.out _)) | (go_at_call 51; with_reducible exact quiet_same (HWR.out _)) | (go_at_call 51; with_reducible exact quiet_same (HWS.out _))))
  refine wpQuiet_nil ?_
  rintro _ ⟨nq, rfl⟩
  have HB1 := Lib.hid (HB0.out.trans ((HFB.out nq).mono HB0.out.size))
  generalize f nq = w1 at *
  go_wp2
  go_ret
  exact ⟨rfl, HB1.out⟩

theorem enRight_any (nm : ByteArray) (at_ fr ar sz su me : Int) (w : World) (hm : nm.size ≤ maxLen) :
    Calls Tryd.prog 41 #[.agg #[.string nm, .int .i64 at_, .int .i64 fr, .int .i64 ar, .int .i64 sz, .int .u32 su, .int .i64 me]] w fun e w' => e = .returned (.bool (memB nm at_ fr ar sz me)) ∧ Below w.heap.size w w' := by
  unfold memB
  cases hr : rightB nm.data.toList with
  | false => exact enRight_no nm at_ fr ar sz su me w hm hr
  | true =>
  cases h1 : inB me 0 2 with
  | false => exact enRight_a nm at_ fr ar sz su me w hm hr h1
  | true =>
  cases h2 : inB at_ 1024 1073741824 with
  | false => exact enRight_b nm at_ fr ar sz su me w hm hr h1 h2
  | true =>
  cases h3 : (fr == at_ + (22 + (nm.size : Int))) with
  | false => exact enRight_c nm at_ fr ar sz su me w hm hr h1 h2 h3
  | true =>
  cases h4 : inB ar 0 262144 with
  | false => exact enRight_d nm at_ fr ar sz su me w hm hr h1 h2 h3 h4
  | true =>
  cases h5 : inB sz 0 65536 with
  | false => exact enRight_e nm at_ fr ar sz su me w hm hr h1 h2 h3 h4 h5
  | true => exact enRight_yes nm at_ fr ar sz su me w hm hr h1 h2 h3 h4 h5
end Go.Proofs.YtjoifgeljjgflaaDoor
/- Layer 19: whether a member may be: the reference's. -/
namespace Go.Proofs.YtjoifgeljjgflaaDoor
open Go.RowKit

theorem inB_of {n a b : Int} (h1 : a ≤ n) (h2 : n ≤ b) : inB n a b = true := by simp [inB, h1, h2]
theorem inB_lo {n a b : Int} (h1 : n < a) : inB n a b = false := by simp [inB]; omega
theorem inB_hi {n a b : Int} (h1 : b < n) : inB n a b = false := by simp [inB]; omega
theorem from_eq {fr at_ n : Int} (h1 : -9223372036854775808 ≤ fr) (h2 : fr ≤ 9223372036854775807) (a0 : 1024 ≤ at_) (a1 : at_ ≤ 1073741824) (n0 : 0 ≤ n) (n1 : n ≤ 64) :
    (IntKind.i64.wrap (fr - at_) == 22 + n) = (fr == at_ + (22 + n)) := by
  rw [IntKind.wrap_i64, Bool.eq_iff_iff, beq_iff_eq, beq_iff_eq]
  omega

set_option maxRecDepth 100000 in
set_option maxHeartbeats 1000000 in
theorem refEn_no (nm : ByteArray) (at_ fr ar sz su me : Int) (w : World) (hm : nm.size ≤ maxLen) (hr : rightB nm.data.toList = false) :
    Calls Tryd.prog 29 #[.agg #[.string nm, .int .i64 at_, .int .i64 fr, .int .i64 ar, .int .i64 sz, .int .u32 su, .int .i64 me]] w fun e w' => e = .returned (.bool false) ∧ Below w.heap.size w w' := by
  obtain ⟨w0, hw0⟩ : ∃ w0, w.alloc (.cells #[.string nm, .int .i64 at_, .int .i64 fr, .int .i64 ar, .int .i64 sz, .int .u32 su, .int .i64 me] 32) = w0 := ⟨_, rfl⟩
  have HX0 : Hid (Box w0 w.heap.size #[.string nm, .int .i64 at_, .int .i64 fr, .int .i64 ar, .int .i64 sz, .int .u32 su, .int .i64 me] 32) := by rw [← hw0]; exact heap_alloc_new w _
  have HB0 : Hid (Below w.heap.size w w0) := by rw [← hw0]; exact (Below.refl w.heap.size w).alloc (Nat.le_refl _) _
  have HR := Lib.hid (fun W => refRight_any nm W hm)
  rw [hr] at HR
  have k0 : w0.cell? ⟨w.heap.size, 0, none⟩ = some (.string nm) := HX0.out.cell 0
  clear hr hm
  go_enter Tryd.func29, Tryd.ntmps29
  go_wp2_with (go_at_call 44; refine (HR.out _).mono ?_; rintro e w1 ⟨rfl, hb⟩; have HB1 := Lib.hid (HB0.out.trans (hb.mono HB0.out.size)); have HX1 : Hid (Box w1 w.heap.size #[.string nm, .int .i64 at_, .int .i64 fr, .int .i64 ar, .int .i64 sz, .int .u32 su, .int .i64 me] 32) := HX0.out.below hb HX0.out.lt; clear hb k0; have y0 : w1.cell? ⟨w.heap.size, 0, none⟩ = some (.string nm) := HX1.out.cell 0; have y1 : w1.cell? ⟨w.heap.size, 1, none⟩ = some (.int .i64 at_) := HX1.out.cell 1; have y2 : w1.cell? ⟨w.heap.size, 2, none⟩ = some (.int .i64 fr) := HX1.out.cell 2; have y3 : w1.cell? ⟨w.heap.size, 3, none⟩ = some (.int .i64 ar) := HX1.out.cell 3; have y4 : w1.cell? ⟨w.heap.size, 4, none⟩ = some (.int .i64 sz) := HX1.out.cell 4; have y5 : w1.cell? ⟨w.heap.size, 5, none⟩ = some (.int .u32 su) := HX1.out.cell 5; have y6 : w1.cell? ⟨w.heap.size, 6, none⟩ = some (.int .i64 me) := HX1.out.cell 6)
  go_ret
  exact ⟨rfl, HB1.out⟩

set_option maxRecDepth 100000 in
set_option maxHeartbeats 1000000 in
theorem refEn_m1 (nm : ByteArray) (at_ fr ar sz su me : Int) (w : World) (hm : nm.size ≤ maxLen) (hr : rightB nm.data.toList = true) (h1 : me < 0) :
    Calls Tryd.prog 29 #[.agg #[.string nm, .int .i64 at_, .int .i64 fr, .int .i64 ar, .int .i64 sz, .int .u32 su, .int .i64 me]] w fun e w' => e = .returned (.bool false) ∧ Below w.heap.size w w' := by
  obtain ⟨w0, hw0⟩ : ∃ w0, w.alloc (.cells #[.string nm, .int .i64 at_, .int .i64 fr, .int .i64 ar, .int .i64 sz, .int .u32 su, .int .i64 me] 32) = w0 := ⟨_, rfl⟩
  have HX0 : Hid (Box w0 w.heap.size #[.string nm, .int .i64 at_, .int .i64 fr, .int .i64 ar, .int .i64 sz, .int .u32 su, .int .i64 me] 32) := by rw [← hw0]; exact heap_alloc_new w _
  have HB0 : Hid (Below w.heap.size w w0) := by rw [← hw0]; exact (Below.refl w.heap.size w).alloc (Nat.le_refl _) _
  have HR := Lib.hid (fun W => refRight_any nm W hm)
  rw [hr] at HR
  have k0 : w0.cell? ⟨w.heap.size, 0, none⟩ = some (.string nm) := HX0.out.cell 0
  have hnm : nm.size ≤ 64 := (rightB_size hr).2
  clear hr hm
  go_enter Tryd.func29, Tryd.ntmps29
  go_wp2_with (go_at_call 44; refine (HR.out _).mono ?_; rintro e w1 ⟨rfl, hb⟩; have HB1 := Lib.hid (HB0.out.trans (hb.mono HB0.out.size)); have HX1 : Hid (Box w1 w.heap.size #[.string nm, .int .i64 at_, .int .i64 fr, .int .i64 ar, .int .i64 sz, .int .u32 su, .int .i64 me] 32) := HX0.out.below hb HX0.out.lt; clear hb k0; have y0 : w1.cell? ⟨w.heap.size, 0, none⟩ = some (.string nm) := HX1.out.cell 0; have y1 : w1.cell? ⟨w.heap.size, 1, none⟩ = some (.int .i64 at_) := HX1.out.cell 1; have y2 : w1.cell? ⟨w.heap.size, 2, none⟩ = some (.int .i64 fr) := HX1.out.cell 2; have y3 : w1.cell? ⟨w.heap.size, 3, none⟩ = some (.int .i64 ar) := HX1.out.cell 3; have y4 : w1.cell? ⟨w.heap.size, 4, none⟩ = some (.int .i64 sz) := HX1.out.cell 4; have y5 : w1.cell? ⟨w.heap.size, 5, none⟩ = some (.int .u32 su) := HX1.out.cell 5; have y6 : w1.cell? ⟨w.heap.size, 6, none⟩ = some (.int .i64 me) := HX1.out.cell 6)
  go_ret
  exact ⟨rfl, HB1.out⟩

set_option maxRecDepth 100000 in
set_option maxHeartbeats 1000000 in
theorem refEn_m2 (nm : ByteArray) (at_ fr ar sz su me : Int) (w : World) (hm : nm.size ≤ maxLen) (hr : rightB nm.data.toList = true) (h1 : ¬ me < 0) (h2 : 2 < me) :
    Calls Tryd.prog 29 #[.agg #[.string nm, .int .i64 at_, .int .i64 fr, .int .i64 ar, .int .i64 sz, .int .u32 su, .int .i64 me]] w fun e w' => e = .returned (.bool false) ∧ Below w.heap.size w w' := by
  obtain ⟨w0, hw0⟩ : ∃ w0, w.alloc (.cells #[.string nm, .int .i64 at_, .int .i64 fr, .int .i64 ar, .int .i64 sz, .int .u32 su, .int .i64 me] 32) = w0 := ⟨_, rfl⟩
  have HX0 : Hid (Box w0 w.heap.size #[.string nm, .int .i64 at_, .int .i64 fr, .int .i64 ar, .int .i64 sz, .int .u32 su, .int .i64 me] 32) := by rw [← hw0]; exact heap_alloc_new w _
  have HB0 : Hid (Below w.heap.size w w0) := by rw [← hw0]; exact (Below.refl w.heap.size w).alloc (Nat.le_refl _) _
  have HR := Lib.hid (fun W => refRight_any nm W hm)
  rw [hr] at HR
  have k0 : w0.cell? ⟨w.heap.size, 0, none⟩ = some (.string nm) := HX0.out.cell 0
  have hnm : nm.size ≤ 64 := (rightB_size hr).2
  clear hr hm
  go_enter Tryd.func29, Tryd.ntmps29
  go_wp2_with (go_at_call 44; refine (HR.out _).mono ?_; rintro e w1 ⟨rfl, hb⟩; have HB1 := Lib.hid (HB0.out.trans (hb.mono HB0.out.size)); have HX1 : Hid (Box w1 w.heap.size #[.string nm, .int .i64 at_, .int .i64 fr, .int .i64 ar, .int .i64 sz, .int .u32 su, .int .i64 me] 32) := HX0.out.below hb HX0.out.lt; clear hb k0; have y0 : w1.cell? ⟨w.heap.size, 0, none⟩ = some (.string nm) := HX1.out.cell 0; have y1 : w1.cell? ⟨w.heap.size, 1, none⟩ = some (.int .i64 at_) := HX1.out.cell 1; have y2 : w1.cell? ⟨w.heap.size, 2, none⟩ = some (.int .i64 fr) := HX1.out.cell 2; have y3 : w1.cell? ⟨w.heap.size, 3, none⟩ = some (.int .i64 ar) := HX1.out.cell 3; have y4 : w1.cell? ⟨w.heap.size, 4, none⟩ = some (.int .i64 sz) := HX1.out.cell 4; have y5 : w1.cell? ⟨w.heap.size, 5, none⟩ = some (.int .u32 su) := HX1.out.cell 5; have y6 : w1.cell? ⟨w.heap.size, 6, none⟩ = some (.int .i64 me) := HX1.out.cell 6)
  go_ret
  exact ⟨rfl, HB1.out⟩

set_option maxRecDepth 100000 in
set_option maxHeartbeats 1000000 in
theorem refEn_a1 (nm : ByteArray) (at_ fr ar sz su me : Int) (w : World) (hm : nm.size ≤ maxLen) (hr : rightB nm.data.toList = true) (h1 : ¬ me < 0) (h2 : ¬ 2 < me) (h3 : at_ < 1024) :
    Calls Tryd.prog 29 #[.agg #[.string nm, .int .i64 at_, .int .i64 fr, .int .i64 ar, .int .i64 sz, .int .u32 su, .int .i64 me]] w fun e w' => e = .returned (.bool false) ∧ Below w.heap.size w w' := by
  obtain ⟨w0, hw0⟩ : ∃ w0, w.alloc (.cells #[.string nm, .int .i64 at_, .int .i64 fr, .int .i64 ar, .int .i64 sz, .int .u32 su, .int .i64 me] 32) = w0 := ⟨_, rfl⟩
  have HX0 : Hid (Box w0 w.heap.size #[.string nm, .int .i64 at_, .int .i64 fr, .int .i64 ar, .int .i64 sz, .int .u32 su, .int .i64 me] 32) := by rw [← hw0]; exact heap_alloc_new w _
  have HB0 : Hid (Below w.heap.size w w0) := by rw [← hw0]; exact (Below.refl w.heap.size w).alloc (Nat.le_refl _) _
  have HR := Lib.hid (fun W => refRight_any nm W hm)
  rw [hr] at HR
  have k0 : w0.cell? ⟨w.heap.size, 0, none⟩ = some (.string nm) := HX0.out.cell 0
  have hnm : nm.size ≤ 64 := (rightB_size hr).2
  clear hr hm
  go_enter Tryd.func29, Tryd.ntmps29
  go_wp2_with (go_at_call 44; refine (HR.out _).mono ?_; rintro e w1 ⟨rfl, hb⟩; have HB1 := Lib.hid (HB0.out.trans (hb.mono HB0.out.size)); have HX1 : Hid (Box w1 w.heap.size #[.string nm, .int .i64 at_, .int .i64 fr, .int .i64 ar, .int .i64 sz, .int .u32 su, .int .i64 me] 32) := HX0.out.below hb HX0.out.lt; clear hb k0; have y0 : w1.cell? ⟨w.heap.size, 0, none⟩ = some (.string nm) := HX1.out.cell 0; have y1 : w1.cell? ⟨w.heap.size, 1, none⟩ = some (.int .i64 at_) := HX1.out.cell 1; have y2 : w1.cell? ⟨w.heap.size, 2, none⟩ = some (.int .i64 fr) := HX1.out.cell 2; have y3 : w1.cell? ⟨w.heap.size, 3, none⟩ = some (.int .i64 ar) := HX1.out.cell 3; have y4 : w1.cell? ⟨w.heap.size, 4, none⟩ = some (.int .i64 sz) := HX1.out.cell 4; have y5 : w1.cell? ⟨w.heap.size, 5, none⟩ = some (.int .u32 su) := HX1.out.cell 5; have y6 : w1.cell? ⟨w.heap.size, 6, none⟩ = some (.int .i64 me) := HX1.out.cell 6)
  go_ret
  exact ⟨rfl, HB1.out⟩

set_option maxRecDepth 100000 in
set_option maxHeartbeats 1000000 in
theorem refEn_a2 (nm : ByteArray) (at_ fr ar sz su me : Int) (w : World) (hm : nm.size ≤ maxLen) (hr : rightB nm.data.toList = true) (h1 : ¬ me < 0) (h2 : ¬ 2 < me) (h3 : ¬ at_ < 1024) (h4 : 1073741824 < at_) :
    Calls Tryd.prog 29 #[.agg #[.string nm, .int .i64 at_, .int .i64 fr, .int .i64 ar, .int .i64 sz, .int .u32 su, .int .i64 me]] w fun e w' => e = .returned (.bool false) ∧ Below w.heap.size w w' := by
  obtain ⟨w0, hw0⟩ : ∃ w0, w.alloc (.cells #[.string nm, .int .i64 at_, .int .i64 fr, .int .i64 ar, .int .i64 sz, .int .u32 su, .int .i64 me] 32) = w0 := ⟨_, rfl⟩
  have HX0 : Hid (Box w0 w.heap.size #[.string nm, .int .i64 at_, .int .i64 fr, .int .i64 ar, .int .i64 sz, .int .u32 su, .int .i64 me] 32) := by rw [← hw0]; exact heap_alloc_new w _
  have HB0 : Hid (Below w.heap.size w w0) := by rw [← hw0]; exact (Below.refl w.heap.size w).alloc (Nat.le_refl _) _
  have HR := Lib.hid (fun W => refRight_any nm W hm)
  rw [hr] at HR
  have k0 : w0.cell? ⟨w.heap.size, 0, none⟩ = some (.string nm) := HX0.out.cell 0
  have hnm : nm.size ≤ 64 := (rightB_size hr).2
  clear hr hm
  go_enter Tryd.func29, Tryd.ntmps29
  go_wp2_with (go_at_call 44; refine (HR.out _).mono ?_; rintro e w1 ⟨rfl, hb⟩; have HB1 := Lib.hid (HB0.out.trans (hb.mono HB0.out.size)); have HX1 : Hid (Box w1 w.heap.size #[.string nm, .int .i64 at_, .int .i64 fr, .int .i64 ar, .int .i64 sz, .int .u32 su, .int .i64 me] 32) := HX0.out.below hb HX0.out.lt; clear hb k0; have y0 : w1.cell? ⟨w.heap.size, 0, none⟩ = some (.string nm) := HX1.out.cell 0; have y1 : w1.cell? ⟨w.heap.size, 1, none⟩ = some (.int .i64 at_) := HX1.out.cell 1; have y2 : w1.cell? ⟨w.heap.size, 2, none⟩ = some (.int .i64 fr) := HX1.out.cell 2; have y3 : w1.cell? ⟨w.heap.size, 3, none⟩ = some (.int .i64 ar) := HX1.out.cell 3; have y4 : w1.cell? ⟨w.heap.size, 4, none⟩ = some (.int .i64 sz) := HX1.out.cell 4; have y5 : w1.cell? ⟨w.heap.size, 5, none⟩ = some (.int .u32 su) := HX1.out.cell 5; have y6 : w1.cell? ⟨w.heap.size, 6, none⟩ = some (.int .i64 me) := HX1.out.cell 6)
  go_ret
  exact ⟨rfl, HB1.out⟩

set_option maxRecDepth 100000 in
set_option maxHeartbeats 1000000 in
theorem refEn_f (nm : ByteArray) (at_ fr ar sz su me : Int) (w : World) (hm : nm.size ≤ maxLen) (hr : rightB nm.data.toList = true) (h1 : ¬ me < 0) (h2 : ¬ 2 < me) (h3 : ¬ at_ < 1024) (h4 : ¬ 1073741824 < at_) (D : Int) (hD : IntKind.i64.wrap (fr - at_) = D) (_h5 : (D == 22 + (nm.size : Int)) = false) (h5' : (D != 22 + (nm.size : Int)) = true) :
    Calls Tryd.prog 29 #[.agg #[.string nm, .int .i64 at_, .int .i64 fr, .int .i64 ar, .int .i64 sz, .int .u32 su, .int .i64 me]] w fun e w' => e = .returned (.bool false) ∧ Below w.heap.size w w' := by
  obtain ⟨w0, hw0⟩ : ∃ w0, w.alloc (.cells #[.string nm, .int .i64 at_, .int .i64 fr, .int .i64 ar, .int .i64 sz, .int .u32 su, .int .i64 me] 32) = w0 := ⟨_, rfl⟩
  have HX0 : Hid (Box w0 w.heap.size #[.string nm, .int .i64 at_, .int .i64 fr, .int .i64 ar, .int .i64 sz, .int .u32 su, .int .i64 me] 32) := by rw [← hw0]; exact heap_alloc_new w _
  have HB0 : Hid (Below w.heap.size w w0) := by rw [← hw0]; exact (Below.refl w.heap.size w).alloc (Nat.le_refl _) _
  have HR := Lib.hid (fun W => refRight_any nm W hm)
  rw [hr] at HR
  have k0 : w0.cell? ⟨w.heap.size, 0, none⟩ = some (.string nm) := HX0.out.cell 0
  have hnm : nm.size ≤ 64 := (rightB_size hr).2
  clear hr hm
  go_enter Tryd.func29, Tryd.ntmps29
  go_wp2_with (go_at_call 44; refine (HR.out _).mono ?_; rintro e w1 ⟨rfl, hb⟩; have HB1 := Lib.hid (HB0.out.trans (hb.mono HB0.out.size)); have HX1 : Hid (Box w1 w.heap.size #[.string nm, .int .i64 at_, .int .i64 fr, .int .i64 ar, .int .i64 sz, .int .u32 su, .int .i64 me] 32) := HX0.out.below hb HX0.out.lt; clear hb k0; have y0 : w1.cell? ⟨w.heap.size, 0, none⟩ = some (.string nm) := HX1.out.cell 0; have y1 : w1.cell? ⟨w.heap.size, 1, none⟩ = some (.int .i64 at_) := HX1.out.cell 1; have y2 : w1.cell? ⟨w.heap.size, 2, none⟩ = some (.int .i64 fr) := HX1.out.cell 2; have y3 : w1.cell? ⟨w.heap.size, 3, none⟩ = some (.int .i64 ar) := HX1.out.cell 3; have y4 : w1.cell? ⟨w.heap.size, 4, none⟩ = some (.int .i64 sz) := HX1.out.cell 4; have y5 : w1.cell? ⟨w.heap.size, 5, none⟩ = some (.int .u32 su) := HX1.out.cell 5; have y6 : w1.cell? ⟨w.heap.size, 6, none⟩ = some (.int .i64 me) := HX1.out.cell 6)
  go_ret
  exact ⟨rfl, HB1.out⟩

set_option maxRecDepth 100000 in
set_option maxHeartbeats 1000000 in
theorem refEn_r1 (nm : ByteArray) (at_ fr ar sz su me : Int) (w : World) (hm : nm.size ≤ maxLen) (hr : rightB nm.data.toList = true) (h1 : ¬ me < 0) (h2 : ¬ 2 < me) (h3 : ¬ at_ < 1024) (h4 : ¬ 1073741824 < at_) (D : Int) (hD : IntKind.i64.wrap (fr - at_) = D) (_h5 : (D == 22 + (nm.size : Int)) = true) (h5' : (D != 22 + (nm.size : Int)) = false) (h6 : ar < 0) :
    Calls Tryd.prog 29 #[.agg #[.string nm, .int .i64 at_, .int .i64 fr, .int .i64 ar, .int .i64 sz, .int .u32 su, .int .i64 me]] w fun e w' => e = .returned (.bool false) ∧ Below w.heap.size w w' := by
  obtain ⟨w0, hw0⟩ : ∃ w0, w.alloc (.cells #[.string nm, .int .i64 at_, .int .i64 fr, .int .i64 ar, .int .i64 sz, .int .u32 su, .int .i64 me] 32) = w0 := ⟨_, rfl⟩
  have HX0 : Hid (Box w0 w.heap.size #[.string nm, .int .i64 at_, .int .i64 fr, .int .i64 ar, .int .i64 sz, .int .u32 su, .int .i64 me] 32) := by rw [← hw0]; exact heap_alloc_new w _
  have HB0 : Hid (Below w.heap.size w w0) := by rw [← hw0]; exact (Below.refl w.heap.size w).alloc (Nat.le_refl _) _
  have HR := Lib.hid (fun W => refRight_any nm W hm)
  rw [hr] at HR
  have k0 : w0.cell? ⟨w.heap.size, 0, none⟩ = some (.string nm) := HX0.out.cell 0
  have hnm : nm.size ≤ 64 := (rightB_size hr).2
  clear hr hm
  go_enter Tryd.func29, Tryd.ntmps29
  go_wp2_with (go_at_call 44; refine (HR.out _).mono ?_; rintro e w1 ⟨rfl, hb⟩; have HB1 := Lib.hid (HB0.out.trans (hb.mono HB0.out.size)); have HX1 : Hid (Box w1 w.heap.size #[.string nm, .int .i64 at_, .int .i64 fr, .int .i64 ar, .int .i64 sz, .int .u32 su, .int .i64 me] 32) := HX0.out.below hb HX0.out.lt; clear hb k0; have y0 : w1.cell? ⟨w.heap.size, 0, none⟩ = some (.string nm) := HX1.out.cell 0; have y1 : w1.cell? ⟨w.heap.size, 1, none⟩ = some (.int .i64 at_) := HX1.out.cell 1; have y2 : w1.cell? ⟨w.heap.size, 2, none⟩ = some (.int .i64 fr) := HX1.out.cell 2; have y3 : w1.cell? ⟨w.heap.size, 3, none⟩ = some (.int .i64 ar) := HX1.out.cell 3; have y4 : w1.cell? ⟨w.heap.size, 4, none⟩ = some (.int .i64 sz) := HX1.out.cell 4; have y5 : w1.cell? ⟨w.heap.size, 5, none⟩ = some (.int .u32 su) := HX1.out.cell 5; have y6 : w1.cell? ⟨w.heap.size, 6, none⟩ = some (.int .i64 me) := HX1.out.cell 6)
  go_ret
  exact ⟨rfl, HB1.out⟩

set_option maxRecDepth 100000 in
set_option maxHeartbeats 1000000 in
theorem refEn_r2 (nm : ByteArray) (at_ fr ar sz su me : Int) (w : World) (hm : nm.size ≤ maxLen) (hr : rightB nm.data.toList = true) (h1 : ¬ me < 0) (h2 : ¬ 2 < me) (h3 : ¬ at_ < 1024) (h4 : ¬ 1073741824 < at_) (D : Int) (hD : IntKind.i64.wrap (fr - at_) = D) (_h5 : (D == 22 + (nm.size : Int)) = true) (h5' : (D != 22 + (nm.size : Int)) = false) (h6 : ¬ ar < 0) (h7 : 262144 < ar) :
    Calls Tryd.prog 29 #[.agg #[.string nm, .int .i64 at_, .int .i64 fr, .int .i64 ar, .int .i64 sz, .int .u32 su, .int .i64 me]] w fun e w' => e = .returned (.bool false) ∧ Below w.heap.size w w' := by
  obtain ⟨w0, hw0⟩ : ∃ w0, w.alloc (.cells #[.string nm, .int .i64 at_, .int .i64 fr, .int .i64 ar, .int .i64 sz, .int .u32 su, .int .i64 me] 32) = w0 := ⟨_, rfl⟩
  have HX0 : Hid (Box w0 w.heap.size #[.string nm, .int .i64 at_, .int .i64 fr, .int .i64 ar, .int .i64 sz, .int .u32 su, .int .i64 me] 32) := by rw [← hw0]; exact heap_alloc_new w _
  have HB0 : Hid (Below w.heap.size w w0) := by rw [← hw0]; exact (Below.refl w.heap.size w).alloc (Nat.le_refl _) _
  have HR := Lib.hid (fun W => refRight_any nm W hm)
  rw [hr] at HR
  have k0 : w0.cell? ⟨w.heap.size, 0, none⟩ = some (.string nm) := HX0.out.cell 0
  have hnm : nm.size ≤ 64 := (rightB_size hr).2
  clear hr hm
  go_enter Tryd.func29, Tryd.ntmps29
  go_wp2_with (go_at_call 44; refine (HR.out _).mono ?_; rintro e w1 ⟨rfl, hb⟩; have HB1 := Lib.hid (HB0.out.trans (hb.mono HB0.out.size)); have HX1 : Hid (Box w1 w.heap.size #[.string nm, .int .i64 at_, .int .i64 fr, .int .i64 ar, .int .i64 sz, .int .u32 su, .int .i64 me] 32) := HX0.out.below hb HX0.out.lt; clear hb k0; have y0 : w1.cell? ⟨w.heap.size, 0, none⟩ = some (.string nm) := HX1.out.cell 0; have y1 : w1.cell? ⟨w.heap.size, 1, none⟩ = some (.int .i64 at_) := HX1.out.cell 1; have y2 : w1.cell? ⟨w.heap.size, 2, none⟩ = some (.int .i64 fr) := HX1.out.cell 2; have y3 : w1.cell? ⟨w.heap.size, 3, none⟩ = some (.int .i64 ar) := HX1.out.cell 3; have y4 : w1.cell? ⟨w.heap.size, 4, none⟩ = some (.int .i64 sz) := HX1.out.cell 4; have y5 : w1.cell? ⟨w.heap.size, 5, none⟩ = some (.int .u32 su) := HX1.out.cell 5; have y6 : w1.cell? ⟨w.heap.size, 6, none⟩ = some (.int .i64 me) := HX1.out.cell 6)
  go_ret
  exact ⟨rfl, HB1.out⟩

set_option maxRecDepth 100000 in
set_option maxHeartbeats 1000000 in
theorem refEn_s1 (nm : ByteArray) (at_ fr ar sz su me : Int) (w : World) (hm : nm.size ≤ maxLen) (hr : rightB nm.data.toList = true) (h1 : ¬ me < 0) (h2 : ¬ 2 < me) (h3 : ¬ at_ < 1024) (h4 : ¬ 1073741824 < at_) (D : Int) (hD : IntKind.i64.wrap (fr - at_) = D) (_h5 : (D == 22 + (nm.size : Int)) = true) (h5' : (D != 22 + (nm.size : Int)) = false) (h6 : ¬ ar < 0) (h7 : ¬ 262144 < ar) (h8 : sz < 0) :
    Calls Tryd.prog 29 #[.agg #[.string nm, .int .i64 at_, .int .i64 fr, .int .i64 ar, .int .i64 sz, .int .u32 su, .int .i64 me]] w fun e w' => e = .returned (.bool false) ∧ Below w.heap.size w w' := by
  obtain ⟨w0, hw0⟩ : ∃ w0, w.alloc (.cells #[.string nm, .int .i64 at_, .int .i64 fr, .int .i64 ar, .int .i64 sz, .int .u32 su, .int .i64 me] 32) = w0 := ⟨_, rfl⟩
  have HX0 : Hid (Box w0 w.heap.size #[.string nm, .int .i64 at_, .int .i64 fr, .int .i64 ar, .int .i64 sz, .int .u32 su, .int .i64 me] 32) := by rw [← hw0]; exact heap_alloc_new w _
  have HB0 : Hid (Below w.heap.size w w0) := by rw [← hw0]; exact (Below.refl w.heap.size w).alloc (Nat.le_refl _) _
  have HR := Lib.hid (fun W => refRight_any nm W hm)
  rw [hr] at HR
  have k0 : w0.cell? ⟨w.heap.size, 0, none⟩ = some (.string nm) := HX0.out.cell 0
  have hnm : nm.size ≤ 64 := (rightB_size hr).2
  have h8d : decide (0 ≤ sz) = false := by simp; omega
  clear hr hm
  go_enter Tryd.func29, Tryd.ntmps29
  go_wp2_with (go_at_call 44; refine (HR.out _).mono ?_; rintro e w1 ⟨rfl, hb⟩; have HB1 := Lib.hid (HB0.out.trans (hb.mono HB0.out.size)); have HX1 : Hid (Box w1 w.heap.size #[.string nm, .int .i64 at_, .int .i64 fr, .int .i64 ar, .int .i64 sz, .int .u32 su, .int .i64 me] 32) := HX0.out.below hb HX0.out.lt; clear hb k0; have y0 : w1.cell? ⟨w.heap.size, 0, none⟩ = some (.string nm) := HX1.out.cell 0; have y1 : w1.cell? ⟨w.heap.size, 1, none⟩ = some (.int .i64 at_) := HX1.out.cell 1; have y2 : w1.cell? ⟨w.heap.size, 2, none⟩ = some (.int .i64 fr) := HX1.out.cell 2; have y3 : w1.cell? ⟨w.heap.size, 3, none⟩ = some (.int .i64 ar) := HX1.out.cell 3; have y4 : w1.cell? ⟨w.heap.size, 4, none⟩ = some (.int .i64 sz) := HX1.out.cell 4; have y5 : w1.cell? ⟨w.heap.size, 5, none⟩ = some (.int .u32 su) := HX1.out.cell 5; have y6 : w1.cell? ⟨w.heap.size, 6, none⟩ = some (.int .i64 me) := HX1.out.cell 6)
  go_ret
  exact ⟨rfl, HB1.out⟩

set_option maxRecDepth 100000 in
set_option maxHeartbeats 1000000 in
theorem refEn_s2 (nm : ByteArray) (at_ fr ar sz su me : Int) (w : World) (hm : nm.size ≤ maxLen) (hr : rightB nm.data.toList = true) (h1 : ¬ me < 0) (h2 : ¬ 2 < me) (h3 : ¬ at_ < 1024) (h4 : ¬ 1073741824 < at_) (D : Int) (hD : IntKind.i64.wrap (fr - at_) = D) (_h5 : (D == 22 + (nm.size : Int)) = true) (h5' : (D != 22 + (nm.size : Int)) = false) (h6 : ¬ ar < 0) (h7 : ¬ 262144 < ar) (h8 : ¬ sz < 0) (h9 : 65536 < sz) :
    Calls Tryd.prog 29 #[.agg #[.string nm, .int .i64 at_, .int .i64 fr, .int .i64 ar, .int .i64 sz, .int .u32 su, .int .i64 me]] w fun e w' => e = .returned (.bool false) ∧ Below w.heap.size w w' := by
  obtain ⟨w0, hw0⟩ : ∃ w0, w.alloc (.cells #[.string nm, .int .i64 at_, .int .i64 fr, .int .i64 ar, .int .i64 sz, .int .u32 su, .int .i64 me] 32) = w0 := ⟨_, rfl⟩
  have HX0 : Hid (Box w0 w.heap.size #[.string nm, .int .i64 at_, .int .i64 fr, .int .i64 ar, .int .i64 sz, .int .u32 su, .int .i64 me] 32) := by rw [← hw0]; exact heap_alloc_new w _
  have HB0 : Hid (Below w.heap.size w w0) := by rw [← hw0]; exact (Below.refl w.heap.size w).alloc (Nat.le_refl _) _
  have HR := Lib.hid (fun W => refRight_any nm W hm)
  rw [hr] at HR
  have k0 : w0.cell? ⟨w.heap.size, 0, none⟩ = some (.string nm) := HX0.out.cell 0
  have hnm : nm.size ≤ 64 := (rightB_size hr).2
  have h8d : decide (0 ≤ sz) = true := by simp; omega
  have h9d : decide (sz ≤ 65536) = false := by simp; omega
  clear hr hm
  go_enter Tryd.func29, Tryd.ntmps29
  go_wp2_with (go_at_call 44; refine (HR.out _).mono ?_; rintro e w1 ⟨rfl, hb⟩; have HB1 := Lib.hid (HB0.out.trans (hb.mono HB0.out.size)); have HX1 : Hid (Box w1 w.heap.size #[.string nm, .int .i64 at_, .int .i64 fr, .int .i64 ar, .int .i64 sz, .int .u32 su, .int .i64 me] 32) := HX0.out.below hb HX0.out.lt; clear hb k0; have y0 : w1.cell? ⟨w.heap.size, 0, none⟩ = some (.string nm) := HX1.out.cell 0; have y1 : w1.cell? ⟨w.heap.size, 1, none⟩ = some (.int .i64 at_) := HX1.out.cell 1; have y2 : w1.cell? ⟨w.heap.size, 2, none⟩ = some (.int .i64 fr) := HX1.out.cell 2; have y3 : w1.cell? ⟨w.heap.size, 3, none⟩ = some (.int .i64 ar) := HX1.out.cell 3; have y4 : w1.cell? ⟨w.heap.size, 4, none⟩ = some (.int .i64 sz) := HX1.out.cell 4; have y5 : w1.cell? ⟨w.heap.size, 5, none⟩ = some (.int .u32 su) := HX1.out.cell 5; have y6 : w1.cell? ⟨w.heap.size, 6, none⟩ = some (.int .i64 me) := HX1.out.cell 6)
  go_ret
  exact ⟨rfl, HB1.out⟩

set_option maxRecDepth 100000 in
set_option maxHeartbeats 1000000 in
theorem refEn_yes (nm : ByteArray) (at_ fr ar sz su me : Int) (w : World) (hm : nm.size ≤ maxLen) (hr : rightB nm.data.toList = true) (h1 : ¬ me < 0) (h2 : ¬ 2 < me) (h3 : ¬ at_ < 1024) (h4 : ¬ 1073741824 < at_) (D : Int) (hD : IntKind.i64.wrap (fr - at_) = D) (_h5 : (D == 22 + (nm.size : Int)) = true) (h5' : (D != 22 + (nm.size : Int)) = false) (h6 : ¬ ar < 0) (h7 : ¬ 262144 < ar) (h8 : ¬ sz < 0) (h9 : ¬ 65536 < sz) :
    Calls Tryd.prog 29 #[.agg #[.string nm, .int .i64 at_, .int .i64 fr, .int .i64 ar, .int .i64 sz, .int .u32 su, .int .i64 me]] w fun e w' => e = .returned (.bool true) ∧ Below w.heap.size w w' := by
  obtain ⟨w0, hw0⟩ : ∃ w0, w.alloc (.cells #[.string nm, .int .i64 at_, .int .i64 fr, .int .i64 ar, .int .i64 sz, .int .u32 su, .int .i64 me] 32) = w0 := ⟨_, rfl⟩
  have HX0 : Hid (Box w0 w.heap.size #[.string nm, .int .i64 at_, .int .i64 fr, .int .i64 ar, .int .i64 sz, .int .u32 su, .int .i64 me] 32) := by rw [← hw0]; exact heap_alloc_new w _
  have HB0 : Hid (Below w.heap.size w w0) := by rw [← hw0]; exact (Below.refl w.heap.size w).alloc (Nat.le_refl _) _
  have HR := Lib.hid (fun W => refRight_any nm W hm)
  rw [hr] at HR
  have k0 : w0.cell? ⟨w.heap.size, 0, none⟩ = some (.string nm) := HX0.out.cell 0
  have hnm : nm.size ≤ 64 := (rightB_size hr).2
  have h8d : decide (0 ≤ sz) = true := by simp; omega
  have h9d : decide (sz ≤ 65536) = true := by simp; omega
  clear hr hm
  go_enter Tryd.func29, Tryd.ntmps29
  go_wp2_with (go_at_call 44; refine (HR.out _).mono ?_; rintro e w1 ⟨rfl, hb⟩; have HB1 := Lib.hid (HB0.out.trans (hb.mono HB0.out.size)); have HX1 : Hid (Box w1 w.heap.size #[.string nm, .int .i64 at_, .int .i64 fr, .int .i64 ar, .int .i64 sz, .int .u32 su, .int .i64 me] 32) := HX0.out.below hb HX0.out.lt; clear hb k0; have y0 : w1.cell? ⟨w.heap.size, 0, none⟩ = some (.string nm) := HX1.out.cell 0; have y1 : w1.cell? ⟨w.heap.size, 1, none⟩ = some (.int .i64 at_) := HX1.out.cell 1; have y2 : w1.cell? ⟨w.heap.size, 2, none⟩ = some (.int .i64 fr) := HX1.out.cell 2; have y3 : w1.cell? ⟨w.heap.size, 3, none⟩ = some (.int .i64 ar) := HX1.out.cell 3; have y4 : w1.cell? ⟨w.heap.size, 4, none⟩ = some (.int .i64 sz) := HX1.out.cell 4; have y5 : w1.cell? ⟨w.heap.size, 5, none⟩ = some (.int .u32 su) := HX1.out.cell 5; have y6 : w1.cell? ⟨w.heap.size, 6, none⟩ = some (.int .i64 me) := HX1.out.cell 6)
  go_ret
  exact ⟨rfl, HB1.out⟩

theorem refEn_any (nm : ByteArray) (at_ fr ar sz su me : Int) (w : World) (hm : nm.size ≤ maxLen) (f0 : -9223372036854775808 ≤ fr) (f1 : fr ≤ 9223372036854775807) :
    Calls Tryd.prog 29 #[.agg #[.string nm, .int .i64 at_, .int .i64 fr, .int .i64 ar, .int .i64 sz, .int .u32 su, .int .i64 me]] w fun e w' => e = .returned (.bool (memB nm at_ fr ar sz me)) ∧ Below w.heap.size w w' := by
  cases hr : rightB nm.data.toList with
  | false => rw [show memB nm at_ fr ar sz me = false by unfold memB; rw [hr]; rfl]; exact refEn_no nm at_ fr ar sz su me w hm hr
  | true =>
  by_cases h1 : me < 0
  · rw [show memB nm at_ fr ar sz me = false by unfold memB; rw [inB_lo h1]; simp]; exact refEn_m1 nm at_ fr ar sz su me w hm hr h1
  by_cases h2 : 2 < me
  · rw [show memB nm at_ fr ar sz me = false by unfold memB; rw [inB_hi h2]; simp]; exact refEn_m2 nm at_ fr ar sz su me w hm hr h1 h2
  by_cases h3 : at_ < 1024
  · rw [show memB nm at_ fr ar sz me = false by unfold memB; rw [inB_lo h3]; simp]; exact refEn_a1 nm at_ fr ar sz su me w hm hr h1 h2 h3
  by_cases h4 : 1073741824 < at_
  · rw [show memB nm at_ fr ar sz me = false by unfold memB; rw [inB_hi h4]; simp]; exact refEn_a2 nm at_ fr ar sz su me w hm hr h1 h2 h3 h4
  have hq := from_eq (n := (nm.size : Int)) f0 f1 (by omega : 1024 ≤ at_) (by omega) (by omega) (by have := (rightB_size hr).2; omega)
  obtain ⟨D, hD⟩ : ∃ D, IntKind.i64.wrap (fr - at_) = D := ⟨_, rfl⟩
  rw [hD] at hq
  cases h5 : (fr == at_ + (22 + (nm.size : Int))) with
  | false => rw [h5] at hq; rw [show memB nm at_ fr ar sz me = false by unfold memB; rw [h5]; simp]; exact refEn_f nm at_ fr ar sz su me w hm hr h1 h2 h3 h4 D hD hq (by unfold bne; rw [hq]; rfl)
  | true =>
  rw [h5] at hq
  have hq' : (D != 22 + (nm.size : Int)) = false := by unfold bne; rw [hq]; rfl
  by_cases h6 : ar < 0
  · rw [show memB nm at_ fr ar sz me = false by unfold memB; rw [inB_lo h6]; simp]; exact refEn_r1 nm at_ fr ar sz su me w hm hr h1 h2 h3 h4 D hD hq hq' h6
  by_cases h7 : 262144 < ar
  · rw [show memB nm at_ fr ar sz me = false by unfold memB; rw [inB_hi h7]; simp]; exact refEn_r2 nm at_ fr ar sz su me w hm hr h1 h2 h3 h4 D hD hq hq' h6 h7
  by_cases h8 : sz < 0
  · rw [show memB nm at_ fr ar sz me = false by unfold memB; rw [inB_lo h8]; simp]; exact refEn_s1 nm at_ fr ar sz su me w hm hr h1 h2 h3 h4 D hD hq hq' h6 h7 h8
  by_cases h9 : 65536 < sz
  · rw [show memB nm at_ fr ar sz me = false by unfold memB; rw [inB_hi h9]; simp]; exact refEn_s2 nm at_ fr ar sz su me w hm hr h1 h2 h3 h4 D hD hq hq' h6 h7 h8 h9
  · rw [show memB nm at_ fr ar sz me = true by unfold memB; rw [hr, inB_of (by omega : 0 ≤ me) (by omega), inB_of (by omega : 1024 ≤ at_) (by omega), h5, inB_of (by omega : 0 ≤ ar) (by omega), inB_of (by omega : 0 ≤ sz) (by omega)]; rfl]
    exact refEn_yes nm at_ fr ar sz su me w hm hr h1 h2 h3 h4 D hD hq hq' h6 h7 h8 h9
end Go.Proofs.YtjoifgeljjgflaaDoor
