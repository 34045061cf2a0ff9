/- Layer 24: the chapter's example; which members are gone through; the reference's Find, Room, Bytes. -/
import Derived.Test.YtjoifgeljjgflaaDoorIxQ
import Derived.Test.YtjoifgeljjgflaaDoorEnV
namespace Go.Proofs.YtjoifgeljjgflaaDoor
open Go.RowKit

set_option maxHeartbeats 400000 in
theorem one24_any (w : World) : Calls Tryd.prog 26 #[] w fun e w' => e = .returned (aggM memA) ∧ Below w.heap.size w w' := by
  have HB0 := fun o => Lib.hid ((Below.refl w.heap.size w).alloc (Nat.le_refl _) o)
  go_enter Tryd.func26, Tryd.ntmps26
  go_wp2
  refine bodyPost_ret (v := aggM memA) ?_ rfl ⟨rfl, (HB0 _).out⟩
  exact results_cell_row rfl _ _ w.heap.size 32 _ (0, 0) _ rfl (heap_alloc_new w _) Tryd.underlying32 rfl memSize

theorem LX.few' {w : World} {base g : Nat} {A : Option Addr} {c : Nat} {ms : List LM} (h : LX w base g A c ms) : (ms.length : Int) ≤ 1000 := by have := h.few; omega
set_option maxRecDepth 100000 in
set_option maxHeartbeats 4000000 in
theorem lives24_any (w : World) : Calls Tryd.prog 8 #[] w fun e w' => e = .returned (.bool true) ∧ Below w.heap.size w w' := by
  have HN := Lib.hid (ixNew_good none 0 0 [] w.heap.size w rfl (fun _ h => by cases h) (Cells.nil _ _ _) (Nat.le_refl _) (allB_of (by decide) (fun j hj => absurd hj (Nat.not_lt_zero _))))
  have HO := Lib.hid (fun W => one24_any W)
  have HMB : Hid (memA.B = true) := memA_B
  have hroom : roomM [] memA.nm = true := rfl
  have hwith : withK LM.nm [] memA = [memA] := rfl
  have hhas : hasK LM.nm [memA] ⟨#[97]⟩ = true := by decide
  have hget : getM [memA] ⟨#[97]⟩ = memA := by unfold getM findK; simp [memA]
  have hrows : rowsM [memA] = 19 := rfl
  go_enter Tryd.func8, Tryd.ntmps8
  go_wp2_with fail
  refine HN.out.mono ?_
  rintro e w1 ⟨g, A1, c1, rfl, hix, hbel⟩
  have HB1 := Lib.hid hbel
  have HX1 := Lib.hid hix
  clear hix hbel HN
  go_wp2_with fail
  refine (HO.out _).mono ?_
  rintro e w2 ⟨rfl, hbel⟩
  have HB2 := Lib.hid (HB1.out.trans (hbel.mono HB1.out.size))
  have HX2 := Lib.hid (HX1.out.below hbel rfl)
  clear hbel
  have HPT := Lib.hid (ixPut_any w.heap.size g A1 c1 [] memA w2 HX2.out (by decide) HMB.out hroom HB2.out.size)
  rw [hwith] at HPT
  go_wp2_with fail
  refine HPT.out.mono ?_
  rintro e w3 ⟨A3, c3, rfl, hix⟩
  have HX3 := Lib.hid hix.ix
  have HB3 := Lib.hid (hix.mod.below HB2.out HB2.out.size (fun k hk => (HX2.out.lts k hk).2))
  clear hix
  have HG := Lib.hid (ixGet_any w.heap.size g A3 c3 [memA] ⟨#[97]⟩ w3 HX3.out)
  rw [hget, hhas] at HG
  go_wp2_with fail
  refine HG.out.mono ?_
  rintro e w4 ⟨rfl, hbel⟩
  have HB4 := Lib.hid (HB3.out.trans (hbel.mono HB3.out.size))
  have HX4 := Lib.hid (HX3.out.below hbel rfl)
  clear hbel
  obtain ⟨W5, hW5⟩ : ∃ W5, w4.alloc (.cells #[.string memA.nm, .int .i64 memA.at_, .int .i64 memA.fr, .int .i64 memA.ar, .int .i64 memA.sz, .int .u32 memA.su, .int .i64 memA.me] 32) = W5 := ⟨_, rfl⟩
  have HB5 : Hid (Below w.heap.size w W5) := by show Below _ _ _; rw [← hW5]; exact HB4.out.alloc HB4.out.size _
  have HX5 : Hid (LX W5 w.heap.size g A3 c3 [memA]) := HX4.out.below (by rw [← hW5]; exact (Below.refl _ w4).alloc (Nat.le_refl _) _) rfl
  have HBX : Hid (Box W5 w4.heap.size #[.string memA.nm, .int .i64 memA.at_, .int .i64 memA.fr, .int .i64 memA.ar, .int .i64 memA.sz, .int .u32 memA.su, .int .i64 memA.me] 32) := by show Box _ _ _ _; rw [← hW5]; exact heap_alloc_new w4 _
  have HHW := Lib.hid hW5
  clear hW5
  go_wp2_with fail
  rw [HHW.out]
  obtain ⟨ι, f, n0, hf0, hfb, hfu⟩ := below_class W5
  have HFU := Lib.hid hfu
  have HFB := Lib.hid hfb
  have HXF := Lib.hid (fun n => HX5.out.below (hfb n) rfl)
  have y0 : ∀ n, (f n).cell? ⟨w4.heap.size, 0, none⟩ = some (.string memA.nm) := fun n => (HBX.out.below (HFB.out n) HBX.out.lt).cell 0
  have y1 : ∀ n, (f n).cell? ⟨w4.heap.size, 1, none⟩ = some (.int .i64 memA.at_) := fun n => (HBX.out.below (HFB.out n) HBX.out.lt).cell 1
  have y2 : ∀ n, (f n).cell? ⟨w4.heap.size, 2, none⟩ = some (.int .i64 memA.fr) := fun n => (HBX.out.below (HFB.out n) HBX.out.lt).cell 2
  have y3 : ∀ n, (f n).cell? ⟨w4.heap.size, 3, none⟩ = some (.int .i64 memA.ar) := fun n => (HBX.out.below (HFB.out n) HBX.out.lt).cell 3
  have y4 : ∀ n, (f n).cell? ⟨w4.heap.size, 4, none⟩ = some (.int .i64 memA.sz) := fun n => (HBX.out.below (HFB.out n) HBX.out.lt).cell 4
  have y5 : ∀ n, (f n).cell? ⟨w4.heap.size, 5, none⟩ = some (.int .u32 memA.su) := fun n => (HBX.out.below (HFB.out n) HBX.out.lt).cell 5
  have y6 : ∀ n, (f n).cell? ⟨w4.heap.size, 6, none⟩ = some (.int .i64 memA.me) := fun n => (HBX.out.below (HFB.out n) HBX.out.lt).cell 6
  haveI : Nonempty ι := ⟨n0⟩
  clear hfb hfu
  refine region_quiet_f f n0 hf0 (by kernel_rfl) (by kernel_rfl) ?_
  have HLN := Lib.hid (fun n => ixLen_any w.heap.size g A3 c3 [memA] (f n) (HXF.out n))
  have HBY := Lib.hid (fun n => ixBytes_any w.heap.size g A3 c3 [memA] (f n) (HXF.out n) (by rw [hrows]; decide))
  rw [hrows] at HBY
  have HLE : Hid (((([memA] : List LM).length : Nat) : Int) = 1) := rfl
  rw [HLE.out] at HLN
  repeat (go_big_quiet_step (first | (go_at_call 26; exact quiet_f HFU.out (HO.out _)) | (go_at_call 12; exact (HLN.out _).mono (fun _ _ ⟨h1, h2⟩ => ⟨h1, _, h2.symm⟩)) | (go_at_call 15; exact quiet_f HFU.out (HBY.out _))))
  refine wpQuiet_nil ?_
  rintro _ ⟨nq, rfl⟩
  have HB6 := Lib.hid (HB5.out.trans ((HFB.out nq).mono HB5.out.size))
  generalize f nq = w6 at *
  go_wp2
  go_ret
  exact ⟨rfl, HB6.out⟩
end Go.Proofs.YtjoifgeljjgflaaDoor
