/- Layer 34: the chapter's example; the reference's Turn; QuickTurns. -/
import Derived.Test.YtnobeipabfdkjaaQkGet
namespace Go.Proofs.Ytnobeipabfdkjaa
open Go.RowKit Go.Maps

theorem ex_rows : (qF 1 (allC [2, 1, 2])).rows = [(1, 1, false), (0, 2, true)] := by kernel_rfl
theorem ex_tot : totF 1 (allC [2, 1, 2]) = 2 := by kernel_rfl
set_option maxRecDepth 100000 in
set_option maxHeartbeats 400000 in
theorem lives34_any (w : World) : Calls Try.prog 10 #[] w fun e w' => e = .returned (.bool true) ∧ Below w.heap.size w w' := by
  obtain ⟨W1, hW1⟩ : ∃ W1, w.alloc (.cells #[.int .i64 2, .int .i64 1, .int .i64 2] 3) = W1 := ⟨_, rfl⟩
  have HI : Hid (IntBlock W1 w.heap.size [2, 1, 2]) := by show IntBlock _ _ _; rw [← hW1]; exact heap_alloc_new w _
  have HB : Hid (Below w.heap.size w W1) := by show Below _ _ _; rw [← hW1]; exact (Below.refl _ w).alloc (Nat.le_refl _) _
  have HN := Lib.hid (qnew_any (some ⟨w.heap.size, 0, none⟩) 3 3 [2, 1, 2] 1 W1.heap.size W1 rfl (by decide) (ib_cells HI.out (ib_lt HI.out)) (Nat.le_refl _) (by decide))
  rw [show wid 1 = 1 from rfl, ex_tot] at HN
  have hr0 : (qF 1 (allC [2, 1, 2])).rows[0]? = some (1, 1, false) := by rw [ex_rows]; rfl
  have hr1 : (qF 1 (allC [2, 1, 2])).rows[1]? = some (0, 2, true) := by rw [ex_rows]; rfl
  obtain ⟨Q, hQ⟩ : ∃ Q, qF 1 (allC [2, 1, 2]) = Q := ⟨_, rfl⟩
  rw [hQ] at HN hr0 hr1
  have HR0 := Lib.hid hr0
  have HR1 := Lib.hid hr1
  clear hr0 hr1 hQ
  go_enter Try.func10, Try.ntmps10
  go_wp2_with fail
  refine HN.out.mono ?_
  rintro e w2 ⟨tb, g, m, base, cnt, blk, D, rfl, hlt, hsum, hb2, hbs, htb⟩
  have HLT := Lib.hid hlt
  have HSUM := Lib.hid hsum
  have HB2 := Lib.hid (HB.out.trans (hb2.mono HB.out.size))
  clear hlt hsum hb2 hbs htb
  go_wp2_with fail
  refine (qrow_in tb g m 1 cnt base 0 Q blk D _ w2 HLT.out (by decide) HR0.out).mono ?_
  rintro e w3 ⟨rfl, hb⟩
  have HLT3 := Lib.hid (HLT.out.below hb)
  have HB3 := Lib.hid (HB2.out.trans (hb.mono HB2.out.size))
  clear hb
  go_wp2_with fail
  refine (qrow_in tb g m 1 cnt base 1 Q blk D _ w3 HLT3.out (by decide) HR1.out).mono ?_
  rintro e w4 ⟨rfl, hb⟩
  have HLT4 := Lib.hid (HLT3.out.below hb)
  have HB4 := Lib.hid (HB3.out.trans (hb.mono HB3.out.size))
  clear hb
  go_wp2_with fail
  have HSZ := Lib.hid (qsize_any tb g m 1 cnt base Q blk D w4 HLT4.out (by decide) (by rw [HSUM.out]; decide))
  rw [HSUM.out] at HSZ
  refine HSZ.out.mono ?_
  rintro e w5 ⟨rfl, hb⟩
  have HLT5 := Lib.hid (HLT4.out.below hb)
  have HB5 := Lib.hid (HB4.out.trans (hb.mono HB4.out.size))
  clear hb
  go_wp2_with fail
  refine (qwidth_any tb g m 1 cnt base Q blk D w5 HLT5.out).mono ?_
  rintro e w' ⟨rfl, rfl⟩
  go_wp2
  go_ret
  exact ⟨rfl, HB5.out⟩
end Go.Proofs.Ytnobeipabfdkjaa
