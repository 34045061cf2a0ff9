/- Layer 25: Step of a model of nothing, taken and not. -/
import Derived.Test.YtaneifmbjkolaaaDoorMdL
namespace Go.Proofs.YtaneifmbjkolaaaDoor
open Go.RowKit

set_option maxRecDepth 100000 in
set_option maxHeartbeats 1000000 in
theorem step25_0 (mb sb : Nat) (w : World) (h : MB w mb sb) : Calls Tryd.prog 19 #[.pointer (some ⟨mb, 0, none⟩), .agg #[.int .i64 2, .string ⟨#[]⟩, .slice none 0 0, .int .i64 0, .slice none 0 0, .int .i64 0, .int .u8 0], .agg #[.int .i64 0, .slice none 0 0, .int .i64 0, .slice none 0 0, .slice none 0 0, .bool false, .bool false]] w fun e w' => e = .returned (.bool false) ∧ MB w' mb sb ∧ Below w.heap.size w w' := by
  go_enter Tryd.func19, Tryd.ntmps19
  have HB3 : Hid (Below w.heap.size w ((w.alloc (.cells #[.int .i64 2, .string ⟨#[]⟩, .slice none 0 0, .int .i64 0, .slice none 0 0, .int .i64 0, .int .u8 0] 44)).alloc (.cells #[.int .i64 0, .slice none 0 0, .int .i64 0, .slice none 0 0, .slice none 0 0, .bool false, .bool false] 48))) := ((Below.refl _ w).alloc (Nat.le_refl _) _).alloc (by simp) _
  have HF := Lib.hid (fits25_0 mb sb _ (h.below HB3.out))
  have HM0 := Lib.hid h
  clear h
  go_wp2_with (go_at_call 31; refine HF.out.mono ?_; rintro e w5 ⟨rfl, hb⟩; have HB5 : Hid (Below w.heap.size w w5) := HB3.out.trans (hb.mono HB3.out.size); clear hb)
  go_ret
  exact ⟨rfl, HM0.out.below HB5.out, HB5.out⟩
set_option maxRecDepth 100000 in
set_option maxHeartbeats 1000000 in
theorem step25_7 (mb sb : Nat) (w : World) (h : MB w mb sb) : Calls Tryd.prog 19 #[.pointer (some ⟨mb, 0, none⟩), .agg #[.int .i64 2, .string ⟨#[]⟩, .slice none 0 0, .int .i64 0, .slice none 0 0, .int .i64 0, .int .u8 0], .agg #[.int .i64 7, .slice none 0 0, .int .i64 0, .slice none 0 0, .slice none 0 0, .bool false, .bool false]] w fun e w' => e = .returned (.bool true) ∧ (∃ sb', MB w' mb sb') ∧ ∀ n, n ≤ mb → Below n w w' := by
  obtain ⟨p, hp⟩ : ∃ p, w.heap.size = p := ⟨_, rfl⟩
  have HP := Lib.hid hp
  clear hp
  go_enter Tryd.func19, Tryd.ntmps19
  have HB3 : Hid (Below w.heap.size w ((w.alloc (.cells #[.int .i64 2, .string ⟨#[]⟩, .slice none 0 0, .int .i64 0, .slice none 0 0, .int .i64 0, .int .u8 0] 44)).alloc (.cells #[.int .i64 7, .slice none 0 0, .int .i64 0, .slice none 0 0, .slice none 0 0, .bool false, .bool false] 48))) := ((Below.refl _ w).alloc (Nat.le_refl _) _).alloc (by simp) _
  have HX1 : Hid (((w.alloc (.cells #[.int .i64 2, .string ⟨#[]⟩, .slice none 0 0, .int .i64 0, .slice none 0 0, .int .i64 0, .int .u8 0] 44)).alloc (.cells #[.int .i64 7, .slice none 0 0, .int .i64 0, .slice none 0 0, .slice none 0 0, .bool false, .bool false] 48)).heap[w.heap.size]? = some (.cells #[.int .i64 2, .string ⟨#[]⟩, .slice none 0 0, .int .i64 0, .slice none 0 0, .int .i64 0, .int .u8 0] 44 (0, 0))) := (Below.heap_alloc _ _ _ (by simp)).trans (heap_alloc_new w _)
  have HX2 : Hid (((w.alloc (.cells #[.int .i64 2, .string ⟨#[]⟩, .slice none 0 0, .int .i64 0, .slice none 0 0, .int .i64 0, .int .u8 0] 44)).alloc (.cells #[.int .i64 7, .slice none 0 0, .int .i64 0, .slice none 0 0, .slice none 0 0, .bool false, .bool false] 48)).heap[w.heap.size + 1]? = some (.cells #[.int .i64 7, .slice none 0 0, .int .i64 0, .slice none 0 0, .slice none 0 0, .bool false, .bool false] 48 (0, 0))) := by
    have h1 := heap_alloc_new (w.alloc (.cells #[.int .i64 2, .string ⟨#[]⟩, .slice none 0 0, .int .i64 0, .slice none 0 0, .int .i64 0, .int .u8 0] 44)) (.cells #[.int .i64 7, .slice none 0 0, .int .i64 0, .slice none 0 0, .slice none 0 0, .bool false, .bool false] 48)
    rw [World.size_alloc] at h1
    exact h1
  have HF := Lib.hid (fits25_7 mb sb _ (h.below HB3.out))
  have HM0 := Lib.hid h
  clear h
  go_upto_region 3 with (go_at_call 31; refine HF.out.mono ?_; rintro e w5 ⟨rfl, hb⟩; have HB := Lib.hid hb; have HB5 : Hid (Below w.heap.size w w5) := HB3.out.trans (hb.mono HB3.out.size); clear hb)
  have HX5 := Lib.hid ((HB.out.block w.heap.size (by simp; omega)).trans HX1.out)
  have HY5 := Lib.hid ((HB.out.block (w.heap.size + 1) (by simp)).trans HX2.out)
  have HM5 := Lib.hid (HM0.out.below HB5.out)
  have HS5 : Hid (w.heap.size + 2 ≤ w5.heap.size) := by show _ ≤ _; have := HB.out.size; simp at this; omega
  have m0 := cell_of_row w5 mb 0 _ _ _ HM5.out.mod
  have m1 := cell_of_row w5 mb 1 _ _ _ HM5.out.mod
  have m2 := cell_of_row w5 mb 2 _ _ _ HM5.out.mod
  have m3 := cell_of_row w5 mb 3 _ _ _ HM5.out.mod
  have m4 := cell_of_row w5 mb 4 _ _ _ HM5.out.mod
  have m5 := cell_of_row w5 mb 5 _ _ _ HM5.out.mod
  have m6 := cell_of_row w5 mb 6 _ _ _ HM5.out.mod
  go_upto_region 4 with fail
  obtain ⟨q, hq⟩ : ∃ q, w5.heap.size = q := ⟨_, rfl⟩
  obtain ⟨W6, hW6⟩ : ∃ W6, w5.alloc (.cells #[.slice (some ⟨sb, 0, none⟩) 1 1, .bool false, .slice none 0 0, .bool false, .string ⟨#[]⟩, .slice none 0 0, .bool false] 65) = W6 := ⟨_, rfl⟩
  rw [hW6]
  have HB6 : Hid (Below q w5 W6) := by show Below _ _ _; rw [← hW6, ← hq]; exact (Below.refl _ w5).alloc (Nat.le_refl _) _
  have HQ6 : Hid (q + 1 ≤ W6.heap.size) := by show _ ≤ _; rw [← hW6, ← hq]; simp
  have hlt : mb < q ∧ sb < q := by rw [← hq]; exact ⟨(Array.getElem?_eq_some_iff.1 HM5.out.mod).1, (Array.getElem?_eq_some_iff.1 HM5.out.st).1⟩
  have HMQ : Hid (MB W6 q sb) := by
    show MB _ _ _
    refine ⟨?_, (HB6.out.block sb hlt.2).trans HM5.out.st, by omega⟩
    rw [← hW6, ← hq]
    exact heap_alloc_new w5 _
  have HL := Lib.hid (leave25_7 q sb W6 HMQ.out)
  have HSq : Hid (w.heap.size + 2 ≤ q) := by show _ ≤ _; rw [← hq]; exact HS5.out
  clear hW6
  have hx6 := (HB6.out.block w.heap.size (by have := HSq.out; omega)).trans HX5.out
  have hy6 := (HB6.out.block (w.heap.size + 1) (by have := HSq.out; omega)).trans HY5.out
  have x0 := cell_of_row W6 w.heap.size 0 _ _ _ hx6
  have x1 := cell_of_row W6 w.heap.size 1 _ _ _ hx6
  have x2 := cell_of_row W6 w.heap.size 2 _ _ _ hx6
  have x3 := cell_of_row W6 w.heap.size 3 _ _ _ hx6
  have x4 := cell_of_row W6 w.heap.size 4 _ _ _ hx6
  have x5 := cell_of_row W6 w.heap.size 5 _ _ _ hx6
  have x6 := cell_of_row W6 w.heap.size 6 _ _ _ hx6
  have y0 := cell_of_row W6 (w.heap.size + 1) 0 _ _ _ hy6
  have y1 := cell_of_row W6 (w.heap.size + 1) 1 _ _ _ hy6
  have y2 := cell_of_row W6 (w.heap.size + 1) 2 _ _ _ hy6
  have y3 := cell_of_row W6 (w.heap.size + 1) 3 _ _ _ hy6
  have y4 := cell_of_row W6 (w.heap.size + 1) 4 _ _ _ hy6
  have y5 := cell_of_row W6 (w.heap.size + 1) 5 _ _ _ hy6
  have y6 := cell_of_row W6 (w.heap.size + 1) 6 _ _ _ hy6
  rw [hq]
  clear hx6 hy6
  go_upto_region 5 with (go_at_call 32; refine HL.out.mono ?_; rintro e w7 ⟨⟨v, rfl⟩, ⟨sb7, hm7⟩, hb7⟩; have HM7 := Lib.hid hm7; have HB7 := Lib.hid hb7; clear hm7 hb7)
  have hm7 : w7.heap[mb]? = some (.cells #[.slice (some ⟨sb, 0, none⟩) 1 1, .bool false, .slice none 0 0, .bool false, .string ⟨#[]⟩, .slice none 0 0, .bool false] 65 (0, 0)) := ((HB7.out q (Nat.le_refl _)).block mb hlt.1).trans ((HB6.out.block mb hlt.1).trans HM5.out.mod)
  have hy7 := ((HB7.out q (Nat.le_refl _)).block (w.heap.size + 1) (by have := HSq.out; omega)).trans ((HB6.out.block (w.heap.size + 1) (by have := HSq.out; omega)).trans HY5.out)
  have k6 := cell_of_row w7 (w.heap.size + 1) 6 _ _ _ hy7
  have n0 := cell_of_row w7 q 0 _ _ _ HM7.out.mod
  have n1 := cell_of_row w7 q 1 _ _ _ HM7.out.mod
  have n2 := cell_of_row w7 q 2 _ _ _ HM7.out.mod
  have n3 := cell_of_row w7 q 3 _ _ _ HM7.out.mod
  have n4 := cell_of_row w7 q 4 _ _ _ HM7.out.mod
  have n5 := cell_of_row w7 q 5 _ _ _ HM7.out.mod
  have n6 := cell_of_row w7 q 6 _ _ _ HM7.out.mod
  have b0 := cell_of_row w7 mb 0 _ _ _ hm7
  have b1 := cell_of_row w7 mb 1 _ _ _ hm7
  have b2 := cell_of_row w7 mb 2 _ _ _ hm7
  have b3 := cell_of_row w7 mb 3 _ _ _ hm7
  have b4 := cell_of_row w7 mb 4 _ _ _ hm7
  have b5 := cell_of_row w7 mb 5 _ _ _ hm7
  have b6 := cell_of_row w7 mb 6 _ _ _ hm7
  have f0 := frozen_of_row w7 mb 0 _ _ hm7
  have f1 := frozen_of_row w7 mb 1 _ _ hm7
  have f2 := frozen_of_row w7 mb 2 _ _ hm7
  have f3 := frozen_of_row w7 mb 3 _ _ hm7
  have f4 := frozen_of_row w7 mb 4 _ _ hm7
  have f5 := frozen_of_row w7 mb 5 _ _ hm7
  have f6 := frozen_of_row w7 mb 6 _ _ hm7
  have HM8 := Lib.hid hm7
  clear hm7 hy7 x0 x1 x2 x3 x4 x5 x6 y0 y1 y2 y3 y4 y5 y6 m0 m1 m2 m3 m4 m5 m6
  go_wp2
  go_ret
  have hne : sb7 ≠ mb := fun hh => by
    have h1 := HM7.out.st
    rw [hh, HM8.out] at h1
    simp at h1
  have hlt0 : mb < w.heap.size := (Array.getElem?_eq_some_iff.1 HM0.out.mod).1
  refine ⟨rfl, ⟨sb7, ?_, ?_, fun hh => hne hh.symm⟩, fun n hn => ?_⟩
  · have g0 := HM8.out
    have g1 := heap_setCell_same _ mb 0 _ _ (.slice (some ⟨sb7, 0, none⟩) 1 1) g0
    have g2 := heap_setCell_same _ mb 1 _ _ (.bool false) g1
    have g3 := heap_setCell_same _ mb 2 _ _ (.slice none 0 0) g2
    have g4 := heap_setCell_same _ mb 3 _ _ (.bool false) g3
    have g5 := heap_setCell_same _ mb 4 _ _ (.string ⟨#[]⟩) g4
    have g6 := heap_setCell_same _ mb 5 _ _ (.slice none 0 0) g5
    have g7 := heap_setCell_same _ mb 6 _ _ (.bool false) g6
    exact g7
  · exact (Below.heap_setCell _ _ _ _ hne).trans ((Below.heap_setCell _ _ _ _ hne).trans ((Below.heap_setCell _ _ _ _ hne).trans ((Below.heap_setCell _ _ _ _ hne).trans ((Below.heap_setCell _ _ _ _ hne).trans ((Below.heap_setCell _ _ _ _ hne).trans ((Below.heap_setCell _ _ _ _ hne).trans (HM7.out.st)))))))
  · exact ((((((((((HB5.out.mono (by omega)).trans (HB6.out.mono (by omega))).trans (HB7.out n (by omega)))).setCell hn _).setCell hn _).setCell hn _).setCell hn _).setCell hn _).setCell hn _).setCell hn _
end Go.Proofs.YtaneifmbjkolaaaDoor
