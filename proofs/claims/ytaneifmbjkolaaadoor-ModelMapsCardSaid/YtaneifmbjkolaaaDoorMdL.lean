/- Layer 25: leave of a model of nothing. -/
import Derived.Test.YtaneifmbjkolaaaDoorMdF
namespace Go.Proofs.YtaneifmbjkolaaaDoor
open Go.RowKit

theorem MB.leaveSet {W : World} {mb sb : Nat} (h : MB W mb sb) : MB ((W.alloc (.cells #[.bool false, .slice none 0 0] 52)).setCell ⟨mb, 0, none⟩ (.slice (some ⟨W.heap.size, 0, none⟩) 1 1)) mb W.heap.size :=
  have hA := h.below ((Below.refl _ W).alloc (Nat.le_refl _) (.cells #[.bool false, .slice none 0 0] 52))
  have hlt := (Array.getElem?_eq_some_iff.1 h.mod).1
  ⟨heap_setCell_same _ mb 0 _ _ _ hA.mod, (Below.heap_setCell _ _ _ _ (by show W.heap.size ≠ mb; omega)).trans (heap_alloc_new W _), by omega⟩
set_option maxRecDepth 100000 in
set_option maxHeartbeats 1000000 in
theorem leave25_7 (mb sb : Nat) (w : World) (h : MB w mb sb) : Calls Tryd.prog 32 #[.pointer (some ⟨mb, 0, none⟩), .agg #[.int .i64 2, .string ⟨#[]⟩, .slice none 0 0, .int .i64 0, .slice none 0 0, .int .i64 0, .int .u8 0], .agg #[.int .i64 7, .slice none 0 0, .int .i64 0, .slice none 0 0, .slice none 0 0, .bool false, .bool false]] w fun e w' => (∃ v, e = .returned v) ∧ (∃ sb', MB w' mb sb') ∧ ∀ n, n ≤ mb → Below n w w' := by
  go_enter Tryd.func32, Tryd.ntmps32
  go_upto_region 10 with fail
  obtain ⟨W3, hW3⟩ : ∃ W3, (w.alloc (.cells #[.int .i64 2, .string ⟨#[]⟩, .slice none 0 0, .int .i64 0, .slice none 0 0, .int .i64 0, .int .u8 0] 44)).alloc (.cells #[.int .i64 7, .slice none 0 0, .int .i64 0, .slice none 0 0, .slice none 0 0, .bool false, .bool false] 48) = W3 := ⟨_, rfl⟩
  have HB3 : Hid (Below w.heap.size w W3) := by show Below _ _ _; rw [← hW3]; exact ((Below.refl _ w).alloc (Nat.le_refl _) _).alloc (by simp) _
  have hm := h.below HB3.out
  have HM := Lib.hid hm
  have hlt : mb < w.heap.size := (Array.getElem?_eq_some_iff.1 h.mod).1
  have m0 := cell_of_row W3 mb 0 _ _ _ hm.mod
  have hne := World.new_ne W3 _ m0
  clear hm h
  rw [hW3]
  clear hW3
  have hA := HM.out.below ((Below.refl _ W3).alloc (Nat.le_refl _) (.cells #[.bool false, .slice none 0 0] 52))
  have HA := Lib.hid hA
  have a0 := cell_of_row _ mb 0 _ _ _ hA.mod
  have f0 := frozen_of_row _ mb 0 _ _ hA.mod
  clear hA
  go_wp2
  refine bodyPost_end (results_none rfl _ _ _) rfl ?_
  refine ⟨⟨_, rfl⟩, ⟨W3.heap.size, HM.out.leaveSet⟩, fun n hn => ?_⟩
  exact (((HB3.out.mono (by omega)).alloc (by have := HB3.out.size; omega) _).setCell hn _)
end Go.Proofs.YtaneifmbjkolaaaDoor
