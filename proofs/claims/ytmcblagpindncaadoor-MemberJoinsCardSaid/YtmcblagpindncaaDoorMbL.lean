/- Layer 15: the chapter's example. -/
import Derived.Test.YtmcblagpindncaaDoorMbK
namespace Go.Proofs.YtmcblagpindncaaDoor
open Go.RowKit

theorem lives15_plain : sortB ((sortB (inS ⟨#[97]⟩ [[97, 47, 98], [97, 47, 99, 47, 100]])).map (childT ⟨#[97]⟩)) = [[98], [99]] := by kernel_rfl
set_option maxHeartbeats 1000000 in
theorem lives15_any (w : World) : Calls Tryd.prog 7 #[] w fun e w' => e = .returned (.bool true) ∧ Below w.heap.size w w' := by
  obtain ⟨W1, hW1⟩ : ∃ W1, w.alloc (.cells #[.string ⟨#[97, 47, 98]⟩, .string ⟨#[97, 47, 99, 47, 100]⟩] 9) = W1 := ⟨_, rfl⟩
  have HB1 : Hid (Below w.heap.size w W1) := by show Below _ _ _; rw [← hW1]; exact (Below.refl _ w).alloc (Nat.le_refl _) _
  have hx1 : W1.heap[w.heap.size]? = some (.cells #[.string ⟨#[97, 47, 98]⟩, .string ⟨#[97, 47, 99, 47, 100]⟩] 9) := by rw [← hW1]; exact heap_alloc_new w _
  have HC : Hid (Cells W1 W1.heap.size (some ⟨w.heap.size, 0, none⟩) (textCells [[97, 47, 98], [97, 47, 99, 47, 100]])) := fun _ =>
    ⟨w.heap.size, 0, rfl, (Array.getElem?_eq_some_iff.1 hx1).1, fun j u hu => by
      rw [Nat.zero_add, cell_of_row W1 _ j _ _ _ hx1, ← Array.getElem?_toList]
      exact hu⟩
  have HCH := Lib.hid (childrenM_any (some ⟨w.heap.size, 0, none⟩) 2 2 [[97, 47, 98], [97, 47, 99, 47, 100]] ⟨#[97]⟩ W1.heap.size W1 rfl (by omega) HC.out (Nat.le_refl _) (by decide) (by decide))
  rw [lives15_plain] at HCH
  clear hx1
  go_enter Tryd.func7, Tryd.ntmps7
  go_wp2_with fail
  try rw [hW1]
  refine HCH.out.mono ?_
  rintro e w2 ⟨A', c', rfl, ho, hbel⟩
  obtain ⟨b, o, rfl, _, hcc⟩ := textCells_own ho (by decide)
  have c0 := hcc 0 _ rfl
  have c1 := hcc 1 _ rfl
  have HB2 := Lib.hid (HB1.out.trans (hbel.mono HB1.out.size))
  rw [Nat.add_zero] at c0
  clear hcc ho hbel hW1
  go_wp2
  go_ret
  exact ⟨rfl, HB2.out⟩
end Go.Proofs.YtmcblagpindncaaDoor
