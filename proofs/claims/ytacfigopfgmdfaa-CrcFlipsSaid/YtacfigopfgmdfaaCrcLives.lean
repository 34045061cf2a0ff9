/- The contract of lives: the chapter's example; it answers true, and changes nothing that was there. -/
import Derived.Test.YtacfigopfgmdfaaCrcGo
import Derived.Lib.SmallJoins
namespace Go.Proofs.Ytacfigopfgmdfaa
open Go.RowKit CrcP

theorem table_new (w : World) : Table (w.alloc (.cells tabCells 25)) w.heap.size := heap_alloc_last w _
theorem Table.alloc {w : World} {g : Nat} (h : Table w g) (o : Obj) : Table (w.alloc o) g := by
  unfold Table at h ⊢
  rw [Below.heap_alloc w o g (Array.getElem?_eq_some_iff.1 h).1]
  exact h
theorem Table.below {w w' : World} {g B : Nat} (h : Table w g) (hb : Below B w w') (hg : g < B) : Table w' g := (hb.block g hg).trans h
theorem Table.lt {w : World} {g : Nat} (h : Table w g) : g < w.heap.size := (Array.getElem?_eq_some_iff.1 h).1

theorem tableSize : (Try.prog.info? 25).map (·.size) = some tabCells.size := by
  rw [tabCells_size]
  exact (zero_of_info tableInfo).2

set_option maxRecDepth 100000 in
set_option maxHeartbeats 1000000 in
theorem lives_any (w : World) : Calls Try.prog 13 #[] w fun e w' => e = .returned (.bool true) ∧ Below w.heap.size w w' := by
  have hz := (zero_of_info tableInfo).1
  have HSZ := Lib.hid tableSize
  go_enter Try.func13, Try.ntmps13
  go_wp2_with fail
  refine (make_any _).mono ?_
  rintro e w1 ⟨rfl, hb⟩
  have HG := Lib.hid (heap_alloc_last w1 (.cells (Array.replicate 256 (.int .u32 0)) 25))
  have HB := Lib.hid hb
  clear hb
  have kc := fun (C : Array Value) (n c : Nat) => Joins.run_convert_bytes_const_at (P := Try.prog) (w1.alloc (.cells tabCells 25)) 22 5 C n c (w1.heap.size + 1) (by simp) Try.underlying22 Try.underlying5
  go_wp2_with (refine wpList_store_row rfl 25 _ _ rfl w1.heap.size tabCells rfl rfl 25 _ HG.out HSZ.out (by rw [Array.size_replicate, tabCells_size]) tabCells_one ?_; rw [World.setRow_alloc_new])
  refine (sum_any w1.heap.size _ _ _ [49, 50, 51, 52, 53, 54, 55, 56, 57] (w1.heap.size + 2) _ rfl (by simp) ((table_new w1).alloc _) ?_).mono ?_
  · exact bytes_new _ _ _ _ _ (by simp) _ _ (by simp) (by omega)
  rintro e w' ⟨rfl, rfl⟩
  rw [sum_example]
  go_wp2
  go_ret
  exact ⟨rfl, ((HB.out.alloc HB.out.size _).alloc (by simp; have := HB.out.size; omega) _)⟩
end Go.Proofs.Ytacfigopfgmdfaa
