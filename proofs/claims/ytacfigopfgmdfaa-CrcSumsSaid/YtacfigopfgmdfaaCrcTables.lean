/- The walk of CrcTables. -/
import Derived.Test.YtacfigopfgmdfaaCrcLives
import Derived.StillTailTactics
namespace Go.Proofs.Ytacfigopfgmdfaa
open Go.RowKit CrcP

theorem still_of {P : Program} {f : FuncId} {args : Array Value} {w : World} {v : Value} (h : Calls P f args w fun e w' => e = .returned v ∧ w = w') :
    Calls P f args w fun e w' => e = .returned v ∧ w' = w := h.mono fun _ _ hh => ⟨hh.1, hh.2.symm⟩

set_option maxRecDepth 100000 in
set_option maxHeartbeats 400000 in
theorem tables_walk (i : Int) (A : Option Addr) (l c : Nat) (w : World) (h0 : 0 ≤ i) (h1 : i < 256) :
    Calls Try.prog 3 #[.int .u8 i, .slice A l c] w fun e w' => e = .returned (.bool true) ∧ Below w.heap.size w w' := by
  obtain ⟨m, rfl⟩ := Int.eq_ofNat_of_zero_le h0
  have hm : m < 256 := by omega
  have hz := (zero_of_info tableInfo).1
  have HSZ := Lib.hid tableSize
  go_enter Try.func3, Try.ntmps3
  go_wp2_with fail
  refine (make_any _).mono ?_
  rintro e w1 ⟨rfl, hb⟩
  have HG := Lib.hid (heap_alloc_last w1 (.cells (Array.replicate 256 (.int .u32 0)) 25))
  have HB := Lib.hid hb
  clear hb
  go_wp2_with (refine wpList_store_row rfl 25 _ _ rfl w1.heap.size tabCells rfl rfl 25 _ HG.out HSZ.out (by rw [Array.size_replicate, tabCells_size]) tabCells_one ?_; rw [World.setRow_alloc_new])
  have ht := (table_new w1).at_ m hm
  have HC : Hid (∀ W : World, Calls Try.prog 9 #[.int .u32 (m : Int), .int .i64 8] W fun e w' => e = .returned (.int .u32 (tabAt m : Nat)) ∧ w' = W) := fun W => still_of (refTurns_any (m : Int) 8 W (by omega) (by omega) (by omega) (by omega))
  have hw32 : IntKind.u32.wrap (m : Int) = (m : Int) := IntWalk.u32_in _ (by omega)
  have HB2 := Lib.hid (HB.out.alloc HB.out.size (.cells tabCells 25))
  generalize hw2 : w1.alloc (.cells tabCells 25) = w2 at *
  generalize tabAt m = a at *
  clear hz hw2
  go_still_tail 27, (by kernel_rfl)
  still_call (HC.out _)
  repeat still_step
  still_call (still_of (go_nil _ _ _))
  repeat still_step
  still_call (still_of (sum_nil _ _))
  repeat still_step
  still_call (still_of (join_nil _ _ _))
  repeat still_step
  refine wpStill_nil ?_
  change wpList _ _ _ _ _ w2.drew
  have HB3 := Lib.hid HB2.out.drew
  generalize w2.drew = w3 at *
  clear ht HB2 HB HG
  go_wp2_with fail
  refine (lives_any _).mono ?_
  rintro e w4 ⟨rfl, hb4⟩
  have HB4 := Lib.hid (HB3.out.trans (hb4.mono HB3.out.size))
  clear hb4
  go_wp2
  go_ret
  exact ⟨rfl, HB4.out⟩

end Go.Proofs.Ytacfigopfgmdfaa
