/- The walk of CrcSums. -/
import Derived.Test.YtacfigopfgmdfaaCrcRef
import Derived.Test.YtacfigopfgmdfaaCrcTables
namespace Go.Proofs.Ytacfigopfgmdfaa
open Go.RowKit CrcP

set_option maxRecDepth 100000 in
set_option maxHeartbeats 400000 in
theorem sums_walk (n : Int) (A : Option Addr) (l c : Nat) (w : World) (bs : List UInt8) (h0 : 0 ≤ n) (h1 : n < 4294967296) (hl : bs.length = l) (hm : l ≤ 9223372036854775807) (hbs : Bytes w w.heap.size A bs) :
    Calls Try.prog 4 #[.int .u32 n, .slice A l c] w fun e w' => e = .returned (.bool true) ∧ Below w.heap.size w w' := by
  by_cases hbig : 3000 < l
  · have hbi : (3000 : Int) < (l : Int) := by omega
    clear hbs hl
    go_enter Try.func4, Try.ntmps4
    go_wp2_with (go_at_call 13; refine (lives_any _).mono ?_; rintro e w4 ⟨rfl, hb4⟩; have HB4 := Lib.hid hb4; clear hb4)
    go_ret
    exact ⟨rfl, HB4.out⟩
  have hbi : ¬ (3000 : Int) < (l : Int) := by omega
  obtain ⟨m, rfl⟩ := Int.eq_ofNat_of_zero_le h0
  have hz := (zero_of_info tableInfo).1
  have HSZ := Lib.hid tableSize
  have HL := Lib.hid hl
  have HBS : Hid (Bytes w w.heap.size A bs) := hbs
  clear hl hbs
  go_enter Try.func4, Try.ntmps4
  go_wp2_with fail
  refine (make_any _).mono ?_
  rintro e w1 ⟨rfl, hb⟩
  have HG := Lib.hid (heap_alloc_last w1 (.cells (Array.replicate 256 (.int .u32 0)) 25))
  have HB := Lib.hid hb
  clear hb
  go_wp2_with (refine wpList_store_row rfl 25 _ _ rfl w1.heap.size tabCells rfl rfl 25 _ HG.out HSZ.out (by rw [Array.size_replicate, tabCells_size]) tabCells_one ?_; rw [World.setRow_alloc_new])
  have HTB := Lib.hid (table_new w1)
  have HB2 := Lib.hid (HB.out.alloc HB.out.size (.cells tabCells 25))
  generalize hw2 : w1.alloc (.cells tabCells 25) = w2 at *
  clear hz hw2 HG HSZ HB
  have HBS2 := Lib.hid (HBS.out.below HB2.out (Nat.le_refl _))
  clear HBS
  refine (go_any w1.heap.size _ _ _ _ bs _ _ (by omega) (by omega) HL.out hm HTB.out HBS2.out).mono ?_
  rintro e w' ⟨rfl, rfl⟩
  rw [Int.toNat_natCast]
  have hga : goN m bs < 4294967296 := goN_lt bs (by omega)
  have HRG := Lib.hid (refGo_any m A l c bs _ w2 (by omega) (by omega) HL.out hm HBS2.out)
  rw [Int.toNat_natCast] at HRG
  generalize goN m bs = a at *
  go_wp2_with fail
  refine HRG.out.mono ?_
  rintro e w' ⟨rfl, rfl⟩
  go_wp2_with fail
  refine (sum_any w1.heap.size _ _ _ bs _ _ HL.out hm HTB.out HBS2.out).mono ?_
  rintro e w' ⟨rfl, rfl⟩
  have HRS := Lib.hid (refSum_any A l c bs _ w2 HL.out hm HBS2.out)
  generalize sumN bs = d at *
  go_wp2_with fail
  refine HRS.out.mono ?_
  rintro e w' ⟨rfl, rfl⟩
  go_wp2_with fail
  refine (lives_any _).mono ?_
  rintro e w4 ⟨rfl, hb4⟩
  have HB4 := Lib.hid (HB2.out.trans (hb4.mono HB2.out.size))
  clear hb4
  go_wp2
  go_ret
  exact ⟨rfl, HB4.out⟩
end Go.Proofs.Ytacfigopfgmdfaa
