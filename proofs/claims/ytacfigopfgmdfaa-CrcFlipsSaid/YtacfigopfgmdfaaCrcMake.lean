/- The contract of Make: the table's 256 numbers, by value; two new blocks. -/
import Derived.Test.YtacfigopfgmdfaaCrcLeaf
namespace Go.Proofs.Ytacfigopfgmdfaa
open Go.RowKit CrcP

/-- The table's cells, as far as it is made: the first k numbers, and 0 behind them. -/
def tabUpto (k : Nat) : Array Value := ((List.range 256).map fun i => Value.int .u32 ((if i < k then tabAt i else 0 : Nat) : Int)).toArray
/-- The table's cells. -/
def tabCells : Array Value := ((List.range 256).map fun i => Value.int .u32 (tabAt i : Int)).toArray

theorem tabUpto_size (k : Nat) : (tabUpto k).size = 256 := by simp [tabUpto]
theorem tabCells_size : tabCells.size = 256 := by simp [tabCells]
theorem tabUpto_zero : Array.replicate 256 (Value.int .u32 0) = tabUpto 0 := by
  apply Array.ext_getElem?
  intro i
  unfold tabUpto
  by_cases h : i < 256
  · simp [h]
  · simp [h]
theorem tabUpto_all : tabUpto 256 = tabCells := by
  unfold tabUpto tabCells
  rw [List.map_congr_left (l := List.range 256) (g := fun i => Value.int .u32 (tabAt i : Int))]
  intro i hi
  rw [if_pos (List.mem_range.1 hi)]
theorem tabUpto_set (k : Nat) (h : k < 256) : (tabUpto k).setIfInBounds k (.int .u32 (tabAt k : Int)) = tabUpto (k + 1) := by
  apply Array.ext_getElem?
  intro i
  rw [Array.getElem?_setIfInBounds, tabUpto_size]
  unfold tabUpto
  by_cases hi : k = i
  · subst hi
    simp [h]
  · by_cases h2 : i < 256
    · by_cases h3 : i < k
      · have : i < k + 1 := by omega
        simp [hi, h2, h3, this]
      · have : ¬ i < k + 1 := by omega
        simp [hi, h2, h3, this]
    · simp [hi, h2]
theorem tabUpto_here (k : Nat) (h : k < 256) : (tabUpto k)[k]? = some (Value.int .u32 0) := by
  unfold tabUpto
  simp [h]
theorem tabCells_at (i : Nat) (h : i < 256) : tabCells[i]? = some (.int .u32 (tabAt i : Int)) := by
  unfold tabCells
  simp [h]
theorem tabCells_one : tabCells.all (·.oneCell') = true := by
  rw [Array.all_eq_true_iff_forall_mem]
  intro v hv
  unfold tabCells at hv
  simp at hv
  obtain ⟨i, _, rfl⟩ := hv
  rfl

theorem tableInfo : (Try.prog.info? 25).map (fun i => (i.zero, i.size)) = some (some (.agg (Array.replicate 256 (.int .u32 0))), 256) := by kernel_rfl

theorem below_setRow {B : Nat} {a w : World} (h : Below B a w) {g : Nat} (hg : B ≤ g) (cs : Array Value) : Below B a (w.setRow g cs) :=
  h.trans ⟨rfl, rfl, rfl, by simp, fun k hk => by
    simp only [World.setRow, Array.getElem?_modify]
    rw [if_neg (by omega)]⟩

set_option maxHeartbeats 1000000 in
set_option maxRecDepth 100000 in
theorem make_any (w : World) :
    Calls Try.prog 8 #[] w fun e w' => e = .returned (.agg tabCells) ∧ Below w.heap.size w w' := by
  obtain ⟨hz, hi⟩ := zero_of_info tableInfo
  have HI := Lib.hid hi
  clear hi
  go_enter Try.func8, Try.ntmps8
  go_wp2
  rw [tabUpto_zero]
  clear hz
  go_loopw [4] (fun i wx => ∃ k : Nat, k ≤ 256 ∧ i = .int .i64 k ∧ wx = (w.alloc (.cells (tabUpto 0) 25)).alloc (.cells (tabUpto k) 25)) (fun i _ => 256 - (intOf i).toNat)
  case atStart => exact ⟨0, by omega, rfl, rfl⟩
  case round =>
    obtain ⟨k, hk, rfl, rfl⟩ := hrel
    by_cases hlt : k < 256
    · have HSET := Lib.hid (tabUpto_set k hlt)
      have hd : decide ((k : Int) < 256) = true := by simp; omega
      have hg := tabUpto_here k hlt
      go_wp2
      go_loop [3, 9] (fun n j => ∃ q : Nat, q ≤ 8 ∧ j = .int .i64 q ∧ n = .int .u32 (turns q k : Nat)) (fun _ j => 8 - (intOf j).toNat)
      case atStart => exact ⟨0, by omega, rfl, rfl⟩
      case round =>
        obtain ⟨q, hq, rfl, rfl⟩ := hrel
        have hl : turns q k < 4294967296 := turns_lt (by omega) q
        have HS : Hid (turns (q + 1) k = turn (turns q k)) := rfl
        have HT : Hid (8 = q → turns q k = tabAt k) := fun h => by subst h; rfl
        generalize turns q k = a at *
        by_cases hq8 : q < 8
        · go_wp2_with (go_at_call 19; refine (turn_any _ _ (by omega) (by omega)).mono ?_; rintro e w' ⟨rfl, rfl⟩; rw [Int.toNat_natCast])
          go_round
          case rel => exact ⟨q + 1, by omega, by go_num, by rw [HS.out]⟩
          case measure => simp [intOf]; omega
        · obtain rfl : q = 8 := by omega
          have hta := HT.out rfl
          subst hta
          clear HT HS
          go_wp2
          go_roundw
          case rel => exact ⟨k + 1, by omega, by go_num, by rw [HSET.out]⟩
          case measure => simp [intOf]; omega
    · obtain rfl : k = 256 := by omega
      rw [tabUpto_all]
      have HG1 := Lib.hid (heap_alloc2_new w (.cells (tabUpto 0) 25) (.cells tabCells 25))
      have HG0 := Lib.hid (heap_alloc2_old w (.cells (tabUpto 0) 25) (.cells tabCells 25))
      have HSZ : (Try.prog.info? 25).map (·.size) = some tabCells.size := by rw [tabCells_size]; exact HI.out
      have HSZ' := Lib.hid HSZ
      clear HSZ
      go_wp2_with (first | (refine wpList_load_row rfl 25 _ rfl (w.heap.size + 1) rfl 25 tabCells (0, 0) _ HG1.out Try.underlying25 rfl HSZ'.out ?_) | (refine wpList_store_row rfl 25 _ _ rfl w.heap.size tabCells rfl rfl 25 (tabUpto 0) HG0.out HSZ'.out (by rw [tabUpto_size, tabCells_size]) tabCells_one ?_))
      refine bodyPost_ret (v := .agg tabCells) ?_ rfl ⟨rfl, below_setRow (((Below.refl _ _).alloc (Nat.le_refl _) _).alloc (by simp) _) (Nat.le_refl _) _⟩
      exact results_cell_row rfl _ _ w.heap.size 25 tabCells (0, 0) _ rfl (setRow_heap _ _ _ _ _ _ HG0.out) Try.underlying25 rfl HSZ'.out
end Go.Proofs.Ytacfigopfgmdfaa
