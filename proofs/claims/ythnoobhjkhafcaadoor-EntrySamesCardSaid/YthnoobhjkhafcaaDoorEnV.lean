/- Layer 19: the example that goes there and back. -/
import Derived.Test.YthnoobhjkhafcaaDoorEnPl
namespace Go.Proofs.YthnoobhjkhafcaaDoor
open Go.RowKit CrcP FieldP

def memA : LM := ⟨⟨#[97]⟩, 1024, 1047, 0, 0, 0, 0⟩
theorem memA_B : memA.B = true := by decide
theorem memA_ok : ∀ m ∈ [memA], m.Ok := fun m hm => by
  obtain rfl : m = memA := by simpa using hm
  exact ⟨by decide, by decide, by decide, by decide, by decide⟩
theorem memA_all : allB [memA] = true := allB_of (by decide) (fun j hj => by
  obtain rfl : j = 0 := by simpa using hj
  exact ⟨memA, rfl, memA_B, fun p h => absurd h (by decide)⟩)

theorem Cells.of_blockE {w : World} {b B : Nat} {cs : Array Value} {t : TypeId} (h : w.heap[b]? = some (.cells cs t (0, 0))) (hB : b < B) : Cells w B (some ⟨b, 0, none⟩) cs.toList := fun _ => by
  refine ⟨b, 0, rfl, hB, fun j u hj => ?_⟩
  rw [Nat.zero_add, cell_of_row w b j _ _ _ h, ← Array.getElem?_toList]
  exact hj
set_option maxRecDepth 100000 in
set_option maxHeartbeats 2000000 in
theorem lives19_any (w : World) (hW : WidE w) : Calls Tryd.prog 8 #[] w fun e w' => e = .returned (.bool true) ∧ Below w.heap.size w w' := by
  have HW := Lib.hid hW
  have hw0 := hW.1
  obtain ⟨w0, hw0'⟩ : ∃ w0, w.alloc (.cells #[.string ⟨#[97]⟩, .int .i64 1024, .int .i64 1047, .int .i64 0, .int .i64 0, .int .u32 0, .int .i64 0] 34) = w0 := ⟨_, rfl⟩
  have HX0 : Hid (Box w0 w.heap.size #[.string ⟨#[97]⟩, .int .i64 1024, .int .i64 1047, .int .i64 0, .int .i64 0, .int .u32 0, .int .i64 0] 34) := by rw [← hw0']; exact heap_alloc_new w _
  have HB0 : Hid (Below w.heap.size w w0) := by rw [← hw0']; exact (Below.refl w.heap.size w).alloc (Nat.le_refl _) _
  have HB1 : Hid (Below w.heap.size w (w0.alloc (.cells #[.string ⟨#[97]⟩, .int .i64 1024, .int .i64 1047, .int .i64 0, .int .i64 0, .int .u32 0, .int .i64 0] 34))) := HB0.out.alloc HB0.out.size _
  have HC1 : Hid (Cells (w0.alloc (.cells #[.string ⟨#[97]⟩, .int .i64 1024, .int .i64 1047, .int .i64 0, .int .i64 0, .int .u32 0, .int .i64 0] 34)) (w0.heap.size + 1) (some ⟨w0.heap.size, 0, none⟩) (([memA].map LM.cells).flatten)) := Cells.of_blockE (heap_alloc_new w0 (.cells #[.string ⟨#[97]⟩, .int .i64 1024, .int .i64 1047, .int .i64 0, .int .i64 0, .int .u32 0, .int .i64 0] 34)) (Nat.lt_succ_self _)
  have HZ0 : Hid (w0.heap.size = w.heap.size + 1) := by show _ = _; rw [← hw0']; simp
  have HPT := Lib.hid (enPut_yes (some ⟨w0.heap.size, 0, none⟩) 1 1 [memA] (w0.heap.size + 1) (w0.alloc (.cells #[.string ⟨#[97]⟩, .int .i64 1024, .int .i64 1047, .int .i64 0, .int .i64 0, .int .u32 0, .int .i64 0] 34)) (hW.below HB1.out hw0 (by simp)) rfl memA_ok HC1.out (by simp) memA_all)
  have HR : Hid (rowsM [memA] = 19) := by show _ = _; rfl
  obtain ⟨ht1, ht2⟩ := tk_back memA_all memA_ok
  have HT1 : Hid (tkR (dirB [memA]) 1 = 0) := ht1
  have HT2 : Hid (rdL (dirB [memA]) ⟨0, false⟩ 1 = [memA]) := ht2
  have HDL : Hid ((dirB [memA]).length = 19) := by show _ = _; rw [dirB_length]; rfl
  rw [HR.out, HZ0.out] at HPT
  have HHW := Lib.hid hw0'
  clear hW ht1 ht2 hw0'
  go_enter Tryd.func8, Tryd.ntmps8
  go_wp2_with fail
  rw [HHW.out]
  refine HPT.out.mono ?_
  rintro e w2 ⟨A2, c2, rfl, hown, hbel⟩
  have HO2 := Lib.hid hown
  have HB2 := Lib.hid (HB1.out.trans (hbel.mono HB1.out.size))
  have HX2 := Lib.hid ((Box.alloc HX0.out (.cells #[.string ⟨#[97]⟩, .int .i64 1024, .int .i64 1047, .int .i64 0, .int .i64 0, .int .u32 0, .int .i64 0] 34)).below hbel (Box.alloc HX0.out _).lt)
  have hc2 : 19 ≤ c2 := own_cap hown
  have HTK := Lib.hid (enTake_in A2 19 c2 (dirB [memA]) w2.heap.size 1 w2 (HW.out.below HB2.out hw0 (by have := HB2.out.size; omega)) (by omega) HDL.out (by omega) hc2 hown.cells (Nat.le_refl _))
  clear hown hbel
  go_wp2_with fail
  refine HTK.out.mono ?_
  rintro e w3 ⟨hb, (⟨_, A3, c3, rfl, ho⟩ | ⟨hne, _⟩)⟩
  · have HB3 := Lib.hid (HB2.out.trans (hb.mono HB2.out.size))
    have HX3 := Lib.hid (HX2.out.below hb HX2.out.lt)
    rw [HT2.out] at ho
    obtain ⟨b, o, rfl, hbB, hcell⟩ := cells_of_own7 ho (by decide)
    have y0 : w3.cell? ⟨w.heap.size, 0, none⟩ = some (.string ⟨#[97]⟩) := HX3.out.cell 0
    have y1 : w3.cell? ⟨w.heap.size, 1, none⟩ = some (.int .i64 1024) := HX3.out.cell 1
    have y2 : w3.cell? ⟨w.heap.size, 2, none⟩ = some (.int .i64 1047) := HX3.out.cell 2
    have y3 : w3.cell? ⟨w.heap.size, 3, none⟩ = some (.int .i64 0) := HX3.out.cell 3
    have y4 : w3.cell? ⟨w.heap.size, 4, none⟩ = some (.int .i64 0) := HX3.out.cell 4
    have y5 : w3.cell? ⟨w.heap.size, 5, none⟩ = some (.int .u32 0) := HX3.out.cell 5
    have y6 : w3.cell? ⟨w.heap.size, 6, none⟩ = some (.int .i64 0) := HX3.out.cell 6
    have z0 : w3.cell? ⟨b, o, none⟩ = some (.string ⟨#[97]⟩) := hcell 0 _ rfl
    have z1 : w3.cell? ⟨b, o + 1, none⟩ = some (.int .i64 1024) := hcell 1 _ rfl
    have z2 : w3.cell? ⟨b, o + 2, none⟩ = some (.int .i64 1047) := hcell 2 _ rfl
    have z3 : w3.cell? ⟨b, o + 3, none⟩ = some (.int .i64 0) := hcell 3 _ rfl
    have z4 : w3.cell? ⟨b, o + 4, none⟩ = some (.int .i64 0) := hcell 4 _ rfl
    have z5 : w3.cell? ⟨b, o + 5, none⟩ = some (.int .u32 0) := hcell 5 _ rfl
    have z6 : w3.cell? ⟨b, o + 6, none⟩ = some (.int .i64 0) := hcell 6 _ rfl
    clear ho hcell hb
    go_wp2_with fail
    go_quiet (fail)
    go_wp2
    go_ret
    exact ⟨rfl, below_drewN HB3.out nq⟩
  · exact absurd HT1.out hne
end Go.Proofs.YthnoobhjkhafcaaDoor
