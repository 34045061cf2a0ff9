/- Layer 18: the chapter's example: the descriptor of a payload of no pieces. -/
import Derived.Test.YtnccbnadfgilaaaDcPo
import Derived.Test.YtnccbnadfgilaaaKSum
namespace Go.Proofs.Ytnccbnadfgilaaa
open Go.RowKit CrcP FieldP
attribute [local go_sem ↓] Go.wp_at_zero Go.wp_at_succ

set_option maxRecDepth 100000 in
set_option maxHeartbeats 1000000 in
theorem dcOf_zz (tg : Nat) (A : Option Addr) (c B : Nat) (w : World) (hT : Table w tg) (hc : 2 ≤ c) (hb : Bytes w B A [0, 0]) (hB : B ≤ w.heap.size) :
    Calls Try.prog 13 #[.pointer (some ⟨tg, 0, none⟩), .slice A 2 c] w fun e w' => e = .returned (.tuple #[.agg #[.int .i64 0, .int .i64 2, .int .u32 (sumN [0, 0] : Nat)], .int .i64 0]) ∧ Below w.heap.size w w' := by
  have HT : Hid (Table w tg) := hT
  have htl := hT.lt
  have HBY : Hid (Bytes w B A [0, 0]) := hb
  have HP := Lib.hid (piecesOf_zz A c B (w.alloc (.cells #[.int .i64 0, .int .i64 0, .int .u32 0] 29)) hc (hb.alloc hB (.cells #[.int .i64 0, .int .i64 0, .int .u32 0] 29)) (by simp; omega))
  have HS : Hid (∀ W, Table W tg → Bytes W B A [0, 0] → Calls Try.prog 33 #[.pointer (some ⟨tg, 0, none⟩), .slice A 2 c] W fun e w' => e = .returned (.int .u32 (sumN [0, 0] : Nat)) ∧ W = w') := fun W h1 h2 => sum_any tg A 2 c [0, 0] B W rfl (by omega) h1 h2
  have HRT : Hid (∀ (s : Int) W, Calls Try.prog 23 #[.agg #[.int .i64 0, .int .i64 2, .int .u32 s]] W fun e w' => e = .returned (.bool true) ∧ W.alloc (.cells #[.int .i64 0, .int .i64 2, .int .u32 s] 29) = w') := fun s W => by
    have := dcRight_any 0 2 s W
    rw [show dcB 0 2 = true from by decide] at this
    exact this
  have HX0 : Hid (Box (w.alloc (.cells #[.int .i64 0, .int .i64 0, .int .u32 0] 29)) w.heap.size #[.int .i64 0, .int .i64 0, .int .u32 0] 29) := heap_alloc_new w _
  have HB0 := Lib.hid ((Below.refl w.heap.size w).alloc (Nat.le_refl _) (.cells #[.int .i64 0, .int .i64 0, .int .u32 0] 29))
  have HZ0 : Hid ((w.alloc (.cells #[.int .i64 0, .int .i64 0, .int .u32 0] 29)).heap.size = w.heap.size + 1) := by show _ = _; simp
  have HBZ := Lib.hid hB
  clear hT hb hc hB
  generalize sumN [0, 0] = s at *
  go_enter Try.func13, Try.ntmps13
  go_wp2_with (first
    | (go_at_call 32; refine HP.out.mono ?_; rintro e w1 ⟨rfl, hbw⟩; have HX1 := Lib.hid (HX0.out.below hbw (by rw [HZ0.out]; omega)); have HB1 := Lib.hid (HB0.out.trans (hbw.mono (by rw [HZ0.out]; omega))); clear hbw; have HS1 := Lib.hid (HS.out w1 (HT.out.below HB1.out htl) (Cells.below HBY.out HB1.out HBZ.out)))
    | (go_at_call 33; refine HS1.out.mono ?_; rintro e w' ⟨rfl, rfl⟩))
  refine (HRT.out _ _).mono ?_
  rintro e w2 ⟨rfl, hw2⟩
  have hz1 : w.heap.size < w1.heap.size := HX1.out.lt
  have HX2 : Hid (Box w2 w.heap.size #[.int .i64 0, .int .i64 0, .int .u32 0] 29) := by (rw [← hw2]; exact (HX1.out.alloc _).alloc _)
  have HY2 : Hid (Box w2 w1.heap.size #[.int .i64 0, .int .i64 2, .int .u32 (s : Int)] 29) := by (rw [← hw2]; exact Box.alloc (heap_alloc_new _ _) _)
  have HB2 : Hid (Below w.heap.size w w2) := by (rw [← hw2]; exact (HB1.out.alloc HB1.out.size _).alloc (by simp; omega) _)
  clear hw2
  have hx0 : w2.cell? ⟨w.heap.size, 0, none⟩ = some (.int .i64 0) := HX2.out.cell 0
  have hx1 : w2.cell? ⟨w.heap.size, 1, none⟩ = some (.int .i64 0) := HX2.out.cell 1
  have hx2 : w2.cell? ⟨w.heap.size, 2, none⟩ = some (.int .u32 0) := HX2.out.cell 2
  have hf0 := frozen_of_row w2 w.heap.size 0 _ _ HX2.out
  have hf1 := frozen_of_row w2 w.heap.size 1 _ _ HX2.out
  have hf2 := frozen_of_row w2 w.heap.size 2 _ _ HX2.out
  have hy0 : w2.cell? ⟨w1.heap.size, 0, none⟩ = some (.int .i64 0) := HY2.out.cell 0
  have hy1 : w2.cell? ⟨w1.heap.size, 1, none⟩ = some (.int .i64 2) := HY2.out.cell 1
  have hy2 : w2.cell? ⟨w1.heap.size, 2, none⟩ = some (.int .u32 (s : Int)) := HY2.out.cell 2
  go_wp2
  refine bodyPost_ret (v := .tuple #[.agg #[.int .i64 0, .int .i64 2, .int .u32 (s : Int)], .int .i64 0]) (by simp [results, Try.results13, hx0, hx1, hx2, go_sem]) rfl ⟨rfl, ?_⟩
  exact ((HB2.out.setCell (p := ⟨w.heap.size, 0, none⟩) (Nat.le_refl _) _).setCell (p := ⟨w.heap.size, 1, none⟩) (Nat.le_refl _) _).setCell (p := ⟨w.heap.size, 2, none⟩) (Nat.le_refl _) _

set_option maxRecDepth 100000 in
set_option maxHeartbeats 1000000 in
theorem dcLives_any (w : World) : Calls Try.prog 7 #[] w fun e w' => e = .returned (.bool true) ∧ Below w.heap.size w w' := by
  have hz := (zero_of_info tableInfo).1
  have HSZ := Lib.hid tableSize
  go_enter Try.func7, Try.ntmps7
  go_wp2_with fail
  refine (make_any _).mono ?_
  rintro e w1 ⟨rfl, hb⟩
  have HG := Lib.hid (heap_alloc_last w1 (.cells (Array.replicate 256 (.int .u32 0)) 26))
  have HB := Lib.hid hb
  clear hb
  go_wp2_with (refine wpList_store_row rfl 26 _ _ rfl w1.heap.size tabCells rfl rfl 26 _ HG.out HSZ.out (by rw [Array.size_replicate, tabCells_size]) tabCells_one ?_; rw [World.setRow_alloc_new]; have HTB := Lib.hid (table_new w1); have HB2 := Lib.hid (HB.out.alloc HB.out.size (.cells tabCells 26)); generalize w1.alloc (.cells tabCells 26) = w2 at *)
  clear hz HG HSZ
  refine (dcOf_zz w1.heap.size (some ⟨w2.heap.size, 0, none⟩) 2 (w2.heap.size + 1) _ (HTB.out.alloc _) (by omega) (bytes_new _ _ _ [0, 0] _ rfl _ _ rfl (by omega)) (by simp)).mono ?_
  rintro e w3 ⟨rfl, hbel⟩
  have HB3 := Lib.hid ((HB2.out.alloc HB2.out.size _).trans (hbel.mono (by have := HB2.out.size; simp; omega)))
  clear hbel
  go_wp2
  go_ret
  exact ⟨rfl, HB3.out.alloc HB3.out.size _⟩
end Go.Proofs.Ytnccbnadfgilaaa
