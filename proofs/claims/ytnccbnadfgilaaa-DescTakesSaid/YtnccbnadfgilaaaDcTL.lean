/- Layer 18: DescTakes walked. -/
import Derived.Test.YtnccbnadfgilaaaDcL
import Derived.Test.YtnccbnadfgilaaaDcRU
import Derived.Test.YtnccbnadfgilaaaDcEn
namespace Go.Proofs.Ytnccbnadfgilaaa
open Go.RowKit CrcP FieldP
attribute [local go_sem ↓] Go.wp_at_zero Go.wp_at_succ

theorem dcA_form (bs : List UInt8) (p : Int) : ∃ a b s : Int, dcA bs p = .agg #[.int .i64 a, .int .i64 b, .int .u32 s] := by
  unfold dcA
  split
  · exact ⟨_, _, _, rfl⟩
  · exact ⟨_, _, _, rfl⟩
set_option maxRecDepth 100000 in
set_option maxHeartbeats 400000 in
theorem dctakes_any (A : Option Addr) (l c : Nat) (bs : List UInt8) (p : Int) (w : World) (hl : bs.length = l) (hlc : l ≤ c) (hb : Bytes w w.heap.size A bs) :
    Calls Try.prog 3 #[.slice A l c, .int .i64 p] w fun e w' => e = .returned (.bool true) ∧ Below w.heap.size w w' := by
  by_cases h2 : 2000 < l
  · have hd : (2000 : Int) < (l : Int) := by omega
    clear hb hl hlc
    go_enter Try.func3, Try.ntmps3
    go_wp2_with (go_at_call 7; refine (dcLives_any _).mono ?_; rintro e w4 ⟨rfl, hb4⟩; have HB4 := Lib.hid hb4; clear hb4)
    go_ret
    exact ⟨rfl, HB4.out⟩
  have hz := (zero_of_info tableInfo).1
  have HSZ := Lib.hid tableSize
  have HL := Lib.hid hl
  have HLC := Lib.hid hlc
  have HB := Lib.hid hb
  have hl2 : l ≤ 2000 := by omega
  obtain ⟨a, b, s, hA⟩ := dcA_form bs p
  obtain ⟨n, x, hE⟩ := endV_form bs p
  obtain ⟨r, hr⟩ : ∃ r, dcR bs p = r := ⟨_, rfl⟩
  have HTK : Hid (∀ (tg : Nat) (W : World), Table W tg → Below w.heap.size w W → Calls Try.prog 9 #[.pointer (some ⟨tg, 0, none⟩), .slice A l c, .int .i64 p] W fun e w' => e = .returned (.tuple #[.agg #[.int .i64 a, .int .i64 b, .int .u32 s], .int .i64 (r : Nat)]) ∧ Below W.heap.size W w') := fun tg W hT hW => by
    have h := dcTake_any tg A l c bs w.heap.size p W hT HL.out (by omega) HLC.out (HB.out.below hW (Nat.le_refl _)) hW.size
    rw [hA, hr] at h
    exact h
  have HRT : Hid (∀ (W : World), Below w.heap.size w W → Calls Try.prog 10 #[.slice A l c, .int .i64 p] W fun e w' => e = .returned (.tuple #[.agg #[.int .i64 a, .int .i64 b, .int .u32 s], .int .i64 (r : Nat)]) ∧ Below W.heap.size W w') := fun W hW => by
    have h := refDc_any A l c bs w.heap.size p W HL.out (by omega) HLC.out (HB.out.below hW (Nat.le_refl _)) hW.size
    rw [hA, hr] at h
    exact h
  have HEN : Hid (∀ (W : World), Below w.heap.size w W → Calls Try.prog 11 #[.slice A l c, .int .i64 p] W fun e w' => e = .returned (.tuple #[.int .i64 n, .int .i64 x]) ∧ Below W.heap.size W w') := fun W hW => by
    have h := dcEnd_any A l c bs p W HL.out (by omega) ((HB.out.below hW (Nat.le_refl _)).more hW.size)
    rw [hE] at h
    exact h
  have HRE : Hid (∀ (W : World), Below w.heap.size w W → Calls Try.prog 12 #[.slice A l c, .int .i64 p] W fun e w' => e = .returned (.tuple #[.int .i64 n, .int .i64 x]) ∧ ∃ m, w' = W.drewN m) := fun W hW => by
    have h := refEnd_any A l c bs p w.heap.size W HL.out (by omega) (HB.out.below hW (Nat.le_refl _))
    rw [hE] at h
    exact h
  have e2 : ((r : Int) == (r : Int)) = true := by simp
  have e3 : (n == n) = true := by simp
  have e4 : (x == x) = true := by simp
  clear hb hl hlc hA hE hr h2
  go_enter Try.func3, Try.ntmps3
  go_wp2_with fail
  refine (make_any _).mono ?_
  rintro e w1 ⟨rfl, hb⟩
  have HB1 := Lib.hid hb
  have HG := Lib.hid (heap_alloc_last w1 (.cells (Array.replicate 256 (.int .u32 0)) 26))
  clear hb
  go_wp2_with (refine wpList_store_row rfl 26 _ _ rfl w1.heap.size tabCells rfl rfl 26 _ HG.out HSZ.out (by rw [Array.size_replicate, tabCells_size]) tabCells_one ?_; rw [World.setRow_alloc_new]; have HT2 := Lib.hid (table_new w1); have HB2 := Lib.hid (HB1.out.alloc HB1.out.size (.cells tabCells 26)); generalize w1.alloc (.cells tabCells 26) = w2 at *)
  clear hz HG HSZ
  refine (HTK.out _ _ HT2.out HB2.out).mono ?_
  rintro e w3 ⟨rfl, hb⟩
  have HB3 := Lib.hid (HB2.out.trans (hb.mono HB2.out.size))
  clear hb HTK HT2 HB2 HB1
  obtain ⟨W4, hW4⟩ : ∃ W4, w3.alloc (.cells #[.int .i64 a, .int .i64 b, .int .u32 s] 29) = W4 := ⟨_, rfl⟩
  have HX4 : Hid (Box W4 w3.heap.size #[.int .i64 a, .int .i64 b, .int .u32 s] 29) := by show Box _ _ _ _; rw [← hW4]; exact heap_alloc_new w3 _
  have HB4 : Hid (Below w.heap.size w W4) := by show Below _ _ _; rw [← hW4]; exact HB3.out.alloc HB3.out.size _
  go_wp2_with fail
  refine (HRT.out _ HB4.out).mono ?_
  rintro e w5 ⟨rfl, hb⟩
  have HX5 := Lib.hid (HX4.out.below hb HX4.out.lt)
  have HB5 := Lib.hid (HB4.out.trans (hb.mono HB4.out.size))
  clear hb HRT hW4 HX4 HB4 HB3
  obtain ⟨W6, hW6⟩ : ∃ W6, w5.alloc (.cells #[.int .i64 a, .int .i64 b, .int .u32 s] 34) = W6 := ⟨_, rfl⟩
  have HX6 : Hid (Box W6 w3.heap.size #[.int .i64 a, .int .i64 b, .int .u32 s] 29) := by show Box _ _ _ _; rw [← hW6]; exact HX5.out.alloc _
  have HY6 : Hid (Box W6 w5.heap.size #[.int .i64 a, .int .i64 b, .int .u32 s] 34) := by show Box _ _ _ _; rw [← hW6]; exact heap_alloc_new w5 _
  have HB6 : Hid (Below w.heap.size w W6) := by show Below _ _ _; rw [← hW6]; exact HB5.out.alloc HB5.out.size _
  go_wp2_with fail
  refine (HEN.out _ HB6.out).mono ?_
  rintro e w7 ⟨rfl, hb⟩
  have HX7 := Lib.hid (HX6.out.below hb HX6.out.lt)
  have HY7 := Lib.hid (HY6.out.below hb HY6.out.lt)
  have HB7 := Lib.hid (HB6.out.trans (hb.mono HB6.out.size))
  clear hb HEN hW6 HX6 HY6 HB6 HX5 HB5
  go_wp2_with fail
  refine (HRE.out _ HB7.out).mono ?_
  rintro e w8 ⟨rfl, m, hm⟩
  have HX8 : Hid (Box w8 w3.heap.size #[.int .i64 a, .int .i64 b, .int .u32 s] 29) := by show Box _ _ _ _; rw [hm]; exact HX7.out
  have HY8 : Hid (Box w8 w5.heap.size #[.int .i64 a, .int .i64 b, .int .u32 s] 34) := by show Box _ _ _ _; rw [hm]; exact HY7.out
  have HB8 : Hid (Below w.heap.size w w8) := by show Below _ _ _; rw [hm]; exact ⟨HB7.out.os, HB7.out.tape, HB7.out.output, HB7.out.size, HB7.out.block⟩
  clear hm HRE HX7 HY7 HB7
  have c0 : w8.cell? ⟨w3.heap.size, 0, none⟩ = some (.int .i64 a) := HX8.out.cell 0
  have c1 : w8.cell? ⟨w3.heap.size, 1, none⟩ = some (.int .i64 b) := HX8.out.cell 1
  have c2 : w8.cell? ⟨w3.heap.size, 2, none⟩ = some (.int .u32 s) := HX8.out.cell 2
  have d0 : w8.cell? ⟨w5.heap.size, 0, none⟩ = some (.int .i64 a) := HY8.out.cell 0
  have d1 : w8.cell? ⟨w5.heap.size, 1, none⟩ = some (.int .i64 b) := HY8.out.cell 1
  have d2 : w8.cell? ⟨w5.heap.size, 2, none⟩ = some (.int .u32 s) := HY8.out.cell 2
  go_wp2_with (go_at_call 7; refine (dcLives_any _).mono ?_; rintro e w9 ⟨rfl, hb9⟩; have HB9 := Lib.hid hb9; clear hb9)
  go_ret
  exact ⟨rfl, HB8.out.trans (HB9.out.mono HB8.out.size)⟩
end Go.Proofs.Ytnccbnadfgilaaa
