/- Layer 18: Fits over any bytes; DescFits walked. -/
import Derived.Test.YtnccbnadfgilaaaPcD
import Derived.Test.YtnccbnadfgilaaaDcL
namespace Go.Proofs.Ytnccbnadfgilaaa
open Go.RowKit CrcP FieldP
attribute [local go_sem ↓] Go.wp_at_zero Go.wp_at_succ

/-- Is a descriptor a payload's? -/
def fitB (x y z : Int) (q : Nat × Nat × Nat × Int) : Bool := decide (q.2.2.2 = 0 ∧ (q.1 : Int) = x ∧ (q.2.1 : Int) = y ∧ (q.2.2.1 : Int) = z)
theorem fit_ways (x y z : Int) (a b s : Nat) (er : Int) : (fitB x y z (a, b, s, er) = false ∧ er ≠ 0) ∨ (fitB x y z (a, b, s, er) = false ∧ er = 0 ∧ (a : Int) ≠ x) ∨ (fitB x y z (a, b, s, er) = false ∧ er = 0 ∧ x = (a : Int) ∧ (b : Int) ≠ y) ∨ (fitB x y z (a, b, s, er) = false ∧ er = 0 ∧ x = (a : Int) ∧ y = (b : Int) ∧ (s : Int) ≠ z) ∨ (fitB x y z (a, b, s, er) = true ∧ er = 0 ∧ x = (a : Int) ∧ y = (b : Int) ∧ z = (s : Int)) := by
  unfold fitB
  simp only [decide_eq_true_eq, decide_eq_false_iff_not]
  omega
set_option maxRecDepth 100000 in
set_option maxHeartbeats 1000000 in
theorem fits_any (tg : Nat) (x y z : Int) (A : Option Addr) (l c B : Nat) (bs : List UInt8) (w : World) (hT : Table w tg) (hl : bs.length = l) (hm : l ≤ 1000000) (hc : l ≤ c) (hb : Bytes w B A bs) (hB : B ≤ w.heap.size) :
    Calls Try.prog 15 #[.pointer (some ⟨tg, 0, none⟩), .agg #[.int .i64 x, .int .i64 y, .int .u32 z], .slice A l c] w fun e w' => e = .returned (.bool (fitB x y z (ofV bs))) ∧ Below w.heap.size w w' := by
  obtain ⟨W0, hW0⟩ : ∃ W0, w.alloc (.cells #[.int .i64 x, .int .i64 y, .int .u32 z] 29) = W0 := ⟨_, rfl⟩
  have HX0 : Hid (Box W0 w.heap.size #[.int .i64 x, .int .i64 y, .int .u32 z] 29) := by show Box _ _ _ _; rw [← hW0]; exact heap_alloc_new w _
  have HB0 : Hid (Below w.heap.size w W0) := by show Below _ _ _; rw [← hW0]; exact (Below.refl _ w).alloc (Nat.le_refl _) _
  have HOF := Lib.hid (dcOf_any tg A l c B bs W0 (hT.below HB0.out hT.lt) hl hm hc (Cells.below hb HB0.out hB) (Nat.le_trans hB HB0.out.size))
  obtain ⟨⟨a, b, s, er⟩, hq⟩ : ∃ q, ofV bs = q := ⟨_, rfl⟩
  rw [hq] at HOF ⊢
  dsimp only at HOF
  clear hT hl hm hc hb hB hq
  rcases fit_ways x y z a b s er with ⟨ht, h1⟩ | ⟨ht, h1, h2⟩ | ⟨ht, h1, h2, h3⟩ | ⟨ht, h1, h2, h3, h4⟩ | ⟨ht, h1, h2, h3, h4⟩
  · rw [ht]
    clear ht
    have t0 : (er == 0) = false := by simp [h1]
    clear h1
    go_enter Try.func15, Try.ntmps15
    go_wp2_with fail
    refine HOF.out.mono ?_
    rintro e w1 ⟨rfl, hb1⟩
    have HX1 := Lib.hid (HX0.out.below hb1 HX0.out.lt)
    have HB1 : Hid (Below w.heap.size w w1) := HB0.out.trans (hb1.mono HB0.out.size)
    clear hb1
    obtain ⟨W2, hW2⟩ : ∃ W2, w1.alloc (.cells #[.int .i64 (a : Int), .int .i64 (b : Int), .int .u32 (s : Int)] 29) = W2 := ⟨_, rfl⟩
    have HX2 : Hid (Box W2 w.heap.size #[.int .i64 x, .int .i64 y, .int .u32 z] 29) := by show Box _ _ _ _; rw [← hW2]; exact HX1.out.alloc _
    have HY2 : Hid (Box W2 w1.heap.size #[.int .i64 (a : Int), .int .i64 (b : Int), .int .u32 (s : Int)] 29) := by show Box _ _ _ _; rw [← hW2]; exact heap_alloc_new w1 _
    have HB2 : Hid (Below w.heap.size w W2) := by show Below _ _ _; rw [← hW2]; exact HB1.out.alloc HB1.out.size _
    have c0 : W2.cell? ⟨w.heap.size, 0, none⟩ = some (.int .i64 x) := HX2.out.cell 0
    have c1 : W2.cell? ⟨w.heap.size, 1, none⟩ = some (.int .i64 y) := HX2.out.cell 1
    have c2 : W2.cell? ⟨w.heap.size, 2, none⟩ = some (.int .u32 z) := HX2.out.cell 2
    have d0 : W2.cell? ⟨w1.heap.size, 0, none⟩ = some (.int .i64 (a : Int)) := HY2.out.cell 0
    have d1 : W2.cell? ⟨w1.heap.size, 1, none⟩ = some (.int .i64 (b : Int)) := HY2.out.cell 1
    have d2 : W2.cell? ⟨w1.heap.size, 2, none⟩ = some (.int .u32 (s : Int)) := HY2.out.cell 2
    go_upto_region 2 with fail
    go_wp2
    go_ret
    exact ⟨rfl, HB2.out⟩
  · rw [ht]
    clear ht
    subst h1
    have u0 : ((a : Int) == x) = false := by simp [h2]
    have u1 : (x == (a : Int)) = false := by simp [Ne.symm h2]
    clear h2
    go_enter Try.func15, Try.ntmps15
    go_wp2_with fail
    refine HOF.out.mono ?_
    rintro e w1 ⟨rfl, hb1⟩
    have HX1 := Lib.hid (HX0.out.below hb1 HX0.out.lt)
    have HB1 : Hid (Below w.heap.size w w1) := HB0.out.trans (hb1.mono HB0.out.size)
    clear hb1
    obtain ⟨W2, hW2⟩ : ∃ W2, w1.alloc (.cells #[.int .i64 (a : Int), .int .i64 (b : Int), .int .u32 (s : Int)] 29) = W2 := ⟨_, rfl⟩
    have HX2 : Hid (Box W2 w.heap.size #[.int .i64 x, .int .i64 y, .int .u32 z] 29) := by show Box _ _ _ _; rw [← hW2]; exact HX1.out.alloc _
    have HY2 : Hid (Box W2 w1.heap.size #[.int .i64 (a : Int), .int .i64 (b : Int), .int .u32 (s : Int)] 29) := by show Box _ _ _ _; rw [← hW2]; exact heap_alloc_new w1 _
    have HB2 : Hid (Below w.heap.size w W2) := by show Below _ _ _; rw [← hW2]; exact HB1.out.alloc HB1.out.size _
    have c0 : W2.cell? ⟨w.heap.size, 0, none⟩ = some (.int .i64 x) := HX2.out.cell 0
    have c1 : W2.cell? ⟨w.heap.size, 1, none⟩ = some (.int .i64 y) := HX2.out.cell 1
    have c2 : W2.cell? ⟨w.heap.size, 2, none⟩ = some (.int .u32 z) := HX2.out.cell 2
    have d0 : W2.cell? ⟨w1.heap.size, 0, none⟩ = some (.int .i64 (a : Int)) := HY2.out.cell 0
    have d1 : W2.cell? ⟨w1.heap.size, 1, none⟩ = some (.int .i64 (b : Int)) := HY2.out.cell 1
    have d2 : W2.cell? ⟨w1.heap.size, 2, none⟩ = some (.int .u32 (s : Int)) := HY2.out.cell 2
    go_upto_region 2 with fail
    go_wp2
    go_ret
    exact ⟨rfl, HB2.out⟩
  · rw [ht]
    clear ht
    subst h1
    subst h2
    have u0 : ((b : Int) == y) = false := by simp [h3]
    have u1 : (y == (b : Int)) = false := by simp [Ne.symm h3]
    clear h3
    have v0 : ((a : Int) == (a : Int)) = true := by simp
    go_enter Try.func15, Try.ntmps15
    go_wp2_with fail
    refine HOF.out.mono ?_
    rintro e w1 ⟨rfl, hb1⟩
    have HX1 := Lib.hid (HX0.out.below hb1 HX0.out.lt)
    have HB1 : Hid (Below w.heap.size w w1) := HB0.out.trans (hb1.mono HB0.out.size)
    clear hb1
    obtain ⟨W2, hW2⟩ : ∃ W2, w1.alloc (.cells #[.int .i64 (a : Int), .int .i64 (b : Int), .int .u32 (s : Int)] 29) = W2 := ⟨_, rfl⟩
    have HX2 : Hid (Box W2 w.heap.size #[.int .i64 (a : Int), .int .i64 y, .int .u32 z] 29) := by show Box _ _ _ _; rw [← hW2]; exact HX1.out.alloc _
    have HY2 : Hid (Box W2 w1.heap.size #[.int .i64 (a : Int), .int .i64 (b : Int), .int .u32 (s : Int)] 29) := by show Box _ _ _ _; rw [← hW2]; exact heap_alloc_new w1 _
    have HB2 : Hid (Below w.heap.size w W2) := by show Below _ _ _; rw [← hW2]; exact HB1.out.alloc HB1.out.size _
    have c0 : W2.cell? ⟨w.heap.size, 0, none⟩ = some (.int .i64 (a : Int)) := HX2.out.cell 0
    have c1 : W2.cell? ⟨w.heap.size, 1, none⟩ = some (.int .i64 y) := HX2.out.cell 1
    have c2 : W2.cell? ⟨w.heap.size, 2, none⟩ = some (.int .u32 z) := HX2.out.cell 2
    have d0 : W2.cell? ⟨w1.heap.size, 0, none⟩ = some (.int .i64 (a : Int)) := HY2.out.cell 0
    have d1 : W2.cell? ⟨w1.heap.size, 1, none⟩ = some (.int .i64 (b : Int)) := HY2.out.cell 1
    have d2 : W2.cell? ⟨w1.heap.size, 2, none⟩ = some (.int .u32 (s : Int)) := HY2.out.cell 2
    go_upto_region 2 with fail
    go_wp2
    go_ret
    exact ⟨rfl, HB2.out⟩
  · rw [ht]
    clear ht
    subst h1
    subst h2
    subst h3
    have u0 : ((s : Int) == z) = false := by simp [h4]
    have u1 : (z == (s : Int)) = false := by simp [Ne.symm h4]
    clear h4
    have v0 : ((a : Int) == (a : Int)) = true := by simp
    have v1 : ((b : Int) == (b : Int)) = true := by simp
    go_enter Try.func15, Try.ntmps15
    go_wp2_with fail
    refine HOF.out.mono ?_
    rintro e w1 ⟨rfl, hb1⟩
    have HX1 := Lib.hid (HX0.out.below hb1 HX0.out.lt)
    have HB1 : Hid (Below w.heap.size w w1) := HB0.out.trans (hb1.mono HB0.out.size)
    clear hb1
    obtain ⟨W2, hW2⟩ : ∃ W2, w1.alloc (.cells #[.int .i64 (a : Int), .int .i64 (b : Int), .int .u32 (s : Int)] 29) = W2 := ⟨_, rfl⟩
    have HX2 : Hid (Box W2 w.heap.size #[.int .i64 (a : Int), .int .i64 (b : Int), .int .u32 z] 29) := by show Box _ _ _ _; rw [← hW2]; exact HX1.out.alloc _
    have HY2 : Hid (Box W2 w1.heap.size #[.int .i64 (a : Int), .int .i64 (b : Int), .int .u32 (s : Int)] 29) := by show Box _ _ _ _; rw [← hW2]; exact heap_alloc_new w1 _
    have HB2 : Hid (Below w.heap.size w W2) := by show Below _ _ _; rw [← hW2]; exact HB1.out.alloc HB1.out.size _
    have c0 : W2.cell? ⟨w.heap.size, 0, none⟩ = some (.int .i64 (a : Int)) := HX2.out.cell 0
    have c1 : W2.cell? ⟨w.heap.size, 1, none⟩ = some (.int .i64 (b : Int)) := HX2.out.cell 1
    have c2 : W2.cell? ⟨w.heap.size, 2, none⟩ = some (.int .u32 z) := HX2.out.cell 2
    have d0 : W2.cell? ⟨w1.heap.size, 0, none⟩ = some (.int .i64 (a : Int)) := HY2.out.cell 0
    have d1 : W2.cell? ⟨w1.heap.size, 1, none⟩ = some (.int .i64 (b : Int)) := HY2.out.cell 1
    have d2 : W2.cell? ⟨w1.heap.size, 2, none⟩ = some (.int .u32 (s : Int)) := HY2.out.cell 2
    go_upto_region 2 with fail
    go_wp2
    go_ret
    exact ⟨rfl, HB2.out⟩
  · rw [ht]
    clear ht
    subst h1
    subst h2
    subst h3
    subst h4
    have v0 : ((a : Int) == (a : Int)) = true := by simp
    have v1 : ((b : Int) == (b : Int)) = true := by simp
    have v2 : ((s : Int) == (s : Int)) = true := by simp
    go_enter Try.func15, Try.ntmps15
    go_wp2_with fail
    refine HOF.out.mono ?_
    rintro e w1 ⟨rfl, hb1⟩
    have HX1 := Lib.hid (HX0.out.below hb1 HX0.out.lt)
    have HB1 : Hid (Below w.heap.size w w1) := HB0.out.trans (hb1.mono HB0.out.size)
    clear hb1
    obtain ⟨W2, hW2⟩ : ∃ W2, w1.alloc (.cells #[.int .i64 (a : Int), .int .i64 (b : Int), .int .u32 (s : Int)] 29) = W2 := ⟨_, rfl⟩
    have HX2 : Hid (Box W2 w.heap.size #[.int .i64 (a : Int), .int .i64 (b : Int), .int .u32 (s : Int)] 29) := by show Box _ _ _ _; rw [← hW2]; exact HX1.out.alloc _
    have HY2 : Hid (Box W2 w1.heap.size #[.int .i64 (a : Int), .int .i64 (b : Int), .int .u32 (s : Int)] 29) := by show Box _ _ _ _; rw [← hW2]; exact heap_alloc_new w1 _
    have HB2 : Hid (Below w.heap.size w W2) := by show Below _ _ _; rw [← hW2]; exact HB1.out.alloc HB1.out.size _
    have c0 : W2.cell? ⟨w.heap.size, 0, none⟩ = some (.int .i64 (a : Int)) := HX2.out.cell 0
    have c1 : W2.cell? ⟨w.heap.size, 1, none⟩ = some (.int .i64 (b : Int)) := HX2.out.cell 1
    have c2 : W2.cell? ⟨w.heap.size, 2, none⟩ = some (.int .u32 (s : Int)) := HX2.out.cell 2
    have d0 : W2.cell? ⟨w1.heap.size, 0, none⟩ = some (.int .i64 (a : Int)) := HY2.out.cell 0
    have d1 : W2.cell? ⟨w1.heap.size, 1, none⟩ = some (.int .i64 (b : Int)) := HY2.out.cell 1
    have d2 : W2.cell? ⟨w1.heap.size, 2, none⟩ = some (.int .u32 (s : Int)) := HY2.out.cell 2
    go_upto_region 2 with fail
    go_wp2
    go_ret
    exact ⟨rfl, HB2.out⟩
set_option maxRecDepth 100000 in
set_option maxHeartbeats 1000000 in
theorem dcfits_any (x y z : Int) (A : Option Addr) (l c : Nat) (bs : List UInt8) (w : World) (hl : bs.length = l) (hlc : l ≤ c) (hb : Bytes w w.heap.size A bs) :
    Calls Try.prog 4 #[.agg #[.int .i64 x, .int .i64 y, .int .u32 z], .slice A l c] w fun e w' => e = .returned (.bool true) ∧ Below w.heap.size w w' := by
  obtain ⟨W0, hW0⟩ : ∃ W0, w.alloc (.cells #[.int .i64 x, .int .i64 y, .int .u32 z] 29) = W0 := ⟨_, rfl⟩
  have HX0 : Hid (Box W0 w.heap.size #[.int .i64 x, .int .i64 y, .int .u32 z] 29) := by show Box _ _ _ _; rw [← hW0]; exact heap_alloc_new w _
  have HB0 : Hid (Below w.heap.size w W0) := by show Below _ _ _; rw [← hW0]; exact (Below.refl _ w).alloc (Nat.le_refl _) _
  by_cases h2 : 2000 < l
  · have hd : (2000 : Int) < (l : Int) := by omega
    clear hb hl hlc
    go_enter Try.func4, Try.ntmps4
    go_wp2_with (go_at_call 7; refine (dcLives_any _).mono ?_; rintro e w4 ⟨rfl, hb4⟩; have HB4 := Lib.hid hb4; clear hb4)
    go_ret
    exact ⟨rfl, HB0.out.trans (HB4.out.mono HB0.out.size)⟩
  have hz := (zero_of_info tableInfo).1
  have HSZ := Lib.hid tableSize
  have hl2 : l ≤ 2000 := by omega
  have HOF : Hid (∀ (tg : Nat) (W : World), Table W tg → Below w.heap.size w W → _) := fun tg W hT hW => dcOf_any tg A l c w.heap.size bs W hT hl (by omega) hlc (hb.below hW (Nat.le_refl _)) hW.size
  have HRF : Hid (∀ (W : World), Below w.heap.size w W → _) := fun W hW => refOf_any A l c w.heap.size bs W hl (by omega) hlc (hb.below hW (Nat.le_refl _)) hW.size
  have HFT : Hid (∀ (tg : Nat) (W : World), Table W tg → Below w.heap.size w W → _) := fun tg W hT hW => fits_any tg x y z A l c w.heap.size bs W hT hl (by omega) hlc (hb.below hW (Nat.le_refl _)) hW.size
  obtain ⟨⟨a, b, s, er⟩, hq⟩ : ∃ q, ofV bs = q := ⟨_, rfl⟩
  rw [hq] at HOF HRF HFT
  dsimp only at HOF HRF
  clear hb hl hlc hq h2
  go_enter Try.func4, Try.ntmps4
  go_wp2_with fail
  refine (make_any _).mono ?_
  rintro e w1 ⟨rfl, hb⟩
  have HX1 := Lib.hid (HX0.out.below hb HX0.out.lt)
  have HB1 : Hid (Below w.heap.size w w1) := HB0.out.trans (hb.mono HB0.out.size)
  have HG := Lib.hid (heap_alloc_last w1 (.cells (Array.replicate 256 (.int .u32 0)) 26))
  clear hb
  go_wp2_with (refine wpList_store_row rfl 26 _ _ rfl w1.heap.size tabCells rfl rfl 26 _ HG.out HSZ.out (by rw [Array.size_replicate, tabCells_size]) tabCells_one ?_; rw [World.setRow_alloc_new]; have HT2 := Lib.hid (table_new w1); have HX2 : Hid (Box (w1.alloc (.cells tabCells 26)) w.heap.size #[.int .i64 x, .int .i64 y, .int .u32 z] 29) := HX1.out.alloc _; have HB2 := Lib.hid (HB1.out.alloc HB1.out.size (.cells tabCells 26)); generalize w1.alloc (.cells tabCells 26) = w2 at *)
  clear hz HG HSZ
  refine (HOF.out _ _ HT2.out HB2.out).mono ?_
  rintro e w3 ⟨rfl, hb⟩
  have HX3 := Lib.hid (HX2.out.below hb HX2.out.lt)
  have HT3 := Lib.hid (HT2.out.below hb HT2.out.lt)
  have HB3 := Lib.hid (HB2.out.trans (hb.mono HB2.out.size))
  clear hb HOF HB2 HB1 HX2 HX1 HT2
  obtain ⟨W4, hW4⟩ : ∃ W4, w3.alloc (.cells #[.int .i64 (a : Int), .int .i64 (b : Int), .int .u32 (s : Int)] 29) = W4 := ⟨_, rfl⟩
  have HA4 : Hid (Box W4 w3.heap.size #[.int .i64 (a : Int), .int .i64 (b : Int), .int .u32 (s : Int)] 29) := by show Box _ _ _ _; rw [← hW4]; exact heap_alloc_new w3 _
  have HX4 : Hid (Box W4 w.heap.size #[.int .i64 x, .int .i64 y, .int .u32 z] 29) := by show Box _ _ _ _; rw [← hW4]; exact HX3.out.alloc _
  have HT4 : Hid (Table W4 w1.heap.size) := by show Table _ _; rw [← hW4]; exact HT3.out.alloc _
  have HB4 : Hid (Below w.heap.size w W4) := by show Below _ _ _; rw [← hW4]; exact HB3.out.alloc HB3.out.size _
  go_wp2_with fail
  refine (HRF.out _ HB4.out).mono ?_
  rintro e w5 ⟨rfl, hb⟩
  have HA5 := Lib.hid (HA4.out.below hb HA4.out.lt)
  have HX5 := Lib.hid (HX4.out.below hb HX4.out.lt)
  have HT5 := Lib.hid (HT4.out.below hb HT4.out.lt)
  have HB5 := Lib.hid (HB4.out.trans (hb.mono HB4.out.size))
  clear hb HRF hW4 HA4 HX4 HT4 HB4 HB3 HX3 HT3
  obtain ⟨W6, hW6⟩ : ∃ W6, w5.alloc (.cells #[.int .i64 (a : Int), .int .i64 (b : Int), .int .u32 (s : Int)] 34) = W6 := ⟨_, rfl⟩
  have HA6 : Hid (Box W6 w3.heap.size #[.int .i64 (a : Int), .int .i64 (b : Int), .int .u32 (s : Int)] 29) := by show Box _ _ _ _; rw [← hW6]; exact HA5.out.alloc _
  have HX6 : Hid (Box W6 w.heap.size #[.int .i64 x, .int .i64 y, .int .u32 z] 29) := by show Box _ _ _ _; rw [← hW6]; exact HX5.out.alloc _
  have HY6 : Hid (Box W6 w5.heap.size #[.int .i64 (a : Int), .int .i64 (b : Int), .int .u32 (s : Int)] 34) := by show Box _ _ _ _; rw [← hW6]; exact heap_alloc_new w5 _
  have HT6 : Hid (Table W6 w1.heap.size) := by show Table _ _; rw [← hW6]; exact HT5.out.alloc _
  have HB6 : Hid (Below w.heap.size w W6) := by show Below _ _ _; rw [← hW6]; exact HB5.out.alloc HB5.out.size _
  go_upto_region 6 with fail
  have HF6 := Lib.hid (HFT.out _ W6 HT6.out HB6.out)
  clear hW6 HA5 HX5 HT5 HB5 HT6 HFT hW0 HX0 HB0
  have c0 : W6.cell? ⟨w3.heap.size, 0, none⟩ = some (.int .i64 (a : Int)) := HA6.out.cell 0
  have c1 : W6.cell? ⟨w3.heap.size, 1, none⟩ = some (.int .i64 (b : Int)) := HA6.out.cell 1
  have c2 : W6.cell? ⟨w3.heap.size, 2, none⟩ = some (.int .u32 (s : Int)) := HA6.out.cell 2
  have d0 : W6.cell? ⟨w5.heap.size, 0, none⟩ = some (.int .i64 (a : Int)) := HY6.out.cell 0
  have d1 : W6.cell? ⟨w5.heap.size, 1, none⟩ = some (.int .i64 (b : Int)) := HY6.out.cell 1
  have d2 : W6.cell? ⟨w5.heap.size, 2, none⟩ = some (.int .u32 (s : Int)) := HY6.out.cell 2
  have q0 : W6.cell? ⟨w.heap.size, 0, none⟩ = some (.int .i64 x) := HX6.out.cell 0
  have q1 : W6.cell? ⟨w.heap.size, 1, none⟩ = some (.int .i64 y) := HX6.out.cell 1
  have q2 : W6.cell? ⟨w.heap.size, 2, none⟩ = some (.int .u32 z) := HX6.out.cell 2
  have g0 : ((a : Int) == (a : Int)) = true := by simp
  have g1 : ((b : Int) == (b : Int)) = true := by simp
  have g2 : ((s : Int) == (s : Int)) = true := by simp
  rcases fit_ways x y z a b s er with ⟨ht, h1⟩ | ⟨ht, h1, h2⟩ | ⟨ht, h1, h2, h3⟩ | ⟨ht, h1, h2, h3, h4⟩ | ⟨ht, h1, h2, h3, h4⟩
  · rw [ht] at HF6
    clear ht
    have t0 : (er == 0) = false := by simp [h1]
    clear h1
    have t1 : (er == er) = true := by simp
    go_wp2_with fail
    refine HF6.out.mono ?_
    rintro e w7 ⟨rfl, hb⟩
    have HX7 := HX6.out.below hb HX6.out.lt
    have HY7 := HY6.out.below hb HY6.out.lt
    have HB7 := Lib.hid (HB6.out.trans (hb.mono HB6.out.size))
    have r0 : w7.cell? ⟨w.heap.size, 0, none⟩ = some (.int .i64 x) := HX7.cell 0
    have r1 : w7.cell? ⟨w.heap.size, 1, none⟩ = some (.int .i64 y) := HX7.cell 1
    have r2 : w7.cell? ⟨w.heap.size, 2, none⟩ = some (.int .u32 z) := HX7.cell 2
    have s0 : w7.cell? ⟨w5.heap.size, 0, none⟩ = some (.int .i64 (a : Int)) := HY7.cell 0
    have s1 : w7.cell? ⟨w5.heap.size, 1, none⟩ = some (.int .i64 (b : Int)) := HY7.cell 1
    have s2 : w7.cell? ⟨w5.heap.size, 2, none⟩ = some (.int .u32 (s : Int)) := HY7.cell 2
    clear hb HX7 HY7
    go_wp2_with (go_at_call 7; refine (dcLives_any _).mono ?_; rintro e w9 ⟨rfl, hb9⟩; have HB9 := Lib.hid hb9; clear hb9)
    go_ret
    exact ⟨rfl, HB7.out.trans (HB9.out.mono HB7.out.size)⟩
  · rw [ht] at HF6
    clear ht
    subst h1
    have u0 : ((a : Int) == x) = false := by simp [h2]
    have u1 : (x == (a : Int)) = false := by simp [Ne.symm h2]
    clear h2
    go_wp2_with fail
    refine HF6.out.mono ?_
    rintro e w7 ⟨rfl, hb⟩
    have HX7 := HX6.out.below hb HX6.out.lt
    have HY7 := HY6.out.below hb HY6.out.lt
    have HB7 := Lib.hid (HB6.out.trans (hb.mono HB6.out.size))
    have r0 : w7.cell? ⟨w.heap.size, 0, none⟩ = some (.int .i64 x) := HX7.cell 0
    have r1 : w7.cell? ⟨w.heap.size, 1, none⟩ = some (.int .i64 y) := HX7.cell 1
    have r2 : w7.cell? ⟨w.heap.size, 2, none⟩ = some (.int .u32 z) := HX7.cell 2
    have s0 : w7.cell? ⟨w5.heap.size, 0, none⟩ = some (.int .i64 (a : Int)) := HY7.cell 0
    have s1 : w7.cell? ⟨w5.heap.size, 1, none⟩ = some (.int .i64 (b : Int)) := HY7.cell 1
    have s2 : w7.cell? ⟨w5.heap.size, 2, none⟩ = some (.int .u32 (s : Int)) := HY7.cell 2
    clear hb HX7 HY7
    go_wp2_with (go_at_call 7; refine (dcLives_any _).mono ?_; rintro e w9 ⟨rfl, hb9⟩; have HB9 := Lib.hid hb9; clear hb9)
    go_ret
    exact ⟨rfl, HB7.out.trans (HB9.out.mono HB7.out.size)⟩
  · rw [ht] at HF6
    clear ht
    subst h1
    subst h2
    have u0 : ((b : Int) == y) = false := by simp [h3]
    have u1 : (y == (b : Int)) = false := by simp [Ne.symm h3]
    clear h3
    go_wp2_with fail
    refine HF6.out.mono ?_
    rintro e w7 ⟨rfl, hb⟩
    have HX7 := HX6.out.below hb HX6.out.lt
    have HY7 := HY6.out.below hb HY6.out.lt
    have HB7 := Lib.hid (HB6.out.trans (hb.mono HB6.out.size))
    have r0 : w7.cell? ⟨w.heap.size, 0, none⟩ = some (.int .i64 (a : Int)) := HX7.cell 0
    have r1 : w7.cell? ⟨w.heap.size, 1, none⟩ = some (.int .i64 y) := HX7.cell 1
    have r2 : w7.cell? ⟨w.heap.size, 2, none⟩ = some (.int .u32 z) := HX7.cell 2
    have s0 : w7.cell? ⟨w5.heap.size, 0, none⟩ = some (.int .i64 (a : Int)) := HY7.cell 0
    have s1 : w7.cell? ⟨w5.heap.size, 1, none⟩ = some (.int .i64 (b : Int)) := HY7.cell 1
    have s2 : w7.cell? ⟨w5.heap.size, 2, none⟩ = some (.int .u32 (s : Int)) := HY7.cell 2
    clear hb HX7 HY7
    go_wp2_with (go_at_call 7; refine (dcLives_any _).mono ?_; rintro e w9 ⟨rfl, hb9⟩; have HB9 := Lib.hid hb9; clear hb9)
    go_ret
    exact ⟨rfl, HB7.out.trans (HB9.out.mono HB7.out.size)⟩
  · rw [ht] at HF6
    clear ht
    subst h1
    subst h2
    subst h3
    have u0 : ((s : Int) == z) = false := by simp [h4]
    have u1 : (z == (s : Int)) = false := by simp [Ne.symm h4]
    clear h4
    go_wp2_with fail
    refine HF6.out.mono ?_
    rintro e w7 ⟨rfl, hb⟩
    have HX7 := HX6.out.below hb HX6.out.lt
    have HY7 := HY6.out.below hb HY6.out.lt
    have HB7 := Lib.hid (HB6.out.trans (hb.mono HB6.out.size))
    have r0 : w7.cell? ⟨w.heap.size, 0, none⟩ = some (.int .i64 (a : Int)) := HX7.cell 0
    have r1 : w7.cell? ⟨w.heap.size, 1, none⟩ = some (.int .i64 (b : Int)) := HX7.cell 1
    have r2 : w7.cell? ⟨w.heap.size, 2, none⟩ = some (.int .u32 z) := HX7.cell 2
    have s0 : w7.cell? ⟨w5.heap.size, 0, none⟩ = some (.int .i64 (a : Int)) := HY7.cell 0
    have s1 : w7.cell? ⟨w5.heap.size, 1, none⟩ = some (.int .i64 (b : Int)) := HY7.cell 1
    have s2 : w7.cell? ⟨w5.heap.size, 2, none⟩ = some (.int .u32 (s : Int)) := HY7.cell 2
    clear hb HX7 HY7
    go_wp2_with (go_at_call 7; refine (dcLives_any _).mono ?_; rintro e w9 ⟨rfl, hb9⟩; have HB9 := Lib.hid hb9; clear hb9)
    go_ret
    exact ⟨rfl, HB7.out.trans (HB9.out.mono HB7.out.size)⟩
  · rw [ht] at HF6
    clear ht
    subst h1
    subst h2
    subst h3
    subst h4
    go_wp2_with fail
    refine HF6.out.mono ?_
    rintro e w7 ⟨rfl, hb⟩
    have HX7 := HX6.out.below hb HX6.out.lt
    have HY7 := HY6.out.below hb HY6.out.lt
    have HB7 := Lib.hid (HB6.out.trans (hb.mono HB6.out.size))
    have r0 : w7.cell? ⟨w.heap.size, 0, none⟩ = some (.int .i64 (a : Int)) := HX7.cell 0
    have r1 : w7.cell? ⟨w.heap.size, 1, none⟩ = some (.int .i64 (b : Int)) := HX7.cell 1
    have r2 : w7.cell? ⟨w.heap.size, 2, none⟩ = some (.int .u32 (s : Int)) := HX7.cell 2
    have s0 : w7.cell? ⟨w5.heap.size, 0, none⟩ = some (.int .i64 (a : Int)) := HY7.cell 0
    have s1 : w7.cell? ⟨w5.heap.size, 1, none⟩ = some (.int .i64 (b : Int)) := HY7.cell 1
    have s2 : w7.cell? ⟨w5.heap.size, 2, none⟩ = some (.int .u32 (s : Int)) := HY7.cell 2
    clear hb HX7 HY7
    go_wp2_with (go_at_call 7; refine (dcLives_any _).mono ?_; rintro e w9 ⟨rfl, hb9⟩; have HB9 := Lib.hid hb9; clear hb9)
    go_ret
    exact ⟨rfl, HB7.out.trans (HB9.out.mono HB7.out.size)⟩
end Go.Proofs.Ytnccbnadfgilaaa
