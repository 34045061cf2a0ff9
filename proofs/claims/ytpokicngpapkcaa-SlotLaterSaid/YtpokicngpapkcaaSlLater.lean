/- Layer 21: SlotLater walked. -/
import Derived.Test.YtpokicngpapkcaaSlTwo
namespace Go.Proofs.Ytpokicngpapkcaa
open Go.RowKit CrcP FieldP
attribute [local go_sem ↓] Go.wp_at_zero Go.wp_at_succ

theorem zero_no : slB 0 0 0 false = false := by decide

set_option maxRecDepth 100000 in
set_option maxHeartbeats 1500000 in
theorem later_no (q e d : Int) (c : Bool) (E D : Int) (X : Option Addr) (lx cx : Nat) (w : World) (hr : slB q e d c = false) :
    Calls Try.prog 5 #[.agg #[.int .i64 q, .int .i64 e, .int .i64 d, .bool c, .int .i64 E, .int .i64 D, .slice X lx cx]] w fun x w' => x = .returned (.bool true) ∧ Below w.heap.size w w' := by
  have hb1 : nextB q e d c E D true = false := next_no (.inl hr)
  have hb2 : nextB q e d c e 0 false = false := next_no (.inl hr)
  have HCL := Lib.hid (fun W => clean_any q e d c E D W)
  have HDI := Lib.hid (fun W => dirty_any q e d c W)
  rw [hb1, show nextV q e d c E D true = .agg #[.int .i64 0, .int .i64 0, .int .i64 0, .bool false] from (by unfold nextV; rw [hb1]; rfl)] at HCL
  rw [hb2, show nextV q e d c e 0 false = .agg #[.int .i64 0, .int .i64 0, .int .i64 0, .bool false] from (by unfold nextV; rw [hb2]; rfl)] at HDI
  clear hb1 hb2
  have hz := (zero_of_info tableInfo).1
  have HSZ := Lib.hid tableSize
  obtain ⟨w0, hw0⟩ : ∃ w0, w.alloc (.cells #[.int .i64 q, .int .i64 e, .int .i64 d, .bool c, .int .i64 E, .int .i64 D, .slice X lx cx] 42) = w0 := ⟨_, rfl⟩
  have HP0 : Hid (Box w0 w.heap.size #[.int .i64 q, .int .i64 e, .int .i64 d, .bool c, .int .i64 E, .int .i64 D, .slice X lx cx] 42) := by rw [← hw0]; exact heap_alloc_new w _
  have HA0 : Hid (Below w.heap.size w w0) := by rw [← hw0]; exact (Below.refl w.heap.size w).alloc (Nat.le_refl _) _
  go_enter Try.func5, Try.ntmps5
  go_wp2_with fail
  refine (make_any _).mono ?_
  rintro x w1 ⟨rfl, hb⟩
  have HP1 := Lib.hid (HP0.out.below hb HP0.out.lt)
  have HB1 := Lib.hid (HA0.out.trans (hb.mono HA0.out.size))
  have HG := Lib.hid (heap_alloc_last w1 (.cells (Array.replicate 256 (.int .u32 0)) 26))
  clear hb hw0
  go_wp2_with (refine wpList_store_row rfl 26 _ _ rfl w1.heap.size tabCells rfl rfl 26 _ HG.out HSZ.out (by rw [Array.size_replicate, tabCells_size]) tabCells_one ?_; rw [World.setRow_alloc_new]; have HTB := Lib.hid (table_new w1); have HP2 := Lib.hid (HP1.out.alloc (.cells tabCells 26)); have HB2 := Lib.hid (HB1.out.alloc HB1.out.size (.cells tabCells 26)); generalize w1.alloc (.cells tabCells 26) = w2 at *; have x0 : w2.cell? ⟨w.heap.size, 0, none⟩ = some (.int .i64 q) := HP2.out.cell 0; have x1 : w2.cell? ⟨w.heap.size, 1, none⟩ = some (.int .i64 e) := HP2.out.cell 1; have x2 : w2.cell? ⟨w.heap.size, 2, none⟩ = some (.int .i64 d) := HP2.out.cell 2; have x3 : w2.cell? ⟨w.heap.size, 3, none⟩ = some (.bool c) := HP2.out.cell 3)
  clear hz HG HSZ x0 x1 x2 x3
  refine (slPut_no w1.heap.size q e d c w2 hr).mono ?_
  rintro x w3 ⟨rfl, hb⟩
  have HP3 := Lib.hid (HP2.out.below hb HP2.out.lt)
  have HB3 := Lib.hid (HB2.out.trans (hb.mono HB2.out.size))
  clear hb hr
  have x0 : w3.cell? ⟨w.heap.size, 0, none⟩ = some (.int .i64 q) := HP3.out.cell 0
  have x1 : w3.cell? ⟨w.heap.size, 1, none⟩ = some (.int .i64 e) := HP3.out.cell 1
  have x2 : w3.cell? ⟨w.heap.size, 2, none⟩ = some (.int .i64 d) := HP3.out.cell 2
  have x3 : w3.cell? ⟨w.heap.size, 3, none⟩ = some (.bool c) := HP3.out.cell 3
  have x4 : w3.cell? ⟨w.heap.size, 4, none⟩ = some (.int .i64 E) := HP3.out.cell 4
  have x5 : w3.cell? ⟨w.heap.size, 5, none⟩ = some (.int .i64 D) := HP3.out.cell 5
  go_wp2_with fail
  refine (HCL.out _).mono ?_
  rintro x w4 ⟨rfl, hb⟩
  have HP4 := Lib.hid ((HP3.out.below hb HP3.out.lt).alloc (.cells #[.int .i64 0, .int .i64 0, .int .i64 0, .bool false] 23))
  have HB4 := Lib.hid (HB3.out.trans (hb.mono HB3.out.size))
  have HB4a := Lib.hid (HB4.out.alloc HB4.out.size (.cells #[.int .i64 0, .int .i64 0, .int .i64 0, .bool false] 23))
  have HN4 : Hid (Box (w4.alloc (.cells #[.int .i64 0, .int .i64 0, .int .i64 0, .bool false] 23)) w4.heap.size #[.int .i64 0, .int .i64 0, .int .i64 0, .bool false] 23) := heap_alloc_new w4 _
  have HP4' := Lib.hid (HP3.out.below hb HP3.out.lt)
  clear hb x0 x1 x2 x3 x4 x5
  have x0 : w4.cell? ⟨w.heap.size, 0, none⟩ = some (.int .i64 q) := HP4'.out.cell 0
  have x1 : w4.cell? ⟨w.heap.size, 1, none⟩ = some (.int .i64 e) := HP4'.out.cell 1
  have x2 : w4.cell? ⟨w.heap.size, 2, none⟩ = some (.int .i64 d) := HP4'.out.cell 2
  have x3 : w4.cell? ⟨w.heap.size, 3, none⟩ = some (.bool c) := HP4'.out.cell 3
  have hp4 := HP4'.out.lt
  go_wp2_with fail
  refine (HDI.out _).mono ?_
  rintro x w5 ⟨rfl, hb⟩
  have HN5 := Lib.hid (HN4.out.below hb HN4.out.lt)
  have HB5 := Lib.hid (HB4a.out.trans (hb.mono HB4a.out.size))
  clear hb x0 x1 x2 x3
  have n0 : w5.cell? ⟨w4.heap.size, 0, none⟩ = some (.int .i64 0) := HN5.out.cell 0
  have n1 : w5.cell? ⟨w4.heap.size, 1, none⟩ = some (.int .i64 0) := HN5.out.cell 1
  have n2 : w5.cell? ⟨w4.heap.size, 2, none⟩ = some (.int .i64 0) := HN5.out.cell 2
  have n3 : w5.cell? ⟨w4.heap.size, 3, none⟩ = some (.bool false) := HN5.out.cell 3
  have nf0 := frozen_of_row w5 w4.heap.size 0 _ _ HN5.out
  have nf1 := frozen_of_row w5 w4.heap.size 1 _ _ HN5.out
  have nf2 := frozen_of_row w5 w4.heap.size 2 _ _ HN5.out
  have nf3 := frozen_of_row w5 w4.heap.size 3 _ _ HN5.out
  obtain ⟨w6, hw6⟩ : ∃ w6, ((((w5.setCell ⟨w4.heap.size, 0, none⟩ (.int .i64 0)).setCell ⟨w4.heap.size, 1, none⟩ (.int .i64 0)).setCell ⟨w4.heap.size, 2, none⟩ (.int .i64 0)).setCell ⟨w4.heap.size, 3, none⟩ (.bool false)) = w6 := ⟨_, rfl⟩
  have HN6 : Hid (Box w6 w4.heap.size #[.int .i64 0, .int .i64 0, .int .i64 0, .bool false] 23) := by rw [← hw6]; exact (((HN5.out.set _).set _).set _).set _
  have HB6 : Hid (Below w.heap.size w w6) := by rw [← hw6]; exact set4 HB5.out HB4.out.size _ _ _ _
  have m0 : w6.cell? ⟨w4.heap.size, 0, none⟩ = some (.int .i64 0) := HN6.out.cell 0
  have m1 : w6.cell? ⟨w4.heap.size, 1, none⟩ = some (.int .i64 0) := HN6.out.cell 1
  have m2 : w6.cell? ⟨w4.heap.size, 2, none⟩ = some (.int .i64 0) := HN6.out.cell 2
  have m3 : w6.cell? ⟨w4.heap.size, 3, none⟩ = some (.bool false) := HN6.out.cell 3
  have HPZ := Lib.hid (slPut_no w1.heap.size 0 0 0 false w6 zero_no)
  go_wp2_with (first | (go_at_call 8; refine HPZ.out.mono ?_; rintro x w7 ⟨rfl, hb⟩; have HB7 := Lib.hid (HB6.out.trans (hb.mono HB6.out.size)); clear hb) | (go_at_call 12; refine (slLives_any _).mono ?_; rintro x w20 ⟨rfl, hb⟩; have HB20 := Lib.hid (HB7.out.trans (hb.mono HB7.out.size)); clear hb))
  go_ret
  exact ⟨rfl, HB20.out⟩

set_option maxRecDepth 100000 in
set_option maxHeartbeats 1500000 in
theorem later_none (q e d : Nat) (c : Bool) (E D : Int) (X : Option Addr) (lx cx : Nat) (w : World) (hr : slB q e d c = true) (hb1 : nextB q e d c E D true = false) (hb2 : nextB q e d c e 0 false = false) :
    Calls Try.prog 5 #[.agg #[.int .i64 (q : Int), .int .i64 (e : Int), .int .i64 (d : Int), .bool c, .int .i64 E, .int .i64 D, .slice X lx cx]] w fun x w' => x = .returned (.bool true) ∧ Below w.heap.size w w' := by
  have HCL := Lib.hid (fun W => clean_any (q : Int) (e : Int) (d : Int) c E D W)
  have HDI := Lib.hid (fun W => dirty_any (q : Int) (e : Int) (d : Int) c W)
  rw [hb1, show nextV (q : Int) (e : Int) (d : Int) c E D true = .agg #[.int .i64 0, .int .i64 0, .int .i64 0, .bool false] from (by unfold nextV; rw [hb1]; rfl)] at HCL
  rw [hb2, show nextV (q : Int) (e : Int) (d : Int) c (e : Int) 0 false = .agg #[.int .i64 0, .int .i64 0, .int .i64 0, .bool false] from (by unfold nextV; rw [hb2]; rfl)] at HDI
  have HPU := Lib.hid (fun g W (hT : Table W g) => slPut_yes g q e d c W hr hT)
  clear hr
  clear hb1 hb2
  have hz := (zero_of_info tableInfo).1
  have HSZ := Lib.hid tableSize
  obtain ⟨w0, hw0⟩ : ∃ w0, w.alloc (.cells #[.int .i64 (q : Int), .int .i64 (e : Int), .int .i64 (d : Int), .bool c, .int .i64 E, .int .i64 D, .slice X lx cx] 42) = w0 := ⟨_, rfl⟩
  have HP0 : Hid (Box w0 w.heap.size #[.int .i64 (q : Int), .int .i64 (e : Int), .int .i64 (d : Int), .bool c, .int .i64 E, .int .i64 D, .slice X lx cx] 42) := by rw [← hw0]; exact heap_alloc_new w _
  have HA0 : Hid (Below w.heap.size w w0) := by rw [← hw0]; exact (Below.refl w.heap.size w).alloc (Nat.le_refl _) _
  go_enter Try.func5, Try.ntmps5
  go_wp2_with fail
  refine (make_any _).mono ?_
  rintro x w1 ⟨rfl, hb⟩
  have HP1 := Lib.hid (HP0.out.below hb HP0.out.lt)
  have HB1 := Lib.hid (HA0.out.trans (hb.mono HA0.out.size))
  have HG := Lib.hid (heap_alloc_last w1 (.cells (Array.replicate 256 (.int .u32 0)) 26))
  clear hb hw0
  go_wp2_with (refine wpList_store_row rfl 26 _ _ rfl w1.heap.size tabCells rfl rfl 26 _ HG.out HSZ.out (by rw [Array.size_replicate, tabCells_size]) tabCells_one ?_; rw [World.setRow_alloc_new]; have HTB := Lib.hid (table_new w1); have HP2 := Lib.hid (HP1.out.alloc (.cells tabCells 26)); have HB2 := Lib.hid (HB1.out.alloc HB1.out.size (.cells tabCells 26)); generalize w1.alloc (.cells tabCells 26) = w2 at *; have x0 : w2.cell? ⟨w.heap.size, 0, none⟩ = some (.int .i64 (q : Int)) := HP2.out.cell 0; have x1 : w2.cell? ⟨w.heap.size, 1, none⟩ = some (.int .i64 (e : Int)) := HP2.out.cell 1; have x2 : w2.cell? ⟨w.heap.size, 2, none⟩ = some (.int .i64 (d : Int)) := HP2.out.cell 2; have x3 : w2.cell? ⟨w.heap.size, 3, none⟩ = some (.bool c) := HP2.out.cell 3)
  clear hz HG HSZ x0 x1 x2 x3
  refine (HPU.out w1.heap.size w2 HTB.out).mono ?_
  rintro x w3 ⟨A, k, rfl, hown, hb⟩
  have HP3 := Lib.hid (HP2.out.below hb HP2.out.lt)
  have HB3 := Lib.hid (HB2.out.trans (hb.mono HB2.out.size))
  have HT3 := Lib.hid (HTB.out.below hb HTB.out.lt)
  have HY3 := Lib.hid hown.cells
  have hk := own_cap hown
  clear hb hown HPU
  have x0 : w3.cell? ⟨w.heap.size, 0, none⟩ = some (.int .i64 (q : Int)) := HP3.out.cell 0
  have x1 : w3.cell? ⟨w.heap.size, 1, none⟩ = some (.int .i64 (e : Int)) := HP3.out.cell 1
  have x2 : w3.cell? ⟨w.heap.size, 2, none⟩ = some (.int .i64 (d : Int)) := HP3.out.cell 2
  have x3 : w3.cell? ⟨w.heap.size, 3, none⟩ = some (.bool c) := HP3.out.cell 3
  have x4 : w3.cell? ⟨w.heap.size, 4, none⟩ = some (.int .i64 E) := HP3.out.cell 4
  have x5 : w3.cell? ⟨w.heap.size, 5, none⟩ = some (.int .i64 D) := HP3.out.cell 5
  go_wp2_with fail
  refine (HCL.out _).mono ?_
  rintro x w4 ⟨rfl, hb⟩
  have HP4 := Lib.hid ((HP3.out.below hb HP3.out.lt).alloc (.cells #[.int .i64 0, .int .i64 0, .int .i64 0, .bool false] 23))
  have HB4 := Lib.hid (HB3.out.trans (hb.mono HB3.out.size))
  have HB4a := Lib.hid (HB4.out.alloc HB4.out.size (.cells #[.int .i64 0, .int .i64 0, .int .i64 0, .bool false] 23))
  have HN4 : Hid (Box (w4.alloc (.cells #[.int .i64 0, .int .i64 0, .int .i64 0, .bool false] 23)) w4.heap.size #[.int .i64 0, .int .i64 0, .int .i64 0, .bool false] 23) := heap_alloc_new w4 _
  have HP4' := Lib.hid (HP3.out.below hb HP3.out.lt)
  clear hb x0 x1 x2 x3 x4 x5
  have x0 : w4.cell? ⟨w.heap.size, 0, none⟩ = some (.int .i64 (q : Int)) := HP4'.out.cell 0
  have x1 : w4.cell? ⟨w.heap.size, 1, none⟩ = some (.int .i64 (e : Int)) := HP4'.out.cell 1
  have x2 : w4.cell? ⟨w.heap.size, 2, none⟩ = some (.int .i64 (d : Int)) := HP4'.out.cell 2
  have x3 : w4.cell? ⟨w.heap.size, 3, none⟩ = some (.bool c) := HP4'.out.cell 3
  have hp4 := HP4'.out.lt
  go_wp2_with fail
  refine (HDI.out _).mono ?_
  rintro x w5 ⟨rfl, hb⟩
  have HN5 := Lib.hid (HN4.out.below hb HN4.out.lt)
  have HB5 := Lib.hid (HB4a.out.trans (hb.mono HB4a.out.size))
  clear hb x0 x1 x2 x3
  have n0 : w5.cell? ⟨w4.heap.size, 0, none⟩ = some (.int .i64 0) := HN5.out.cell 0
  have n1 : w5.cell? ⟨w4.heap.size, 1, none⟩ = some (.int .i64 0) := HN5.out.cell 1
  have n2 : w5.cell? ⟨w4.heap.size, 2, none⟩ = some (.int .i64 0) := HN5.out.cell 2
  have n3 : w5.cell? ⟨w4.heap.size, 3, none⟩ = some (.bool false) := HN5.out.cell 3
  have nf0 := frozen_of_row w5 w4.heap.size 0 _ _ HN5.out
  have nf1 := frozen_of_row w5 w4.heap.size 1 _ _ HN5.out
  have nf2 := frozen_of_row w5 w4.heap.size 2 _ _ HN5.out
  have nf3 := frozen_of_row w5 w4.heap.size 3 _ _ HN5.out
  obtain ⟨w6, hw6⟩ : ∃ w6, ((((w5.setCell ⟨w4.heap.size, 0, none⟩ (.int .i64 0)).setCell ⟨w4.heap.size, 1, none⟩ (.int .i64 0)).setCell ⟨w4.heap.size, 2, none⟩ (.int .i64 0)).setCell ⟨w4.heap.size, 3, none⟩ (.bool false)) = w6 := ⟨_, rfl⟩
  have HN6 : Hid (Box w6 w4.heap.size #[.int .i64 0, .int .i64 0, .int .i64 0, .bool false] 23) := by rw [← hw6]; exact (((HN5.out.set _).set _).set _).set _
  have HB6 : Hid (Below w.heap.size w w6) := by rw [← hw6]; exact set4 HB5.out HB4.out.size _ _ _ _
  have m0 : w6.cell? ⟨w4.heap.size, 0, none⟩ = some (.int .i64 0) := HN6.out.cell 0
  have m1 : w6.cell? ⟨w4.heap.size, 1, none⟩ = some (.int .i64 0) := HN6.out.cell 1
  have m2 : w6.cell? ⟨w4.heap.size, 2, none⟩ = some (.int .i64 0) := HN6.out.cell 2
  have m3 : w6.cell? ⟨w4.heap.size, 3, none⟩ = some (.bool false) := HN6.out.cell 3
  have HPZ := Lib.hid (slPut_no w1.heap.size 0 0 0 false w6 zero_no)
  go_wp2_with (first | (go_at_call 8; refine HPZ.out.mono ?_; rintro x w7 ⟨rfl, hb⟩; have HB7 := Lib.hid (HB6.out.trans (hb.mono HB6.out.size)); clear hb) | (go_at_call 12; refine (slLives_any _).mono ?_; rintro x w20 ⟨rfl, hb⟩; have HB20 := Lib.hid (HB7.out.trans (hb.mono HB7.out.size)); clear hb))
  go_ret
  exact ⟨rfl, HB20.out⟩

set_option maxRecDepth 100000 in
set_option maxHeartbeats 1500000 in
theorem later_clean (q e d : Nat) (c : Bool) (E D : Int) (X : Option Addr) (lx cx : Nat) (st : List UInt8) (w : World) (hls : st.length = lx) (hlc : lx ≤ cx) (hxs : Bytes w w.heap.size X st) (hr : slB q e d c = true) (hb1 : nextB q e d c E D true = true) :
    Calls Try.prog 5 #[.agg #[.int .i64 (q : Int), .int .i64 (e : Int), .int .i64 (d : Int), .bool c, .int .i64 E, .int .i64 D, .slice X lx cx]] w fun x w' => x = .returned (.bool true) ∧ Below w.heap.size w w' := by
  have HPU := Lib.hid (fun g W (hT : Table W g) => slPut_yes g q e d c W hr hT)
  have HCL := Lib.hid (fun W => clean_any (q : Int) (e : Int) (d : Int) c E D W)
  have hn : slB ((q : Int) + 1) E D true = true := by
    have := hb1
    unfold nextB at this
    rw [Bool.and_eq_true] at this
    exact this.2
  obtain ⟨bsA, HLA, HPU, HPB0⟩ : ∃ bsA : List UInt8, Hid (bsA.length = 512) ∧ Hid (∀ g W, Table W g → Calls Try.prog 8 #[.pointer (some ⟨g, 0, none⟩), .agg #[.int .i64 (q : Int), .int .i64 (e : Int), .int .i64 (d : Int), .bool c]] W fun x w' => ∃ A k, x = .returned (.tuple #[.slice A 512 k, .int .i64 0]) ∧ OwnY w' W.heap.size (.slice A 512 k) 512 bsA ∧ Below W.heap.size W w') ∧ (∃ bsB : List UInt8, Hid (bsB.length = 512) ∧ Hid (∀ g W, Table W g → Calls Try.prog 8 #[.pointer (some ⟨g, 0, none⟩), .agg #[.int .i64 ((q : Int) + 1), .int .i64 E, .int .i64 D, .bool true]] W fun x w' => ∃ A k, x = .returned (.tuple #[.slice A 512 k, .int .i64 0]) ∧ OwnY w' W.heap.size (.slice A 512 k) 512 bsB ∧ Below W.heap.size W w') ∧ Hid (chV (bsA ++ bsB) = .tuple #[.agg #[.int .i64 ((q : Int) + 1), .int .i64 E, .int .i64 D, .bool true], .int .i64 0]) ∧ Hid (chV (bsB ++ bsA) = .tuple #[.agg #[.int .i64 ((q : Int) + 1), .int .i64 E, .int .i64 D, .bool true], .int .i64 0]) ∧ Hid (slE st ≠ 0 → chV (bsA ++ st) = .tuple #[.agg #[.int .i64 (q : Int), .int .i64 (e : Int), .int .i64 (d : Int), .bool c], .int .i64 0]) ∧ Hid (st.length = 512 → slE st ≠ 0 → chV (st ++ bsA) = .tuple #[.agg #[.int .i64 (q : Int), .int .i64 (e : Int), .int .i64 (d : Int), .bool c], .int .i64 0])) := by
    obtain ⟨q', e', d', f1, f2, f3⟩ := slP_nat hn
    subst f2 f3
    rw [f1] at hn
    have hlt : q < q' := by omega
    refine ⟨slotB q e d c, slotB_length q e d c, fun g W hT => slPut_yes g q e d c W hr hT, slotB q' e' d' true, slotB_length _ _ _ _, fun g W hT => ?_, ?_, ?_, fun h => ch_one1 hr h, fun hl h => ch_one2 hl hr h⟩
    · rw [f1]; exact slPut_yes g q' e' d' true W hn hT
    · rw [f1]; exact ch_both1 hlt hr hn
    · rw [f1]; exact ch_both2 hlt hr hn
  obtain ⟨bsB, HLB, HPB, HC1, HC2, HS1, HS2x⟩ := HPB0
  have HCA : Hid ((byteCells bsA).length = 512) := by show _ = _; rw [byteCells_length]; exact HLA.out
  have HCB : Hid ((byteCells bsB).length = 512) := by show _ = _; rw [byteCells_length]; exact HLB.out
  have HXS := Lib.hid hxs
  clear hn hxs
  rw [hb1, show nextV (q : Int) (e : Int) (d : Int) c E D true = .agg #[.int .i64 ((q : Int) + 1), .int .i64 E, .int .i64 D, .bool true] from (by unfold nextV; rw [hb1]; rfl)] at HCL
  clear hb1
  clear hr
  have hz := (zero_of_info tableInfo).1
  have HSZ := Lib.hid tableSize
  obtain ⟨w0, hw0⟩ : ∃ w0, w.alloc (.cells #[.int .i64 (q : Int), .int .i64 (e : Int), .int .i64 (d : Int), .bool c, .int .i64 E, .int .i64 D, .slice X lx cx] 42) = w0 := ⟨_, rfl⟩
  have HP0 : Hid (Box w0 w.heap.size #[.int .i64 (q : Int), .int .i64 (e : Int), .int .i64 (d : Int), .bool c, .int .i64 E, .int .i64 D, .slice X lx cx] 42) := by rw [← hw0]; exact heap_alloc_new w _
  have HA0 : Hid (Below w.heap.size w w0) := by rw [← hw0]; exact (Below.refl w.heap.size w).alloc (Nat.le_refl _) _
  go_enter Try.func5, Try.ntmps5
  go_wp2_with fail
  refine (make_any _).mono ?_
  rintro x w1 ⟨rfl, hb⟩
  have HP1 := Lib.hid (HP0.out.below hb HP0.out.lt)
  have HB1 := Lib.hid (HA0.out.trans (hb.mono HA0.out.size))
  have HG := Lib.hid (heap_alloc_last w1 (.cells (Array.replicate 256 (.int .u32 0)) 26))
  clear hb hw0
  go_wp2_with (refine wpList_store_row rfl 26 _ _ rfl w1.heap.size tabCells rfl rfl 26 _ HG.out HSZ.out (by rw [Array.size_replicate, tabCells_size]) tabCells_one ?_; rw [World.setRow_alloc_new]; have HTB := Lib.hid (table_new w1); have HP2 := Lib.hid (HP1.out.alloc (.cells tabCells 26)); have HB2 := Lib.hid (HB1.out.alloc HB1.out.size (.cells tabCells 26)); generalize w1.alloc (.cells tabCells 26) = w2 at *; have x0 : w2.cell? ⟨w.heap.size, 0, none⟩ = some (.int .i64 (q : Int)) := HP2.out.cell 0; have x1 : w2.cell? ⟨w.heap.size, 1, none⟩ = some (.int .i64 (e : Int)) := HP2.out.cell 1; have x2 : w2.cell? ⟨w.heap.size, 2, none⟩ = some (.int .i64 (d : Int)) := HP2.out.cell 2; have x3 : w2.cell? ⟨w.heap.size, 3, none⟩ = some (.bool c) := HP2.out.cell 3)
  clear hz HG HSZ x0 x1 x2 x3
  refine (HPU.out w1.heap.size w2 HTB.out).mono ?_
  rintro x w3 ⟨A, k, rfl, hown, hb⟩
  have HP3 := Lib.hid (HP2.out.below hb HP2.out.lt)
  have HB3 := Lib.hid (HB2.out.trans (hb.mono HB2.out.size))
  have HT3 := Lib.hid (HTB.out.below hb HTB.out.lt)
  have HY3 := Lib.hid hown.cells
  have hk := own_cap hown
  clear hb hown HPU
  have x0 : w3.cell? ⟨w.heap.size, 0, none⟩ = some (.int .i64 (q : Int)) := HP3.out.cell 0
  have x1 : w3.cell? ⟨w.heap.size, 1, none⟩ = some (.int .i64 (e : Int)) := HP3.out.cell 1
  have x2 : w3.cell? ⟨w.heap.size, 2, none⟩ = some (.int .i64 (d : Int)) := HP3.out.cell 2
  have x3 : w3.cell? ⟨w.heap.size, 3, none⟩ = some (.bool c) := HP3.out.cell 3
  have x4 : w3.cell? ⟨w.heap.size, 4, none⟩ = some (.int .i64 E) := HP3.out.cell 4
  have x5 : w3.cell? ⟨w.heap.size, 5, none⟩ = some (.int .i64 D) := HP3.out.cell 5
  go_wp2_with fail
  refine (HCL.out _).mono ?_
  rintro x w4 ⟨rfl, hb⟩
  have HP4 := Lib.hid (HP3.out.below hb HP3.out.lt)
  have HB4 := Lib.hid (HB3.out.trans (hb.mono HB3.out.size))
  have HT4 := Lib.hid (HT3.out.below hb HT3.out.lt)
  have HY4 := Lib.hid (HY3.out.below hb (Nat.le_refl _))
  have hz4 := hb.size
  clear hb x0 x1 x2 x3 x4 x5
  obtain ⟨w7, hw7⟩ : ∃ w7, w4.alloc (.cells #[.int .i64 ((q : Int) + 1), .int .i64 E, .int .i64 D, .bool true] 23) = w7 := ⟨_, rfl⟩
  have HN7 : Hid (Box w7 w4.heap.size #[.int .i64 ((q : Int) + 1), .int .i64 E, .int .i64 D, .bool true] 23) := by rw [← hw7]; exact heap_alloc_new w4 _
  have HP7 : Hid (Box w7 w.heap.size #[.int .i64 (q : Int), .int .i64 (e : Int), .int .i64 (d : Int), .bool c, .int .i64 E, .int .i64 D, .slice X lx cx] 42) := by rw [← hw7]; exact HP4.out.alloc _
  have HB7 : Hid (Below w.heap.size w w7) := by rw [← hw7]; exact HB4.out.alloc HB4.out.size _
  have HT7 : Hid (Table w7 w1.heap.size) := by rw [← hw7]; exact HT4.out.alloc _
  have HY7 : Hid (Bytes w7 w3.heap.size A bsA) := by rw [← hw7]; exact HY4.out.alloc hz4 _
  have hz7 : w3.heap.size ≤ w7.heap.size := by rw [← hw7]; simp; omega
  have p0 : w7.cell? ⟨w4.heap.size, 0, none⟩ = some (.int .i64 ((q : Int) + 1)) := HN7.out.cell 0
  have p1 : w7.cell? ⟨w4.heap.size, 1, none⟩ = some (.int .i64 E) := HN7.out.cell 1
  have p2 : w7.cell? ⟨w4.heap.size, 2, none⟩ = some (.int .i64 D) := HN7.out.cell 2
  have p3 : w7.cell? ⟨w4.heap.size, 3, none⟩ = some (.bool true) := HN7.out.cell 3
  have hn7 := HN7.out.lt
  have HPB1 := Lib.hid (HPB.out w1.heap.size w7 HT7.out)
  go_wp2_with fail
  refine HPB1.out.mono ?_
  rintro x w8 ⟨Bb, kb, rfl, hown, hb⟩
  have HP8 := Lib.hid (HP7.out.below hb HP7.out.lt)
  have HN8 := Lib.hid (HN7.out.below hb HN7.out.lt)
  have HB8 := Lib.hid (HB7.out.trans (hb.mono HB7.out.size))
  have HT8 := Lib.hid (HT7.out.below hb HT7.out.lt)
  have HYA8 : Hid (Bytes w8 w8.heap.size A bsA) := ((HY7.out.below hb hz7).more (Nat.le_trans hz7 hb.size))
  have HYB8 : Hid (Bytes w8 w8.heap.size Bb bsB) := hown.cells
  have hkb := own_cap hown
  clear hb hown HPB1 HPB p0 p1 p2 p3 HCL
  have x6 : w8.cell? ⟨w.heap.size, 6, none⟩ = some (.slice X lx cx) := HP8.out.cell 6
  by_cases hlx : lx = 512
  case neg =>
    have t0 : ((lx : Int) != 512) = true := by simp; omega
    clear hlx
    go_wp2_with (go_at_call 12; refine (slLives_any _).mono ?_; rintro x w20 ⟨rfl, hb⟩; have HB20 := Lib.hid (HB8.out.trans (hb.mono HB8.out.size)); clear hb)
    go_ret
    exact ⟨rfl, HB20.out⟩
  subst hlx
  have HLS := Lib.hid hls
  have HCS : Hid ((byteCells st).length = 512) := by show _ = _; rw [byteCells_length]; exact hls
  have HS2 := Lib.hid (HS2x.out hls)
  clear hls HS2x
  by_cases hpar : q % 2 = 0
  · skip
    obtain ⟨hpq, hpn⟩ := place_even hpar
    have HPQ := Lib.hid (fun W => place_any (q : Int) W)
    have HPN := Lib.hid (fun W => place_any ((q : Int) + 1) W)
    rw [hpq] at HPQ
    rw [hpn] at HPN
    clear hpq hpn hpar
    have hmk : (Instr.makeSlice 28 (.int .i64 1024) (.int .i64 1024)).run Try.prog w8 = .ok (.slice (some ⟨w8.heap.size, 0, none⟩) 1024 1024) (w8.alloc (.cells (madeCells #[.int .u8 0] 1024) 5)) := make_bytes 1024 (by omega) w8
    obtain ⟨w9, hw9⟩ : ∃ w9, w8.alloc (.cells (madeCells #[.int .u8 0] 1024) 5) = w9 := ⟨_, rfl⟩
    rw [hw9] at hmk
    have HO9 : Hid (OwnB w9 w8.heap.size 5 (.slice (some ⟨w8.heap.size, 0, none⟩) 1024 1024) 1024 (List.replicate 1024 0)) := by rw [← hw9]; exact own_made w8 w8.heap.size 1024 (Nat.le_refl _) (by unfold maxLen; omega)
    have HK9 : Hid (Below w8.heap.size w8 w9) := by rw [← hw9]; exact (Below.refl w8.heap.size w8).alloc (Nat.le_refl _) _
    clear hw9
    have hz9 := HK9.out.size
    generalize hg : w8.heap.size = g8 at hmk HO9
    have HG8 := Lib.hid hg
    clear hg
    obtain ⟨w10, hr1, ho10, hm10⟩ := run_copy_into (P := Try.prog) w9 HO9.out 28 28 3 Try.underlying28 byteSize (some ⟨g8, 0, none⟩) A 1024 1024 512 k 0 (byteCells bsA) (by rw [HCA.out]; rfl) (fun _ => ⟨g8, rfl, rfl⟩) w8.heap.size (byteCells bsA) (HYA8.out.below HK9.out (Nat.le_refl _)) (List.take_length).symm (by rw [HCA.out]; omega) (byteCells_one _)
    rw [HCA.out] at hr1
    have HK10 := Lib.hid (hm10.below HK9.out hz9 (fun j hj => by rw [HG8.out]; exact own_base HO9.out j hj))
    clear hm10
    have HO10 := Lib.hid ho10
    clear ho10 HO9
    have hz10 := HK10.out.size
    obtain ⟨w11, hr2, ho11, hm11⟩ := run_copy_into (P := Try.prog) w10 HO10.out 28 28 3 Try.underlying28 byteSize (some ⟨g8, 512, none⟩) Bb 512 512 512 kb 512 (byteCells bsB) (by rw [HCB.out]; rfl) (fun _ => ⟨g8, rfl, rfl⟩) w8.heap.size (byteCells bsB) (HYB8.out.below HK10.out (Nat.le_refl _)) (List.take_length).symm (by rw [HCB.out]; omega) (byteCells_one _)
    rw [HCB.out] at hr2
    have HK11 := Lib.hid (hm11.below HK10.out hz10 (fun j hj => by rw [HG8.out]; exact own_base HO10.out j hj))
    rw [splice_lo HCA.out, splice_hi (by rw [List.length_append, HCA.out, List.length_drop, byteCells_length, List.length_replicate]) HCB.out, halves_take HCA.out, ← byteCells_append] at ho11
    have HO11 : Hid (OwnB w11 g8 5 (.slice (some ⟨g8, 0, none⟩) 1024 1024) 1024 (bsA ++ bsB)) := ho11
    clear ho11 hm11 HO10
    have hz11 := HK11.out.size
    have a0 : w9.cell? ⟨w.heap.size, 0, none⟩ = some (.int .i64 (q : Int)) := (HK9.out.cell (p := ⟨w.heap.size, 0, none⟩) (show w.heap.size < w8.heap.size from HP8.out.lt)).trans (HP8.out.cell 0)
    have b0 : w10.cell? ⟨w4.heap.size, 0, none⟩ = some (.int .i64 ((q : Int) + 1)) := (HK10.out.cell (p := ⟨w4.heap.size, 0, none⟩) (show w4.heap.size < w8.heap.size from HN8.out.lt)).trans (HN8.out.cell 0)
    have HCH := Lib.hid (choose_any w1.heap.size g8 0 1024 (bsA ++ bsB) w11.heap.size w11 (HT8.out.below HK11.out HT8.out.lt) (by rw [List.length_append, HLA.out, HLB.out]) (by omega) (Cells.of_own HO11.out) (Nat.le_refl _))
    rw [HC1.out] at HCH
    go_wp2_with (first | (go_at_call 11; refine (HPQ.out _).mono ?_; clear HPQ; rintro x w' ⟨rfl, rfl⟩) | (go_at_call 11; refine (HPN.out _).mono ?_; rintro x w' ⟨rfl, rfl⟩))
    refine HCH.out.mono ?_
    rintro x w12 ⟨rfl, hb⟩
    have HK12 := Lib.hid (HK11.out.trans (hb.mono hz11))
    have HO12 := Lib.hid (own_keep HO11.out (Mod.of_below hb) (fun _ _ h => h))
    clear hb HCH HO11 a0 b0 hmk hr1 hr2
    have x6 : w12.cell? ⟨w.heap.size, 6, none⟩ = some (.slice X 512 cx) := (HK12.out.cell (p := ⟨w.heap.size, 6, none⟩) (show w.heap.size < w8.heap.size from HP8.out.lt)).trans (HP8.out.cell 6)
    have n0 : w12.cell? ⟨w4.heap.size, 0, none⟩ = some (.int .i64 ((q : Int) + 1)) := (HK12.out.cell (p := ⟨w4.heap.size, 0, none⟩) (show w4.heap.size < w8.heap.size from HN8.out.lt)).trans (HN8.out.cell 0)
    have n1 : w12.cell? ⟨w4.heap.size, 1, none⟩ = some (.int .i64 E) := (HK12.out.cell (p := ⟨w4.heap.size, 1, none⟩) (show w4.heap.size < w8.heap.size from HN8.out.lt)).trans (HN8.out.cell 1)
    have n2 : w12.cell? ⟨w4.heap.size, 2, none⟩ = some (.int .i64 D) := (HK12.out.cell (p := ⟨w4.heap.size, 2, none⟩) (show w4.heap.size < w8.heap.size from HN8.out.lt)).trans (HN8.out.cell 2)
    have n3 : w12.cell? ⟨w4.heap.size, 3, none⟩ = some (.bool true) := (HK12.out.cell (p := ⟨w4.heap.size, 3, none⟩) (show w4.heap.size < w8.heap.size from HN8.out.lt)).trans (HN8.out.cell 3)
    have hl4 : w4.heap.size < w12.heap.size := Nat.lt_of_lt_of_le HN8.out.lt HK12.out.size
    have hl0 : w.heap.size < w12.heap.size := Nat.lt_of_lt_of_le HP8.out.lt HK12.out.size
    go_wp2_with fail
    obtain ⟨w13, hw13⟩ : ∃ w13, w12.alloc (.cells #[.int .i64 ((q : Int) + 1), .int .i64 E, .int .i64 D, .bool true] 23) = w13 := ⟨_, rfl⟩
    rw [hw13]
    have HK13 : Hid (Below w8.heap.size w8 w13) := by rw [← hw13]; exact HK12.out.alloc HK12.out.size _
    have HO13 : Hid (OwnB w13 g8 5 (.slice (some ⟨g8, 0, none⟩) 1024 1024) 1024 (bsA ++ bsB)) := by rw [← hw13]; exact own_keep HO12.out ((Mod.refl noB w12).alloc _) (fun _ _ h => h)
    have HM13 : Hid (Box w13 w12.heap.size #[.int .i64 ((q : Int) + 1), .int .i64 E, .int .i64 D, .bool true] 23) := by rw [← hw13]; exact heap_alloc_new w12 _
    have HTS := Lib.hid (slTake_all w1.heap.size X cx st w8.heap.size w13 (HT8.out.below HK13.out HT8.out.lt) HLS.out hlc ((HXS.out.below HB8.out (Nat.le_refl _)).more HB8.out.size |>.below HK13.out (Nat.le_refl _)) HK13.out.size)
    obtain ⟨q9, e9, d9, c9, hv9, _⟩ := slV_form st
    rw [hv9] at HTS
    obtain ⟨E9, hE9⟩ : ∃ E9, slE st = E9 := ⟨_, rfl⟩
    have HE9 := Lib.hid hE9
    rw [hE9] at HTS
    clear hv9 hE9
    refine HTS.out.mono ?_
    rintro x w14 ⟨rfl, hb⟩
    have HK14 := Lib.hid (HK13.out.trans (hb.mono HK13.out.size))
    have HO14 := Lib.hid (own_keep HO13.out (Mod.of_below hb) (fun _ _ h => h))
    clear hb x6 n0 n1 n2 n3 HTS
    obtain ⟨w15, hw15⟩ : ∃ w15, w14.alloc (.cells #[.int .i64 q9, .int .i64 e9, .int .i64 d9, .bool c9] 23) = w15 := ⟨_, rfl⟩
    have HK15 : Hid (Below w8.heap.size w8 w15) := by rw [← hw15]; exact HK14.out.alloc HK14.out.size _
    have HO15 : Hid (OwnB w15 g8 5 (.slice (some ⟨g8, 0, none⟩) 1024 1024) 1024 (bsA ++ bsB)) := by rw [← hw15]; exact own_keep HO14.out ((Mod.refl noB w14).alloc _) (fun _ _ h => h)
    have HB15 := Lib.hid (HB8.out.trans (HK15.out.mono HB8.out.size))
    by_cases h9 : E9 = 0
    · have t1 : ((E9 : Int) == 0) = true := by simp [h9]
      clear h9
      go_wp2_with (go_at_call 12; refine (slLives_any _).mono ?_; rintro x w20 ⟨rfl, hb⟩; have HB20 := Lib.hid (HB15.out.trans (hb.mono HB15.out.size)); clear hb)
      go_ret
      exact ⟨rfl, HB20.out⟩
    have t1 : ((E9 : Int) == 0) = false := by simp; omega
    have HSE : Hid (slE st ≠ 0) := by show _ ≠ _; rw [HE9.out]; exact h9
    clear h9
    have x6 : w15.cell? ⟨w.heap.size, 6, none⟩ = some (.slice X 512 cx) := (HK15.out.cell (p := ⟨w.heap.size, 6, none⟩) (show w.heap.size < w8.heap.size from HP8.out.lt)).trans (HP8.out.cell 6)
    have n0 : w15.cell? ⟨w4.heap.size, 0, none⟩ = some (.int .i64 ((q : Int) + 1)) := (HK15.out.cell (p := ⟨w4.heap.size, 0, none⟩) (show w4.heap.size < w8.heap.size from HN8.out.lt)).trans (HN8.out.cell 0)
    go_wp2_with fail
    go_still_tail 7, (by kernel_rfl)
    still_call (still_of (HPN.out _))
    repeat still_step
    refine wpStill_nil ?_
    change wpList _ _ _ _ _ w15.drew
    have HK16 := Lib.hid HK15.out.drew
    have HO16 := Lib.hid HO15.out.drew
    clear x6 n0 hw15 hw13
    generalize w15.drew = w16 at *
    have hz16 := HK16.out.size
    obtain ⟨w17, hr3, ho17, hm17⟩ := run_copy_into (P := Try.prog) w16 HO16.out 28 28 3 Try.underlying28 byteSize (some ⟨g8, 512, none⟩) X 512 512 512 cx 512 (byteCells st) (by rw [HCS.out]; rfl) (fun _ => ⟨g8, rfl, rfl⟩) w8.heap.size (byteCells st) ((HXS.out.below HB8.out (Nat.le_refl _)).more HB8.out.size |>.below HK16.out (Nat.le_refl _)) (List.take_length).symm (by rw [HCS.out]; omega) (byteCells_one _)
    rw [HCS.out] at hr3
    have HK17 := Lib.hid (hm17.below HK16.out hz16 (fun j hj => by rw [HG8.out]; exact own_base HO16.out j hj))
    rw [byteCells_append, splice_hi (by rw [List.length_append, HCA.out, HCB.out]) HCS.out, halves_take HCA.out, ← byteCells_append] at ho17
    have HO17 : Hid (OwnB w17 g8 5 (.slice (some ⟨g8, 0, none⟩) 1024 1024) 1024 (bsA ++ st)) := ho17
    clear ho17 hm17 HO16
    have hz17 := HK17.out.size
    have HCH := Lib.hid (choose_any w1.heap.size g8 0 1024 (bsA ++ st) w17.heap.size w17 (HT8.out.below HK17.out HT8.out.lt) (by rw [List.length_append, HLA.out, HLS.out]) (by omega) (Cells.of_own HO17.out) (Nat.le_refl _))
    rw [HS1.out HSE.out] at HCH
    go_wp2_with fail
    refine HCH.out.mono ?_
    rintro x w18 ⟨rfl, hb⟩
    have HK18 := Lib.hid (HK17.out.trans (hb.mono hz17))
    clear hb hr3 HCH
    obtain ⟨w19, hw19⟩ : ∃ w19, w18.alloc (.cells #[.int .i64 (q : Int), .int .i64 (e : Int), .int .i64 (d : Int), .bool c] 23) = w19 := ⟨_, rfl⟩
    have HK19 : Hid (Below w8.heap.size w8 w19) := by rw [← hw19]; exact HK18.out.alloc HK18.out.size _
    have HM19 : Hid (Box w19 w18.heap.size #[.int .i64 (q : Int), .int .i64 (e : Int), .int .i64 (d : Int), .bool c] 23) := by rw [← hw19]; exact heap_alloc_new w18 _
    have m0 : w19.cell? ⟨w18.heap.size, 0, none⟩ = some (.int .i64 (q : Int)) := HM19.out.cell 0
    have m1 : w19.cell? ⟨w18.heap.size, 1, none⟩ = some (.int .i64 (e : Int)) := HM19.out.cell 1
    have m2 : w19.cell? ⟨w18.heap.size, 2, none⟩ = some (.int .i64 (d : Int)) := HM19.out.cell 2
    have m3 : w19.cell? ⟨w18.heap.size, 3, none⟩ = some (.bool c) := HM19.out.cell 3
    have x0 : w19.cell? ⟨w.heap.size, 0, none⟩ = some (.int .i64 (q : Int)) := (HK19.out.cell (p := ⟨w.heap.size, 0, none⟩) (show w.heap.size < w8.heap.size from HP8.out.lt)).trans (HP8.out.cell 0)
    have x1 : w19.cell? ⟨w.heap.size, 1, none⟩ = some (.int .i64 (e : Int)) := (HK19.out.cell (p := ⟨w.heap.size, 1, none⟩) (show w.heap.size < w8.heap.size from HP8.out.lt)).trans (HP8.out.cell 1)
    have x2 : w19.cell? ⟨w.heap.size, 2, none⟩ = some (.int .i64 (d : Int)) := (HK19.out.cell (p := ⟨w.heap.size, 2, none⟩) (show w.heap.size < w8.heap.size from HP8.out.lt)).trans (HP8.out.cell 2)
    have x3 : w19.cell? ⟨w.heap.size, 3, none⟩ = some (.bool c) := (HK19.out.cell (p := ⟨w.heap.size, 3, none⟩) (show w.heap.size < w8.heap.size from HP8.out.lt)).trans (HP8.out.cell 3)
    have HB19 := Lib.hid (HB8.out.trans (HK19.out.mono HB8.out.size))
    go_wp2_with (go_at_call 12; refine (slLives_any _).mono ?_; rintro x w20 ⟨rfl, hb⟩; have HB20 := Lib.hid (HB19.out.trans (hb.mono HB19.out.size)); clear hb)
    go_ret
    exact ⟨rfl, HB20.out⟩
  · skip
    obtain ⟨hpq, hpn⟩ := place_odd hpar
    have HPQ := Lib.hid (fun W => place_any (q : Int) W)
    have HPN := Lib.hid (fun W => place_any ((q : Int) + 1) W)
    rw [hpq] at HPQ
    rw [hpn] at HPN
    clear hpq hpn hpar
    have hmk : (Instr.makeSlice 28 (.int .i64 1024) (.int .i64 1024)).run Try.prog w8 = .ok (.slice (some ⟨w8.heap.size, 0, none⟩) 1024 1024) (w8.alloc (.cells (madeCells #[.int .u8 0] 1024) 5)) := make_bytes 1024 (by omega) w8
    obtain ⟨w9, hw9⟩ : ∃ w9, w8.alloc (.cells (madeCells #[.int .u8 0] 1024) 5) = w9 := ⟨_, rfl⟩
    rw [hw9] at hmk
    have HO9 : Hid (OwnB w9 w8.heap.size 5 (.slice (some ⟨w8.heap.size, 0, none⟩) 1024 1024) 1024 (List.replicate 1024 0)) := by rw [← hw9]; exact own_made w8 w8.heap.size 1024 (Nat.le_refl _) (by unfold maxLen; omega)
    have HK9 : Hid (Below w8.heap.size w8 w9) := by rw [← hw9]; exact (Below.refl w8.heap.size w8).alloc (Nat.le_refl _) _
    clear hw9
    have hz9 := HK9.out.size
    generalize hg : w8.heap.size = g8 at hmk HO9
    have HG8 := Lib.hid hg
    clear hg
    obtain ⟨w10, hr1, ho10, hm10⟩ := run_copy_into (P := Try.prog) w9 HO9.out 28 28 3 Try.underlying28 byteSize (some ⟨g8, 512, none⟩) A 512 512 512 k 512 (byteCells bsA) (by rw [HCA.out]; rfl) (fun _ => ⟨g8, rfl, rfl⟩) w8.heap.size (byteCells bsA) (HYA8.out.below HK9.out (Nat.le_refl _)) (List.take_length).symm (by rw [HCA.out]; omega) (byteCells_one _)
    rw [HCA.out] at hr1
    have HK10 := Lib.hid (hm10.below HK9.out hz9 (fun j hj => by rw [HG8.out]; exact own_base HO9.out j hj))
    clear hm10
    have HO10 := Lib.hid ho10
    clear ho10 HO9
    have hz10 := HK10.out.size
    obtain ⟨w11, hr2, ho11, hm11⟩ := run_copy_into (P := Try.prog) w10 HO10.out 28 28 3 Try.underlying28 byteSize (some ⟨g8, 0, none⟩) Bb 1024 1024 512 kb 0 (byteCells bsB) (by rw [HCB.out]; rfl) (fun _ => ⟨g8, rfl, rfl⟩) w8.heap.size (byteCells bsB) (HYB8.out.below HK10.out (Nat.le_refl _)) (List.take_length).symm (by rw [HCB.out]; omega) (byteCells_one _)
    rw [HCB.out] at hr2
    have HK11 := Lib.hid (hm11.below HK10.out hz10 (fun j hj => by rw [HG8.out]; exact own_base HO10.out j hj))
    rw [splice_hi (by rw [byteCells_length, List.length_replicate]) HCA.out, splice_lo HCB.out, halves_drop (by rw [List.length_take, byteCells_length, List.length_replicate]; omega), ← byteCells_append] at ho11
    have HO11 : Hid (OwnB w11 g8 5 (.slice (some ⟨g8, 0, none⟩) 1024 1024) 1024 (bsB ++ bsA)) := ho11
    clear ho11 hm11 HO10
    have hz11 := HK11.out.size
    have a0 : w9.cell? ⟨w.heap.size, 0, none⟩ = some (.int .i64 (q : Int)) := (HK9.out.cell (p := ⟨w.heap.size, 0, none⟩) (show w.heap.size < w8.heap.size from HP8.out.lt)).trans (HP8.out.cell 0)
    have b0 : w10.cell? ⟨w4.heap.size, 0, none⟩ = some (.int .i64 ((q : Int) + 1)) := (HK10.out.cell (p := ⟨w4.heap.size, 0, none⟩) (show w4.heap.size < w8.heap.size from HN8.out.lt)).trans (HN8.out.cell 0)
    have HCH := Lib.hid (choose_any w1.heap.size g8 0 1024 (bsB ++ bsA) w11.heap.size w11 (HT8.out.below HK11.out HT8.out.lt) (by rw [List.length_append, HLA.out, HLB.out]) (by omega) (Cells.of_own HO11.out) (Nat.le_refl _))
    rw [HC2.out] at HCH
    go_wp2_with (first | (go_at_call 11; refine (HPQ.out _).mono ?_; clear HPQ; rintro x w' ⟨rfl, rfl⟩) | (go_at_call 11; refine (HPN.out _).mono ?_; rintro x w' ⟨rfl, rfl⟩))
    refine HCH.out.mono ?_
    rintro x w12 ⟨rfl, hb⟩
    have HK12 := Lib.hid (HK11.out.trans (hb.mono hz11))
    have HO12 := Lib.hid (own_keep HO11.out (Mod.of_below hb) (fun _ _ h => h))
    clear hb HCH HO11 a0 b0 hmk hr1 hr2
    have x6 : w12.cell? ⟨w.heap.size, 6, none⟩ = some (.slice X 512 cx) := (HK12.out.cell (p := ⟨w.heap.size, 6, none⟩) (show w.heap.size < w8.heap.size from HP8.out.lt)).trans (HP8.out.cell 6)
    have n0 : w12.cell? ⟨w4.heap.size, 0, none⟩ = some (.int .i64 ((q : Int) + 1)) := (HK12.out.cell (p := ⟨w4.heap.size, 0, none⟩) (show w4.heap.size < w8.heap.size from HN8.out.lt)).trans (HN8.out.cell 0)
    have n1 : w12.cell? ⟨w4.heap.size, 1, none⟩ = some (.int .i64 E) := (HK12.out.cell (p := ⟨w4.heap.size, 1, none⟩) (show w4.heap.size < w8.heap.size from HN8.out.lt)).trans (HN8.out.cell 1)
    have n2 : w12.cell? ⟨w4.heap.size, 2, none⟩ = some (.int .i64 D) := (HK12.out.cell (p := ⟨w4.heap.size, 2, none⟩) (show w4.heap.size < w8.heap.size from HN8.out.lt)).trans (HN8.out.cell 2)
    have n3 : w12.cell? ⟨w4.heap.size, 3, none⟩ = some (.bool true) := (HK12.out.cell (p := ⟨w4.heap.size, 3, none⟩) (show w4.heap.size < w8.heap.size from HN8.out.lt)).trans (HN8.out.cell 3)
    have hl4 : w4.heap.size < w12.heap.size := Nat.lt_of_lt_of_le HN8.out.lt HK12.out.size
    have hl0 : w.heap.size < w12.heap.size := Nat.lt_of_lt_of_le HP8.out.lt HK12.out.size
    go_wp2_with fail
    obtain ⟨w13, hw13⟩ : ∃ w13, w12.alloc (.cells #[.int .i64 ((q : Int) + 1), .int .i64 E, .int .i64 D, .bool true] 23) = w13 := ⟨_, rfl⟩
    rw [hw13]
    have HK13 : Hid (Below w8.heap.size w8 w13) := by rw [← hw13]; exact HK12.out.alloc HK12.out.size _
    have HO13 : Hid (OwnB w13 g8 5 (.slice (some ⟨g8, 0, none⟩) 1024 1024) 1024 (bsB ++ bsA)) := by rw [← hw13]; exact own_keep HO12.out ((Mod.refl noB w12).alloc _) (fun _ _ h => h)
    have HM13 : Hid (Box w13 w12.heap.size #[.int .i64 ((q : Int) + 1), .int .i64 E, .int .i64 D, .bool true] 23) := by rw [← hw13]; exact heap_alloc_new w12 _
    have HTS := Lib.hid (slTake_all w1.heap.size X cx st w8.heap.size w13 (HT8.out.below HK13.out HT8.out.lt) HLS.out hlc ((HXS.out.below HB8.out (Nat.le_refl _)).more HB8.out.size |>.below HK13.out (Nat.le_refl _)) HK13.out.size)
    obtain ⟨q9, e9, d9, c9, hv9, _⟩ := slV_form st
    rw [hv9] at HTS
    obtain ⟨E9, hE9⟩ : ∃ E9, slE st = E9 := ⟨_, rfl⟩
    have HE9 := Lib.hid hE9
    rw [hE9] at HTS
    clear hv9 hE9
    refine HTS.out.mono ?_
    rintro x w14 ⟨rfl, hb⟩
    have HK14 := Lib.hid (HK13.out.trans (hb.mono HK13.out.size))
    have HO14 := Lib.hid (own_keep HO13.out (Mod.of_below hb) (fun _ _ h => h))
    clear hb x6 n0 n1 n2 n3 HTS
    obtain ⟨w15, hw15⟩ : ∃ w15, w14.alloc (.cells #[.int .i64 q9, .int .i64 e9, .int .i64 d9, .bool c9] 23) = w15 := ⟨_, rfl⟩
    have HK15 : Hid (Below w8.heap.size w8 w15) := by rw [← hw15]; exact HK14.out.alloc HK14.out.size _
    have HO15 : Hid (OwnB w15 g8 5 (.slice (some ⟨g8, 0, none⟩) 1024 1024) 1024 (bsB ++ bsA)) := by rw [← hw15]; exact own_keep HO14.out ((Mod.refl noB w14).alloc _) (fun _ _ h => h)
    have HB15 := Lib.hid (HB8.out.trans (HK15.out.mono HB8.out.size))
    by_cases h9 : E9 = 0
    · have t1 : ((E9 : Int) == 0) = true := by simp [h9]
      clear h9
      go_wp2_with (go_at_call 12; refine (slLives_any _).mono ?_; rintro x w20 ⟨rfl, hb⟩; have HB20 := Lib.hid (HB15.out.trans (hb.mono HB15.out.size)); clear hb)
      go_ret
      exact ⟨rfl, HB20.out⟩
    have t1 : ((E9 : Int) == 0) = false := by simp; omega
    have HSE : Hid (slE st ≠ 0) := by show _ ≠ _; rw [HE9.out]; exact h9
    clear h9
    have x6 : w15.cell? ⟨w.heap.size, 6, none⟩ = some (.slice X 512 cx) := (HK15.out.cell (p := ⟨w.heap.size, 6, none⟩) (show w.heap.size < w8.heap.size from HP8.out.lt)).trans (HP8.out.cell 6)
    have n0 : w15.cell? ⟨w4.heap.size, 0, none⟩ = some (.int .i64 ((q : Int) + 1)) := (HK15.out.cell (p := ⟨w4.heap.size, 0, none⟩) (show w4.heap.size < w8.heap.size from HN8.out.lt)).trans (HN8.out.cell 0)
    go_wp2_with fail
    go_still_tail 7, (by kernel_rfl)
    still_call (still_of (HPN.out _))
    repeat still_step
    refine wpStill_nil ?_
    change wpList _ _ _ _ _ w15.drew
    have HK16 := Lib.hid HK15.out.drew
    have HO16 := Lib.hid HO15.out.drew
    clear x6 n0 hw15 hw13
    generalize w15.drew = w16 at *
    have hz16 := HK16.out.size
    obtain ⟨w17, hr3, ho17, hm17⟩ := run_copy_into (P := Try.prog) w16 HO16.out 28 28 3 Try.underlying28 byteSize (some ⟨g8, 0, none⟩) X 1024 1024 512 cx 0 (byteCells st) (by rw [HCS.out]; rfl) (fun _ => ⟨g8, rfl, rfl⟩) w8.heap.size (byteCells st) ((HXS.out.below HB8.out (Nat.le_refl _)).more HB8.out.size |>.below HK16.out (Nat.le_refl _)) (List.take_length).symm (by rw [HCS.out]; omega) (byteCells_one _)
    rw [HCS.out] at hr3
    have HK17 := Lib.hid (hm17.below HK16.out hz16 (fun j hj => by rw [HG8.out]; exact own_base HO16.out j hj))
    rw [byteCells_append, splice_lo HCS.out, halves_drop HCB.out, ← byteCells_append] at ho17
    have HO17 : Hid (OwnB w17 g8 5 (.slice (some ⟨g8, 0, none⟩) 1024 1024) 1024 (st ++ bsA)) := ho17
    clear ho17 hm17 HO16
    have hz17 := HK17.out.size
    have HCH := Lib.hid (choose_any w1.heap.size g8 0 1024 (st ++ bsA) w17.heap.size w17 (HT8.out.below HK17.out HT8.out.lt) (by rw [List.length_append, HLA.out, HLS.out]) (by omega) (Cells.of_own HO17.out) (Nat.le_refl _))
    rw [HS2.out HSE.out] at HCH
    go_wp2_with fail
    refine HCH.out.mono ?_
    rintro x w18 ⟨rfl, hb⟩
    have HK18 := Lib.hid (HK17.out.trans (hb.mono hz17))
    clear hb hr3 HCH
    obtain ⟨w19, hw19⟩ : ∃ w19, w18.alloc (.cells #[.int .i64 (q : Int), .int .i64 (e : Int), .int .i64 (d : Int), .bool c] 23) = w19 := ⟨_, rfl⟩
    have HK19 : Hid (Below w8.heap.size w8 w19) := by rw [← hw19]; exact HK18.out.alloc HK18.out.size _
    have HM19 : Hid (Box w19 w18.heap.size #[.int .i64 (q : Int), .int .i64 (e : Int), .int .i64 (d : Int), .bool c] 23) := by rw [← hw19]; exact heap_alloc_new w18 _
    have m0 : w19.cell? ⟨w18.heap.size, 0, none⟩ = some (.int .i64 (q : Int)) := HM19.out.cell 0
    have m1 : w19.cell? ⟨w18.heap.size, 1, none⟩ = some (.int .i64 (e : Int)) := HM19.out.cell 1
    have m2 : w19.cell? ⟨w18.heap.size, 2, none⟩ = some (.int .i64 (d : Int)) := HM19.out.cell 2
    have m3 : w19.cell? ⟨w18.heap.size, 3, none⟩ = some (.bool c) := HM19.out.cell 3
    have x0 : w19.cell? ⟨w.heap.size, 0, none⟩ = some (.int .i64 (q : Int)) := (HK19.out.cell (p := ⟨w.heap.size, 0, none⟩) (show w.heap.size < w8.heap.size from HP8.out.lt)).trans (HP8.out.cell 0)
    have x1 : w19.cell? ⟨w.heap.size, 1, none⟩ = some (.int .i64 (e : Int)) := (HK19.out.cell (p := ⟨w.heap.size, 1, none⟩) (show w.heap.size < w8.heap.size from HP8.out.lt)).trans (HP8.out.cell 1)
    have x2 : w19.cell? ⟨w.heap.size, 2, none⟩ = some (.int .i64 (d : Int)) := (HK19.out.cell (p := ⟨w.heap.size, 2, none⟩) (show w.heap.size < w8.heap.size from HP8.out.lt)).trans (HP8.out.cell 2)
    have x3 : w19.cell? ⟨w.heap.size, 3, none⟩ = some (.bool c) := (HK19.out.cell (p := ⟨w.heap.size, 3, none⟩) (show w.heap.size < w8.heap.size from HP8.out.lt)).trans (HP8.out.cell 3)
    have HB19 := Lib.hid (HB8.out.trans (HK19.out.mono HB8.out.size))
    go_wp2_with (go_at_call 12; refine (slLives_any _).mono ?_; rintro x w20 ⟨rfl, hb⟩; have HB20 := Lib.hid (HB19.out.trans (hb.mono HB19.out.size)); clear hb)
    go_ret
    exact ⟨rfl, HB20.out⟩

set_option maxRecDepth 100000 in
set_option maxHeartbeats 1500000 in
theorem later_dirty (q e d : Nat) (c : Bool) (E D : Int) (X : Option Addr) (lx cx : Nat) (st : List UInt8) (w : World) (hls : st.length = lx) (hlc : lx ≤ cx) (hxs : Bytes w w.heap.size X st) (hr : slB q e d c = true) (hb1 : nextB q e d c E D true = false) (hb2 : nextB q e d c e 0 false = true) :
    Calls Try.prog 5 #[.agg #[.int .i64 (q : Int), .int .i64 (e : Int), .int .i64 (d : Int), .bool c, .int .i64 E, .int .i64 D, .slice X lx cx]] w fun x w' => x = .returned (.bool true) ∧ Below w.heap.size w w' := by
  have HPU := Lib.hid (fun g W (hT : Table W g) => slPut_yes g q e d c W hr hT)
  have HCL := Lib.hid (fun W => clean_any (q : Int) (e : Int) (d : Int) c E D W)
  have hn : slB ((q : Int) + 1) (e : Int) 0 false = true := by
    have := hb2
    unfold nextB at this
    rw [Bool.and_eq_true] at this
    exact this.2
  obtain ⟨bsA, HLA, HPU, HPB0⟩ : ∃ bsA : List UInt8, Hid (bsA.length = 512) ∧ Hid (∀ g W, Table W g → Calls Try.prog 8 #[.pointer (some ⟨g, 0, none⟩), .agg #[.int .i64 (q : Int), .int .i64 (e : Int), .int .i64 (d : Int), .bool c]] W fun x w' => ∃ A k, x = .returned (.tuple #[.slice A 512 k, .int .i64 0]) ∧ OwnY w' W.heap.size (.slice A 512 k) 512 bsA ∧ Below W.heap.size W w') ∧ (∃ bsB : List UInt8, Hid (bsB.length = 512) ∧ Hid (∀ g W, Table W g → Calls Try.prog 8 #[.pointer (some ⟨g, 0, none⟩), .agg #[.int .i64 ((q : Int) + 1), .int .i64 (e : Int), .int .i64 0, .bool false]] W fun x w' => ∃ A k, x = .returned (.tuple #[.slice A 512 k, .int .i64 0]) ∧ OwnY w' W.heap.size (.slice A 512 k) 512 bsB ∧ Below W.heap.size W w') ∧ Hid (chV (bsA ++ bsB) = .tuple #[.agg #[.int .i64 ((q : Int) + 1), .int .i64 (e : Int), .int .i64 0, .bool false], .int .i64 0]) ∧ Hid (chV (bsB ++ bsA) = .tuple #[.agg #[.int .i64 ((q : Int) + 1), .int .i64 (e : Int), .int .i64 0, .bool false], .int .i64 0]) ∧ Hid (slE st ≠ 0 → chV (bsA ++ st) = .tuple #[.agg #[.int .i64 (q : Int), .int .i64 (e : Int), .int .i64 (d : Int), .bool c], .int .i64 0]) ∧ Hid (st.length = 512 → slE st ≠ 0 → chV (st ++ bsA) = .tuple #[.agg #[.int .i64 (q : Int), .int .i64 (e : Int), .int .i64 (d : Int), .bool c], .int .i64 0])) := by
    obtain ⟨q', e', d', f1, f2, f3⟩ := slP_nat hn
    clear f2 f3
    rw [f1] at hn
    have hlt : q < q' := by omega
    refine ⟨slotB q e d c, slotB_length q e d c, fun g W hT => slPut_yes g q e d c W hr hT, slotB q' e 0 false, slotB_length _ _ _ _, fun g W hT => ?_, ?_, ?_, fun h => ch_one1 hr h, fun hl h => ch_one2 hl hr h⟩
    · rw [f1]; exact slPut_yes g q' e 0 false W hn hT
    · rw [f1]; exact ch_both1 (d2 := 0) hlt hr hn
    · rw [f1]; exact ch_both2 (d2 := 0) hlt hr hn
  obtain ⟨bsB, HLB, HPB, HC1, HC2, HS1, HS2x⟩ := HPB0
  have HCA : Hid ((byteCells bsA).length = 512) := by show _ = _; rw [byteCells_length]; exact HLA.out
  have HCB : Hid ((byteCells bsB).length = 512) := by show _ = _; rw [byteCells_length]; exact HLB.out
  have HXS := Lib.hid hxs
  clear hn hxs
  have HDI := Lib.hid (fun W => dirty_any (q : Int) (e : Int) (d : Int) c W)
  rw [hb1, show nextV (q : Int) (e : Int) (d : Int) c E D true = .agg #[.int .i64 0, .int .i64 0, .int .i64 0, .bool false] from (by unfold nextV; rw [hb1]; rfl)] at HCL
  rw [hb2, show nextV (q : Int) (e : Int) (d : Int) c (e : Int) 0 false = .agg #[.int .i64 ((q : Int) + 1), .int .i64 (e : Int), .int .i64 0, .bool false] from (by unfold nextV; rw [hb2]; rfl)] at HDI
  clear hb1 hb2
  clear hr
  have hz := (zero_of_info tableInfo).1
  have HSZ := Lib.hid tableSize
  obtain ⟨w0, hw0⟩ : ∃ w0, w.alloc (.cells #[.int .i64 (q : Int), .int .i64 (e : Int), .int .i64 (d : Int), .bool c, .int .i64 E, .int .i64 D, .slice X lx cx] 42) = w0 := ⟨_, rfl⟩
  have HP0 : Hid (Box w0 w.heap.size #[.int .i64 (q : Int), .int .i64 (e : Int), .int .i64 (d : Int), .bool c, .int .i64 E, .int .i64 D, .slice X lx cx] 42) := by rw [← hw0]; exact heap_alloc_new w _
  have HA0 : Hid (Below w.heap.size w w0) := by rw [← hw0]; exact (Below.refl w.heap.size w).alloc (Nat.le_refl _) _
  go_enter Try.func5, Try.ntmps5
  go_wp2_with fail
  refine (make_any _).mono ?_
  rintro x w1 ⟨rfl, hb⟩
  have HP1 := Lib.hid (HP0.out.below hb HP0.out.lt)
  have HB1 := Lib.hid (HA0.out.trans (hb.mono HA0.out.size))
  have HG := Lib.hid (heap_alloc_last w1 (.cells (Array.replicate 256 (.int .u32 0)) 26))
  clear hb hw0
  go_wp2_with (refine wpList_store_row rfl 26 _ _ rfl w1.heap.size tabCells rfl rfl 26 _ HG.out HSZ.out (by rw [Array.size_replicate, tabCells_size]) tabCells_one ?_; rw [World.setRow_alloc_new]; have HTB := Lib.hid (table_new w1); have HP2 := Lib.hid (HP1.out.alloc (.cells tabCells 26)); have HB2 := Lib.hid (HB1.out.alloc HB1.out.size (.cells tabCells 26)); generalize w1.alloc (.cells tabCells 26) = w2 at *; have x0 : w2.cell? ⟨w.heap.size, 0, none⟩ = some (.int .i64 (q : Int)) := HP2.out.cell 0; have x1 : w2.cell? ⟨w.heap.size, 1, none⟩ = some (.int .i64 (e : Int)) := HP2.out.cell 1; have x2 : w2.cell? ⟨w.heap.size, 2, none⟩ = some (.int .i64 (d : Int)) := HP2.out.cell 2; have x3 : w2.cell? ⟨w.heap.size, 3, none⟩ = some (.bool c) := HP2.out.cell 3)
  clear hz HG HSZ x0 x1 x2 x3
  refine (HPU.out w1.heap.size w2 HTB.out).mono ?_
  rintro x w3 ⟨A, k, rfl, hown, hb⟩
  have HP3 := Lib.hid (HP2.out.below hb HP2.out.lt)
  have HB3 := Lib.hid (HB2.out.trans (hb.mono HB2.out.size))
  have HT3 := Lib.hid (HTB.out.below hb HTB.out.lt)
  have HY3 := Lib.hid hown.cells
  have hk := own_cap hown
  clear hb hown HPU
  have x0 : w3.cell? ⟨w.heap.size, 0, none⟩ = some (.int .i64 (q : Int)) := HP3.out.cell 0
  have x1 : w3.cell? ⟨w.heap.size, 1, none⟩ = some (.int .i64 (e : Int)) := HP3.out.cell 1
  have x2 : w3.cell? ⟨w.heap.size, 2, none⟩ = some (.int .i64 (d : Int)) := HP3.out.cell 2
  have x3 : w3.cell? ⟨w.heap.size, 3, none⟩ = some (.bool c) := HP3.out.cell 3
  have x4 : w3.cell? ⟨w.heap.size, 4, none⟩ = some (.int .i64 E) := HP3.out.cell 4
  have x5 : w3.cell? ⟨w.heap.size, 5, none⟩ = some (.int .i64 D) := HP3.out.cell 5
  go_wp2_with fail
  refine (HCL.out _).mono ?_
  rintro x w4 ⟨rfl, hb⟩
  have HP4 := Lib.hid (HP3.out.below hb HP3.out.lt)
  have HB4 := Lib.hid (HB3.out.trans (hb.mono HB3.out.size))
  have HT4 := Lib.hid (HT3.out.below hb HT3.out.lt)
  have HY4 := Lib.hid (HY3.out.below hb (Nat.le_refl _))
  have hz4 := hb.size
  clear hb x0 x1 x2 x3 x4 x5
  have HP5a := Lib.hid (HP4.out.alloc (.cells #[.int .i64 0, .int .i64 0, .int .i64 0, .bool false] 23))
  have HN5a : Hid (Box (w4.alloc (.cells #[.int .i64 0, .int .i64 0, .int .i64 0, .bool false] 23)) w4.heap.size #[.int .i64 0, .int .i64 0, .int .i64 0, .bool false] 23) := heap_alloc_new w4 _
  have HB5a := Lib.hid (HB4.out.alloc HB4.out.size (.cells #[.int .i64 0, .int .i64 0, .int .i64 0, .bool false] 23))
  have HT5a := Lib.hid (HT4.out.alloc (.cells #[.int .i64 0, .int .i64 0, .int .i64 0, .bool false] 23))
  have HY5a := Lib.hid (HY4.out.alloc hz4 (.cells #[.int .i64 0, .int .i64 0, .int .i64 0, .bool false] 23))
  have hz5a : w3.heap.size ≤ (w4.alloc (.cells #[.int .i64 0, .int .i64 0, .int .i64 0, .bool false] 23)).heap.size := by simp; omega
  have x0 : w4.cell? ⟨w.heap.size, 0, none⟩ = some (.int .i64 (q : Int)) := HP4.out.cell 0
  have x1 : w4.cell? ⟨w.heap.size, 1, none⟩ = some (.int .i64 (e : Int)) := HP4.out.cell 1
  have x2 : w4.cell? ⟨w.heap.size, 2, none⟩ = some (.int .i64 (d : Int)) := HP4.out.cell 2
  have x3 : w4.cell? ⟨w.heap.size, 3, none⟩ = some (.bool c) := HP4.out.cell 3
  have hp4 := HP4.out.lt
  go_wp2_with fail
  refine (HDI.out _).mono ?_
  rintro x w5 ⟨rfl, hb⟩
  have HP5 := Lib.hid (HP5a.out.below hb HP5a.out.lt)
  have HN5 := Lib.hid (HN5a.out.below hb HN5a.out.lt)
  have HB5 := Lib.hid (HB5a.out.trans (hb.mono HB5a.out.size))
  have HT5 := Lib.hid (HT5a.out.below hb HT5a.out.lt)
  have HY5 := Lib.hid (HY5a.out.below hb hz5a)
  have hz5 := Nat.le_trans hz5a hb.size
  clear hb x0 x1 x2 x3
  have n0 : w5.cell? ⟨w4.heap.size, 0, none⟩ = some (.int .i64 0) := HN5.out.cell 0
  have n1 : w5.cell? ⟨w4.heap.size, 1, none⟩ = some (.int .i64 0) := HN5.out.cell 1
  have n2 : w5.cell? ⟨w4.heap.size, 2, none⟩ = some (.int .i64 0) := HN5.out.cell 2
  have n3 : w5.cell? ⟨w4.heap.size, 3, none⟩ = some (.bool false) := HN5.out.cell 3
  have nf0 := frozen_of_row w5 w4.heap.size 0 _ _ HN5.out
  have nf1 := frozen_of_row w5 w4.heap.size 1 _ _ HN5.out
  have nf2 := frozen_of_row w5 w4.heap.size 2 _ _ HN5.out
  have nf3 := frozen_of_row w5 w4.heap.size 3 _ _ HN5.out
  obtain ⟨w7, hw7⟩ : ∃ w7, ((((w5.setCell ⟨w4.heap.size, 0, none⟩ (.int .i64 ((q : Int) + 1))).setCell ⟨w4.heap.size, 1, none⟩ (.int .i64 (e : Int))).setCell ⟨w4.heap.size, 2, none⟩ (.int .i64 0)).setCell ⟨w4.heap.size, 3, none⟩ (.bool false)) = w7 := ⟨_, rfl⟩
  have HN7 : Hid (Box w7 w4.heap.size #[.int .i64 ((q : Int) + 1), .int .i64 (e : Int), .int .i64 0, .bool false] 23) := by rw [← hw7]; exact (((HN5.out.set _).set _).set _).set _
  have HM7 : Hid (Below w4.heap.size w5 w7) := by rw [← hw7]; exact set4 (Below.refl _ _) (Nat.le_refl _) _ _ _ _
  have HB7 : Hid (Below w.heap.size w w7) := by rw [← hw7]; exact set4 HB5.out HB4.out.size _ _ _ _
  have HP7 := Lib.hid (HP5.out.below HM7.out HP4.out.lt)
  have HT7 := Lib.hid (HT5.out.below HM7.out HT4.out.lt)
  have HY7 := Lib.hid (HY5.out.below HM7.out hz4)
  have hz7 : w3.heap.size ≤ w7.heap.size := by have := HN7.out.lt; omega
  have p0 : w7.cell? ⟨w4.heap.size, 0, none⟩ = some (.int .i64 ((q : Int) + 1)) := HN7.out.cell 0
  have p1 : w7.cell? ⟨w4.heap.size, 1, none⟩ = some (.int .i64 (e : Int)) := HN7.out.cell 1
  have p2 : w7.cell? ⟨w4.heap.size, 2, none⟩ = some (.int .i64 0) := HN7.out.cell 2
  have p3 : w7.cell? ⟨w4.heap.size, 3, none⟩ = some (.bool false) := HN7.out.cell 3
  have hn7 := HN7.out.lt
  have HPB1 := Lib.hid (HPB.out w1.heap.size w7 HT7.out)
  go_wp2_with fail
  refine HPB1.out.mono ?_
  rintro x w8 ⟨Bb, kb, rfl, hown, hb⟩
  have HP8 := Lib.hid (HP7.out.below hb HP7.out.lt)
  have HN8 := Lib.hid (HN7.out.below hb HN7.out.lt)
  have HB8 := Lib.hid (HB7.out.trans (hb.mono HB7.out.size))
  have HT8 := Lib.hid (HT7.out.below hb HT7.out.lt)
  have HYA8 : Hid (Bytes w8 w8.heap.size A bsA) := ((HY7.out.below hb hz7).more (Nat.le_trans hz7 hb.size))
  have HYB8 : Hid (Bytes w8 w8.heap.size Bb bsB) := hown.cells
  have hkb := own_cap hown
  clear hb hown HPB1 HPB p0 p1 p2 p3 HCL
  have x6 : w8.cell? ⟨w.heap.size, 6, none⟩ = some (.slice X lx cx) := HP8.out.cell 6
  by_cases hlx : lx = 512
  case neg =>
    have t0 : ((lx : Int) != 512) = true := by simp; omega
    clear hlx
    go_wp2_with (go_at_call 12; refine (slLives_any _).mono ?_; rintro x w20 ⟨rfl, hb⟩; have HB20 := Lib.hid (HB8.out.trans (hb.mono HB8.out.size)); clear hb)
    go_ret
    exact ⟨rfl, HB20.out⟩
  subst hlx
  have HLS := Lib.hid hls
  have HCS : Hid ((byteCells st).length = 512) := by show _ = _; rw [byteCells_length]; exact hls
  have HS2 := Lib.hid (HS2x.out hls)
  clear hls HS2x
  by_cases hpar : q % 2 = 0
  · skip
    obtain ⟨hpq, hpn⟩ := place_even hpar
    have HPQ := Lib.hid (fun W => place_any (q : Int) W)
    have HPN := Lib.hid (fun W => place_any ((q : Int) + 1) W)
    rw [hpq] at HPQ
    rw [hpn] at HPN
    clear hpq hpn hpar
    have hmk : (Instr.makeSlice 28 (.int .i64 1024) (.int .i64 1024)).run Try.prog w8 = .ok (.slice (some ⟨w8.heap.size, 0, none⟩) 1024 1024) (w8.alloc (.cells (madeCells #[.int .u8 0] 1024) 5)) := make_bytes 1024 (by omega) w8
    obtain ⟨w9, hw9⟩ : ∃ w9, w8.alloc (.cells (madeCells #[.int .u8 0] 1024) 5) = w9 := ⟨_, rfl⟩
    rw [hw9] at hmk
    have HO9 : Hid (OwnB w9 w8.heap.size 5 (.slice (some ⟨w8.heap.size, 0, none⟩) 1024 1024) 1024 (List.replicate 1024 0)) := by rw [← hw9]; exact own_made w8 w8.heap.size 1024 (Nat.le_refl _) (by unfold maxLen; omega)
    have HK9 : Hid (Below w8.heap.size w8 w9) := by rw [← hw9]; exact (Below.refl w8.heap.size w8).alloc (Nat.le_refl _) _
    clear hw9
    have hz9 := HK9.out.size
    generalize hg : w8.heap.size = g8 at hmk HO9
    have HG8 := Lib.hid hg
    clear hg
    obtain ⟨w10, hr1, ho10, hm10⟩ := run_copy_into (P := Try.prog) w9 HO9.out 28 28 3 Try.underlying28 byteSize (some ⟨g8, 0, none⟩) A 1024 1024 512 k 0 (byteCells bsA) (by rw [HCA.out]; rfl) (fun _ => ⟨g8, rfl, rfl⟩) w8.heap.size (byteCells bsA) (HYA8.out.below HK9.out (Nat.le_refl _)) (List.take_length).symm (by rw [HCA.out]; omega) (byteCells_one _)
    rw [HCA.out] at hr1
    have HK10 := Lib.hid (hm10.below HK9.out hz9 (fun j hj => by rw [HG8.out]; exact own_base HO9.out j hj))
    clear hm10
    have HO10 := Lib.hid ho10
    clear ho10 HO9
    have hz10 := HK10.out.size
    obtain ⟨w11, hr2, ho11, hm11⟩ := run_copy_into (P := Try.prog) w10 HO10.out 28 28 3 Try.underlying28 byteSize (some ⟨g8, 512, none⟩) Bb 512 512 512 kb 512 (byteCells bsB) (by rw [HCB.out]; rfl) (fun _ => ⟨g8, rfl, rfl⟩) w8.heap.size (byteCells bsB) (HYB8.out.below HK10.out (Nat.le_refl _)) (List.take_length).symm (by rw [HCB.out]; omega) (byteCells_one _)
    rw [HCB.out] at hr2
    have HK11 := Lib.hid (hm11.below HK10.out hz10 (fun j hj => by rw [HG8.out]; exact own_base HO10.out j hj))
    rw [splice_lo HCA.out, splice_hi (by rw [List.length_append, HCA.out, List.length_drop, byteCells_length, List.length_replicate]) HCB.out, halves_take HCA.out, ← byteCells_append] at ho11
    have HO11 : Hid (OwnB w11 g8 5 (.slice (some ⟨g8, 0, none⟩) 1024 1024) 1024 (bsA ++ bsB)) := ho11
    clear ho11 hm11 HO10
    have hz11 := HK11.out.size
    have a0 : w9.cell? ⟨w.heap.size, 0, none⟩ = some (.int .i64 (q : Int)) := (HK9.out.cell (p := ⟨w.heap.size, 0, none⟩) (show w.heap.size < w8.heap.size from HP8.out.lt)).trans (HP8.out.cell 0)
    have b0 : w10.cell? ⟨w4.heap.size, 0, none⟩ = some (.int .i64 ((q : Int) + 1)) := (HK10.out.cell (p := ⟨w4.heap.size, 0, none⟩) (show w4.heap.size < w8.heap.size from HN8.out.lt)).trans (HN8.out.cell 0)
    have HCH := Lib.hid (choose_any w1.heap.size g8 0 1024 (bsA ++ bsB) w11.heap.size w11 (HT8.out.below HK11.out HT8.out.lt) (by rw [List.length_append, HLA.out, HLB.out]) (by omega) (Cells.of_own HO11.out) (Nat.le_refl _))
    rw [HC1.out] at HCH
    go_wp2_with (first | (go_at_call 11; refine (HPQ.out _).mono ?_; clear HPQ; rintro x w' ⟨rfl, rfl⟩) | (go_at_call 11; refine (HPN.out _).mono ?_; rintro x w' ⟨rfl, rfl⟩))
    refine HCH.out.mono ?_
    rintro x w12 ⟨rfl, hb⟩
    have HK12 := Lib.hid (HK11.out.trans (hb.mono hz11))
    have HO12 := Lib.hid (own_keep HO11.out (Mod.of_below hb) (fun _ _ h => h))
    clear hb HCH HO11 a0 b0 hmk hr1 hr2
    have x6 : w12.cell? ⟨w.heap.size, 6, none⟩ = some (.slice X 512 cx) := (HK12.out.cell (p := ⟨w.heap.size, 6, none⟩) (show w.heap.size < w8.heap.size from HP8.out.lt)).trans (HP8.out.cell 6)
    have n0 : w12.cell? ⟨w4.heap.size, 0, none⟩ = some (.int .i64 ((q : Int) + 1)) := (HK12.out.cell (p := ⟨w4.heap.size, 0, none⟩) (show w4.heap.size < w8.heap.size from HN8.out.lt)).trans (HN8.out.cell 0)
    have n1 : w12.cell? ⟨w4.heap.size, 1, none⟩ = some (.int .i64 (e : Int)) := (HK12.out.cell (p := ⟨w4.heap.size, 1, none⟩) (show w4.heap.size < w8.heap.size from HN8.out.lt)).trans (HN8.out.cell 1)
    have n2 : w12.cell? ⟨w4.heap.size, 2, none⟩ = some (.int .i64 0) := (HK12.out.cell (p := ⟨w4.heap.size, 2, none⟩) (show w4.heap.size < w8.heap.size from HN8.out.lt)).trans (HN8.out.cell 2)
    have n3 : w12.cell? ⟨w4.heap.size, 3, none⟩ = some (.bool false) := (HK12.out.cell (p := ⟨w4.heap.size, 3, none⟩) (show w4.heap.size < w8.heap.size from HN8.out.lt)).trans (HN8.out.cell 3)
    have hl4 : w4.heap.size < w12.heap.size := Nat.lt_of_lt_of_le HN8.out.lt HK12.out.size
    have hl0 : w.heap.size < w12.heap.size := Nat.lt_of_lt_of_le HP8.out.lt HK12.out.size
    go_wp2_with fail
    obtain ⟨w13, hw13⟩ : ∃ w13, w12.alloc (.cells #[.int .i64 ((q : Int) + 1), .int .i64 (e : Int), .int .i64 0, .bool false] 23) = w13 := ⟨_, rfl⟩
    rw [hw13]
    have HK13 : Hid (Below w8.heap.size w8 w13) := by rw [← hw13]; exact HK12.out.alloc HK12.out.size _
    have HO13 : Hid (OwnB w13 g8 5 (.slice (some ⟨g8, 0, none⟩) 1024 1024) 1024 (bsA ++ bsB)) := by rw [← hw13]; exact own_keep HO12.out ((Mod.refl noB w12).alloc _) (fun _ _ h => h)
    have HM13 : Hid (Box w13 w12.heap.size #[.int .i64 ((q : Int) + 1), .int .i64 (e : Int), .int .i64 0, .bool false] 23) := by rw [← hw13]; exact heap_alloc_new w12 _
    have HTS := Lib.hid (slTake_all w1.heap.size X cx st w8.heap.size w13 (HT8.out.below HK13.out HT8.out.lt) HLS.out hlc ((HXS.out.below HB8.out (Nat.le_refl _)).more HB8.out.size |>.below HK13.out (Nat.le_refl _)) HK13.out.size)
    obtain ⟨q9, e9, d9, c9, hv9, _⟩ := slV_form st
    rw [hv9] at HTS
    obtain ⟨E9, hE9⟩ : ∃ E9, slE st = E9 := ⟨_, rfl⟩
    have HE9 := Lib.hid hE9
    rw [hE9] at HTS
    clear hv9 hE9
    refine HTS.out.mono ?_
    rintro x w14 ⟨rfl, hb⟩
    have HK14 := Lib.hid (HK13.out.trans (hb.mono HK13.out.size))
    have HO14 := Lib.hid (own_keep HO13.out (Mod.of_below hb) (fun _ _ h => h))
    clear hb x6 n0 n1 n2 n3 HTS
    obtain ⟨w15, hw15⟩ : ∃ w15, w14.alloc (.cells #[.int .i64 q9, .int .i64 e9, .int .i64 d9, .bool c9] 23) = w15 := ⟨_, rfl⟩
    have HK15 : Hid (Below w8.heap.size w8 w15) := by rw [← hw15]; exact HK14.out.alloc HK14.out.size _
    have HO15 : Hid (OwnB w15 g8 5 (.slice (some ⟨g8, 0, none⟩) 1024 1024) 1024 (bsA ++ bsB)) := by rw [← hw15]; exact own_keep HO14.out ((Mod.refl noB w14).alloc _) (fun _ _ h => h)
    have HB15 := Lib.hid (HB8.out.trans (HK15.out.mono HB8.out.size))
    by_cases h9 : E9 = 0
    · have t1 : ((E9 : Int) == 0) = true := by simp [h9]
      clear h9
      go_wp2_with (go_at_call 12; refine (slLives_any _).mono ?_; rintro x w20 ⟨rfl, hb⟩; have HB20 := Lib.hid (HB15.out.trans (hb.mono HB15.out.size)); clear hb)
      go_ret
      exact ⟨rfl, HB20.out⟩
    have t1 : ((E9 : Int) == 0) = false := by simp; omega
    have HSE : Hid (slE st ≠ 0) := by show _ ≠ _; rw [HE9.out]; exact h9
    clear h9
    have x6 : w15.cell? ⟨w.heap.size, 6, none⟩ = some (.slice X 512 cx) := (HK15.out.cell (p := ⟨w.heap.size, 6, none⟩) (show w.heap.size < w8.heap.size from HP8.out.lt)).trans (HP8.out.cell 6)
    have n0 : w15.cell? ⟨w4.heap.size, 0, none⟩ = some (.int .i64 ((q : Int) + 1)) := (HK15.out.cell (p := ⟨w4.heap.size, 0, none⟩) (show w4.heap.size < w8.heap.size from HN8.out.lt)).trans (HN8.out.cell 0)
    go_wp2_with fail
    go_still_tail 7, (by kernel_rfl)
    still_call (still_of (HPN.out _))
    repeat still_step
    refine wpStill_nil ?_
    change wpList _ _ _ _ _ w15.drew
    have HK16 := Lib.hid HK15.out.drew
    have HO16 := Lib.hid HO15.out.drew
    clear x6 n0 hw15 hw13
    generalize w15.drew = w16 at *
    have hz16 := HK16.out.size
    obtain ⟨w17, hr3, ho17, hm17⟩ := run_copy_into (P := Try.prog) w16 HO16.out 28 28 3 Try.underlying28 byteSize (some ⟨g8, 512, none⟩) X 512 512 512 cx 512 (byteCells st) (by rw [HCS.out]; rfl) (fun _ => ⟨g8, rfl, rfl⟩) w8.heap.size (byteCells st) ((HXS.out.below HB8.out (Nat.le_refl _)).more HB8.out.size |>.below HK16.out (Nat.le_refl _)) (List.take_length).symm (by rw [HCS.out]; omega) (byteCells_one _)
    rw [HCS.out] at hr3
    have HK17 := Lib.hid (hm17.below HK16.out hz16 (fun j hj => by rw [HG8.out]; exact own_base HO16.out j hj))
    rw [byteCells_append, splice_hi (by rw [List.length_append, HCA.out, HCB.out]) HCS.out, halves_take HCA.out, ← byteCells_append] at ho17
    have HO17 : Hid (OwnB w17 g8 5 (.slice (some ⟨g8, 0, none⟩) 1024 1024) 1024 (bsA ++ st)) := ho17
    clear ho17 hm17 HO16
    have hz17 := HK17.out.size
    have HCH := Lib.hid (choose_any w1.heap.size g8 0 1024 (bsA ++ st) w17.heap.size w17 (HT8.out.below HK17.out HT8.out.lt) (by rw [List.length_append, HLA.out, HLS.out]) (by omega) (Cells.of_own HO17.out) (Nat.le_refl _))
    rw [HS1.out HSE.out] at HCH
    go_wp2_with fail
    refine HCH.out.mono ?_
    rintro x w18 ⟨rfl, hb⟩
    have HK18 := Lib.hid (HK17.out.trans (hb.mono hz17))
    clear hb hr3 HCH
    obtain ⟨w19, hw19⟩ : ∃ w19, w18.alloc (.cells #[.int .i64 (q : Int), .int .i64 (e : Int), .int .i64 (d : Int), .bool c] 23) = w19 := ⟨_, rfl⟩
    have HK19 : Hid (Below w8.heap.size w8 w19) := by rw [← hw19]; exact HK18.out.alloc HK18.out.size _
    have HM19 : Hid (Box w19 w18.heap.size #[.int .i64 (q : Int), .int .i64 (e : Int), .int .i64 (d : Int), .bool c] 23) := by rw [← hw19]; exact heap_alloc_new w18 _
    have m0 : w19.cell? ⟨w18.heap.size, 0, none⟩ = some (.int .i64 (q : Int)) := HM19.out.cell 0
    have m1 : w19.cell? ⟨w18.heap.size, 1, none⟩ = some (.int .i64 (e : Int)) := HM19.out.cell 1
    have m2 : w19.cell? ⟨w18.heap.size, 2, none⟩ = some (.int .i64 (d : Int)) := HM19.out.cell 2
    have m3 : w19.cell? ⟨w18.heap.size, 3, none⟩ = some (.bool c) := HM19.out.cell 3
    have x0 : w19.cell? ⟨w.heap.size, 0, none⟩ = some (.int .i64 (q : Int)) := (HK19.out.cell (p := ⟨w.heap.size, 0, none⟩) (show w.heap.size < w8.heap.size from HP8.out.lt)).trans (HP8.out.cell 0)
    have x1 : w19.cell? ⟨w.heap.size, 1, none⟩ = some (.int .i64 (e : Int)) := (HK19.out.cell (p := ⟨w.heap.size, 1, none⟩) (show w.heap.size < w8.heap.size from HP8.out.lt)).trans (HP8.out.cell 1)
    have x2 : w19.cell? ⟨w.heap.size, 2, none⟩ = some (.int .i64 (d : Int)) := (HK19.out.cell (p := ⟨w.heap.size, 2, none⟩) (show w.heap.size < w8.heap.size from HP8.out.lt)).trans (HP8.out.cell 2)
    have x3 : w19.cell? ⟨w.heap.size, 3, none⟩ = some (.bool c) := (HK19.out.cell (p := ⟨w.heap.size, 3, none⟩) (show w.heap.size < w8.heap.size from HP8.out.lt)).trans (HP8.out.cell 3)
    have HB19 := Lib.hid (HB8.out.trans (HK19.out.mono HB8.out.size))
    go_wp2_with (go_at_call 12; refine (slLives_any _).mono ?_; rintro x w20 ⟨rfl, hb⟩; have HB20 := Lib.hid (HB19.out.trans (hb.mono HB19.out.size)); clear hb)
    go_ret
    exact ⟨rfl, HB20.out⟩
  · skip
    obtain ⟨hpq, hpn⟩ := place_odd hpar
    have HPQ := Lib.hid (fun W => place_any (q : Int) W)
    have HPN := Lib.hid (fun W => place_any ((q : Int) + 1) W)
    rw [hpq] at HPQ
    rw [hpn] at HPN
    clear hpq hpn hpar
    have hmk : (Instr.makeSlice 28 (.int .i64 1024) (.int .i64 1024)).run Try.prog w8 = .ok (.slice (some ⟨w8.heap.size, 0, none⟩) 1024 1024) (w8.alloc (.cells (madeCells #[.int .u8 0] 1024) 5)) := make_bytes 1024 (by omega) w8
    obtain ⟨w9, hw9⟩ : ∃ w9, w8.alloc (.cells (madeCells #[.int .u8 0] 1024) 5) = w9 := ⟨_, rfl⟩
    rw [hw9] at hmk
    have HO9 : Hid (OwnB w9 w8.heap.size 5 (.slice (some ⟨w8.heap.size, 0, none⟩) 1024 1024) 1024 (List.replicate 1024 0)) := by rw [← hw9]; exact own_made w8 w8.heap.size 1024 (Nat.le_refl _) (by unfold maxLen; omega)
    have HK9 : Hid (Below w8.heap.size w8 w9) := by rw [← hw9]; exact (Below.refl w8.heap.size w8).alloc (Nat.le_refl _) _
    clear hw9
    have hz9 := HK9.out.size
    generalize hg : w8.heap.size = g8 at hmk HO9
    have HG8 := Lib.hid hg
    clear hg
    obtain ⟨w10, hr1, ho10, hm10⟩ := run_copy_into (P := Try.prog) w9 HO9.out 28 28 3 Try.underlying28 byteSize (some ⟨g8, 512, none⟩) A 512 512 512 k 512 (byteCells bsA) (by rw [HCA.out]; rfl) (fun _ => ⟨g8, rfl, rfl⟩) w8.heap.size (byteCells bsA) (HYA8.out.below HK9.out (Nat.le_refl _)) (List.take_length).symm (by rw [HCA.out]; omega) (byteCells_one _)
    rw [HCA.out] at hr1
    have HK10 := Lib.hid (hm10.below HK9.out hz9 (fun j hj => by rw [HG8.out]; exact own_base HO9.out j hj))
    clear hm10
    have HO10 := Lib.hid ho10
    clear ho10 HO9
    have hz10 := HK10.out.size
    obtain ⟨w11, hr2, ho11, hm11⟩ := run_copy_into (P := Try.prog) w10 HO10.out 28 28 3 Try.underlying28 byteSize (some ⟨g8, 0, none⟩) Bb 1024 1024 512 kb 0 (byteCells bsB) (by rw [HCB.out]; rfl) (fun _ => ⟨g8, rfl, rfl⟩) w8.heap.size (byteCells bsB) (HYB8.out.below HK10.out (Nat.le_refl _)) (List.take_length).symm (by rw [HCB.out]; omega) (byteCells_one _)
    rw [HCB.out] at hr2
    have HK11 := Lib.hid (hm11.below HK10.out hz10 (fun j hj => by rw [HG8.out]; exact own_base HO10.out j hj))
    rw [splice_hi (by rw [byteCells_length, List.length_replicate]) HCA.out, splice_lo HCB.out, halves_drop (by rw [List.length_take, byteCells_length, List.length_replicate]; omega), ← byteCells_append] at ho11
    have HO11 : Hid (OwnB w11 g8 5 (.slice (some ⟨g8, 0, none⟩) 1024 1024) 1024 (bsB ++ bsA)) := ho11
    clear ho11 hm11 HO10
    have hz11 := HK11.out.size
    have a0 : w9.cell? ⟨w.heap.size, 0, none⟩ = some (.int .i64 (q : Int)) := (HK9.out.cell (p := ⟨w.heap.size, 0, none⟩) (show w.heap.size < w8.heap.size from HP8.out.lt)).trans (HP8.out.cell 0)
    have b0 : w10.cell? ⟨w4.heap.size, 0, none⟩ = some (.int .i64 ((q : Int) + 1)) := (HK10.out.cell (p := ⟨w4.heap.size, 0, none⟩) (show w4.heap.size < w8.heap.size from HN8.out.lt)).trans (HN8.out.cell 0)
    have HCH := Lib.hid (choose_any w1.heap.size g8 0 1024 (bsB ++ bsA) w11.heap.size w11 (HT8.out.below HK11.out HT8.out.lt) (by rw [List.length_append, HLA.out, HLB.out]) (by omega) (Cells.of_own HO11.out) (Nat.le_refl _))
    rw [HC2.out] at HCH
    go_wp2_with (first | (go_at_call 11; refine (HPQ.out _).mono ?_; clear HPQ; rintro x w' ⟨rfl, rfl⟩) | (go_at_call 11; refine (HPN.out _).mono ?_; rintro x w' ⟨rfl, rfl⟩))
    refine HCH.out.mono ?_
    rintro x w12 ⟨rfl, hb⟩
    have HK12 := Lib.hid (HK11.out.trans (hb.mono hz11))
    have HO12 := Lib.hid (own_keep HO11.out (Mod.of_below hb) (fun _ _ h => h))
    clear hb HCH HO11 a0 b0 hmk hr1 hr2
    have x6 : w12.cell? ⟨w.heap.size, 6, none⟩ = some (.slice X 512 cx) := (HK12.out.cell (p := ⟨w.heap.size, 6, none⟩) (show w.heap.size < w8.heap.size from HP8.out.lt)).trans (HP8.out.cell 6)
    have n0 : w12.cell? ⟨w4.heap.size, 0, none⟩ = some (.int .i64 ((q : Int) + 1)) := (HK12.out.cell (p := ⟨w4.heap.size, 0, none⟩) (show w4.heap.size < w8.heap.size from HN8.out.lt)).trans (HN8.out.cell 0)
    have n1 : w12.cell? ⟨w4.heap.size, 1, none⟩ = some (.int .i64 (e : Int)) := (HK12.out.cell (p := ⟨w4.heap.size, 1, none⟩) (show w4.heap.size < w8.heap.size from HN8.out.lt)).trans (HN8.out.cell 1)
    have n2 : w12.cell? ⟨w4.heap.size, 2, none⟩ = some (.int .i64 0) := (HK12.out.cell (p := ⟨w4.heap.size, 2, none⟩) (show w4.heap.size < w8.heap.size from HN8.out.lt)).trans (HN8.out.cell 2)
    have n3 : w12.cell? ⟨w4.heap.size, 3, none⟩ = some (.bool false) := (HK12.out.cell (p := ⟨w4.heap.size, 3, none⟩) (show w4.heap.size < w8.heap.size from HN8.out.lt)).trans (HN8.out.cell 3)
    have hl4 : w4.heap.size < w12.heap.size := Nat.lt_of_lt_of_le HN8.out.lt HK12.out.size
    have hl0 : w.heap.size < w12.heap.size := Nat.lt_of_lt_of_le HP8.out.lt HK12.out.size
    go_wp2_with fail
    obtain ⟨w13, hw13⟩ : ∃ w13, w12.alloc (.cells #[.int .i64 ((q : Int) + 1), .int .i64 (e : Int), .int .i64 0, .bool false] 23) = w13 := ⟨_, rfl⟩
    rw [hw13]
    have HK13 : Hid (Below w8.heap.size w8 w13) := by rw [← hw13]; exact HK12.out.alloc HK12.out.size _
    have HO13 : Hid (OwnB w13 g8 5 (.slice (some ⟨g8, 0, none⟩) 1024 1024) 1024 (bsB ++ bsA)) := by rw [← hw13]; exact own_keep HO12.out ((Mod.refl noB w12).alloc _) (fun _ _ h => h)
    have HM13 : Hid (Box w13 w12.heap.size #[.int .i64 ((q : Int) + 1), .int .i64 (e : Int), .int .i64 0, .bool false] 23) := by rw [← hw13]; exact heap_alloc_new w12 _
    have HTS := Lib.hid (slTake_all w1.heap.size X cx st w8.heap.size w13 (HT8.out.below HK13.out HT8.out.lt) HLS.out hlc ((HXS.out.below HB8.out (Nat.le_refl _)).more HB8.out.size |>.below HK13.out (Nat.le_refl _)) HK13.out.size)
    obtain ⟨q9, e9, d9, c9, hv9, _⟩ := slV_form st
    rw [hv9] at HTS
    obtain ⟨E9, hE9⟩ : ∃ E9, slE st = E9 := ⟨_, rfl⟩
    have HE9 := Lib.hid hE9
    rw [hE9] at HTS
    clear hv9 hE9
    refine HTS.out.mono ?_
    rintro x w14 ⟨rfl, hb⟩
    have HK14 := Lib.hid (HK13.out.trans (hb.mono HK13.out.size))
    have HO14 := Lib.hid (own_keep HO13.out (Mod.of_below hb) (fun _ _ h => h))
    clear hb x6 n0 n1 n2 n3 HTS
    obtain ⟨w15, hw15⟩ : ∃ w15, w14.alloc (.cells #[.int .i64 q9, .int .i64 e9, .int .i64 d9, .bool c9] 23) = w15 := ⟨_, rfl⟩
    have HK15 : Hid (Below w8.heap.size w8 w15) := by rw [← hw15]; exact HK14.out.alloc HK14.out.size _
    have HO15 : Hid (OwnB w15 g8 5 (.slice (some ⟨g8, 0, none⟩) 1024 1024) 1024 (bsB ++ bsA)) := by rw [← hw15]; exact own_keep HO14.out ((Mod.refl noB w14).alloc _) (fun _ _ h => h)
    have HB15 := Lib.hid (HB8.out.trans (HK15.out.mono HB8.out.size))
    by_cases h9 : E9 = 0
    · have t1 : ((E9 : Int) == 0) = true := by simp [h9]
      clear h9
      go_wp2_with (go_at_call 12; refine (slLives_any _).mono ?_; rintro x w20 ⟨rfl, hb⟩; have HB20 := Lib.hid (HB15.out.trans (hb.mono HB15.out.size)); clear hb)
      go_ret
      exact ⟨rfl, HB20.out⟩
    have t1 : ((E9 : Int) == 0) = false := by simp; omega
    have HSE : Hid (slE st ≠ 0) := by show _ ≠ _; rw [HE9.out]; exact h9
    clear h9
    have x6 : w15.cell? ⟨w.heap.size, 6, none⟩ = some (.slice X 512 cx) := (HK15.out.cell (p := ⟨w.heap.size, 6, none⟩) (show w.heap.size < w8.heap.size from HP8.out.lt)).trans (HP8.out.cell 6)
    have n0 : w15.cell? ⟨w4.heap.size, 0, none⟩ = some (.int .i64 ((q : Int) + 1)) := (HK15.out.cell (p := ⟨w4.heap.size, 0, none⟩) (show w4.heap.size < w8.heap.size from HN8.out.lt)).trans (HN8.out.cell 0)
    go_wp2_with fail
    go_still_tail 7, (by kernel_rfl)
    still_call (still_of (HPN.out _))
    repeat still_step
    refine wpStill_nil ?_
    change wpList _ _ _ _ _ w15.drew
    have HK16 := Lib.hid HK15.out.drew
    have HO16 := Lib.hid HO15.out.drew
    clear x6 n0 hw15 hw13
    generalize w15.drew = w16 at *
    have hz16 := HK16.out.size
    obtain ⟨w17, hr3, ho17, hm17⟩ := run_copy_into (P := Try.prog) w16 HO16.out 28 28 3 Try.underlying28 byteSize (some ⟨g8, 0, none⟩) X 1024 1024 512 cx 0 (byteCells st) (by rw [HCS.out]; rfl) (fun _ => ⟨g8, rfl, rfl⟩) w8.heap.size (byteCells st) ((HXS.out.below HB8.out (Nat.le_refl _)).more HB8.out.size |>.below HK16.out (Nat.le_refl _)) (List.take_length).symm (by rw [HCS.out]; omega) (byteCells_one _)
    rw [HCS.out] at hr3
    have HK17 := Lib.hid (hm17.below HK16.out hz16 (fun j hj => by rw [HG8.out]; exact own_base HO16.out j hj))
    rw [byteCells_append, splice_lo HCS.out, halves_drop HCB.out, ← byteCells_append] at ho17
    have HO17 : Hid (OwnB w17 g8 5 (.slice (some ⟨g8, 0, none⟩) 1024 1024) 1024 (st ++ bsA)) := ho17
    clear ho17 hm17 HO16
    have hz17 := HK17.out.size
    have HCH := Lib.hid (choose_any w1.heap.size g8 0 1024 (st ++ bsA) w17.heap.size w17 (HT8.out.below HK17.out HT8.out.lt) (by rw [List.length_append, HLA.out, HLS.out]) (by omega) (Cells.of_own HO17.out) (Nat.le_refl _))
    rw [HS2.out HSE.out] at HCH
    go_wp2_with fail
    refine HCH.out.mono ?_
    rintro x w18 ⟨rfl, hb⟩
    have HK18 := Lib.hid (HK17.out.trans (hb.mono hz17))
    clear hb hr3 HCH
    obtain ⟨w19, hw19⟩ : ∃ w19, w18.alloc (.cells #[.int .i64 (q : Int), .int .i64 (e : Int), .int .i64 (d : Int), .bool c] 23) = w19 := ⟨_, rfl⟩
    have HK19 : Hid (Below w8.heap.size w8 w19) := by rw [← hw19]; exact HK18.out.alloc HK18.out.size _
    have HM19 : Hid (Box w19 w18.heap.size #[.int .i64 (q : Int), .int .i64 (e : Int), .int .i64 (d : Int), .bool c] 23) := by rw [← hw19]; exact heap_alloc_new w18 _
    have m0 : w19.cell? ⟨w18.heap.size, 0, none⟩ = some (.int .i64 (q : Int)) := HM19.out.cell 0
    have m1 : w19.cell? ⟨w18.heap.size, 1, none⟩ = some (.int .i64 (e : Int)) := HM19.out.cell 1
    have m2 : w19.cell? ⟨w18.heap.size, 2, none⟩ = some (.int .i64 (d : Int)) := HM19.out.cell 2
    have m3 : w19.cell? ⟨w18.heap.size, 3, none⟩ = some (.bool c) := HM19.out.cell 3
    have x0 : w19.cell? ⟨w.heap.size, 0, none⟩ = some (.int .i64 (q : Int)) := (HK19.out.cell (p := ⟨w.heap.size, 0, none⟩) (show w.heap.size < w8.heap.size from HP8.out.lt)).trans (HP8.out.cell 0)
    have x1 : w19.cell? ⟨w.heap.size, 1, none⟩ = some (.int .i64 (e : Int)) := (HK19.out.cell (p := ⟨w.heap.size, 1, none⟩) (show w.heap.size < w8.heap.size from HP8.out.lt)).trans (HP8.out.cell 1)
    have x2 : w19.cell? ⟨w.heap.size, 2, none⟩ = some (.int .i64 (d : Int)) := (HK19.out.cell (p := ⟨w.heap.size, 2, none⟩) (show w.heap.size < w8.heap.size from HP8.out.lt)).trans (HP8.out.cell 2)
    have x3 : w19.cell? ⟨w.heap.size, 3, none⟩ = some (.bool c) := (HK19.out.cell (p := ⟨w.heap.size, 3, none⟩) (show w.heap.size < w8.heap.size from HP8.out.lt)).trans (HP8.out.cell 3)
    have HB19 := Lib.hid (HB8.out.trans (HK19.out.mono HB8.out.size))
    go_wp2_with (go_at_call 12; refine (slLives_any _).mono ?_; rintro x w20 ⟨rfl, hb⟩; have HB20 := Lib.hid (HB19.out.trans (hb.mono HB19.out.size)); clear hb)
    go_ret
    exact ⟨rfl, HB20.out⟩

theorem later_any (q e d : Int) (c : Bool) (E D : Int) (X : Option Addr) (lx cx : Nat) (st : List UInt8) (w : World) (hls : st.length = lx) (hlc : lx ≤ cx) (hxs : Bytes w w.heap.size X st) :
    Calls Try.prog 5 #[.agg #[.int .i64 q, .int .i64 e, .int .i64 d, .bool c, .int .i64 E, .int .i64 D, .slice X lx cx]] w fun x w' => x = .returned (.bool true) ∧ Below w.heap.size w w' := by
  cases hr : slB q e d c with
  | false => exact later_no q e d c E D X lx cx w hr
  | true =>
    obtain ⟨q, e, d, rfl, rfl, rfl⟩ := slP_nat hr
    cases hb1 : nextB q e d c E D true with
    | true => exact later_clean q e d c E D X lx cx st w hls hlc hxs hr hb1
    | false =>
      cases hb2 : nextB q e d c e 0 false with
      | true => exact later_dirty q e d c E D X lx cx st w hls hlc hxs hr hb1 hb2
      | false => exact later_none q e d c E D X lx cx w hr hb1 hb2
end Go.Proofs.Ytpokicngpapkcaa
