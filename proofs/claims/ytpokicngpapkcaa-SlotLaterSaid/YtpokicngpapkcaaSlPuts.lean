/- Layer 21: SlotPuts walked. -/
import Derived.Test.YtpokicngpapkcaaSlRefPut
namespace Go.Proofs.Ytpokicngpapkcaa
open Go.RowKit CrcP FieldP
attribute [local go_sem ↓] Go.wp_at_zero Go.wp_at_succ

theorem slP_nat {q e d : Int} {c : Bool} (h : slB q e d c = true) : ∃ q' e' d' : Nat, q = (q' : Int) ∧ e = (e' : Int) ∧ d = (d' : Int) := by
  have hp : slP q e d c := of_decide_eq_true h
  obtain ⟨p1, p2, p3, p4, p5⟩ := hp
  have hd : 0 ≤ d := by
    cases c with
    | true => simp at p5; omega
    | false => simp at p5; omega
  obtain ⟨q, rfl⟩ := Int.eq_ofNat_of_zero_le p1
  obtain ⟨e, rfl⟩ := Int.eq_ofNat_of_zero_le (show 0 ≤ e by omega)
  obtain ⟨d, rfl⟩ := Int.eq_ofNat_of_zero_le hd
  exact ⟨q, e, d, rfl, rfl, rfl⟩
set_option maxRecDepth 100000 in
set_option maxHeartbeats 1000000 in
theorem puts21_no (q e d : Int) (c : Bool) (w : World) (h : slB q e d c = false) :
    Calls Try.prog 3 #[.agg #[.int .i64 q, .int .i64 e, .int .i64 d, .bool c]] w fun x w' => x = .returned (.bool true) ∧ Below w.heap.size w w' := by
  have HRR := Lib.hid (fun W => slRefRight_any q e d c W)
  have HRC := Lib.hid (fun W => slRight_any q e d c W)
  rw [h] at HRR HRC
  unfold slC at HRR HRC
  have HPL := Lib.hid (fun W => place_any q W)
  obtain ⟨pl, hpl⟩ : ∃ pl, placeC q = pl := ⟨_, rfl⟩
  have HPC : Hid ((q.tmod 2 != 0) = true ∧ pl = 512 ∨ (q.tmod 2 != 0) = false ∧ pl = 0) := by
    show _ ∨ _
    rw [← hpl]
    unfold placeC
    by_cases hm : q.tmod 2 = 0
    · rw [if_pos hm]; exact .inr ⟨by simp [hm], rfl⟩
    · rw [if_neg hm]; exact .inl ⟨by simp [hm], rfl⟩
  rw [hpl] at HPL
  clear hpl
  have hz := (zero_of_info tableInfo).1
  have HSZ := Lib.hid tableSize
  obtain ⟨w0, hw0⟩ : ∃ w0, w.alloc (.cells #[.int .i64 q, .int .i64 e, .int .i64 d, .bool c] 23) = w0 := ⟨_, rfl⟩
  have HX0 : Hid (Box w0 w.heap.size #[.int .i64 q, .int .i64 e, .int .i64 d, .bool c] 23) := by rw [← hw0]; exact heap_alloc_new w _
  have HA0 : Hid (Below w.heap.size w w0) := by rw [← hw0]; exact (Below.refl w.heap.size w).alloc (Nat.le_refl _) _
  go_enter Try.func3, Try.ntmps3
  go_wp2_with fail
  refine (make_any _).mono ?_
  rintro x w1 ⟨rfl, hb⟩
  have HX1 := Lib.hid (HX0.out.below hb HX0.out.lt)
  have HB1 := Lib.hid (HA0.out.trans (hb.mono HA0.out.size))
  have HG := Lib.hid (heap_alloc_last w1 (.cells (Array.replicate 256 (.int .u32 0)) 26))
  clear hb hw0
  go_wp2_with (refine wpList_store_row rfl 26 _ _ rfl w1.heap.size tabCells rfl rfl 26 _ HG.out HSZ.out (by rw [Array.size_replicate, tabCells_size]) tabCells_one ?_; rw [World.setRow_alloc_new]; have HTB := Lib.hid (table_new w1); have HX2 := Lib.hid (HX1.out.alloc (.cells tabCells 26)); have HB2 := Lib.hid (HB1.out.alloc HB1.out.size (.cells tabCells 26)); generalize w1.alloc (.cells tabCells 26) = w2 at *; have x0 : w2.cell? ⟨w.heap.size, 0, none⟩ = some (.int .i64 q) := HX2.out.cell 0; have x1 : w2.cell? ⟨w.heap.size, 1, none⟩ = some (.int .i64 e) := HX2.out.cell 1; have x2 : w2.cell? ⟨w.heap.size, 2, none⟩ = some (.int .i64 d) := HX2.out.cell 2; have x3 : w2.cell? ⟨w.heap.size, 3, none⟩ = some (.bool c) := HX2.out.cell 3)
  clear hz HG HSZ x0 x1 x2 x3
  refine (slPut_no w1.heap.size q e d c w2 h).mono ?_
  rintro x w3 ⟨rfl, hb⟩
  have HX3 := Lib.hid (HX2.out.below hb HX2.out.lt)
  have HB3 := Lib.hid (HB2.out.trans (hb.mono HB2.out.size))
  clear hb h
  have x0 : w3.cell? ⟨w.heap.size, 0, none⟩ = some (.int .i64 q) := HX3.out.cell 0
  have x1 : w3.cell? ⟨w.heap.size, 1, none⟩ = some (.int .i64 e) := HX3.out.cell 1
  have x2 : w3.cell? ⟨w.heap.size, 2, none⟩ = some (.int .i64 d) := HX3.out.cell 2
  have x3 : w3.cell? ⟨w.heap.size, 3, none⟩ = some (.bool c) := HX3.out.cell 3
  go_wp2_with fail
  refine (HRR.out _).mono ?_
  rintro x w4 ⟨rfl, hw4⟩
  have HX4 : Hid (Box w4 w.heap.size #[.int .i64 q, .int .i64 e, .int .i64 d, .bool c] 23) := by rw [← hw4]; exact HX3.out.alloc _
  have HB4 : Hid (Below w.heap.size w w4) := by rw [← hw4]; exact HB3.out.alloc HB3.out.size _
  clear hw4 x0 x1 x2 x3
  have x0 : w4.cell? ⟨w.heap.size, 0, none⟩ = some (.int .i64 q) := HX4.out.cell 0
  have x1 : w4.cell? ⟨w.heap.size, 1, none⟩ = some (.int .i64 e) := HX4.out.cell 1
  have x2 : w4.cell? ⟨w.heap.size, 2, none⟩ = some (.int .i64 d) := HX4.out.cell 2
  have x3 : w4.cell? ⟨w.heap.size, 3, none⟩ = some (.bool c) := HX4.out.cell 3
  rcases HPC.out with ⟨hd, rfl⟩ | ⟨hd, rfl⟩
  all_goals
    go_wp2_with (first | (go_at_call 10; refine (HRC.out _).mono ?_; rintro x w5 ⟨rfl, hw5⟩; have HX5 : Hid (Box w5 w.heap.size #[.int .i64 q, .int .i64 e, .int .i64 d, .bool c] 23) := (by rw [← hw5]; exact HX4.out.alloc _); have HB5 : Hid (Below w.heap.size w w5) := (by rw [← hw5]; exact HB4.out.alloc HB4.out.size _); clear hw5; have y0 : w5.cell? ⟨w.heap.size, 0, none⟩ = some (.int .i64 q) := HX5.out.cell 0) | (go_at_call 11; refine (HPL.out _).mono ?_; rintro x w' ⟨rfl, rfl⟩) | (go_at_call 12; refine (slLives_any _).mono ?_; rintro x w6 ⟨rfl, hb⟩; have HB9 := Lib.hid (HB5.out.trans (hb.mono HB5.out.size)); clear hb))
    go_ret
    exact ⟨rfl, HB9.out⟩

set_option maxRecDepth 100000 in
set_option maxHeartbeats 2000000 in
theorem puts21_yes (q e d : Int) (c : Bool) (w : World) (h : slB q e d c = true) :
    Calls Try.prog 3 #[.agg #[.int .i64 q, .int .i64 e, .int .i64 d, .bool c]] w fun x w' => x = .returned (.bool true) ∧ Below w.heap.size w w' := by
  obtain ⟨bs, HLN, HP, HREF⟩ : ∃ bs : List UInt8, Hid (bs.length = 512) ∧ Hid (∀ g W, Table W g → Calls Try.prog 8 #[.pointer (some ⟨g, 0, none⟩), .agg #[.int .i64 q, .int .i64 e, .int .i64 d, .bool c]] W fun x w' => ∃ A k, x = .returned (.tuple #[.slice A 512 k, .int .i64 0]) ∧ OwnY w' W.heap.size (.slice A 512 k) 512 bs ∧ Below W.heap.size W w') ∧ Hid (∀ W, Calls Try.prog 13 #[.agg #[.int .i64 q, .int .i64 e, .int .i64 d, .bool c]] W fun x w' => ∃ A k, x = .returned (.slice A 512 k) ∧ OwnY w' W.heap.size (.slice A 512 k) 512 bs ∧ Below W.heap.size W w') := by
    obtain ⟨q, e, d, rfl, rfl, rfl⟩ := slP_nat h
    exact ⟨slotB q e d c, slotB_length q e d c, fun g W hT => slPut_yes g q e d c W h hT, fun W => slRefPut_any q e d c W h⟩
  have HRR := Lib.hid (fun W => slRefRight_any q e d c W)
  have HRC := Lib.hid (fun W => slRight_any q e d c W)
  rw [h] at HRR HRC
  unfold slC at HRR HRC
  have HPL := Lib.hid (fun W => place_any q W)
  obtain ⟨pl, hpl⟩ : ∃ pl, placeC q = pl := ⟨_, rfl⟩
  have HPC : Hid ((q.tmod 2 != 0) = true ∧ pl = 512 ∨ (q.tmod 2 != 0) = false ∧ pl = 0) := by
    show _ ∨ _
    rw [← hpl]
    unfold placeC
    by_cases hm : q.tmod 2 = 0
    · rw [if_pos hm]; exact .inr ⟨by simp [hm], rfl⟩
    · rw [if_neg hm]; exact .inl ⟨by simp [hm], rfl⟩
  rw [hpl] at HPL
  clear hpl
  have hz := (zero_of_info tableInfo).1
  have HSZ := Lib.hid tableSize
  obtain ⟨w0, hw0⟩ : ∃ w0, w.alloc (.cells #[.int .i64 q, .int .i64 e, .int .i64 d, .bool c] 23) = w0 := ⟨_, rfl⟩
  have HX0 : Hid (Box w0 w.heap.size #[.int .i64 q, .int .i64 e, .int .i64 d, .bool c] 23) := by rw [← hw0]; exact heap_alloc_new w _
  have HA0 : Hid (Below w.heap.size w w0) := by rw [← hw0]; exact (Below.refl w.heap.size w).alloc (Nat.le_refl _) _
  go_enter Try.func3, Try.ntmps3
  go_wp2_with fail
  refine (make_any _).mono ?_
  rintro x w1 ⟨rfl, hb⟩
  have HX1 := Lib.hid (HX0.out.below hb HX0.out.lt)
  have HB1 := Lib.hid (HA0.out.trans (hb.mono HA0.out.size))
  have HG := Lib.hid (heap_alloc_last w1 (.cells (Array.replicate 256 (.int .u32 0)) 26))
  clear hb hw0
  go_wp2_with (refine wpList_store_row rfl 26 _ _ rfl w1.heap.size tabCells rfl rfl 26 _ HG.out HSZ.out (by rw [Array.size_replicate, tabCells_size]) tabCells_one ?_; rw [World.setRow_alloc_new]; have HTB := Lib.hid (table_new w1); have HX2 := Lib.hid (HX1.out.alloc (.cells tabCells 26)); have HB2 := Lib.hid (HB1.out.alloc HB1.out.size (.cells tabCells 26)); generalize w1.alloc (.cells tabCells 26) = w2 at *; have x0 : w2.cell? ⟨w.heap.size, 0, none⟩ = some (.int .i64 q) := HX2.out.cell 0; have x1 : w2.cell? ⟨w.heap.size, 1, none⟩ = some (.int .i64 e) := HX2.out.cell 1; have x2 : w2.cell? ⟨w.heap.size, 2, none⟩ = some (.int .i64 d) := HX2.out.cell 2; have x3 : w2.cell? ⟨w.heap.size, 3, none⟩ = some (.bool c) := HX2.out.cell 3)
  clear hz HG HSZ x0 x1 x2 x3
  refine (HP.out w1.heap.size w2 HTB.out).mono ?_
  rintro x w3 ⟨A, k, rfl, hown, hb⟩
  have HX3 := Lib.hid (HX2.out.below hb HX2.out.lt)
  have HB3 := Lib.hid (HB2.out.trans (hb.mono HB2.out.size))
  have HY3 := Lib.hid hown.cells
  clear hb h hown
  have x0 : w3.cell? ⟨w.heap.size, 0, none⟩ = some (.int .i64 q) := HX3.out.cell 0
  have x1 : w3.cell? ⟨w.heap.size, 1, none⟩ = some (.int .i64 e) := HX3.out.cell 1
  have x2 : w3.cell? ⟨w.heap.size, 2, none⟩ = some (.int .i64 d) := HX3.out.cell 2
  have x3 : w3.cell? ⟨w.heap.size, 3, none⟩ = some (.bool c) := HX3.out.cell 3
  go_wp2_with fail
  refine (HRR.out _).mono ?_
  rintro x w4 ⟨rfl, hw4⟩
  have HX4 : Hid (Box w4 w.heap.size #[.int .i64 q, .int .i64 e, .int .i64 d, .bool c] 23) := by rw [← hw4]; exact HX3.out.alloc _
  have HB4 : Hid (Below w.heap.size w w4) := by rw [← hw4]; exact HB3.out.alloc HB3.out.size _
  have HY4 : Hid (Bytes w4 w3.heap.size A bs) := by rw [← hw4]; exact HY3.out.alloc (Nat.le_refl _) _
  have hz4 : w3.heap.size ≤ w4.heap.size := by rw [← hw4]; simp
  clear hw4 x0 x1 x2 x3
  have x0 : w4.cell? ⟨w.heap.size, 0, none⟩ = some (.int .i64 q) := HX4.out.cell 0
  have x1 : w4.cell? ⟨w.heap.size, 1, none⟩ = some (.int .i64 e) := HX4.out.cell 1
  have x2 : w4.cell? ⟨w.heap.size, 2, none⟩ = some (.int .i64 d) := HX4.out.cell 2
  have x3 : w4.cell? ⟨w.heap.size, 3, none⟩ = some (.bool c) := HX4.out.cell 3
  have HCV : Hid (∀ (W : World) (A : Option Addr) (c' B : Nat), Bytes W B A bs → (convert 28 9 (.slice A 512 c')).run Try.prog W = .ok (.string ⟨bs.toArray⟩) W) := fun W A c' B h => run_string_of 28 9 5 Try.underlying28 Try.underlying5 Try.underlying9 h HLN.out
  generalize hs1 : (⟨bs.toArray⟩ : ByteArray) = st at *
  clear hs1
  rcases HPC.out with ⟨hd, rfl⟩ | ⟨hd, rfl⟩
  all_goals
    go_wp2_with (first | (go_at_call 10; refine (HRC.out _).mono ?_; rintro x w5 ⟨rfl, hw5⟩; have HX5 : Hid (Box w5 w.heap.size #[.int .i64 q, .int .i64 e, .int .i64 d, .bool c] 23) := (by rw [← hw5]; exact HX4.out.alloc _); have HB5 : Hid (Below w.heap.size w w5) := (by rw [← hw5]; exact HB4.out.alloc HB4.out.size _); have HY5 : Hid (Bytes w5 w3.heap.size A bs) := (by rw [← hw5]; exact HY4.out.alloc hz4 _); have hz5 : w3.heap.size ≤ w5.heap.size := (by rw [← hw5]; simp; omega); clear hw5; have y0 : w5.cell? ⟨w.heap.size, 0, none⟩ = some (.int .i64 q) := HX5.out.cell 0; have y1 : w5.cell? ⟨w.heap.size, 1, none⟩ = some (.int .i64 e) := HX5.out.cell 1; have y2 : w5.cell? ⟨w.heap.size, 2, none⟩ = some (.int .i64 d) := HX5.out.cell 2; have y3 : w5.cell? ⟨w.heap.size, 3, none⟩ = some (.bool c) := HX5.out.cell 3; have k1 := HCV.out w5.drew A k _ HY5.out) | (go_at_call 11; refine (HPL.out _).mono ?_; rintro x w' ⟨rfl, rfl⟩))
    go_region_with (first
      | (go_at_call 13; refine (HREF.out _).mono ?_; rintro x w6 ⟨A6, c6, rfl, hown, hbel⟩; have HB6 := Lib.hid hbel; have k3 := HCV.out w6 A6 c6 _ hown.cells; have k4 := HCV.out w6 A k _ (HY5.out.drew.below hbel hz5); clear hown hbel)
      | (go_at_call 12; refine (slLives_any _).mono ?_; rintro x w7 ⟨rfl, hb7⟩; have HB7 := Lib.hid hb7; clear hb7))
    all_goals
      go_wp2
      go_ret
      exact ⟨rfl, (HB5.out.drew.trans (HB6.out.mono HB5.out.size)).trans (HB7.out.mono (Nat.le_trans HB5.out.size HB6.out.size))⟩
theorem puts21_any (q e d : Int) (c : Bool) (w : World) :
    Calls Try.prog 3 #[.agg #[.int .i64 q, .int .i64 e, .int .i64 d, .bool c]] w fun x w' => x = .returned (.bool true) ∧ Below w.heap.size w w' := by
  cases h : slB q e d c with
  | false => exact puts21_no q e d c w h
  | true => exact puts21_yes q e d c w h
end Go.Proofs.Ytpokicngpapkcaa
