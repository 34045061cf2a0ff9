/- Layer 18: DescPuts walked. -/
import Derived.Test.YtchdmbjjdifggaaDcL
import Derived.Test.YtchdmbjjdifggaaDcR
namespace Go.Proofs.Ytchdmbjjdifggaa
open Go.RowKit CrcP FieldP
attribute [local go_sem ↓] Go.wp_at_zero Go.wp_at_succ

theorem three_length (mk : List UInt8) (a b c : Nat) (h : mk.length = 4) : (threeB mk a b c).length = 20 := by
  unfold threeB
  rw [sealed_length]
  simp [putN_length, h]

set_option maxRecDepth 100000 in
set_option maxHeartbeats 2000000 in
theorem dcputs_any (c l s : Int) (w : World) (s0 : 0 ≤ s) (s1 : s < 4294967296) :
    Calls Try.prog 3 #[.agg #[.int .i64 c, .int .i64 l, .int .u32 s]] w fun e w' => e = .returned (.bool true) ∧ Below w.heap.size w w' := by
  have hz := (zero_of_info tableInfo).1
  have HSZ := Lib.hid tableSize
  obtain ⟨w0, hw0⟩ : ∃ w0, w.alloc (.cells #[.int .i64 c, .int .i64 l, .int .u32 s] 24) = w0 := ⟨_, rfl⟩
  have HX0 : Hid (Box w0 w.heap.size #[.int .i64 c, .int .i64 l, .int .u32 s] 24) := by rw [← hw0]; exact heap_alloc_new w _
  have HB0 : Hid (Below w.heap.size w w0) := by rw [← hw0]; exact (Below.refl w.heap.size w).alloc (Nat.le_refl _) _
  go_enter Try.func3, Try.ntmps3
  go_wp2_with fail
  refine (make_any _).mono ?_
  rintro e w1 ⟨rfl, hb⟩
  have HX1 := Lib.hid (HX0.out.below hb HX0.out.lt)
  have HB1 := Lib.hid (HB0.out.trans (hb.mono HB0.out.size))
  have HG := Lib.hid (heap_alloc_last w1 (.cells (Array.replicate 256 (.int .u32 0)) 26))
  clear hb hw0
  go_wp2_with (refine wpList_store_row rfl 26 _ _ rfl w1.heap.size tabCells rfl rfl 26 _ HG.out HSZ.out (by rw [Array.size_replicate, tabCells_size]) tabCells_one ?_; rw [World.setRow_alloc_new]; have HT2 := Lib.hid (table_new w1); have HX2 := Lib.hid (HX1.out.alloc (.cells tabCells 26)); have HB2 := Lib.hid (HB1.out.alloc HB1.out.size (.cells tabCells 26)); generalize w1.alloc (.cells tabCells 26) = w2 at *; have hx0 : w2.cell? ⟨w.heap.size, 0, none⟩ = some (.int .i64 c) := HX2.out.cell 0; have hx1 : w2.cell? ⟨w.heap.size, 1, none⟩ = some (.int .i64 l) := HX2.out.cell 1; have hx2 : w2.cell? ⟨w.heap.size, 2, none⟩ = some (.int .u32 s) := HX2.out.cell 2)
  clear hz HG HSZ hx0 hx1 hx2
  have htl := HT2.out.lt
  cases hdc : dcB c l with
  | false =>
    refine (dcPut_no w1.heap.size c l s w2 hdc).mono ?_
    rintro e w3 ⟨rfl, hb⟩
    have HX3 := Lib.hid (HX2.out.below hb HX2.out.lt)
    have HB3 := Lib.hid (HB2.out.trans (hb.mono HB2.out.size))
    clear hb
    have hx0 : w3.cell? ⟨w.heap.size, 0, none⟩ = some (.int .i64 c) := HX3.out.cell 0
    have hx1 : w3.cell? ⟨w.heap.size, 1, none⟩ = some (.int .i64 l) := HX3.out.cell 1
    have hx2 : w3.cell? ⟨w.heap.size, 2, none⟩ = some (.int .u32 s) := HX3.out.cell 2
    go_wp2_with fail
    refine (dcRefRight_any c l s w3).mono ?_
    rw [hdc]
    rintro e w4 ⟨rfl, hw4⟩
    have HX4 : Hid (Box w4 w.heap.size #[.int .i64 c, .int .i64 l, .int .u32 s] 24) := by rw [← hw4]; exact HX3.out.alloc _
    have HB4 : Hid (Below w.heap.size w w4) := by rw [← hw4]; exact HB3.out.alloc HB3.out.size _
    clear hw4 hx0 hx1 hx2
    have hx0 : w4.cell? ⟨w.heap.size, 0, none⟩ = some (.int .i64 c) := HX4.out.cell 0
    have hx1 : w4.cell? ⟨w.heap.size, 1, none⟩ = some (.int .i64 l) := HX4.out.cell 1
    have hx2 : w4.cell? ⟨w.heap.size, 2, none⟩ = some (.int .u32 s) := HX4.out.cell 2
    go_wp2_with fail
    refine (dcRight_any c l s w4).mono ?_
    rw [hdc]
    rintro e w5 ⟨rfl, hw5⟩
    have HB5 : Hid (Below w.heap.size w w5) := by rw [← hw5]; exact HB4.out.alloc HB4.out.size _
    clear hw5 hx0 hx1 hx2
    go_wp2_with (go_at_call 12; refine (dcLives_any _).mono ?_; rintro e w6 ⟨rfl, hb⟩; have HB6 := Lib.hid (HB5.out.trans (hb.mono HB5.out.size)); clear hb)
    go_ret
    exact ⟨rfl, HB6.out⟩
  | true =>
    refine (dcPut_yes w1.heap.size c l s w2 hdc s0 s1 HT2.out).mono ?_
    rintro e w3 ⟨A, k, rfl, hown, hb⟩
    have HX3 := Lib.hid (HX2.out.below hb HX2.out.lt)
    have HB3 := Lib.hid (HB2.out.trans (hb.mono HB2.out.size))
    have HBY3 := Lib.hid hown.cells
    clear hb hown
    have hx0 : w3.cell? ⟨w.heap.size, 0, none⟩ = some (.int .i64 c) := HX3.out.cell 0
    have hx1 : w3.cell? ⟨w.heap.size, 1, none⟩ = some (.int .i64 l) := HX3.out.cell 1
    have hx2 : w3.cell? ⟨w.heap.size, 2, none⟩ = some (.int .u32 s) := HX3.out.cell 2
    go_wp2_with fail
    refine (dcRefRight_any c l s w3).mono ?_
    rw [hdc]
    rintro e w4 ⟨rfl, hw4⟩
    have HX4 : Hid (Box w4 w.heap.size #[.int .i64 c, .int .i64 l, .int .u32 s] 24) := by rw [← hw4]; exact HX3.out.alloc _
    have HB4 : Hid (Below w.heap.size w w4) := by rw [← hw4]; exact HB3.out.alloc HB3.out.size _
    have HBY4 : Hid (Bytes w4 w3.heap.size A (descB c l s)) := by rw [← hw4]; exact HBY3.out.alloc (Nat.le_refl _) _
    have hz4 : w3.heap.size ≤ w4.heap.size := by rw [← hw4]; simp
    clear hw4 hx0 hx1 hx2
    have hx0 : w4.cell? ⟨w.heap.size, 0, none⟩ = some (.int .i64 c) := HX4.out.cell 0
    have hx1 : w4.cell? ⟨w.heap.size, 1, none⟩ = some (.int .i64 l) := HX4.out.cell 1
    have hx2 : w4.cell? ⟨w.heap.size, 2, none⟩ = some (.int .u32 s) := HX4.out.cell 2
    go_wp2_with fail
    refine (dcRight_any c l s w4).mono ?_
    rw [hdc]
    rintro e w5 ⟨rfl, hw5⟩
    have HX5 : Hid (Box w5 w.heap.size #[.int .i64 c, .int .i64 l, .int .u32 s] 24) := by rw [← hw5]; exact HX4.out.alloc _
    have HB5 : Hid (Below w.heap.size w w5) := by rw [← hw5]; exact HB4.out.alloc HB4.out.size _
    have HBY5 : Hid (Bytes w5 w3.heap.size A (descB c l s)) := by rw [← hw5]; exact HBY4.out.alloc hz4 _
    have hz5 : w3.heap.size ≤ w5.heap.size := by rw [← hw5]; simp; omega
    clear hw5 hx0 hx1 hx2
    have hx0 : w5.cell? ⟨w.heap.size, 0, none⟩ = some (.int .i64 c) := HX5.out.cell 0
    have hx1 : w5.cell? ⟨w.heap.size, 1, none⟩ = some (.int .i64 l) := HX5.out.cell 1
    have hx2 : w5.cell? ⟨w.heap.size, 2, none⟩ = some (.int .u32 s) := HX5.out.cell 2
    have hlen : (descB c l s).length = 20 := three_length _ _ _ _ rfl
    have hcv : ∀ (W : World) (A : Option Addr) (c' B : Nat) (bs : List UInt8), Bytes W B A bs → bs.length = 20 → (convert 28 9 (.slice A 20 c')).run Try.prog W = .ok (.string ⟨bs.toArray⟩) W := fun W A c' B bs h hl => run_string_of 28 9 5 Try.underlying28 Try.underlying5 Try.underlying9 h hl
    have HCV := Lib.hid hcv
    have HLEN := Lib.hid hlen
    have HREF := Lib.hid (fun W => dcRefPut_any c l s W hdc s0 s1)
    clear hcv hlen hdc
    have k1 := HCV.out w5.drew A k _ _ HBY5.out HLEN.out
    generalize hs1 : (⟨(descB c l s).toArray⟩ : ByteArray) = st at *
    have HS1 := Lib.hid hs1
    clear hs1 hz4
    go_wp2_with fail
    go_region_with (first
      | (go_at_call 13; refine (HREF.out _).mono ?_; rintro e w6 ⟨A6, c6, rfl, hown, hbel⟩; have HB6 := Lib.hid hbel; have k3 := HCV.out w6 A6 c6 _ _ hown.cells HLEN.out; have k4 := HCV.out w6 A k _ _ (HBY5.out.drew.below hbel hz5) HLEN.out; rw [HS1.out] at k3 k4; clear hown hbel)
      | (go_at_call 12; refine (dcLives_any _).mono ?_; rintro e w7 ⟨rfl, hb7⟩; have HB7 := Lib.hid hb7; clear hb7))
    all_goals
      go_wp2
      go_ret
      exact ⟨rfl, (HB5.out.drew.trans (HB6.out.mono HB5.out.size)).trans (HB7.out.mono (Nat.le_trans HB5.out.size HB6.out.size))⟩
end Go.Proofs.Ytchdmbjjdifggaa
