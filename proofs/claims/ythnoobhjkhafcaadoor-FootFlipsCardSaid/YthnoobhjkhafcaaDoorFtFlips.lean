/- Layer 20: FootFlips walked. -/
import Derived.Test.YthnoobhjkhafcaaDoorFtFp
import Derived.Test.YthnoobhjkhafcaaDoorEnL
namespace Go.Proofs.YthnoobhjkhafcaaDoor
open Go.RowKit CrcP FieldP

set_option maxRecDepth 100000 in
set_option maxHeartbeats 2000000 in
theorem ftflips_out (A : Option Addr) (l c : Nat) (ms : List LM) (a bits : Int) (w : World) (hl : ms.length = l) (hb : Cells w w.heap.size A (ms.map LM.cells).flatten) (ha : a < 0 ∨ (0 ≤ a ∧ 200000 < a)) :
    Calls Tryd.prog 6 #[.slice A l c, .int .i64 a, .int .u32 bits] w fun e w' => e = .returned (.bool true) ∧ Below w.heap.size w w' := by
  have HG := Lib.hid (great20_any A l c ms w.heap.size w hl hb)
  clear hl hb
  rcases ha with ha | ⟨ha0, ha⟩
  · go_enter Tryd.func6, Tryd.ntmps6
    go_wp2_with fail
    refine HG.out.mono ?_
    rintro e w' ⟨o1, rfl, rfl, _⟩
    cases o1 with
    | true =>
      go_wp2_with (go_at_call 20; refine (lives_any _).mono ?_; rintro e w9 ⟨rfl, hb⟩; have HB9 := Lib.hid hb; clear hb)
      go_ret
      exact ⟨rfl, HB9.out⟩
    | false =>
      go_wp2_with (go_at_call 20; refine (lives_any _).mono ?_; rintro e w9 ⟨rfl, hb⟩; have HB9 := Lib.hid hb; clear hb)
      go_ret
      exact ⟨rfl, HB9.out⟩
  · go_enter Tryd.func6, Tryd.ntmps6
    go_wp2_with fail
    refine HG.out.mono ?_
    rintro e w' ⟨o1, rfl, rfl, _⟩
    cases o1 with
    | true =>
      go_wp2_with (go_at_call 20; refine (lives_any _).mono ?_; rintro e w9 ⟨rfl, hb⟩; have HB9 := Lib.hid hb; clear hb)
      go_ret
      exact ⟨rfl, HB9.out⟩
    | false =>
      go_wp2_with (go_at_call 20; refine (lives_any _).mono ?_; rintro e w9 ⟨rfl, hb⟩; have HB9 := Lib.hid hb; clear hb)
      go_ret
      exact ⟨rfl, HB9.out⟩

set_option maxRecDepth 100000 in
set_option maxHeartbeats 8000000 in
theorem ftflips_in (A : Option Addr) (l c : Nat) (ms : List LM) (a bits : Int) (w : World) (hW : WidE w) (hl : ms.length = l) (hok : ∀ m ∈ ms, m.Ok) (hb : Cells w w.heap.size A (ms.map LM.cells).flatten) (a0 : 0 ≤ a) (a1 : a ≤ 200000) (b0 : 0 ≤ bits) (b1 : bits < 4294967296) :
    Calls Tryd.prog 6 #[.slice A l c, .int .i64 a, .int .u32 bits] w fun e w' => e = .returned (.bool true) ∧ Below w.heap.size w w' := by
  have hz := (zero_of_info tableInfo).1
  have HSZ := Lib.hid tableSize
  have hw0 := hW.1
  have HWI : Hid (∀ W, Below w.heap.size w W → WidE W) := fun W h => hW.below h hw0 (by have := h.size; omega)
  have HG := Lib.hid (great20_any A l c ms w.heap.size w hl hb)
  have HBC : Hid (∀ W, Below w.heap.size w W → Cells W w.heap.size A (ms.map LM.cells).flatten) := fun W h => hb.below h (Nat.le_refl _)
  have HL := Lib.hid hl
  have HOK := Lib.hid hok
  clear hW hb hl hok
  go_enter Tryd.func6, Tryd.ntmps6
  go_wp2_with fail
  refine HG.out.mono ?_
  rintro e w' ⟨o1, rfl, rfl, hn1⟩
  cases o1 with
  | true =>
    clear hn1
    go_wp2_with (go_at_call 20; refine (lives_any _).mono ?_; rintro e w9 ⟨rfl, hb⟩; have HB9 := Lib.hid hb; clear hb)
    go_ret
    exact ⟨rfl, HB9.out⟩
  | false =>
    clear hn1
    go_wp2_with fail
    refine (make_any _).mono ?_
    rintro e w1 ⟨rfl, hb⟩
    have HGT := Lib.hid (heap_alloc_last w1 (.cells (Array.replicate 256 (.int .u32 0)) 39))
    have HB := Lib.hid hb
    clear hb
    go_wp2_with (refine wpList_store_row rfl 39 _ _ rfl w1.heap.size tabCells rfl rfl 39 _ HGT.out HSZ.out (by rw [Array.size_replicate, tabCells_size]) tabCells_one ?_; rw [World.setRow_alloc_new])
    have HTB := Lib.hid (table_new w1)
    have HB2 := Lib.hid (HB.out.alloc HB.out.size (.cells tabCells 39))
    generalize w1.alloc (.cells tabCells 39) = w2 at *
    clear hz HGT HSZ
    cases ha : allB ms with
    | false =>
      refine (fwrite_no w1.heap.size A l c ms w.heap.size w2 HL.out HOK.out (HBC.out w2 HB2.out) HB2.out.size ha).mono ?_
      rintro e w3 ⟨rfl, hb3⟩
      have HB3 := Lib.hid (HB2.out.trans (hb3.mono HB2.out.size))
      clear hb3 ha
      go_wp2_with (go_at_call 20; refine (lives_any _).mono ?_; rintro e w9 ⟨rfl, hb⟩; have HB9 := Lib.hid (HB3.out.trans (hb.mono HB3.out.size)); clear hb)
      go_ret
      exact ⟨rfl, HB9.out⟩
    | true =>
      refine (fwrite_yes w1.heap.size A l c ms w.heap.size w2 HTB.out (HWI.out w2 HB2.out) HL.out HOK.out (HBC.out w2 HB2.out) HB2.out.size ha).mono ?_
      rintro e w3 ⟨A3, c3, rfl, ho3, hb3⟩
      have HB3 := Lib.hid (HB2.out.trans (hb3.mono HB2.out.size))
      have HT3 := Lib.hid (HTB.out.below hb3 HTB.out.lt)
      obtain ⟨f1, _, _⟩ := foot_back ha HOK.out
      have hfl := footAll_length ms
      have hrs : rowsM ms ≤ 16400 := by
        obtain ⟨q1, q2⟩ := dir_small ha
        have q3 := rowsM_le q2
        have : ms.length * (18 + 64) ≤ 200 * 82 := Nat.mul_le_mul q1 (Nat.le_refl _)
        omega
      have HY3 : Hid (Bytes w3 w3.heap.size A3 (footAll ms)) := ho3.cells
      have HFL := Lib.hid (refFlip_any A3 (rowsM ms + 20) c3 (footAll ms) a bits w3 hfl (by omega) a0 (by omega) b0 b1 ho3.cells)
      have HIM := Lib.hid (foot_flip (ms := ms) (a := a.toNat) (bits := bits.toNat) (by omega))
      have HLC : Hid ((flipK (footAll ms) a.toNat bits.toNat 32).length = rowsM ms + 20) := by show _ = _; rw [length_flipK, hfl]
      have HF1 := Lib.hid f1
      have HFA := Lib.hid hfl
      clear ho3 hb3 ha f1 hfl
      generalize footAll ms = X at *
      generalize flipK X a.toNat bits.toNat 32 = Y at *
      generalize rowsM ms = R at *
      go_wp2_with fail
      refine HFL.out.mono ?_
      rintro e w4 ⟨A4, c4, rfl, hy4, hb4, hc4⟩
      have HB4 := Lib.hid (HB3.out.trans (hb4.mono HB3.out.size))
      have HT4 := Lib.hid (HT3.out.below hb4 HT3.out.lt)
      have HY4 := Lib.hid hy4
      have HX4 := Lib.hid (HY3.out.below hb4 (Nat.le_refl _))
      have HRY := Lib.hid (fread_any w1.heap.size A4 (R + 20) c4 Y w4.heap.size w4 HT4.out (HWI.out w4 HB4.out) HLC.out (by omega) hc4 hy4 (Nat.le_refl _))
      have hz34 := hb4.size
      clear hy4 hb4 hc4
      go_wp2_with fail
      refine HRY.out.mono ?_
      rintro e w5 ⟨hb5, h5⟩
      have HB5 := Lib.hid (HB4.out.trans (hb5.mono HB4.out.size))
      have HSA := Lib.hid (same_any A3 (R + 20) c3 X A4 (R + 20) c4 Y _ _ w5 HFA.out HLC.out (HX4.out.below hb5 hz34) (HY4.out.below hb5 (Nat.le_refl _)))
      clear hb5
      rcases h5 with ⟨hr0, A5, c5, rfl, _⟩ | ⟨hrn, rfl⟩
      · have hXY := HIM.out hr0
        rw [decide_eq_true hXY] at HSA
        clear hr0 hXY
        go_wp2_with (first | (go_at_call 25; refine HSA.out.mono ?_; rintro e w' ⟨rfl, rfl⟩) | (go_at_call 20; refine (lives_any _).mono ?_; rintro e w9 ⟨rfl, hb⟩; have HB9 := Lib.hid (HB5.out.trans (hb.mono HB5.out.size)); clear hb))
        go_ret
        exact ⟨rfl, HB9.out⟩
      · have hXY : ¬ X = Y := fun e => by
          have := HF1.out
          rw [e] at this
          exact hrn this
        rw [decide_eq_false hXY] at HSA
        have hne : (((rdR Y : Nat) : Int) != 0) = true := by simp; omega
        clear hrn hXY
        go_wp2_with (first | (go_at_call 25; refine HSA.out.mono ?_; rintro e w' ⟨rfl, rfl⟩) | (go_at_call 20; refine (lives_any _).mono ?_; rintro e w9 ⟨rfl, hb⟩; have HB9 := Lib.hid (HB5.out.trans (hb.mono HB5.out.size)); clear hb))
        go_ret
        exact ⟨rfl, HB9.out⟩
theorem ftflips_any (A : Option Addr) (l c : Nat) (ms : List LM) (a bits : Int) (w : World) (hW : WidE w) (hl : ms.length = l) (hok : ∀ m ∈ ms, m.Ok) (hb : Cells w w.heap.size A (ms.map LM.cells).flatten) (b0 : 0 ≤ bits) (b1 : bits < 4294967296) :
    Calls Tryd.prog 6 #[.slice A l c, .int .i64 a, .int .u32 bits] w fun e w' => e = .returned (.bool true) ∧ Below w.heap.size w w' := by
  by_cases h : a < 0 ∨ (0 ≤ a ∧ 200000 < a)
  · exact ftflips_out A l c ms a bits w hl hb h
  · exact ftflips_in A l c ms a bits w hW hl hok hb (by omega) (by omega) b0 b1
end Go.Proofs.YthnoobhjkhafcaaDoor
