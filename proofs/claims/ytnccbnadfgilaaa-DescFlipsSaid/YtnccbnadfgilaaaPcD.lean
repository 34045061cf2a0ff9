/- Layer 18: the descriptor of any payload, and the reference's. -/
import Derived.Test.YtnccbnadfgilaaaPcOf
import Derived.Test.YtnccbnadfgilaaaPcRef
import Derived.Test.YtnccbnadfgilaaaKSum
namespace Go.Proofs.Ytnccbnadfgilaaa
open Go.RowKit CrcP FieldP
attribute [local go_sem ↓] Go.wp_at_zero Go.wp_at_succ

/-- The descriptor of a payload, and why there is none. -/
def ofV (bs : List UInt8) : Nat × Nat × Nat × Int :=
  if (pcA bs).2 ≠ 0 then (0, 0, 0, (pcA bs).2) else if dcB (pcA bs).1.flatten.length bs.length = true then ((pcA bs).1.flatten.length, bs.length, sumN bs, 0) else (0, 0, 0, 5)
set_option maxRecDepth 100000 in
set_option maxHeartbeats 1000000 in
theorem dcOf_any (tg : Nat) (A : Option Addr) (l c B : Nat) (bs : List UInt8) (w : World) (hT : Table w tg) (hl : bs.length = l) (hm : l ≤ 1000000) (hc : l ≤ c) (hb : Bytes w B A bs) (hB : B ≤ w.heap.size) :
    Calls Try.prog 13 #[.pointer (some ⟨tg, 0, none⟩), .slice A l c] w fun e w' => e = .returned (.tuple #[.agg #[.int .i64 ((ofV bs).1 : Nat), .int .i64 ((ofV bs).2.1 : Nat), .int .u32 ((ofV bs).2.2.1 : Nat)], .int .i64 (ofV bs).2.2.2]) ∧ Below w.heap.size w w' := by
  have HT : Hid (Table w tg) := hT
  have htl := hT.lt
  have HBY : Hid (Bytes w B A bs) := hb
  have HP : Hid (Calls Try.prog 32 #[.slice A l c] (w.alloc (.cells #[.int .i64 0, .int .i64 0, .int .u32 0] 29)) fun e w' => PcPost bs (w.alloc (.cells #[.int .i64 0, .int .i64 0, .int .u32 0] 29)) e w') := piecesOf_any A l c B bs (w.alloc (.cells #[.int .i64 0, .int .i64 0, .int .u32 0] 29)) hl hm hc (hb.alloc hB (.cells #[.int .i64 0, .int .i64 0, .int .u32 0] 29)) (by simp; omega)
  have HS : Hid (∀ W, Table W tg → Bytes W B A bs → Calls Try.prog 33 #[.pointer (some ⟨tg, 0, none⟩), .slice A l c] W fun e w' => e = .returned (.int .u32 (sumN bs : Nat)) ∧ W = w') := fun W h1 h2 => sum_any tg A l c bs B W hl (by omega) h1 h2
  have HRT : Hid (∀ (n s : Int) W, Calls Try.prog 23 #[.agg #[.int .i64 n, .int .i64 (l : Int), .int .u32 s]] W fun e w' => e = .returned (.bool (dcB n l)) ∧ W.alloc (.cells #[.int .i64 n, .int .i64 (l : Int), .int .u32 s] 29) = w') := fun n s W => dcRight_any n l s W
  have HX0 : Hid (Box (w.alloc (.cells #[.int .i64 0, .int .i64 0, .int .u32 0] 29)) w.heap.size #[.int .i64 0, .int .i64 0, .int .u32 0] 29) := heap_alloc_new w _
  have HB0 := Lib.hid ((Below.refl w.heap.size w).alloc (Nat.le_refl _) (.cells #[.int .i64 0, .int .i64 0, .int .u32 0] 29))
  have HZ0 : Hid ((w.alloc (.cells #[.int .i64 0, .int .i64 0, .int .u32 0] 29)).heap.size = w.heap.size + 1) := by show _ = _; simp
  have HBZ := Lib.hid hB
  have HL := Lib.hid hl
  clear hT hb hc hB hl
  obtain ⟨e0, he0⟩ : ∃ e0, (pcA bs).2 = e0 := ⟨_, rfl⟩
  obtain ⟨nd, hnd⟩ : ∃ nd, (pcA bs).1.flatten.length = nd := ⟨_, rfl⟩
  have HV : Hid (ofV bs = if e0 ≠ 0 then (0, 0, 0, e0) else if dcB nd l = true then (nd, l, sumN bs, 0) else (0, 0, 0, 5)) := by show _ = _; unfold ofV; rw [he0, hnd, HL.out]
  have HP2 : Hid (∀ e w1, PcPost bs (w.alloc (.cells #[.int .i64 0, .int .i64 0, .int .u32 0] 29)) e w1 → ∃ (n cp : Nat) (A' : Option Addr), e = .returned (.tuple #[.slice A' n cp, .int .i64 e0]) ∧ (e0 = 0 → n = nd) ∧ Below (w.alloc (.cells #[.int .i64 0, .int .i64 0, .int .u32 0] 29)).heap.size (w.alloc (.cells #[.int .i64 0, .int .i64 0, .int .u32 0] 29)) w1) := fun e w1 h => by
    obtain ⟨v, n, cp, A', h1, h2, h3, _, h5⟩ := h
    subst h2
    rw [he0] at h1 h3
    refine ⟨n, cp, A', h1, fun h0 => ?_, h5⟩
    have := (h3 h0).1
    rw [byteCells_length] at this
    omega
  generalize sumN bs = s at *
  clear he0 hnd
  go_enter Try.func13, Try.ntmps13
  by_cases hz : e0 = 0
  · have t0 : (e0 == 0) = true := by simp [hz]
    have t0' : (e0 != 0) = false := by simp [hz]
    have HZE := Lib.hid hz
    clear hz
    go_wp2_with fail
    refine HP.out.mono ?_
    intro e w1 hpp
    obtain ⟨n, cp, A', rfl, hn0, hbw⟩ := HP2.out e w1 hpp
    have HX1 : Hid (Box w1 w.heap.size #[.int .i64 0, .int .i64 0, .int .u32 0] 29) := HX0.out.below hbw (by rw [HZ0.out]; omega)
    have HB1 : Hid (Below w.heap.size w w1) := HB0.out.trans (hbw.mono (by rw [HZ0.out]; omega))
    have HS1 := Lib.hid (HS.out w1 (HT.out.below HB1.out htl) (Cells.below HBY.out HB1.out HBZ.out))
    have hx0 : w1.cell? ⟨w.heap.size, 0, none⟩ = some (.int .i64 0) := HX1.out.cell 0
    have hx1 : w1.cell? ⟨w.heap.size, 1, none⟩ = some (.int .i64 0) := HX1.out.cell 1
    have hx2 : w1.cell? ⟨w.heap.size, 2, none⟩ = some (.int .u32 0) := HX1.out.cell 2
    have hf0 := frozen_of_row w1 w.heap.size 0 _ _ HX1.out
    have hf1 := frozen_of_row w1 w.heap.size 1 _ _ HX1.out
    have hf2 := frozen_of_row w1 w.heap.size 2 _ _ HX1.out
    obtain rfl : n = nd := hn0 HZE.out
    clear hpp hbw hn0
    cases hd : dcB (n : Int) (l : Int) with
    | true =>
      have HVV : Hid (ofV bs = (n, l, s, 0)) := by show _ = _; rw [HV.out, if_neg (by simp [HZE.out]), if_pos hd]
      have HR2 := Lib.hid (HRT.out (n : Int) (s : Int))
      rw [hd] at HR2
      clear hd
      go_wp2_with (go_at_call 33; refine HS1.out.mono ?_; rintro e w' ⟨rfl, rfl⟩)
      refine (HR2.out _).mono ?_
      rintro e w2 ⟨rfl, hw2⟩
      have hz1 : w.heap.size < w1.heap.size := HX1.out.lt
      have HX2 : Hid (Box w2 w.heap.size #[.int .i64 0, .int .i64 0, .int .u32 0] 29) := by (rw [← hw2]; exact (HX1.out.alloc _).alloc _)
      have HY2 : Hid (Box w2 w1.heap.size #[.int .i64 (n : Int), .int .i64 (l : Int), .int .u32 (s : Int)] 29) := by (rw [← hw2]; exact Box.alloc (heap_alloc_new _ _) _)
      have HB2 : Hid (Below w.heap.size w w2) := by (rw [← hw2]; exact (HB1.out.alloc HB1.out.size _).alloc (by simp; omega) _)
      clear hw2 hx0 hx1 hx2 hf0 hf1 hf2
      have hx0 : w2.cell? ⟨w.heap.size, 0, none⟩ = some (.int .i64 0) := HX2.out.cell 0
      have hx1 : w2.cell? ⟨w.heap.size, 1, none⟩ = some (.int .i64 0) := HX2.out.cell 1
      have hx2 : w2.cell? ⟨w.heap.size, 2, none⟩ = some (.int .u32 0) := HX2.out.cell 2
      have hf0 := frozen_of_row w2 w.heap.size 0 _ _ HX2.out
      have hf1 := frozen_of_row w2 w.heap.size 1 _ _ HX2.out
      have hf2 := frozen_of_row w2 w.heap.size 2 _ _ HX2.out
      have hy0 : w2.cell? ⟨w1.heap.size, 0, none⟩ = some (.int .i64 (n : Int)) := HY2.out.cell 0
      have hy1 : w2.cell? ⟨w1.heap.size, 1, none⟩ = some (.int .i64 (l : Int)) := HY2.out.cell 1
      have hy2 : w2.cell? ⟨w1.heap.size, 2, none⟩ = some (.int .u32 (s : Int)) := HY2.out.cell 2
      go_wp2
      refine bodyPost_ret (v := .tuple #[.agg #[.int .i64 (n : Int), .int .i64 (l : Int), .int .u32 (s : Int)], .int .i64 0]) (by simp [results, Try.results13, hx0, hx1, hx2, go_sem]) rfl ⟨by rw [HVV.out], ?_⟩
      exact ((HB2.out.setCell (p := ⟨w.heap.size, 0, none⟩) (Nat.le_refl _) _).setCell (p := ⟨w.heap.size, 1, none⟩) (Nat.le_refl _) _).setCell (p := ⟨w.heap.size, 2, none⟩) (Nat.le_refl _) _
    | false =>
      have HVV : Hid (ofV bs = (0, 0, 0, 5)) := by show _ = _; rw [HV.out, if_neg (by simp [HZE.out]), if_neg (by rw [hd]; simp)]
      have HR2 := Lib.hid (HRT.out (n : Int) (s : Int))
      rw [hd] at HR2
      clear hd
      go_wp2_with (go_at_call 33; refine HS1.out.mono ?_; rintro e w' ⟨rfl, rfl⟩)
      refine (HR2.out _).mono ?_
      rintro e w2 ⟨rfl, hw2⟩
      have hz1 : w.heap.size < w1.heap.size := HX1.out.lt
      have HX2 : Hid (Box w2 w.heap.size #[.int .i64 0, .int .i64 0, .int .u32 0] 29) := by (rw [← hw2]; exact (HX1.out.alloc _).alloc _)
      have HY2 : Hid (Box w2 w1.heap.size #[.int .i64 (n : Int), .int .i64 (l : Int), .int .u32 (s : Int)] 29) := by (rw [← hw2]; exact Box.alloc (heap_alloc_new _ _) _)
      have HB2 : Hid (Below w.heap.size w w2) := by (rw [← hw2]; exact (HB1.out.alloc HB1.out.size _).alloc (by simp; omega) _)
      clear hw2 hx0 hx1 hx2 hf0 hf1 hf2
      have hx0 : w2.cell? ⟨w.heap.size, 0, none⟩ = some (.int .i64 0) := HX2.out.cell 0
      have hx1 : w2.cell? ⟨w.heap.size, 1, none⟩ = some (.int .i64 0) := HX2.out.cell 1
      have hx2 : w2.cell? ⟨w.heap.size, 2, none⟩ = some (.int .u32 0) := HX2.out.cell 2
      have hf0 := frozen_of_row w2 w.heap.size 0 _ _ HX2.out
      have hf1 := frozen_of_row w2 w.heap.size 1 _ _ HX2.out
      have hf2 := frozen_of_row w2 w.heap.size 2 _ _ HX2.out
      go_wp2
      refine bodyPost_ret (v := .tuple #[.agg #[.int .i64 0, .int .i64 0, .int .u32 0], .int .i64 5]) (by simp [results, Try.results13, hx0, hx1, hx2, go_sem]) rfl ⟨by rw [HVV.out]; rfl, ?_⟩
      exact ((HB2.out.setCell (p := ⟨w.heap.size, 0, none⟩) (Nat.le_refl _) _).setCell (p := ⟨w.heap.size, 1, none⟩) (Nat.le_refl _) _).setCell (p := ⟨w.heap.size, 2, none⟩) (Nat.le_refl _) _
  · have t0 : (e0 == 0) = false := by simp [hz]
    have t0' : (e0 != 0) = true := by simp [hz]
    have HVV : Hid (ofV bs = (0, 0, 0, e0)) := by show _ = _; rw [HV.out, if_pos hz]
    clear hz
    go_wp2_with fail
    refine HP.out.mono ?_
    intro e w1 hpp
    obtain ⟨n, cp, A', rfl, hn0, hbw⟩ := HP2.out e w1 hpp
    have HX1 : Hid (Box w1 w.heap.size #[.int .i64 0, .int .i64 0, .int .u32 0] 29) := HX0.out.below hbw (by rw [HZ0.out]; omega)
    have HB1 : Hid (Below w.heap.size w w1) := HB0.out.trans (hbw.mono (by rw [HZ0.out]; omega))
    have HS1 := Lib.hid (HS.out w1 (HT.out.below HB1.out htl) (Cells.below HBY.out HB1.out HBZ.out))
    have hx0 : w1.cell? ⟨w.heap.size, 0, none⟩ = some (.int .i64 0) := HX1.out.cell 0
    have hx1 : w1.cell? ⟨w.heap.size, 1, none⟩ = some (.int .i64 0) := HX1.out.cell 1
    have hx2 : w1.cell? ⟨w.heap.size, 2, none⟩ = some (.int .u32 0) := HX1.out.cell 2
    have hf0 := frozen_of_row w1 w.heap.size 0 _ _ HX1.out
    have hf1 := frozen_of_row w1 w.heap.size 1 _ _ HX1.out
    have hf2 := frozen_of_row w1 w.heap.size 2 _ _ HX1.out
    clear hpp hbw hn0
    go_wp2
    refine bodyPost_ret (v := .tuple #[.agg #[.int .i64 0, .int .i64 0, .int .u32 0], .int .i64 e0]) (by simp [results, Try.results13, hx0, hx1, hx2, go_sem]) rfl ⟨by rw [HVV.out]; rfl, ?_⟩
    exact ((HB1.out.setCell (p := ⟨w.heap.size, 0, none⟩) (Nat.le_refl _) _).setCell (p := ⟨w.heap.size, 1, none⟩) (Nat.le_refl _) _).setCell (p := ⟨w.heap.size, 2, none⟩) (Nat.le_refl _) _
set_option maxRecDepth 100000 in
set_option maxHeartbeats 1000000 in
theorem refOf_any (A : Option Addr) (l c B : Nat) (bs : List UInt8) (w : World) (hl : bs.length = l) (hm : l ≤ 1000000) (hc : l ≤ c) (hb : Bytes w B A bs) (hB : B ≤ w.heap.size) :
    Calls Try.prog 14 #[.slice A l c] w fun e w' => e = .returned (.tuple #[.agg #[.int .i64 ((ofV bs).1 : Nat), .int .i64 ((ofV bs).2.1 : Nat), .int .u32 ((ofV bs).2.2.1 : Nat)], .int .i64 (ofV bs).2.2.2]) ∧ Below w.heap.size w w' := by
  have HBY : Hid (Bytes w B A bs) := hb
  have HP : Hid (Calls Try.prog 18 #[.slice A l c] (w.alloc (.cells #[.int .i64 0, .int .i64 0, .int .u32 0] 34)) fun e w' => PcPost bs (w.alloc (.cells #[.int .i64 0, .int .i64 0, .int .u32 0] 34)) e w') := refPieces_any A l c B bs (w.alloc (.cells #[.int .i64 0, .int .i64 0, .int .u32 0] 34)) hl hm hc (hb.alloc hB (.cells #[.int .i64 0, .int .i64 0, .int .u32 0] 34)) (by simp; omega)
  have HS : Hid (∀ W, Bytes W B A bs → Calls Try.prog 25 #[.slice A l c] W fun e w' => e = .returned (.int .u32 (sumN bs : Nat)) ∧ W = w') := fun W h2 => refSum_any A l c bs B W hl (by omega) h2
  have HRT : Hid (∀ (n s : Int) W, Calls Try.prog 26 #[.agg #[.int .i64 n, .int .i64 (l : Int), .int .u32 s]] W fun e w' => e = .returned (.bool (dcB n l)) ∧ W.alloc (.cells #[.int .i64 n, .int .i64 (l : Int), .int .u32 s] 34) = w') := fun n s W => dcRefRight_any n l s W
  have HX0 : Hid (Box (w.alloc (.cells #[.int .i64 0, .int .i64 0, .int .u32 0] 34)) w.heap.size #[.int .i64 0, .int .i64 0, .int .u32 0] 34) := heap_alloc_new w _
  have HB0 := Lib.hid ((Below.refl w.heap.size w).alloc (Nat.le_refl _) (.cells #[.int .i64 0, .int .i64 0, .int .u32 0] 34))
  have HZ0 : Hid ((w.alloc (.cells #[.int .i64 0, .int .i64 0, .int .u32 0] 34)).heap.size = w.heap.size + 1) := by show _ = _; simp
  have HBZ := Lib.hid hB
  have HL := Lib.hid hl
  clear hb hc hB hl
  obtain ⟨e0, he0⟩ : ∃ e0, (pcA bs).2 = e0 := ⟨_, rfl⟩
  obtain ⟨nd, hnd⟩ : ∃ nd, (pcA bs).1.flatten.length = nd := ⟨_, rfl⟩
  have HV : Hid (ofV bs = if e0 ≠ 0 then (0, 0, 0, e0) else if dcB nd l = true then (nd, l, sumN bs, 0) else (0, 0, 0, 5)) := by show _ = _; unfold ofV; rw [he0, hnd, HL.out]
  have HP2 : Hid (∀ e w1, PcPost bs (w.alloc (.cells #[.int .i64 0, .int .i64 0, .int .u32 0] 34)) e w1 → ∃ (n cp : Nat) (A' : Option Addr), e = .returned (.tuple #[.slice A' n cp, .int .i64 e0]) ∧ (e0 = 0 → n = nd) ∧ Below (w.alloc (.cells #[.int .i64 0, .int .i64 0, .int .u32 0] 34)).heap.size (w.alloc (.cells #[.int .i64 0, .int .i64 0, .int .u32 0] 34)) w1) := fun e w1 h => by
    obtain ⟨v, n, cp, A', h1, h2, h3, _, h5⟩ := h
    subst h2
    rw [he0] at h1 h3
    refine ⟨n, cp, A', h1, fun h0 => ?_, h5⟩
    have := (h3 h0).1
    rw [byteCells_length] at this
    omega
  generalize sumN bs = s at *
  clear he0 hnd
  go_enter Try.func14, Try.ntmps14
  by_cases hz : e0 = 0
  · have t0 : (e0 == 0) = true := by simp [hz]
    have t0' : (e0 != 0) = false := by simp [hz]
    have HZE := Lib.hid hz
    clear hz
    go_wp2_with fail
    refine HP.out.mono ?_
    intro e w1 hpp
    obtain ⟨n, cp, A', rfl, hn0, hbw⟩ := HP2.out e w1 hpp
    have HX1 : Hid (Box w1 w.heap.size #[.int .i64 0, .int .i64 0, .int .u32 0] 34) := HX0.out.below hbw (by rw [HZ0.out]; omega)
    have HB1 : Hid (Below w.heap.size w w1) := HB0.out.trans (hbw.mono (by rw [HZ0.out]; omega))
    have HS1 := Lib.hid (HS.out w1 (Cells.below HBY.out HB1.out HBZ.out))
    have hx0 : w1.cell? ⟨w.heap.size, 0, none⟩ = some (.int .i64 0) := HX1.out.cell 0
    have hx1 : w1.cell? ⟨w.heap.size, 1, none⟩ = some (.int .i64 0) := HX1.out.cell 1
    have hx2 : w1.cell? ⟨w.heap.size, 2, none⟩ = some (.int .u32 0) := HX1.out.cell 2
    have hf0 := frozen_of_row w1 w.heap.size 0 _ _ HX1.out
    have hf1 := frozen_of_row w1 w.heap.size 1 _ _ HX1.out
    have hf2 := frozen_of_row w1 w.heap.size 2 _ _ HX1.out
    obtain rfl : n = nd := hn0 HZE.out
    clear hpp hbw hn0
    cases hd : dcB (n : Int) (l : Int) with
    | true =>
      have HVV : Hid (ofV bs = (n, l, s, 0)) := by show _ = _; rw [HV.out, if_neg (by simp [HZE.out]), if_pos hd]
      have HR2 := Lib.hid (HRT.out (n : Int) (s : Int))
      rw [hd] at HR2
      clear hd
      go_wp2_with (go_at_call 25; refine HS1.out.mono ?_; rintro e w' ⟨rfl, rfl⟩)
      refine (HR2.out _).mono ?_
      rintro e w2 ⟨rfl, hw2⟩
      have hz1 : w.heap.size < w1.heap.size := HX1.out.lt
      have HX2 : Hid (Box w2 w.heap.size #[.int .i64 0, .int .i64 0, .int .u32 0] 34) := by (rw [← hw2]; exact (HX1.out.alloc _).alloc _)
      have HY2 : Hid (Box w2 w1.heap.size #[.int .i64 (n : Int), .int .i64 (l : Int), .int .u32 (s : Int)] 34) := by (rw [← hw2]; exact Box.alloc (heap_alloc_new _ _) _)
      have HB2 : Hid (Below w.heap.size w w2) := by (rw [← hw2]; exact (HB1.out.alloc HB1.out.size _).alloc (by simp; omega) _)
      clear hw2 hx0 hx1 hx2 hf0 hf1 hf2
      have hx0 : w2.cell? ⟨w.heap.size, 0, none⟩ = some (.int .i64 0) := HX2.out.cell 0
      have hx1 : w2.cell? ⟨w.heap.size, 1, none⟩ = some (.int .i64 0) := HX2.out.cell 1
      have hx2 : w2.cell? ⟨w.heap.size, 2, none⟩ = some (.int .u32 0) := HX2.out.cell 2
      have hf0 := frozen_of_row w2 w.heap.size 0 _ _ HX2.out
      have hf1 := frozen_of_row w2 w.heap.size 1 _ _ HX2.out
      have hf2 := frozen_of_row w2 w.heap.size 2 _ _ HX2.out
      have hy0 : w2.cell? ⟨w1.heap.size, 0, none⟩ = some (.int .i64 (n : Int)) := HY2.out.cell 0
      have hy1 : w2.cell? ⟨w1.heap.size, 1, none⟩ = some (.int .i64 (l : Int)) := HY2.out.cell 1
      have hy2 : w2.cell? ⟨w1.heap.size, 2, none⟩ = some (.int .u32 (s : Int)) := HY2.out.cell 2
      go_wp2
      refine bodyPost_ret (v := .tuple #[.agg #[.int .i64 (n : Int), .int .i64 (l : Int), .int .u32 (s : Int)], .int .i64 0]) (by simp [results, Try.results14, hx0, hx1, hx2, go_sem]) rfl ⟨by rw [HVV.out], ?_⟩
      exact ((HB2.out.setCell (p := ⟨w.heap.size, 0, none⟩) (Nat.le_refl _) _).setCell (p := ⟨w.heap.size, 1, none⟩) (Nat.le_refl _) _).setCell (p := ⟨w.heap.size, 2, none⟩) (Nat.le_refl _) _
    | false =>
      have HVV : Hid (ofV bs = (0, 0, 0, 5)) := by show _ = _; rw [HV.out, if_neg (by simp [HZE.out]), if_neg (by rw [hd]; simp)]
      have HR2 := Lib.hid (HRT.out (n : Int) (s : Int))
      rw [hd] at HR2
      clear hd
      go_wp2_with (go_at_call 25; refine HS1.out.mono ?_; rintro e w' ⟨rfl, rfl⟩)
      refine (HR2.out _).mono ?_
      rintro e w2 ⟨rfl, hw2⟩
      have hz1 : w.heap.size < w1.heap.size := HX1.out.lt
      have HX2 : Hid (Box w2 w.heap.size #[.int .i64 0, .int .i64 0, .int .u32 0] 34) := by (rw [← hw2]; exact (HX1.out.alloc _).alloc _)
      have HY2 : Hid (Box w2 w1.heap.size #[.int .i64 (n : Int), .int .i64 (l : Int), .int .u32 (s : Int)] 34) := by (rw [← hw2]; exact Box.alloc (heap_alloc_new _ _) _)
      have HB2 : Hid (Below w.heap.size w w2) := by (rw [← hw2]; exact (HB1.out.alloc HB1.out.size _).alloc (by simp; omega) _)
      clear hw2 hx0 hx1 hx2 hf0 hf1 hf2
      have hx0 : w2.cell? ⟨w.heap.size, 0, none⟩ = some (.int .i64 0) := HX2.out.cell 0
      have hx1 : w2.cell? ⟨w.heap.size, 1, none⟩ = some (.int .i64 0) := HX2.out.cell 1
      have hx2 : w2.cell? ⟨w.heap.size, 2, none⟩ = some (.int .u32 0) := HX2.out.cell 2
      have hf0 := frozen_of_row w2 w.heap.size 0 _ _ HX2.out
      have hf1 := frozen_of_row w2 w.heap.size 1 _ _ HX2.out
      have hf2 := frozen_of_row w2 w.heap.size 2 _ _ HX2.out
      go_wp2
      refine bodyPost_ret (v := .tuple #[.agg #[.int .i64 0, .int .i64 0, .int .u32 0], .int .i64 5]) (by simp [results, Try.results14, hx0, hx1, hx2, go_sem]) rfl ⟨by rw [HVV.out]; rfl, ?_⟩
      exact ((HB2.out.setCell (p := ⟨w.heap.size, 0, none⟩) (Nat.le_refl _) _).setCell (p := ⟨w.heap.size, 1, none⟩) (Nat.le_refl _) _).setCell (p := ⟨w.heap.size, 2, none⟩) (Nat.le_refl _) _
  · have t0 : (e0 == 0) = false := by simp [hz]
    have t0' : (e0 != 0) = true := by simp [hz]
    have HVV : Hid (ofV bs = (0, 0, 0, e0)) := by show _ = _; rw [HV.out, if_pos hz]
    clear hz
    go_wp2_with fail
    refine HP.out.mono ?_
    intro e w1 hpp
    obtain ⟨n, cp, A', rfl, hn0, hbw⟩ := HP2.out e w1 hpp
    have HX1 : Hid (Box w1 w.heap.size #[.int .i64 0, .int .i64 0, .int .u32 0] 34) := HX0.out.below hbw (by rw [HZ0.out]; omega)
    have HB1 : Hid (Below w.heap.size w w1) := HB0.out.trans (hbw.mono (by rw [HZ0.out]; omega))
    have HS1 := Lib.hid (HS.out w1 (Cells.below HBY.out HB1.out HBZ.out))
    have hx0 : w1.cell? ⟨w.heap.size, 0, none⟩ = some (.int .i64 0) := HX1.out.cell 0
    have hx1 : w1.cell? ⟨w.heap.size, 1, none⟩ = some (.int .i64 0) := HX1.out.cell 1
    have hx2 : w1.cell? ⟨w.heap.size, 2, none⟩ = some (.int .u32 0) := HX1.out.cell 2
    have hf0 := frozen_of_row w1 w.heap.size 0 _ _ HX1.out
    have hf1 := frozen_of_row w1 w.heap.size 1 _ _ HX1.out
    have hf2 := frozen_of_row w1 w.heap.size 2 _ _ HX1.out
    clear hpp hbw hn0
    go_wp2
    refine bodyPost_ret (v := .tuple #[.agg #[.int .i64 0, .int .i64 0, .int .u32 0], .int .i64 e0]) (by simp [results, Try.results14, hx0, hx1, hx2, go_sem]) rfl ⟨by rw [HVV.out]; rfl, ?_⟩
    exact ((HB1.out.setCell (p := ⟨w.heap.size, 0, none⟩) (Nat.le_refl _) _).setCell (p := ⟨w.heap.size, 1, none⟩) (Nat.le_refl _) _).setCell (p := ⟨w.heap.size, 2, none⟩) (Nat.le_refl _) _
end Go.Proofs.Ytnccbnadfgilaaa
