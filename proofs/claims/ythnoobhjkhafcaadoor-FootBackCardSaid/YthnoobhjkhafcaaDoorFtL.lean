/- Layer 20: the chapter's example: a directory of no members is written and read. -/
import Derived.Test.YthnoobhjkhafcaaDoorFt
import Derived.Test.YthnoobhjkhafcaaDoorKThree
namespace Go.Proofs.YthnoobhjkhafcaaDoor
open Go.RowKit CrcP FieldP
attribute [local go_sem ↓] Go.wp_at_zero Go.wp_at_succ

theorem below_drewN {B : Nat} {w w' : World} (h : Below B w w') (n : Nat) : Below B w (w'.drewN n) := ⟨h.os, h.tape, h.output, h.size, h.block⟩
set_option maxHeartbeats 1000000 in
theorem within_any (n a b : Int) (w : World) : Calls Tryd.prog 29 #[.int .i64 n, .int .i64 a, .int .i64 b] w fun e w' => e = .returned (.bool (decide (a ≤ n) && decide (n ≤ b))) ∧ w = w' := by
  by_cases h1 : a ≤ n
  · by_cases h2 : n ≤ b
    · have HD : Hid ((decide (a ≤ n) && decide (n ≤ b)) = true) := by show _ = _; simp [h1, h2]
      go_enter Tryd.func29, Tryd.ntmps29
      go_wp2
      go_ret
      exact ⟨by rw [HD.out]; rfl, rfl⟩
    · have HD : Hid ((decide (a ≤ n) && decide (n ≤ b)) = false) := by show _ = _; simp [h2]
      have h2' : decide (n ≤ b) = false := by simpa using h2
      clear h2
      go_enter Tryd.func29, Tryd.ntmps29
      go_wp2
      go_ret
      exact ⟨by rw [HD.out]; rfl, rfl⟩
  · have HD : Hid ((decide (a ≤ n) && decide (n ≤ b)) = false) := by show _ = _; simp [h1]
    go_enter Tryd.func29, Tryd.ntmps29
    go_wp2
    go_ret
    exact ⟨by rw [HD.out]; rfl, rfl⟩

set_option maxHeartbeats 1000000 in
theorem all_none (w : World) : Calls Tryd.prog 12 #[.slice none 0 0] w fun e w' => e = .returned (.bool true) ∧ w = w' := by
  go_enter Tryd.func12, Tryd.ntmps12
  go_wp2
  go_loopw [10] (fun i wr => i = .int .i64 0 ∧ wr = w) (fun _ _ => 0)
  case atStart => exact ⟨rfl, rfl⟩
  case round =>
    obtain ⟨rfl, rfl⟩ := hrel
    go_wp2
    go_ret
    exact ⟨rfl, rfl⟩

set_option maxHeartbeats 1000000 in
theorem eput_none (w : World) : Calls Tryd.prog 10 #[.slice none 0 0] w fun e w' => e = .returned (.tuple #[.slice none 0 0, .int .i64 0]) ∧ w = w' := by
  go_enter Tryd.func10, Tryd.ntmps10
  go_wp2_with (go_at_call 12; refine (all_none _).mono ?_; rintro e w' ⟨rfl, rfl⟩)
  go_loopw [4, 14] (fun b i wr => b = .slice none 0 0 ∧ i = .int .i64 0 ∧ wr = w) (fun _ _ _ => 0)
  case atStart => exact ⟨rfl, rfl, rfl⟩
  case round =>
    obtain ⟨rfl, rfl, rfl⟩ := hrel
    go_wp2
    go_ret2
    exact ⟨rfl, rfl⟩

set_option maxHeartbeats 1000000 in
theorem etake_none (A : Option Addr) (c : Nat) (w : World) : Calls Tryd.prog 26 #[.slice A 0 c, .int .i64 0] w fun e w' => e = .returned (.tuple #[.slice none 0 0, .int .i64 0]) ∧ Below w.heap.size w w' := by
  have HR := Lib.hid (rd_new A 0 c w)
  go_enter Tryd.func26, Tryd.ntmps26
  go_wp2_with (first | (go_at_call 29; refine (within_any _ _ _ _).mono ?_; rintro e w' ⟨rfl, rfl⟩) | (go_at_call 39; refine (new_any A 0 c w).mono ?_; rintro e w' ⟨rfl, rfl⟩))
  go_loopw [7, 14] (fun b i wr => b = .slice none 0 0 ∧ i = .int .i64 0 ∧ wr = w.alloc (.cells #[.slice A 0 c, .int .i64 0, .bool false] 83)) (fun _ _ _ => 0)
  case atStart => exact ⟨rfl, rfl, rfl⟩
  case round =>
    obtain ⟨rfl, rfl, rfl⟩ := hrel
    go_wp2_with (first | (go_at_call 41; refine (ok_any w.heap.size A 0 c 0 false _ HR.out).mono ?_; rintro e w' ⟨rfl, rfl⟩) | (go_at_call 42; refine (left_any w.heap.size A 0 c 0 false _ HR.out (by omega) (by omega) (by omega)).mono ?_; rintro e w' ⟨rfl, nq, rfl⟩) | (go_at_call 12; refine (all_none _).mono ?_; rintro e w' ⟨rfl, rfl⟩))
    go_ret2
    exact ⟨rfl, below_drewN ((Below.refl _ _).alloc (Nat.le_refl _) _) _⟩

set_option maxRecDepth 100000 in
set_option maxHeartbeats 1000000 in
theorem ftTake_good (tg : Nat) (A : Option Addr) (l c : Nat) (bs : List UInt8) (B : Nat) (p x y z : Nat) (w : World) (hT : Table w tg) (hl : bs.length = l) (hm : l ≤ 1099511627776) (hlc : l ≤ c) (hp : p + 20 = l)
    (hb : Bytes w B A bs) (hB : B ≤ w.heap.size) (hi : isB footBytes bs p = true) (h3 : threeR bs p = 0) (h0 : vaK bs (openS bs p) 0 = x) (h1 : vaK bs (openS bs p) 1 = y) (h2 : vaK bs (openS bs p) 2 = z) (hf : ftB x y = true) :
    Calls Tryd.prog 37 #[.pointer (some ⟨tg, 0, none⟩), .slice A l c] w fun e w' => e = .returned (.tuple #[.agg #[.int .i64 (x : Int), .int .i64 (y : Int), .int .u32 (z : Int)], .int .i64 0]) ∧ Below w.heap.size w w' := by
  obtain ⟨bx0, bx1, by0, by1⟩ := ftB_yes hf
  have HT := Lib.hid (take3_ok tg footMark A l c bs B p _ (hT.alloc (.cells #[.int .i64 0, .int .i64 0, .int .u32 0] 61)) (by decide) hl hm hlc (hb.alloc hB (.cells #[.int .i64 0, .int .i64 0, .int .u32 0] 61)) (by simp; omega) (by omega) (fun _ => hi))
  rw [take3V_good h3, h0, h1, h2] at HT
  have HFR := Lib.hid (fun W => ftRight_any x y z W)
  rw [hf] at HFR
  have hlp : (l : Int) - 20 = (p : Int) := by omega
  have hl20 : ¬ (l : Int) < 20 := by omega
  have HX0 : Hid (Box (w.alloc (.cells #[.int .i64 0, .int .i64 0, .int .u32 0] 61)) w.heap.size #[.int .i64 0, .int .i64 0, .int .u32 0] 61) := heap_alloc_new w _
  have HB0 := Lib.hid ((Below.refl w.heap.size w).alloc (Nat.le_refl _) (.cells #[.int .i64 0, .int .i64 0, .int .u32 0] 61))
  have HZ0 : Hid ((w.alloc (.cells #[.int .i64 0, .int .i64 0, .int .u32 0] 61)).heap.size = w.heap.size + 1) := by show _ = _; simp
  have hz32 : (z : Int) < 4294967296 := by have : z < 4294967296 := by rw [← h2]; exact num_lt (Nat.le_refl _)
                                           omega
  clear hi h3 h0 h1 h2 hf hT hb hl hp
  go_enter Tryd.func37, Tryd.ntmps37
  go_wp2_with (go_at_call 51; refine HT.out.mono ?_; rintro e w1 ⟨rfl, hbw⟩; have HW1 := Lib.hid hbw; have HX1 := Lib.hid (HX0.out.below hbw (by rw [HZ0.out]; omega)); have HB1 := Lib.hid (HB0.out.trans (hbw.mono (by rw [HZ0.out]; omega))); clear hbw; have hx0 : w1.cell? ⟨w.heap.size, 0, none⟩ = some (.int .i64 0) := HX1.out.cell 0; have hx1 : w1.cell? ⟨w.heap.size, 1, none⟩ = some (.int .i64 0) := HX1.out.cell 1; have hx2 : w1.cell? ⟨w.heap.size, 2, none⟩ = some (.int .u32 0) := HX1.out.cell 2; have hf0 := frozen_of_row w1 w.heap.size 0 _ _ HX1.out; have hf1 := frozen_of_row w1 w.heap.size 1 _ _ HX1.out; have hf2 := frozen_of_row w1 w.heap.size 2 _ _ HX1.out; have hz1 : w.heap.size < w1.heap.size := HX1.out.lt)
  refine (HFR.out _).mono ?_
  rintro e w2 ⟨rfl, hw2⟩
  have HX2 : Hid (Box w2 w.heap.size #[.int .i64 0, .int .i64 0, .int .u32 0] 61) := by (rw [← hw2]; exact ((HX1.out.alloc _).alloc _).alloc _)
  have HY2 : Hid (Box w2 (w1.heap.size + 1) #[.int .i64 (x : Int), .int .i64 (y : Int), .int .u32 (z : Int)] 61) := by (rw [← hw2, show w1.heap.size + 1 = (w1.alloc (.cells #[.int .u32 (x : Int), .int .u32 (y : Int), .int .u32 (z : Int)] 78)).heap.size by simp]; exact Box.alloc (heap_alloc_new _ _) _)
  have HB2 : Hid (Below w.heap.size w w2) := by (rw [← hw2]; exact ((HB1.out.alloc HB1.out.size _).alloc (by simp; omega) _).alloc (by simp; omega) _)
  clear hw2 hx0 hx1 hx2 hf0 hf1 hf2
  have hx0 : w2.cell? ⟨w.heap.size, 0, none⟩ = some (.int .i64 0) := HX2.out.cell 0
  have hx1 : w2.cell? ⟨w.heap.size, 1, none⟩ = some (.int .i64 0) := HX2.out.cell 1
  have hx2 : w2.cell? ⟨w.heap.size, 2, none⟩ = some (.int .u32 0) := HX2.out.cell 2
  have hf0 := frozen_of_row w2 w.heap.size 0 _ _ HX2.out
  have hf1 := frozen_of_row w2 w.heap.size 1 _ _ HX2.out
  have hf2 := frozen_of_row w2 w.heap.size 2 _ _ HX2.out
  have hy0 : w2.cell? ⟨w1.heap.size + 1, 0, none⟩ = some (.int .i64 (x : Int)) := HY2.out.cell 0
  have hy1 : w2.cell? ⟨w1.heap.size + 1, 1, none⟩ = some (.int .i64 (y : Int)) := HY2.out.cell 1
  have hy2 : w2.cell? ⟨w1.heap.size + 1, 2, none⟩ = some (.int .u32 (z : Int)) := HY2.out.cell 2
  go_wp2
  refine bodyPost_ret (v := .tuple #[.agg #[.int .i64 (x : Int), .int .i64 (y : Int), .int .u32 (z : Int)], .int .i64 0]) (by simp [results, Tryd.results37, hx0, hx1, hx2, go_sem]) rfl ⟨rfl, ?_⟩
  exact ((HB2.out.setCell (p := ⟨w.heap.size, 0, none⟩) (Nat.le_refl _) _).setCell (p := ⟨w.heap.size, 1, none⟩) (Nat.le_refl _) _).setCell (p := ⟨w.heap.size, 2, none⟩) (Nat.le_refl _) _

/-- The bytes of a directory of no members. -/
def footNone : List UInt8 := footB 0 0 (sumN [] : Nat)
theorem footNone_length : footNone.length = 20 := by unfold footNone footB; exact threeB_length _ _ _ _ rfl
theorem footNone_back (s : Nat) (hs : s < 4294967296) : isB footBytes (footB 0 0 (s : Int)) 0 = true ∧ threeR (footB 0 0 (s : Int)) 0 = 0 ∧ vaK (footB 0 0 (s : Int)) (openS (footB 0 0 (s : Int)) 0) 0 = 0 ∧ vaK (footB 0 0 (s : Int)) (openS (footB 0 0 (s : Int)) 0) 1 = 0 ∧ vaK (footB 0 0 (s : Int)) (openS (footB 0 0 (s : Int)) 0) 2 = s := by
  have hl : (footB 0 0 (s : Int)).length = 20 := threeB_length _ _ _ _ rfl
  obtain ⟨_, h2, h3, h4, h5, h6⟩ := three_back (bs := footB 0 0 (s : Int)) (mk := footBytes) (p := 0) (a := 0) (b := 0) (c := s) rfl (by omega) (by omega) hs (by rw [List.drop_zero, List.take_of_length_le (by omega)]; rfl)
  refine ⟨?_, h3, h4, h5, h6⟩
  have := isB_in (mk := footBytes) (bs := footB 0 0 (s : Int)) (p := 0) (by rw [hl]; decide)
  rw [show ((0 : Nat) : Int) = 0 from rfl] at this
  rw [this]
  exact decide_eq_true h2

set_option maxRecDepth 100000 in
set_option maxHeartbeats 1000000 in
theorem fwrite_none (tg : Nat) (w : World) (hT : Table w tg) :
    Calls Tryd.prog 22 #[.pointer (some ⟨tg, 0, none⟩), .slice none 0 0] w fun e w' => ∃ A c, e = .returned (.tuple #[.slice A 20 c, .int .i64 0]) ∧ OwnY w' w.heap.size (.slice A 20 c) 20 footNone ∧ Below w.heap.size w w' := by
  have HS := Lib.hid (sum_any tg none 0 0 [] 0 w rfl (by omega) hT (Cells.nil _ _ _))
  have HP := Lib.hid (ftPut_yes tg 0 0 (sumN [] : Nat) w (by decide) (by omega) (by have := sumN_lt []; omega) hT)
  have HD : Hid (footNone = footB 0 0 (sumN [] : Nat)) := rfl
  rw [← HD.out] at HP
  have hlt := sumN_lt []
  clear hT
  generalize sumN [] = s at *
  go_enter Tryd.func22, Tryd.ntmps22
  go_wp2_with (first | (go_at_call 10; refine (eput_none _).mono ?_; rintro e w' ⟨rfl, rfl⟩) | (go_at_call 36; refine HS.out.mono ?_; rintro e w' ⟨rfl, rfl⟩) | (go_at_call 35; refine HP.out.mono ?_; rintro e w1 ⟨A1, c1, rfl, hown, hbel⟩; have HO1 := Lib.hid hown; have HB1 := Lib.hid hbel; clear hown hbel) | (at_builtin; refine wpList_appT _ byteElem rfl (.tmp 31) (.tmp 32) rfl w.heap.size (.slice none 0 0) 0 [] rfl (OwnT.nil _ _ _) w1.heap.size A1 20 c1 (byteCells footNone) rfl HO1.out.1 HO1.out.cells (byteCells_one _) (by unfold maxLen; omega) (by omega) HB1.out.size ?_; intro A2 c2 w2 hA; have HA := Lib.hid hA; clear hA))
  go_ret2
  exact ⟨A2, c2, rfl, HA.out.own, HA.out.below HB1.out HB1.out.size (fun k hk => by cases hk)⟩

set_option maxRecDepth 100000 in
set_option maxHeartbeats 1000000 in
theorem fread_none (tg : Nat) (A : Option Addr) (c : Nat) (B : Nat) (w : World) (hT : Table w tg) (hlc : 20 ≤ c) (hb : Bytes w B A footNone) (hB : B ≤ w.heap.size) :
    Calls Tryd.prog 23 #[.pointer (some ⟨tg, 0, none⟩), .slice A 20 c] w fun e w' => e = .returned (.tuple #[.slice none 0 0, .int .i64 0]) ∧ Below w.heap.size w w' := by
  obtain ⟨h1, h2, h3, h4, h5⟩ := footNone_back (sumN []) (sumN_lt [])
  have HTK := Lib.hid (ftTake_good tg A 20 c footNone B 0 0 0 (sumN []) w hT footNone_length (by omega) hlc rfl hb hB h1 h2 h3 h4 h5 (by decide))
  have HT : Hid (Table w tg) := hT
  have htl := hT.lt
  obtain ⟨b, o, rfl, hbB, _⟩ := hb (by rw [byteCells_length, footNone_length]; omega)
  have HSU : Hid (∀ k c' w2, Table w2 tg → Calls Tryd.prog 36 #[.pointer (some ⟨tg, 0, none⟩), .slice k 0 c'] w2 fun e w' => e = .returned (.int .u32 (sumN [] : Nat)) ∧ w2 = w') := fun k c' w2 h => sum_any tg k 0 c' [] 0 w2 rfl (by omega) h (Cells.nil _ _ _)
  have hlt := sumN_lt []
  clear h1 h2 h3 h4 h5 hb hT
  generalize sumN [] = s at *
  go_enter Tryd.func23, Tryd.ntmps23
  go_wp2_with (go_at_call 37; refine HTK.out.mono ?_; rintro e w1 ⟨rfl, hbw⟩; have HB1 := Lib.hid hbw; clear hbw)
  have HT2 := Lib.hid ((HT.out.below HB1.out htl).alloc (.cells #[.int .i64 0, .int .i64 0, .int .u32 (s : Int)] 61))
  have HX2 : Hid (Box (w1.alloc (.cells #[.int .i64 0, .int .i64 0, .int .u32 (s : Int)] 61)) w1.heap.size #[.int .i64 0, .int .i64 0, .int .u32 (s : Int)] 61) := heap_alloc_new w1 _
  have HB2 := Lib.hid (HB1.out.alloc HB1.out.size (.cells #[.int .i64 0, .int .i64 0, .int .u32 (s : Int)] 61))
  generalize w1.alloc (.cells #[.int .i64 0, .int .i64 0, .int .u32 (s : Int)] 61) = w2 at *
  have hx2 : ∀ n, (w2.drewN n).cell? ⟨w1.heap.size, 2, none⟩ = some (.int .u32 (s : Int)) := fun n => HX2.out.cell 2
  have hx2' : w2.cell? ⟨w1.heap.size, 2, none⟩ = some (.int .u32 (s : Int)) := HX2.out.cell 2
  have hx0 : ∀ n, (w2.drewN n).cell? ⟨w1.heap.size, 0, none⟩ = some (.int .i64 0) := fun n => HX2.out.cell 0
  go_quiet ((go_at_call 36; exact quiet_left (HSU.out _ _ _ HT2.out)))
  have HB3 := Lib.hid (below_drewN HB2.out nq)
  have hx0' := hx0 nq
  clear hx2 hx2' hx0
  generalize w2.drewN nq = w3 at *
  go_wp2_with (go_at_call 26; refine (etake_none _ _ _).mono ?_; rintro e w4 ⟨rfl, hbw⟩; have HB4 := Lib.hid (HB3.out.trans (hbw.mono HB3.out.size)); clear hbw)
  go_ret2
  exact ⟨rfl, HB4.out⟩

set_option maxRecDepth 100000 in
set_option maxHeartbeats 1000000 in
theorem lives_any (w : World) : Calls Tryd.prog 20 #[] w fun e w' => e = .returned (.bool true) ∧ Below w.heap.size w w' := by
  have hz := (zero_of_info tableInfo).1
  have HSZ := Lib.hid tableSize
  go_enter Tryd.func20, Tryd.ntmps20
  go_wp2_with fail
  refine (make_any _).mono ?_
  rintro e w1 ⟨rfl, hb⟩
  have HG := Lib.hid (heap_alloc_last w1 (.cells (Array.replicate 256 (.int .u32 0)) 39))
  have HB := Lib.hid hb
  clear hb
  go_wp2_with (refine wpList_store_row rfl 39 _ _ rfl w1.heap.size tabCells rfl rfl 39 _ HG.out HSZ.out (by rw [Array.size_replicate, tabCells_size]) tabCells_one ?_; rw [World.setRow_alloc_new])
  have HTB := Lib.hid (table_new w1)
  have HB2 := Lib.hid (HB.out.alloc HB.out.size (.cells tabCells 39))
  generalize w1.alloc (.cells tabCells 39) = w2 at *
  clear hz HG HSZ
  refine (fwrite_none w1.heap.size w2 HTB.out).mono ?_
  rintro e w3 ⟨A, c, rfl, hown, hbel⟩
  have HO3 := Lib.hid hown
  have HB3 := Lib.hid (HB2.out.trans (hbel.mono HB2.out.size))
  have HT3 := Lib.hid (HTB.out.below hbel HTB.out.lt)
  have hc : 20 ≤ c := own_cap hown
  clear hown hbel
  have HRD := Lib.hid (fread_none w1.heap.size A c w3.heap.size w3 HT3.out hc HO3.out.cells (Nat.le_refl _))
  go_wp2_with (refine HRD.out.mono ?_; rintro e w4 ⟨rfl, hbw⟩; have HB4 := Lib.hid (HB3.out.trans (hbw.mono HB3.out.size)); clear hbw)
  go_ret
  exact ⟨rfl, HB4.out⟩
end Go.Proofs.YthnoobhjkhafcaaDoor
