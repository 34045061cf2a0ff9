/- The walk of CrcBursts. -/
import Derived.Test.YtacfigopfgmdfaaCrcLives
import Derived.Test.YtacfigopfgmdfaaCrcFlip
import Derived.Test.YtacfigopfgmdfaaCrcSame
namespace Go.Proofs.Ytacfigopfgmdfaa
open Go.RowKit CrcP

theorem u32_beq {a b : Nat} : ((a : Int) == (b : Int)) = decide (a = b) := by
  rw [Bool.eq_iff_iff]
  simp
  omega

set_option maxRecDepth 100000 in
set_option maxHeartbeats 400000 in
theorem bursts_out (A : Option Addr) (l c : Nat) (a bits : Int) (w : World) (h0 : 0 ≤ bits) (hl : l ≤ 9223372036854775807)
    (h : 3000 < l ∨ a < 0 ∨ bits = 0 ∨ 24000 < a ∨ (0 ≤ a ∧ (l : Int) ≤ a / 8)) :
    Calls Try.prog 7 #[.slice A l c, .int .i64 a, .int .u32 bits] w fun e w' => e = .returned (.bool true) ∧ Below w.heap.size w w' := by
  by_cases h1 : 3000 < l
  · have g1 : decide (3000 < (l : Int)) = true := by simp; omega
    clear h
    go_enter Try.func7, Try.ntmps7
    go_wp2_with (go_at_call 13; refine (lives_any _).mono ?_; rintro e w4 ⟨rfl, hb4⟩; have HB4 := Lib.hid hb4; clear hb4)
    go_ret
    exact ⟨rfl, HB4.out⟩
  have g1 : decide (3000 < (l : Int)) = false := by simp; omega
  by_cases h2 : a < 0
  · have g2 : decide (a < 0) = true := by simp; omega
    clear h
    go_enter Try.func7, Try.ntmps7
    go_wp2_with (go_at_call 13; refine (lives_any _).mono ?_; rintro e w4 ⟨rfl, hb4⟩; have HB4 := Lib.hid hb4; clear hb4)
    go_ret
    exact ⟨rfl, HB4.out⟩
  have g2 : decide (a < 0) = false := by simp; omega
  by_cases h3 : bits = 0
  · have g3 : (bits == 0) = true := by simp; omega
    clear h h3
    go_enter Try.func7, Try.ntmps7
    go_wp2_with (go_at_call 13; refine (lives_any _).mono ?_; rintro e w4 ⟨rfl, hb4⟩; have HB4 := Lib.hid hb4; clear hb4)
    go_ret
    exact ⟨rfl, HB4.out⟩
  have g3 : (bits == 0) = false := by simp; omega
  by_cases h4 : 24000 < a
  · have g4 : decide (24000 < a) = true := by simp; omega
    clear h h3
    go_enter Try.func7, Try.ntmps7
    go_wp2_with (go_at_call 13; refine (lives_any _).mono ?_; rintro e w4 ⟨rfl, hb4⟩; have HB4 := Lib.hid hb4; clear hb4)
    go_ret
    exact ⟨rfl, HB4.out⟩
  have g4 : decide (24000 < a) = false := by simp; omega
  have g5 : decide ((l : Int) ≤ a / 8) = true := by simp; omega
  have g0 : 0 ≤ a := by omega
  clear h h3
  go_enter Try.func7, Try.ntmps7
  go_wp2_with (go_at_call 13; refine (lives_any _).mono ?_; rintro e w4 ⟨rfl, hb4⟩; have HB4 := Lib.hid hb4; clear hb4)
  go_ret
  exact ⟨rfl, HB4.out⟩

set_option maxRecDepth 100000 in
set_option maxHeartbeats 400000 in
theorem bursts_walk (A : Option Addr) (l c : Nat) (bs : List UInt8) (a bits : Int) (w : World) (hl : bs.length = l) (hm : l ≤ 9223372036854775807) (ha1 : -9223372036854775808 ≤ a) (ha2 : a ≤ 9223372036854775807)
    (h0 : 0 ≤ bits) (h1 : bits < 4294967296) (hb : Bytes w w.heap.size A bs) :
    Calls Try.prog 7 #[.slice A l c, .int .i64 a, .int .u32 bits] w fun e w' => e = .returned (.bool true) ∧ Below w.heap.size w w' := by
  by_cases h : 3000 < l ∨ a < 0 ∨ bits = 0 ∨ 24000 < a ∨ (0 ≤ a ∧ (l : Int) ≤ a / 8)
  · exact bursts_out A l c a bits w h0 hm h
  have g0 : 0 ≤ a := by omega
  have g1 : decide (3000 < (l : Int)) = false := by simp; omega
  have g2 : decide (a < 0) = false := by simp; omega
  have g3 : (bits == 0) = false := by simp; omega
  have g4 : decide (24000 < a) = false := by simp; omega
  have g5 : decide ((l : Int) ≤ a / 8) = false := by simp; omega
  have g6 : a ≤ 24000 := by omega
  have HBU := Lib.hid (burst bs a.toNat bits.toNat (by rw [hl]; omega))
  have HFN : Hid (flipN bs a bits.toNat = flipK bs a.toNat bits.toNat 32) := by show flipN bs a bits.toNat = _; unfold flipN; rw [if_neg (by omega)]
  have hz := (zero_of_info tableInfo).1
  have HSZ := Lib.hid tableSize
  have HL := Lib.hid hl
  have HB0 : Hid (Bytes w w.heap.size A bs) := hb
  have HF := Lib.hid (fun w2 (hbb : Bytes w2 w2.heap.size A bs) => flip_any A l c bs a bits w2 hl (by omega) ha1 ha2 h0 h1 hbb)
  have HR : Hid (l ≤ 3000 ∧ (flipN bs a bits.toNat).length = l) := ⟨by omega, by rw [HFN.out, length_flipK, hl]⟩
  clear hl hb h ha1 ha2 h0 h1 hm
  go_enter Try.func7, Try.ntmps7
  go_wp2_with fail
  refine (make_any _).mono ?_
  rintro e w1 ⟨rfl, hb⟩
  have HG := Lib.hid (heap_alloc_last w1 (.cells (Array.replicate 256 (.int .u32 0)) 25))
  have HB := Lib.hid hb
  clear hb
  go_wp2_with (refine wpList_store_row rfl 25 _ _ rfl w1.heap.size tabCells rfl rfl 25 _ HG.out HSZ.out (by rw [Array.size_replicate, tabCells_size]) tabCells_one ?_; rw [World.setRow_alloc_new])
  have HTB := Lib.hid (table_new w1)
  have HB2 := Lib.hid (HB.out.alloc HB.out.size (.cells tabCells 25))
  have hg2 : w1.heap.size < (w1.alloc (.cells tabCells 25)).heap.size := by simp
  generalize hw2 : w1.alloc (.cells tabCells 25) = w2 at *
  clear hz hw2 HG HSZ HB
  generalize w1.heap.size = g at *
  have HBS2 := Lib.hid (HB0.out.below HB2.out (Nat.le_refl _))
  clear HB0
  refine (HF.out w2 (HBS2.out.more HB2.out.size)).mono ?_
  rintro e w3 ⟨gf, rfl, hgf, hblk, hb3⟩
  have HBLK := Lib.hid hblk
  have HB3 := Lib.hid (HB2.out.trans (hb3.mono HB2.out.size))
  have HTB3 := Lib.hid (HTB.out.below hb3 hg2)
  have HBS3 := Lib.hid (HBS2.out.below hb3 HB2.out.size)
  clear hgf hblk hb3 HF HTB HBS2
  rw [HFN.out] at HBLK HR
  generalize flipK bs a.toNat bits.toNat 32 = cs at *
  have hlt3 : gf < w3.heap.size := (Array.getElem?_eq_some_iff.1 HBLK.out).1
  go_wp2_with fail
  refine (sum_any g _ _ _ cs (gf + 1) _ HR.out.2 (by have := HR.out.1; omega) HTB3.out (block_cells HBLK.out (Nat.lt_succ_self _))).mono ?_
  rintro e w' ⟨rfl, rfl⟩
  go_wp2_with fail
  refine (sum_any g _ _ _ bs _ _ HL.out (by have := HR.out.1; omega) HTB3.out HBS3.out).mono ?_
  rintro e w' ⟨rfl, rfl⟩
  have hbeq : ((sumN cs : Int) == (sumN bs : Int)) = decide (bs = cs) := by
    rw [u32_beq]
    exact decide_eq_decide.2 HBU.out
  clear HBU HFN
  generalize sumN cs = s1 at *
  generalize sumN bs = s2 at *
  go_wp2_with fail
  refine (same_any _ _ _ bs _ _ _ cs _ (gf + 1) _ HL.out HR.out.2 HBS3.out (block_cells HBLK.out (Nat.lt_succ_self _))).mono ?_
  rintro e w' ⟨rfl, rfl⟩
  generalize decide (bs = cs) = t at *
  go_wp2_with fail
  refine (lives_any _).mono ?_
  rintro e w4 ⟨rfl, hb4⟩
  have HB4 := Lib.hid (HB3.out.trans (hb4.mono HB3.out.size))
  clear hb4
  go_wp2
  go_ret
  exact ⟨rfl, HB4.out⟩
end Go.Proofs.Ytacfigopfgmdfaa
