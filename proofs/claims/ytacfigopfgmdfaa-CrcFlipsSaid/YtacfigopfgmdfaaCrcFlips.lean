/- The walk of CrcFlips. -/
import Derived.Test.YtacfigopfgmdfaaCrcLives
import Derived.Test.YtacfigopfgmdfaaCrcRefFlip
import Derived.Test.YtacfigopfgmdfaaCrcSame
namespace Go.Proofs.Ytacfigopfgmdfaa
open Go.RowKit CrcP

theorem length_flipN (bs : List UInt8) (a : Int) (m : Nat) : (flipN bs a m).length = bs.length := by
  unfold flipN
  split
  · rfl
  · exact length_flipK _ _ _ _
theorem flipN_twice (bs : List UInt8) (a : Int) (m : Nat) : flipN (flipN bs a m) a m = bs := by
  unfold flipN
  split
  · rfl
  · exact flipK_twice _ _ _ _

set_option maxRecDepth 100000 in
set_option maxHeartbeats 400000 in
theorem flips_walk (A : Option Addr) (l c : Nat) (bs : List UInt8) (a bits : Int) (w : World) (hl : bs.length = l) (hm : l ≤ 9223372036854775807) (ha1 : -9223372036854775808 ≤ a) (ha2 : a ≤ 9223372036854775807)
    (h0 : 0 ≤ bits) (h1 : bits < 4294967296) (hb : Bytes w w.heap.size A bs) :
    Calls Try.prog 5 #[.slice A l c, .int .i64 a, .int .u32 bits] w fun e w' => e = .returned (.bool true) ∧ Below w.heap.size w w' := by
  by_cases hbig : 3000 < l
  · have g1 : decide (3000 < (l : Int)) = true := by simp; omega
    clear hb hl
    go_enter Try.func5, Try.ntmps5
    go_wp2_with (go_at_call 13; refine (lives_any _).mono ?_; rintro e w4 ⟨rfl, hb4⟩; have HB4 := Lib.hid hb4; clear hb4)
    go_ret
    exact ⟨rfl, HB4.out⟩
  have g1 : decide (3000 < (l : Int)) = false := by simp; omega
  have HL := Lib.hid hl
  have HB0 : Hid (Bytes w w.heap.size A bs) := hb
  have HF := Lib.hid (fun (A : Option Addr) (c : Nat) (bs : List UInt8) (w2 : World) (hl : bs.length = l) (hbb : Bytes w2 w2.heap.size A bs) => flip_any A l c bs a bits w2 hl (by omega) ha1 ha2 h0 h1 hbb)
  have HLC : Hid ((flipN bs a bits.toNat).length = l) := by rw [length_flipN]; exact hl
  have HTW := Lib.hid (flipN_twice bs a bits.toNat)
  by_cases hout : a < 0 ∨ 1099511627776 < a
  · have HFN : Hid (flipN bs a bits.toNat = bs) := by show flipN bs a bits.toNat = bs; unfold flipN; rw [if_pos hout]
    have finish : ∀ (g : decide (a < 0) = true ∨ (decide (a < 0) = false ∧ decide (1099511627776 < a) = true)), Calls Try.prog 5 #[.slice A l c, .int .i64 a, .int .u32 bits] w fun e w' => e = .returned (.bool true) ∧ Below w.heap.size w w' := by
      intro g
      clear hl hb hout ha1 ha2 h0 h1 hm HTW
      rcases g with g2 | ⟨g2, g3⟩
      all_goals
        go_enter Try.func5, Try.ntmps5
        go_wp2_with fail
        refine (HF.out A c bs w HL.out HB0.out).mono ?_
        rintro e w3 ⟨gf, rfl, hgf, hblk, hb3⟩
        rw [HFN.out] at hblk
        have HBLK := Lib.hid hblk
        have HB3 := Lib.hid hb3
        have HBS3 := Lib.hid (HB0.out.below hb3 (Nat.le_refl _))
        clear hgf hblk hb3 HF
        go_wp2_with fail
        refine (same_any _ _ _ bs _ _ _ bs (gf + 1) _ _ HL.out HL.out (block_cells HBLK.out (Nat.lt_succ_self _)) HBS3.out).mono ?_
        rintro e w' ⟨rfl, rfl⟩
        rw [decide_eq_true (rfl : bs = bs)]
        go_wp2_with fail
        refine (lives_any _).mono ?_
        rintro e w4 ⟨rfl, hb4⟩
        have HB4 := Lib.hid (HB3.out.trans (hb4.mono HB3.out.size))
        clear hb4
        go_wp2
        go_ret
        exact ⟨rfl, HB4.out⟩
    rcases hout with h | h
    · exact finish (.inl (by simp; omega))
    · exact finish (.inr ⟨by simp; omega, by simp; omega⟩)
  have g2 : decide (a < 0) = false := by simp; omega
  have g3 : decide (1099511627776 < a) = false := by simp; omega
  have HFN : Hid (flipN bs a bits.toNat = flipK bs a.toNat bits.toNat 32) := by show flipN bs a bits.toNat = _; unfold flipN; rw [if_neg hout]
  have HRF := Lib.hid (fun (w2 : World) (hbb : Bytes w2 w2.heap.size A bs) => refFlip_any A l c bs a bits w2 hl (by omega) (by omega) (by omega) h0 h1 hbb)
  clear hl hb hout ha1 ha2 h0 h1 hm
  go_enter Try.func5, Try.ntmps5
  go_wp2_with fail
  refine (HF.out A c bs w HL.out HB0.out).mono ?_
  rintro e w3 ⟨gf, rfl, hgf, hblk, hb3⟩
  have HBLK := Lib.hid hblk
  have HB3 := Lib.hid hb3
  have HBS3 := Lib.hid (HB0.out.below hb3 (Nat.le_refl _))
  clear hgf hblk hb3
  have hlt3 : gf < w3.heap.size := (Array.getElem?_eq_some_iff.1 HBLK.out).1
  rw [HFN.out] at HBLK HLC HTW
  generalize flipK bs a.toNat bits.toNat 32 = cs at *
  go_wp2_with fail
  refine (HRF.out w3 (HBS3.out.more HB3.out.size)).mono ?_
  rintro e w4 ⟨A', c', rfl, hbr, hb4⟩
  have HBR := Lib.hid hbr
  have HBL4 := Lib.hid (HB3.out.trans (hb4.mono HB3.out.size))
  have HCB4 := Lib.hid ((block_cells HBLK.out (Nat.lt_succ_self _)).below hb4 hlt3)
  have HBS4 := Lib.hid (HBS3.out.below hb4 HB3.out.size)
  have hs4 : gf + 1 ≤ w4.heap.size := Nat.le_trans hlt3 hb4.size
  clear hbr hb4 HRF HBLK
  go_wp2_with fail
  refine (same_any _ _ _ cs _ _ _ cs _ _ _ HLC.out HLC.out HCB4.out HBR.out).mono ?_
  rintro e w' ⟨rfl, rfl⟩
  rw [decide_eq_true (rfl : cs = cs)]
  go_wp2_with fail
  refine (HF.out (some ⟨gf, 0, none⟩) l cs w4 HLC.out (HCB4.out.more hs4)).mono ?_
  rintro e w5 ⟨gh, rfl, hgh, hblk, hb5⟩
  rw [HTW.out] at hblk
  have HBLK5 := Lib.hid hblk
  have HBL5 := Lib.hid (HBL4.out.trans (hb5.mono HBL4.out.size))
  have HBS5 := Lib.hid (HBS4.out.below hb5 HBL4.out.size)
  clear hgh hblk hb5 HF
  go_wp2_with fail
  refine (same_any _ _ _ bs _ _ _ bs (gh + 1) _ _ HL.out HL.out (block_cells HBLK5.out (Nat.lt_succ_self _)) HBS5.out).mono ?_
  rintro e w' ⟨rfl, rfl⟩
  rw [decide_eq_true (rfl : bs = bs)]
  go_wp2_with fail
  refine (lives_any _).mono ?_
  rintro e w6 ⟨rfl, hb6⟩
  have HB6 := Lib.hid (HBL5.out.trans (hb6.mono HBL5.out.size))
  clear hb6
  go_wp2
  go_ret
  exact ⟨rfl, HB6.out⟩
end Go.Proofs.Ytacfigopfgmdfaa
