/- Layer 35: the law ChainPrevs. -/
import Derived.Test.YtiojpnhpbpkilaaChLaw
import Derived.Test.YtiojpnhpbpkilaaChNil
namespace Go.Proofs.Ytiojpnhpbpkilaa
open Go.RowKit

set_option maxRecDepth 100000 in
set_option maxHeartbeats 2000000 in
theorem prevs_law (A A2 : Option Addr) (l c l2 c2 : Nat) (bs : List UInt8) (zs : List Int) (w : World) (hl : bs.length = l) (hb : Bytes w w.heap.size A bs) (hz : zs.length = l2) (hz2 : l2 ≤ 9223372036854775807) (hzs : Cells w w.heap.size A2 (zs.map ic)) :
    Calls Try.prog 4 #[.slice A l c, .slice A2 l2 c2] w fun e w' => e = .returned (.bool true) ∧ Below w.heap.size w w' := by
  have HLV := Lib.hid (fun W : World => lives35_any W)
  by_cases h0 : 500 < l
  · have t0 : decide ((500 : Int) < (l : Int)) = true := decide_eq_true (by omega)
    clear h0 hb hzs
    go_enter Try.func4, Try.ntmps4
    go_wp2_with (go_at_call 8; refine (HLV.out _).mono ?_; rintro e w' ⟨rfl, hb2⟩; have HB2 := Lib.hid hb2; clear hb2)
    go_ret
    exact ⟨rfl, HB2.out⟩
  have t0 : decide ((500 : Int) < (l : Int)) = false := decide_eq_false (by omega)
  by_cases h1 : 50 < l2
  · have t1 : decide ((50 : Int) < (l2 : Int)) = true := decide_eq_true (by omega)
    clear h0 h1 hb hzs
    go_enter Try.func4, Try.ntmps4
    go_wp2_with (go_at_call 8; refine (HLV.out _).mono ?_; rintro e w' ⟨rfl, hb2⟩; have HB2 := Lib.hid hb2; clear hb2)
    go_ret
    exact ⟨rfl, HB2.out⟩
  have t1 : decide ((50 : Int) < (l2 : Int)) = false := decide_eq_false (by omega)
  have t0' : decide (500 < l) = false := decide_eq_false h0
  have t1' : decide (50 < l2) = false := decide_eq_false h1
  have HNE := Lib.hid (new_any A l c bs w.heap.size w hl (by omega) hb (Nat.le_refl _))
  have HL := Lib.hid hl
  have HZ := Lib.hid hz
  have HBY := Lib.hid hb
  have HZS := Lib.hid hzs
  have hl5 : l ≤ 500 := by omega
  clear hb hzs hl hz
  go_enter Try.func4, Try.ntmps4
  go_wp2_with (go_at_call 9; refine HNE.out.mono ?_; rintro e w2 ⟨rfl, hch, hb2⟩; have HCH := Lib.hid hch; have HB2 := Lib.hid hb2; clear hch hb2)
  go_loopg [7] l2 (fun gk i wr => ∃ k : Nat, k + gk = l2 ∧ i = .int .i64 k ∧ Below w2.heap.size w2 wr)
  case atStart => exact ⟨0, by omega, rfl, Below.refl _ _⟩
  case round =>
    obtain ⟨k, hk, rfl, hbr⟩ := hrel
    have HBR := Lib.hid hbr
    have HBW := Lib.hid (HB2.out.trans (hbr.mono HB2.out.size))
    clear hbr
    by_cases hkl : k < l2
    · obtain ⟨x, hx⟩ : ∃ x, zs[k]? = some x := ⟨_, List.getElem?_eq_getElem (by have := HZ.out; omega)⟩
      obtain ⟨b2, o2, rfl, hbB, hc⟩ := (HZS.out.below HBW.out (Nat.le_refl _)) (by rw [List.length_map, HZ.out]; omega)
      have c1 : wr.cell? ⟨b2, o2 + k, none⟩ = some (.int .i64 x) := hc k _ (by rw [List.getElem?_map, hx]; rfl)
      obtain ⟨pv, hpv⟩ : ∃ pv, prevI bs x = pv := ⟨_, rfl⟩
      have HP1 := Lib.hid (prev_any (w.heap.size + 1) w.heap.size l c A bs x wr HL.out (by omega) (HCH.out.below HBR.out))
      have HP2 := Lib.hid (rprev_any A l c bs x w.heap.size wr HL.out (by omega) (HBY.out.below HBW.out (Nat.le_refl _)))
      rw [hpv] at HP1 HP2
      have HN1 := Lib.hid (fun m : Nat => prev_nil x (wr.drewN m))
      have HN2 := Lib.hid (fun m : Nat => find_nil x 1 (wr.drewN m))
      have HN3 := Lib.hid (fun m : Nat => split_nil 1 (wr.drewN m))
      clear hc hx hpv
      by_cases hp : pv = 0
      · subst hp
        go_wp2_with (first
          | (go_at_call 10; first | (refine HP1.out.mono ?_; clear HP1; rintro e w' ⟨rfl, rfl⟩) | (refine (HN1.out m).mono ?_; clear HN1; rintro e w' ⟨rfl, rfl⟩))
          | (go_at_call 11; refine HP2.out.mono ?_; rintro e w' ⟨rfl, m, rfl⟩)
          | (go_at_call 12; refine (HN2.out m).mono ?_; rintro e w' ⟨rfl, rfl⟩)
          | (go_at_call 13; refine (HN3.out m).mono ?_; rintro e w5 ⟨rfl, hb5⟩; have HB5 := Lib.hid hb5; clear hb5))
        go_roundg (gk - 1)
        case measure => omega
        case rel => exact ⟨k + 1, by omega, by go_num, (Below.drewN HBR.out m).trans (HB5.out.mono HBR.out.size)⟩
      · obtain ⟨q, rfl⟩ : ∃ q, pv = q + 1 := ⟨pv - 1, by omega⟩
        have e1 : ((q + 1 : Nat) : Int) - 1 = (q : Int) := by omega
        have e2 : (q : Int) + 1 - 1 = (q : Int) := by omega
        have e3 : ((q : Int) != (q : Int)) = false := by simp
        have e4 : decide ((0 : Int) ≤ (q : Int)) = true := decide_eq_true (by omega)
        rw [e1] at HP2
        rw [Nat.add_sub_cancel, decide_eq_true (show 0 < q + 1 by omega)] at HP1
        go_wp2_with (first
          | (go_at_call 10; first | (refine HP1.out.mono ?_; clear HP1; rintro e w' ⟨rfl, rfl⟩) | (refine (HN1.out m).mono ?_; clear HN1; rintro e w' ⟨rfl, rfl⟩))
          | (go_at_call 11; refine HP2.out.mono ?_; rintro e w' ⟨rfl, m, rfl⟩)
          | (go_at_call 12; refine (HN2.out m).mono ?_; rintro e w' ⟨rfl, rfl⟩)
          | (go_at_call 13; refine (HN3.out m).mono ?_; rintro e w5 ⟨rfl, hb5⟩; have HB5 := Lib.hid hb5; clear hb5))
        go_roundg (gk - 1)
        case measure => omega
        case rel => exact ⟨k + 1, by omega, by go_num, (Below.drewN HBR.out m).trans (HB5.out.mono HBR.out.size)⟩
    · obtain rfl : k = l2 := by omega
      go_wp2_with (go_at_call 8; refine (HLV.out _).mono ?_; rintro e w' ⟨rfl, hb2⟩; have HB3 := Lib.hid hb2; clear hb2)
      go_ret
      exact ⟨rfl, HBW.out.trans (HB3.out.mono HBW.out.size)⟩
end Go.Proofs.Ytiojpnhpbpkilaa
