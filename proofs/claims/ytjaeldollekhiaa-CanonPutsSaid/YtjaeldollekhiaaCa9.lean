/- Layer 8: CanonValues, the law. -/
import Derived.Test.YtjaeldollekhiaaCa8
namespace Go.Proofs.Ytjaeldollekhiaa
open Go.RowKit

def wantK (zs : List Int) (s : Int) (k : Nat) : Int := if 0 ≤ s ∧ s < (k : Int) then zs.getD s.toNat 0 else 0
theorem wantK_all {zs : List Int} (s : Int) : wantK zs s zs.length = lenAt zs s := by
  unfold wantK lenAt
  by_cases h0 : 0 ≤ s
  · rw [if_pos h0]
    by_cases h1 : s < (zs.length : Int)
    · rw [if_pos ⟨h0, h1⟩]
    · rw [if_neg (by omega), List.getD, List.getElem?_eq_none (by omega)]; rfl
  · rw [if_neg h0, if_neg (by omega)]
set_option maxHeartbeats 2000000 in
theorem canval_any (A : Option Addr) (l c : Nat) (zs : List Int) (s : Int) (w : World) (hl : zs.length = l) (hm : l ≤ 9223372036854775807) (hb : Cells w w.heap.size A (zs.map ic)) :
    Calls Try.prog 3 #[.slice A l c, .int .i64 s] w fun e w' => e = .returned (.bool true) ∧ Below w.heap.size w w' := by
  by_cases h400 : 400 < l
  · have HLV := Lib.hid (lives8_any w)
    have hd : decide ((400 : Int) < (l : Int)) = true := by simp; omega
    clear hb hl
    go_enter Try.func3, Try.ntmps3
    go_wp2_with (go_at_call 7; refine HLV.out.mono ?_; rintro e w' ⟨rfl, hbe⟩)
    go_ret
    exact ⟨rfl, hbe⟩
  have hd : decide ((400 : Int) < (l : Int)) = false := by simp; omega
  have HR8 := Lib.hid (ref8Right_any A l c zs _ w hl (by omega) hb)
  cases hr : caR zs with
  | false =>
    have HLV := Lib.hid (lives8_any w)
    have HV := Lib.hid (values_no A l c zs _ w hl (by omega) hb hr)
    have HN := Lib.hid (new_no A l c zs _ w hl (by omega) hb hr)
    have HR := Lib.hid (caRight_any A l c zs _ w hl (by omega) hb)
    rw [hr] at HR HR8
    clear hr hb hl
    go_enter Try.func3, Try.ntmps3
    go_wp2_with (first | (go_at_call 8; refine HR8.out.mono ?_; rintro e w' ⟨rfl, rfl⟩) | (go_at_call 9; refine HV.out.mono ?_; rintro e w' ⟨rfl, rfl⟩) | (go_at_call 10; refine HN.out.mono ?_; rintro e w' ⟨rfl, rfl⟩) | (go_at_call 11; refine HR.out.mono ?_; rintro e w' ⟨rfl, rfl⟩) | (go_at_call 7; refine HLV.out.mono ?_; rintro e w' ⟨rfl, hbe⟩))
    go_ret
    exact ⟨rfl, hbe⟩
  | true =>
    have HV := Lib.hid (values_any A l c zs _ w hl (by omega) hb (Nat.le_refl _) hr)
    have HL := Lib.hid hl
    have HB := Lib.hid hb
    have HR := Lib.hid hr
    rw [hr] at HR8
    have HLB := Lib.hid (caR_len hr).2
    have HCL : Hid ((caV zs).length = l) := by
      have := (vi_take zs (ordL zs).length (Nat.le_refl _)).1.len
      rw [List.take_length] at this
      show _ = _
      rw [← hl]
      exact this
    clear hr hb hl
    go_enter Try.func3, Try.ntmps3
    go_wp2_with (first | (go_at_call 8; refine HR8.out.mono ?_; rintro e w' ⟨rfl, rfl⟩) | (go_at_call 9; refine HV.out.mono ?_; rintro e w1 ⟨rfl, hi1, hb1⟩; have HI1 := Lib.hid hi1; have HB1 := Lib.hid hb1; have HN := Lib.hid (new_any A l c zs _ w1 HL.out (by omega) (HB.out.below hb1 (Nat.le_refl _)) hb1.size HR.out); clear hi1 hb1 HV) | (go_at_call 10; refine HN.out.mono ?_; rintro e w2 ⟨g, rfl, hlc, hg, hb2⟩; have HLC := Lib.hid hlc; have HB2 := Lib.hid hb2; have HZ := Lib.hid (HB.out.below (HB1.out.trans (hb2.mono HB1.out.size)) (Nat.le_refl _)); have HRR := Lib.hid (caRight_any A l c zs _ w2 HL.out (by omega) HZ.out); rw [HR.out] at HRR; clear hlc hg hb2 HN) | (go_at_call 11; refine HRR.out.mono ?_; rintro e w' ⟨rfl, rfl⟩))
    go_loopg [10, 11, 12] l (fun gk n v i wr => ∃ k : Nat, k + gk = l ∧ i = .int .i64 k ∧ n = .int .i64 (posN zs k : Nat) ∧ v = .int .i64 (wantK zs s k) ∧ wr = w2)
    case atStart => exact ⟨0, by omega, rfl, rfl, by rw [wantK, if_neg (by omega)], rfl⟩
    case round =>
      obtain ⟨k, hk, rfl, rfl, rfl, rfl⟩ := hrel
      by_cases h : k < l
      · obtain ⟨x, hx⟩ : ∃ x, zs[k]? = some x := ⟨_, List.getElem?_eq_getElem (by have := HL.out; omega)⟩
        obtain ⟨b, o, rfl, hbB, hc⟩ := HZ.out (by rw [List.length_map, HL.out]; omega)
        have c0 : wr.cell? ⟨b, o + k, none⟩ = some (.int .i64 x) := hc k _ (by rw [List.getElem?_map, hx]; rfl)
        have HX := Lib.hid hx
        clear hc hx
        have hpl := posN_le zs k
        by_cases hp : 0 < x
        · have HP := Lib.hid (posN_yes HX.out hp)
          generalize posN zs k = pn at *
          by_cases hs : (k : Int) = s
          · have hds : ((k : Int) == s) = true := by simp [hs]
            have HW : Hid (wantK zs s (k + 1) = x) := by show _ = _; rw [wantK, if_pos (by omega), ← hs, Int.toNat_natCast, getD_of HX.out]
            clear hs
            go_wp2
            go_roundg (gk - 1)
            case measure => omega
            case rel => exact ⟨k + 1, by omega, by go_num, by rw [HP.out]; go_num, by rw [HW.out], rfl⟩
          · have hds : ((k : Int) == s) = false := by simp [hs]
            have HW : Hid (wantK zs s (k + 1) = wantK zs s k) := by
              show _ = _
              unfold wantK
              by_cases h2 : 0 ≤ s ∧ s < (k : Int)
              · rw [if_pos h2, if_pos (by omega)]
              · rw [if_neg h2, if_neg (by omega)]
            clear hs
            go_wp2
            go_roundg (gk - 1)
            case measure => omega
            case rel => exact ⟨k + 1, by omega, by go_num, by rw [HP.out]; go_num, by rw [HW.out], rfl⟩
        · have HP := Lib.hid (posN_no HX.out hp)
          by_cases hs : (k : Int) = s
          · have hds : ((k : Int) == s) = true := by simp [hs]
            have HW : Hid (wantK zs s (k + 1) = x) := by show _ = _; rw [wantK, if_pos (by omega), ← hs, Int.toNat_natCast, getD_of HX.out]
            clear hs
            go_wp2
            go_roundg (gk - 1)
            case measure => omega
            case rel => exact ⟨k + 1, by omega, by go_num, by rw [HP.out], by rw [HW.out], rfl⟩
          · have hds : ((k : Int) == s) = false := by simp [hs]
            have HW : Hid (wantK zs s (k + 1) = wantK zs s k) := by
              show _ = _
              unfold wantK
              by_cases h2 : 0 ≤ s ∧ s < (k : Int)
              · rw [if_pos h2, if_pos (by omega)]
              · rw [if_neg h2, if_neg (by omega)]
            clear hs
            go_wp2
            go_roundg (gk - 1)
            case measure => omega
            case rel => exact ⟨k + 1, by omega, by go_num, by rw [HP.out], by rw [HW.out], rfl⟩
      · obtain rfl : k = l := by omega
        have HPA : Hid (posN zs k = (ordL zs).length) := by show _ = _; rw [← HL.out]; exact posN_all HLB.out
        have HWA : Hid (wantK zs s k = lenAt zs s) := by show _ = _; rw [← HL.out]; exact wantK_all s
        rw [HPA.out, HWA.out]
        have HBW : Hid (Below w.heap.size w wr) := HB1.out.trans (HB2.out.mono HB1.out.size)
        have HV8 := Lib.hid (ref8Values_any A k c zs _ wr HL.out (by omega) HZ.out HBW.out.size)
        have HV1 : Hid (Cells wr wr.heap.size (some ⟨w.heap.size, 0, none⟩) ((caV zs).map ic)) := ((ib_cells HI1.out (ib_lt HI1.out)).below HB2.out (Nat.le_refl _)).more HB2.out.size
        have hxx : (((ordL zs).length : Int) == ((ordL zs).length : Int)) = true := by simp
        have hyy : (lenAt zs s == lenAt zs s) = true := by simp
        go_wp2_with (first | (go_at_call 13; refine HV8.out.mono ?_; rintro e w3 ⟨rfl, hi3, hb3⟩; have HB3 := Lib.hid hb3; have HIN := Lib.hid (ref7Ints_any _ _ k k k (caV zs) (caV zs) w3.heap.size w3 HCL.out HCL.out (by omega) ((HV1.out.below hb3 (Nat.le_refl _)).more hb3.size) (ib_cells hi3 (ib_lt hi3)) rfl); have HLC3 := Lib.hid (LC.below HLC.out hb3); clear hi3 hb3 HV8) | (go_at_call 12; refine HIN.out.mono ?_; rintro e w' ⟨rfl, m, rfl⟩; have HSY := Lib.hid (symbols_any g zs _ (HLC3.out.drewN m)); have HLE := Lib.hid (len_any g zs s _ (HLC3.out.drewN m) (by have := HL.out; omega)); have HLV := Lib.hid (lives8_any (w3.drewN m)); clear HIN) | (go_at_call 14; refine HSY.out.mono ?_; rintro e w' ⟨rfl, rfl⟩) | (go_at_call 15; refine HLE.out.mono ?_; rintro e w' ⟨rfl, rfl⟩) | (go_at_call 7; refine HLV.out.mono ?_; rintro e w5 ⟨rfl, hb5⟩))
        go_ret
        exact ⟨rfl, (HBW.out.trans (Below.drewN (HB3.out.mono HBW.out.size) _)).trans (hb5.mono (Nat.le_trans HBW.out.size HB3.out.size))⟩
end Go.Proofs.Ytjaeldollekhiaa
