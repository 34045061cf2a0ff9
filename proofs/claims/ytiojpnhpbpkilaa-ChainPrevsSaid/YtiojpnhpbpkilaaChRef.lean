/- Layer 35: the reference's At, Prev; layer 10's Best of the reference. -/
import Derived.Test.YtiojpnhpbpkilaaChFind
namespace Go.Proofs.Ytiojpnhpbpkilaa
open Go.RowKit

/-- A place's hash; -1: it has none. -/
def atR (bs : List UInt8) (a : Int) : Int := if 0 ≤ a ∧ a + 3 ≤ (bs.length : Int) then (hv bs a.toNat : Int) else -1
set_option maxRecDepth 100000 in
set_option maxHeartbeats 2000000 in
theorem at_any (A : Option Addr) (l c : Nat) (bs : List UInt8) (a : Int) (B : Nat) (w : World) (hl : bs.length = l) (hm : l ≤ 2000) (hb : Bytes w B A bs) :
    Calls Try.prog 17 #[.slice A l c, .int .i64 a] w fun e w' => e = .returned (.int .i64 (atR bs a)) ∧ ∃ m, w' = w.drewN m := by
  by_cases h0 : a < 0
  · have HR : Hid (atR bs a = -1) := if_neg (by omega)
    have t0 : decide (a < 0) = true := decide_eq_true h0
    clear h0 hb
    go_enter Try.func17, Try.ntmps17
    go_wp2
    go_ret
    exact ⟨by rw [HR.out]; rfl, 0, rfl⟩
  have t0 : decide (a < 0) = false := decide_eq_false h0
  by_cases h1 : (l : Int) ≤ a
  · have HR : Hid (atR bs a = -1) := if_neg (by omega)
    have t1 : decide ((l : Int) ≤ a) = true := decide_eq_true h1
    clear h0 h1 hb
    go_enter Try.func17, Try.ntmps17
    go_wp2
    go_ret
    exact ⟨by rw [HR.out]; rfl, 0, rfl⟩
  obtain ⟨p, rfl⟩ := Int.eq_ofNat_of_zero_le (show 0 ≤ a by omega)
  have t1 : decide ((l : Int) ≤ (p : Int)) = false := decide_eq_false h1
  have hw : IntKind.i64.wrap ((l : Int) - (p : Int)) = (l : Int) - (p : Int) := IntWalk.i64_in _ (by omega)
  by_cases h2 : (l : Int) - (p : Int) < 3
  · have HR : Hid (atR bs (p : Int) = -1) := if_neg (by omega)
    have t2 : decide ((l : Int) - (p : Int) < 3) = true := decide_eq_true h2
    have hpl : p < l := by omega
    clear h0 h1 hb
    go_enter Try.func17, Try.ntmps17
    go_wp2
    go_ret
    exact ⟨by rw [HR.out]; rfl, 0, rfl⟩
  · have t2 : decide ((l : Int) - (p : Int) < 3) = false := decide_eq_false h2
    obtain ⟨x0, hx0⟩ : ∃ x, bs[p]? = some x := ⟨_, List.getElem?_eq_getElem (by omega)⟩
    obtain ⟨x1, hx1⟩ : ∃ x, bs[p + 1]? = some x := ⟨_, List.getElem?_eq_getElem (by omega)⟩
    obtain ⟨x2, hx2⟩ : ∃ x, bs[p + 2]? = some x := ⟨_, List.getElem?_eq_getElem (by omega)⟩
    obtain ⟨hh, hhv⟩ : ∃ hh, hv bs p = hh := ⟨_, rfl⟩
    have HR : Hid (atR bs (p : Int) = (hh : Int)) := by show _ = _; rw [atR, if_pos (by omega), Int.toNat_natCast, hhv]
    have hhash : hashN x0 x1 x2 = hh := by rw [← hhv, hv, List.getD, List.getD, List.getD, hx0, hx1, hx2]; rfl
    have HHS := Lib.hid (fun W => rhash_any x0 x1 x2 W)
    rw [hhash] at HHS
    obtain ⟨b, o, rfl, hbB, hc⟩ := hb (by rw [byteCells_length]; omega)
    have d0 : w.cell? ⟨b, o + p, none⟩ = some (.int .u8 (x0.toNat : Int)) := hc _ _ (byteCells_get hx0)
    have d1 : w.cell? ⟨b, o + (p + 1), none⟩ = some (.int .u8 (x1.toNat : Int)) := hc _ _ (byteCells_get hx1)
    have d2 : w.cell? ⟨b, o + (p + 2), none⟩ = some (.int .u8 (x2.toNat : Int)) := hc _ _ (byteCells_get hx2)
    have tw1 : IntKind.i64.wrap ((p : Int) + 1) = (p : Int) + 1 := IntWalk.i64_in _ (by omega)
    have tw2 : IntKind.i64.wrap ((p : Int) + 2) = (p : Int) + 2 := IntWalk.i64_in _ (by omega)
    have tl1 : (p : Int) + 1 < (l : Int) := by omega
    have tl2 : (p : Int) + 2 < (l : Int) := by omega
    have tn1 : ((p : Int) + 1).toNat = p + 1 := by omega
    have tn2 : ((p : Int) + 2).toNat = p + 2 := by omega
    have tz1 : (0 : Int) ≤ (p : Int) + 1 := by omega
    have tz2 : (0 : Int) ≤ (p : Int) + 2 := by omega
    clear hx0 hx1 hx2 hc hhv hhash hl hb h0 h1 hbB
    go_enter Try.func17, Try.ntmps17
    go_wp2
    go_quiet ((go_at_call 7; exact quiet_left' (HHS.out _)))
    go_wp2
    go_ret
    exact ⟨by rw [HR.out]; rfl, nq, rfl⟩
set_option maxRecDepth 100000 in
set_option maxHeartbeats 2000000 in
theorem rprev_any (A : Option Addr) (l c : Nat) (bs : List UInt8) (a : Int) (B : Nat) (w : World) (hl : bs.length = l) (hm : l ≤ 2000) (hb : Bytes w B A bs) :
    Calls Try.prog 11 #[.slice A l c, .int .i64 a] w fun e w' => e = .returned (.int .i64 ((prevI bs a : Nat) - 1 : Int)) ∧ ∃ m, w' = w.drewN m := by
  have HAT := Lib.hid (fun (a : Int) (m : Nat) => at_any A l c bs a B (w.drewN m) hl hm hb)
  by_cases hv0 : 0 ≤ a ∧ a + 3 ≤ (l : Int)
  · obtain ⟨an, rfl⟩ := Int.eq_ofNat_of_zero_le hv0.1
    obtain ⟨h, hh⟩ : ∃ h, hv bs an = h := ⟨_, rfl⟩
    have hat : atR bs (an : Int) = (h : Int) := by rw [atR, if_pos (by omega), Int.toNat_natCast, hh]
    have HPV : Hid (prevI bs (an : Int) = back bs h an) := by show _ = _; rw [prevI_at (by omega), hh]
    have HA0 := Lib.hid (HAT.out (an : Int) 0)
    rw [hat] at HA0
    have HL := Lib.hid hl
    have hal : an + 3 ≤ l := by omega
    have t0 : decide ((h : Int) < 0) = false := decide_eq_false (by omega)
    clear hh hat hb hl hv0
    go_enter Try.func11, Try.ntmps11
    go_wp2_with (go_at_call 17; refine HA0.out.mono ?_; rintro e w' ⟨rfl, m0, rfl⟩)
    go_loopg [6] an (fun gk i wr => ∃ m : Nat, i = .int .i64 ((gk : Nat) - 1 : Int) ∧ gk ≤ an ∧ back bs h gk = back bs h an ∧ wr = w.drewN m)
    case atStart => exact ⟨m0, by go_num, Nat.le_refl _, rfl, by simp⟩
    case round =>
      obtain ⟨m, rfl, hgl, hbk, rfl⟩ := hrel
      by_cases h0 : gk = 0
      · subst h0
        have HZ : Hid (back bs h an = 0) := hbk.symm
        clear hbk
        go_wp2
        go_ret
        exact ⟨by rw [HPV.out, HZ.out]; rfl, m, rfl⟩
      · obtain ⟨q, rfl⟩ : ∃ q, gk = q + 1 := ⟨gk - 1, by omega⟩
        have hq1 : ((q + 1 : Nat) : Int) - 1 = (q : Int) := by omega
        have hq2 : (q : Int) + 1 - 1 = (q : Int) := by omega
        have HAQ := Lib.hid (HAT.out (q : Int) m)
        have hatq : atR bs (q : Int) = (hv bs q : Int) := by rw [atR, if_pos (by have := HL.out; omega), Int.toNat_natCast]
        rw [hatq] at HAQ
        obtain ⟨hq, hhq⟩ : ∃ hq, hv bs q = hq := ⟨_, rfl⟩
        rw [hhq] at HAQ
        have HBK := Lib.hid hbk
        clear hatq hbk h0
        by_cases he : hq = h
        · have t1 : ((hq : Int) == (h : Int)) = true := by simp; omega
          have HZ : Hid (back bs h an = q + 1) := by show _ = _; rw [← HBK.out, back, if_pos (hhq.trans he)]
          clear hhq he
          go_wp2_with (go_at_call 17; refine HAQ.out.mono ?_; rintro e w' ⟨rfl, m2, rfl⟩)
          go_ret
          exact ⟨by rw [HPV.out, HZ.out, hq1]; rfl, m + m2, by simp⟩
        · have t1 : ((hq : Int) == (h : Int)) = false := by simp; omega
          have HZ : Hid (back bs h q = back bs h an) := by show _ = _; rw [← HBK.out, back, if_neg (by rw [hhq]; exact he)]
          clear hhq he
          go_wp2_with (go_at_call 17; refine HAQ.out.mono ?_; rintro e w' ⟨rfl, m2, rfl⟩)
          go_roundg q
          case measure => omega
          case rel => exact ⟨m + m2, by go_num, by omega, HZ.out, by simp⟩
  · have HP : Hid (prevI bs a = 0) := prevI_no (by rw [hl]; exact hv0)
    have hat : atR bs a = -1 := if_neg (by rw [hl]; exact hv0)
    have HA0 := Lib.hid (HAT.out a 0)
    rw [hat] at HA0
    clear hb hl hv0 hat
    go_enter Try.func11, Try.ntmps11
    go_wp2_with (go_at_call 17; refine HA0.out.mono ?_; rintro e w' ⟨rfl, m0, rfl⟩)
    go_ret
    exact ⟨by rw [HP.out]; rfl, m0, by simp⟩
end Go.Proofs.Ytiojpnhpbpkilaa
