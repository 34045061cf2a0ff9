/- Layer 8, plainly: the symbol that bits begin with. -/
import Derived.Test.YtaknladkodibaaaGreatDoorMgQ12802
import Derived.Test.YtaknladkodibaaaGreatDoorMgQ12815
import Derived.Test.YtaknladkodibaaaGreatDoorMgQ12808
import Derived.Laws.BitsAllLaws
import Derived.Deep.RegionLaw
import Derived.Test.YtaknladkodibaaaGreatDoorMgQ12807
import Derived.Test.YtaknladkodibaaaGreatDoorRows
import Derived.Deep.DeepCutAuto
import Derived.IntWalk
import Derived.Outline
namespace Go.Proofs.YtaknladkodibaaaGreatDoor
open Go.RowKit BitsP

theorem Sym.one_val {zs : List Int} {s n v k s' n' v' k' : Nat} (h : Sym zs s n v k) (h' : Sym zs s' n' v' k') (e : s = s') : n = n' ∧ v = v' := by
  subst e
  have h1 := h.len.symm.trans h'.len
  have h2 := h.val.symm.trans h'.val
  injection h1 with h1
  injection h2 with h2
  omega
end Go.Proofs.YtaknladkodibaaaGreatDoor
/- slices.Repeat of one number, as often as one may ask for. -/
namespace Go.Proofs.YtaknladkodibaaaGreatDoor
open Go.RowKit

end Go.Proofs.YtaknladkodibaaaGreatDoor
/- Layer 10: how long a match is: the program's, the reference's. -/
namespace Go.Proofs.YtaknladkodibaaaGreatDoor
open Go.RowKit

theorem runM_step {bs : List UInt8} {a d k n : Nat} {x : UInt8} (h1 : bs[a + n]? = some x) (h2 : bs[a + n - d]? = some x) : runM bs a d (k + 1) n = runM bs a d k (n + 1) := by
  rw [runM, if_pos]
  rw [List.getD, List.getD, h1, h2]
theorem runM_stop {bs : List UInt8} {a d k n : Nat} {x y : UInt8} (h1 : bs[a + n]? = some x) (h2 : bs[a + n - d]? = some y) (h : x ≠ y) : runM bs a d (k + 1) n = n := by
  rw [runM, if_neg]
  rw [List.getD, List.getD, h1, h2]
  exact h
set_option maxRecDepth 100000 in
set_option maxHeartbeats 2000000 in
theorem mlen_any (A : Option Addr) (l c : Nat) (bs : List UInt8) (B : Nat) (a d : Int) (w : World) (hl : bs.length = l) (hm : l ≤ 1099511627776) (hb : Bytes w B A bs) :
    Calls Tryz.prog 243 #[.slice A l c, .int .i64 a, .int .i64 d] w fun e w' => e = .returned (.int .i64 (lenI bs a d : Nat)) ∧ ∃ m, w' = w.drewN m := by
  have HL := Lib.hid hl
  by_cases h : a < 0
  · have HF : Hid (lenI bs a d = 0) := lenI_no (by omega)
    have hd : decide (a < 0) = true := decide_eq_true h
    clear h hb HL
    go_enter Tryz.func243, Tryz.ntmps243
    go_wp2
    go_ret
    exact ⟨by rw [HF.out]; rfl, 0, rfl⟩
  have g20 := h; clear h
  by_cases h : (l : Int) ≤ a
  · have HF : Hid (lenI bs a d = 0) := lenI_no (by omega)
    have hd : decide ((l : Int) ≤ a) = true := decide_eq_true h
    have hd0 : decide (a < 0) = false := decide_eq_false (by omega)
    clear h hb HL
    go_enter Tryz.func243, Tryz.ntmps243
    go_wp2
    go_ret
    exact ⟨by rw [HF.out]; rfl, 0, rfl⟩
  have g21 := h; clear h
  by_cases h : d < 1
  · have HF : Hid (lenI bs a d = 0) := lenI_no (by omega)
    have hd : decide (d < 1) = true := decide_eq_true h
    have hd0 : decide (a < 0) = false := decide_eq_false (by omega)
    have hd1 : decide ((l : Int) ≤ a) = false := decide_eq_false (by omega)
    clear h hb HL
    go_enter Tryz.func243, Tryz.ntmps243
    go_wp2
    go_ret
    exact ⟨by rw [HF.out]; rfl, 0, rfl⟩
  have g22 := h; clear h
  by_cases h : 32768 < d
  · have HF : Hid (lenI bs a d = 0) := lenI_no (by omega)
    have hd : decide (32768 < d) = true := decide_eq_true h
    have hd0 : decide (a < 0) = false := decide_eq_false (by omega)
    have hd1 : decide ((l : Int) ≤ a) = false := decide_eq_false (by omega)
    have hd2 : decide (d < 1) = false := decide_eq_false (by omega)
    clear h hb HL
    go_enter Tryz.func243, Tryz.ntmps243
    go_wp2
    go_ret
    exact ⟨by rw [HF.out]; rfl, 0, rfl⟩
  have g23 := h; clear h
  by_cases h : a < d
  · have HF : Hid (lenI bs a d = 0) := lenI_no (by omega)
    have hd : decide (a < d) = true := decide_eq_true h
    have hd0 : decide (a < 0) = false := decide_eq_false (by omega)
    have hd1 : decide ((l : Int) ≤ a) = false := decide_eq_false (by omega)
    have hd2 : decide (d < 1) = false := decide_eq_false (by omega)
    have hd3 : decide (32768 < d) = false := decide_eq_false (by omega)
    clear h hb HL
    go_enter Tryz.func243, Tryz.ntmps243
    go_wp2
    go_ret
    exact ⟨by rw [HF.out]; rfl, 0, rfl⟩
  have g24 := h; clear h
  obtain ⟨n, rfl⟩ := Int.eq_ofNat_of_zero_le (show 0 ≤ a by omega)
  obtain ⟨k, rfl⟩ := Int.eq_ofNat_of_zero_le (show 0 ≤ d by omega)
  have q1 : n < l := by omega
  have q2 : 1 ≤ k := by omega
  have q3 : k ≤ 32768 := by omega
  have q4 : k ≤ n := by omega
  have HR0 : Hid (lenI bs (n : Int) (k : Int) = runM bs n k (capM bs n) 0) := lenI_at bs (by omega) q2 q3 q4
  have HCAP : Hid (capM bs n = min 258 (l - n)) := by show _ = _; rw [capM, hl]
  have hd0 : decide ((n : Int) < 0) = false := decide_eq_false (by omega)
  have hd1 : decide ((l : Int) ≤ (n : Int)) = false := decide_eq_false (by omega)
  have hd2 : decide ((k : Int) < 1) = false := decide_eq_false (by omega)
  have hd3 : decide ((32768 : Int) < (k : Int)) = false := decide_eq_false (by omega)
  have hd4 : decide ((n : Int) < (k : Int)) = false := decide_eq_false (by omega)
  obtain ⟨b, o, rfl, hbB, hc⟩ := hb (by rw [byteCells_length]; omega)
  have HC := Lib.hid hc
  clear hc g20 g21 g22 g23 g24 hb hl
  go_enter Tryz.func243, Tryz.ntmps243
  go_wp2
  go_loopg [7] (capM bs n) (fun gk i wr => ∃ j m : Nat, j + gk = capM bs n ∧ i = .int .i64 j ∧ runM bs n k gk j = lenI bs (n : Int) (k : Int) ∧ wr = w.drewN m)
  case atStart => exact ⟨0, 0, by omega, rfl, HR0.out.symm, rfl⟩
  case round =>
    obtain ⟨j, m, hj, rfl, hrun, rfl⟩ := hrel
    have HRUN := Lib.hid hrun
    clear hrun
    by_cases h : gk = 0
    · subst h
      have hjc : j = lenI bs (n : Int) (k : Int) := by have := HRUN.out; rw [runM] at this; exact this
      have hcp := HCAP.out
      have HJ := Lib.hid hjc
      clear hjc
      by_cases h258 : j < 258
      · have t0 : decide ((j : Int) < 258) = true := decide_eq_true (by omega)
        have t1 : decide ((n : Int) + (j : Int) < (l : Int)) = false := decide_eq_false (by omega)
        go_upto_region 27 with (fail)
        go_region
        go_wp2
        go_ret
        exact ⟨by rw [← HJ.out]; rfl, m + 1, rfl⟩
      · have t0 : decide ((j : Int) < 258) = false := decide_eq_false (by omega)
        go_upto_region 27 with (fail)
        go_region
        go_wp2
        go_ret
        exact ⟨by rw [← HJ.out]; rfl, m + 1, rfl⟩
    · have hcp := HCAP.out
      have t0 : decide ((j : Int) < 258) = true := decide_eq_true (by omega)
      have t1 : decide ((n : Int) + (j : Int) < (l : Int)) = true := decide_eq_true (by omega)
      obtain ⟨x, hx⟩ : ∃ x, bs[n + j]? = some x := ⟨_, List.getElem?_eq_getElem (by have := HL.out; omega)⟩
      obtain ⟨y, hy⟩ : ∃ y, bs[n + j - k]? = some y := ⟨_, List.getElem?_eq_getElem (by have := HL.out; omega)⟩
      have c0 : w.cell? ⟨b, o + (n + j), none⟩ = some (.int .u8 (x.toNat : Int)) := HC.out _ _ (byteCells_get hx)
      have c1 : w.cell? ⟨b, o + (n + j - k), none⟩ = some (.int .u8 (y.toNat : Int)) := HC.out _ _ (byteCells_get hy)
      obtain ⟨p, rfl⟩ : ∃ p, gk = p + 1 := ⟨gk - 1, by omega⟩
      by_cases hxy : x = y
      · have HS : Hid (runM bs n k p (j + 1) = lenI bs (n : Int) (k : Int)) := by show _ = _; rw [← HRUN.out, runM_step hx (by rw [hy, hxy])]
        have t2 : (x.toNat == y.toNat) = true := by simp [hxy]
        have t3 : ((x.toNat : Int) == (y.toNat : Int)) = true := by simp [hxy]
        have t4 : ((x.toNat : Int) != (y.toNat : Int)) = false := by simp [hxy]
        have tw : IntKind.i64.wrap ((n : Int) + (j : Int)) = (n : Int) + (j : Int) := IntWalk.i64_in _ (by omega)
        have tw2 : IntKind.i64.wrap ((n : Int) + (j : Int) - (k : Int)) = (n : Int) + (j : Int) - (k : Int) := IntWalk.i64_in _ (by omega)
        have tn : ((n : Int) + (j : Int) - (k : Int)).toNat = n + j - k := by omega
        have tn0 : (0 : Int) ≤ (n : Int) + (j : Int) - (k : Int) := by omega
        have tn1 : (n : Int) + (j : Int) - (k : Int) < (l : Int) := by omega
        have tn2 : (n : Int) + (j : Int) < (l : Int) := by omega
        clear hx hy hxy h hcp
        go_upto_region 27 with (fail)
        go_region
        go_wp2
        go_roundg p
        case measure => omega
        case rel => exact ⟨j + 1, m + 1, by omega, by go_num, HS.out, rfl⟩
      · have HS : Hid (j = lenI bs (n : Int) (k : Int)) := by show _ = _; rw [← HRUN.out, runM_stop hx hy hxy]
        have hne : ¬ (x.toNat : Int) = (y.toNat : Int) := fun e => hxy (UInt8.toNat_inj.1 (by omega))
        have t3 : ((x.toNat : Int) == (y.toNat : Int)) = false := by simpa using hne
        have t4 : ((x.toNat : Int) != (y.toNat : Int)) = true := by simpa using hne
        have tw : IntKind.i64.wrap ((n : Int) + (j : Int)) = (n : Int) + (j : Int) := IntWalk.i64_in _ (by omega)
        have tw2 : IntKind.i64.wrap ((n : Int) + (j : Int) - (k : Int)) = (n : Int) + (j : Int) - (k : Int) := IntWalk.i64_in _ (by omega)
        have tn : ((n : Int) + (j : Int) - (k : Int)).toNat = n + j - k := by omega
        have tn0 : (0 : Int) ≤ (n : Int) + (j : Int) - (k : Int) := by omega
        have tn1 : (n : Int) + (j : Int) - (k : Int) < (l : Int) := by omega
        have tn2 : (n : Int) + (j : Int) < (l : Int) := by omega
        clear hx hy hxy h hne hcp
        go_upto_region 27 with (fail)
        go_region
        go_wp2
        go_ret
        exact ⟨by rw [← HS.out]; rfl, m + 1, rfl⟩
end Go.Proofs.YtaknladkodibaaaGreatDoor
/- Layer 10's Best of the reference: the best match. -/
namespace Go.Proofs.YtaknladkodibaaaGreatDoor
open Go.RowKit

end Go.Proofs.YtaknladkodibaaaGreatDoor
