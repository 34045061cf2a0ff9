/- Layer 8, plainly: the symbol that bits begin with. -/
import Derived.Test.YtaknladkodibaaaGreatDoorMgQ35302
import Derived.Test.YtaknladkodibaaaGreatDoorMgQ35315
import Derived.Test.YtaknladkodibaaaGreatDoorMgQ35308
import Derived.Laws.BitsAllLaws
import Derived.Deep.RegionLaw
import Derived.Test.YtaknladkodibaaaGreatDoorMgQ35307
import Derived.Test.YtaknladkodibaaaGreatDoorRows
import Derived.Deep.DeepCutAuto
import Derived.IntWalk
import Derived.Outline
namespace Go.Proofs.YtaknladkodibaaaGreatDoor
open Go.RowKit BitsP

theorem Sym.one_val {zs : List Int} {s n v k s' n' v' k' : Nat} (h : Sym zs s n v k) (h' : Sym zs s' n' v' k') (e : s = s') : n = n' ∧ v = v' := by
  subst e
  have h1 := h.len.symm.trans h'.len
  have h2 := h.val.symm.trans h'.val
  injection h1 with h1
  injection h2 with h2
  omega
end Go.Proofs.YtaknladkodibaaaGreatDoor
/- slices.Repeat of one number, as often as one may ask for. -/
namespace Go.Proofs.YtaknladkodibaaaGreatDoor
open Go.RowKit

end Go.Proofs.YtaknladkodibaaaGreatDoor
/- Layer 10: how long a match is: the program's, the reference's. -/
namespace Go.Proofs.YtaknladkodibaaaGreatDoor
open Go.RowKit

theorem runM_step {bs : List UInt8} {a d k n : Nat} {x : UInt8} (h1 : bs[a + n]? = some x) (h2 : bs[a + n - d]? = some x) : runM bs a d (k + 1) n = runM bs a d k (n + 1) := by
  rw [runM, if_pos]
  rw [List.getD, List.getD, h1, h2]
theorem runM_stop {bs : List UInt8} {a d k n : Nat} {x y : UInt8} (h1 : bs[a + n]? = some x) (h2 : bs[a + n - d]? = some y) (h : x ≠ y) : runM bs a d (k + 1) n = n := by
  rw [runM, if_neg]
  rw [List.getD, List.getD, h1, h2]
  exact h
set_option maxRecDepth 100000 in
set_option maxHeartbeats 2000000 in
theorem mlen_any (A : Option Addr) (l c : Nat) (bs : List UInt8) (B : Nat) (a d : Int) (w : World) (hl : bs.length = l) (hm : l ≤ 1099511627776) (hb : Bytes w B A bs) :
    Calls Tryz.prog 243 #[.slice A l c, .int .i64 a, .int .i64 d] w fun e w' => e = .returned (.int .i64 (lenI bs a d : Nat)) ∧ ∃ m, w' = w.drewN m := by
  have HL := Lib.hid hl
  by_cases h : a < 0
  · have HF : Hid (lenI bs a d = 0) := lenI_no (by omega)
    have hd : decide (a < 0) = true := decide_eq_true h
    clear h hb HL
    go_enter Tryz.func243, Tryz.ntmps243
    go_wp2
    go_ret
    exact ⟨by rw [HF.out]; rfl, 0, rfl⟩
  have g20 := h; clear h
  by_cases h : (l : Int) ≤ a
  · have HF : Hid (lenI bs a d = 0) := lenI_no (by omega)
    have hd : decide ((l : Int) ≤ a) = true := decide_eq_true h
    have hd0 : decide (a < 0) = false := decide_eq_false (by omega)
    clear h hb HL
    go_enter Tryz.func243, Tryz.ntmps243
    go_wp2
    go_ret
    exact ⟨by rw [HF.out]; rfl, 0, rfl⟩
  have g21 := h; clear h
  by_cases h : d < 1
  · have HF : Hid (lenI bs a d = 0) := lenI_no (by omega)
    have hd : decide (d < 1) = true := decide_eq_true h
    have hd0 : decide (a < 0) = false := decide_eq_false (by omega)
    have hd1 : decide ((l : Int) ≤ a) = false := decide_eq_false (by omega)
    clear h hb HL
    go_enter Tryz.func243, Tryz.ntmps243
    go_wp2
    go_ret
    exact ⟨by rw [HF.out]; rfl, 0, rfl⟩
  have g22 := h; clear h
  by_cases h : 32768 < d
  · have HF : Hid (lenI bs a d = 0) := lenI_no (by omega)
    have hd : decide (32768 < d) = true := decide_eq_true h
    have hd0 : decide (a < 0) = false := decide_eq_false (by omega)
    have hd1 : decide ((l : Int) ≤ a) = false := decide_eq_false (by omega)
    have hd2 : decide (d < 1) = false := decide_eq_false (by omega)
    clear h hb HL
    go_enter Tryz.func243, Tryz.ntmps243
    go_wp2
    go_ret
    exact ⟨by rw [HF.out]; rfl, 0, rfl⟩
  have g23 := h; clear h
  by_cases h : a < d
  · have HF : Hid (lenI bs a d = 0) := lenI_no (by omega)
    have hd : decide (a < d) = true := decide_eq_true h
    have hd0 : decide (a < 0) = false := decide_eq_false (by omega)
    have hd1 : decide ((l : Int) ≤ a) = false := decide_eq_false (by omega)
    have hd2 : decide (d < 1) = false := decide_eq_false (by omega)
    have hd3 : decide (32768 < d) = false := decide_eq_false (by omega)
    clear h hb HL
    go_enter Tryz.func243, Tryz.ntmps243
    go_wp2
    go_ret
    exact ⟨by rw [HF.out]; rfl, 0, rfl⟩
  have g24 := h; clear h
  obtain ⟨n, rfl⟩ := Int.eq_ofNat_of_zero_le (show 0 ≤ a by omega)
  obtain ⟨k, rfl⟩ := Int.eq_ofNat_of_zero_le (show 0 ≤ d by omega)
  have q1 : n < l := by omega
  have q2 : 1 ≤ k := by omega
  have q3 : k ≤ 32768 := by omega
  have q4 : k ≤ n := by omega
  have HR0 : Hid (lenI bs (n : Int) (k : Int) = runM bs n k (capM bs n) 0) := lenI_at bs (by omega) q2 q3 q4
  have HCAP : Hid (capM bs n = min 258 (l - n)) := by show _ = _; rw [capM, hl]
  have hd0 : decide ((n : Int) < 0) = false := decide_eq_false (by omega)
  have hd1 : decide ((l : Int) ≤ (n : Int)) = false := decide_eq_false (by omega)
  have hd2 : decide ((k : Int) < 1) = false := decide_eq_false (by omega)
  have hd3 : decide ((32768 : Int) < (k : Int)) = false := decide_eq_false (by omega)
  have hd4 : decide ((n : Int) < (k : Int)) = false := decide_eq_false (by omega)
  obtain ⟨b, o, rfl, hbB, hc⟩ := hb (by rw [byteCells_length]; omega)
  have HC := Lib.hid hc
  clear hc g20 g21 g22 g23 g24 hb hl
  go_enter Tryz.func243, Tryz.ntmps243
  go_wp2
  go_loopg [7] (capM bs n) (fun gk i wr => ∃ j m : Nat, j + gk = capM bs n ∧ i = .int .i64 j ∧ runM bs n k gk j = lenI bs (n : Int) (k : Int) ∧ wr = w.drewN m)
  case atStart => exact ⟨0, 0, by omega, rfl, HR0.out.symm, rfl⟩
  case round =>
    obtain ⟨j, m, hj, rfl, hrun, rfl⟩ := hrel
    have HRUN := Lib.hid hrun
    clear hrun
    by_cases h : gk = 0
    · subst h
      have hjc : j = lenI bs (n : Int) (k : Int) := by have := HRUN.out; rw [runM] at this; exact this
      have hcp := HCAP.out
      have HJ := Lib.hid hjc
      clear hjc
      by_cases h258 : j < 258
      · have t0 : decide ((j : Int) < 258) = true := decide_eq_true (by omega)
        have t1 : decide ((n : Int) + (j : Int) < (l : Int)) = false := decide_eq_false (by omega)
        go_upto_region 27 with (fail)
        go_region
        go_wp2
        go_ret
        exact ⟨by rw [← HJ.out]; rfl, m + 1, rfl⟩
      · have t0 : decide ((j : Int) < 258) = false := decide_eq_false (by omega)
        go_upto_region 27 with (fail)
        go_region
        go_wp2
        go_ret
        exact ⟨by rw [← HJ.out]; rfl, m + 1, rfl⟩
    · have hcp := HCAP.out
      have t0 : decide ((j : Int) < 258) = true := decide_eq_true (by omega)
      have t1 : decide ((n : Int) + (j : Int) < (l : Int)) = true := decide_eq_true (by omega)
      obtain ⟨x, hx⟩ : ∃ x, bs[n + j]? = some x := ⟨_, List.getElem?_eq_getElem (by have := HL.out; omega)⟩
      obtain ⟨y, hy⟩ : ∃ y, bs[n + j - k]? = some y := ⟨_, List.getElem?_eq_getElem (by have := HL.out; omega)⟩
      have c0 : w.cell? ⟨b, o + (n + j), none⟩ = some (.int .u8 (x.toNat : Int)) := HC.out _ _ (byteCells_get hx)
      have c1 : w.cell? ⟨b, o + (n + j - k), none⟩ = some (.int .u8 (y.toNat : Int)) := HC.out _ _ (byteCells_get hy)
      obtain ⟨p, rfl⟩ : ∃ p, gk = p + 1 := ⟨gk - 1, by omega⟩
      by_cases hxy : x = y
      · have HS : Hid (runM bs n k p (j + 1) = lenI bs (n : Int) (k : Int)) := by show _ = _; rw [← HRUN.out, runM_step hx (by rw [hy, hxy])]
        have t2 : (x.toNat == y.toNat) = true := by simp [hxy]
        have t3 : ((x.toNat : Int) == (y.toNat : Int)) = true := by simp [hxy]
        have t4 : ((x.toNat : Int) != (y.toNat : Int)) = false := by simp [hxy]
        have tw : IntKind.i64.wrap ((n : Int) + (j : Int)) = (n : Int) + (j : Int) := IntWalk.i64_in _ (by omega)
        have tw2 : IntKind.i64.wrap ((n : Int) + (j : Int) - (k : Int)) = (n : Int) + (j : Int) - (k : Int) := IntWalk.i64_in _ (by omega)
        have tn : ((n : Int) + (j : Int) - (k : Int)).toNat = n + j - k := by omega
        have tn0 : (0 : Int) ≤ (n : Int) + (j : Int) - (k : Int) := by omega
        have tn1 : (n : Int) + (j : Int) - (k : Int) < (l : Int) := by omega
        have tn2 : (n : Int) + (j : Int) < (l : Int) := by omega
        clear hx hy hxy h hcp
        go_upto_region 27 with (fail)
        go_region
        go_wp2
        go_roundg p
        case measure => omega
        case rel => exact ⟨j + 1, m + 1, by omega, by go_num, HS.out, rfl⟩
      · have HS : Hid (j = lenI bs (n : Int) (k : Int)) := by show _ = _; rw [← HRUN.out, runM_stop hx hy hxy]
        have hne : ¬ (x.toNat : Int) = (y.toNat : Int) := fun e => hxy (UInt8.toNat_inj.1 (by omega))
        have t3 : ((x.toNat : Int) == (y.toNat : Int)) = false := by simpa using hne
        have t4 : ((x.toNat : Int) != (y.toNat : Int)) = true := by simpa using hne
        have tw : IntKind.i64.wrap ((n : Int) + (j : Int)) = (n : Int) + (j : Int) := IntWalk.i64_in _ (by omega)
        have tw2 : IntKind.i64.wrap ((n : Int) + (j : Int) - (k : Int)) = (n : Int) + (j : Int) - (k : Int) := IntWalk.i64_in _ (by omega)
        have tn : ((n : Int) + (j : Int) - (k : Int)).toNat = n + j - k := by omega
        have tn0 : (0 : Int) ≤ (n : Int) + (j : Int) - (k : Int) := by omega
        have tn1 : (n : Int) + (j : Int) - (k : Int) < (l : Int) := by omega
        have tn2 : (n : Int) + (j : Int) < (l : Int) := by omega
        clear hx hy hxy h hne hcp
        go_upto_region 27 with (fail)
        go_region
        go_wp2
        go_ret
        exact ⟨by rw [← HS.out]; rfl, m + 1, rfl⟩
set_option maxRecDepth 100000 in
set_option maxHeartbeats 2000000 in
theorem rlenM_any (A : Option Addr) (l c : Nat) (bs : List UInt8) (B : Nat) (a d : Int) (w : World) (hl : bs.length = l) (hm : l ≤ 1099511627776) (hb : Bytes w B A bs) :
    Calls Tryz.prog 169 #[.slice A l c, .int .i64 a, .int .i64 d] w fun e w' => e = .returned (.int .i64 (lenI bs a d : Nat)) ∧ ∃ m, w' = w.drewN m := by
  have HL := Lib.hid hl
  by_cases h : a < 0
  · have HF : Hid (lenI bs a d = 0) := lenI_no (by omega)
    have hd : decide (a < 0) = true := decide_eq_true h
    clear h hb HL
    go_enter Tryz.func169, Tryz.ntmps169
    go_wp2
    go_ret
    exact ⟨by rw [HF.out]; rfl, 0, rfl⟩
  have g20 := h; clear h
  by_cases h : (l : Int) ≤ a
  · have HF : Hid (lenI bs a d = 0) := lenI_no (by omega)
    have hd : decide ((l : Int) ≤ a) = true := decide_eq_true h
    have hd0 : decide (a < 0) = false := decide_eq_false (by omega)
    clear h hb HL
    go_enter Tryz.func169, Tryz.ntmps169
    go_wp2
    go_ret
    exact ⟨by rw [HF.out]; rfl, 0, rfl⟩
  have g21 := h; clear h
  by_cases h : d < 1
  · have HF : Hid (lenI bs a d = 0) := lenI_no (by omega)
    have hd : decide (d < 1) = true := decide_eq_true h
    have hd0 : decide (a < 0) = false := decide_eq_false (by omega)
    have hd1 : decide ((l : Int) ≤ a) = false := decide_eq_false (by omega)
    clear h hb HL
    go_enter Tryz.func169, Tryz.ntmps169
    go_wp2
    go_ret
    exact ⟨by rw [HF.out]; rfl, 0, rfl⟩
  have g22 := h; clear h
  by_cases h : 32768 < d
  · have HF : Hid (lenI bs a d = 0) := lenI_no (by omega)
    have hd : decide (32768 < d) = true := decide_eq_true h
    have hd0 : decide (a < 0) = false := decide_eq_false (by omega)
    have hd1 : decide ((l : Int) ≤ a) = false := decide_eq_false (by omega)
    have hd2 : decide (d < 1) = false := decide_eq_false (by omega)
    clear h hb HL
    go_enter Tryz.func169, Tryz.ntmps169
    go_wp2
    go_ret
    exact ⟨by rw [HF.out]; rfl, 0, rfl⟩
  have g23 := h; clear h
  by_cases h : a < d
  · have HF : Hid (lenI bs a d = 0) := lenI_no (by omega)
    have hd : decide (a < d) = true := decide_eq_true h
    have hd0 : decide (a < 0) = false := decide_eq_false (by omega)
    have hd1 : decide ((l : Int) ≤ a) = false := decide_eq_false (by omega)
    have hd2 : decide (d < 1) = false := decide_eq_false (by omega)
    have hd3 : decide (32768 < d) = false := decide_eq_false (by omega)
    clear h hb HL
    go_enter Tryz.func169, Tryz.ntmps169
    go_wp2
    go_ret
    exact ⟨by rw [HF.out]; rfl, 0, rfl⟩
  have g24 := h; clear h
  obtain ⟨n, rfl⟩ := Int.eq_ofNat_of_zero_le (show 0 ≤ a by omega)
  obtain ⟨k, rfl⟩ := Int.eq_ofNat_of_zero_le (show 0 ≤ d by omega)
  have q1 : n < l := by omega
  have q2 : 1 ≤ k := by omega
  have q3 : k ≤ 32768 := by omega
  have q4 : k ≤ n := by omega
  have HR0 : Hid (lenI bs (n : Int) (k : Int) = runM bs n k (capM bs n) 0) := lenI_at bs (by omega) q2 q3 q4
  have HCAP : Hid (capM bs n = min 258 (l - n)) := by show _ = _; rw [capM, hl]
  have hd0 : decide ((n : Int) < 0) = false := decide_eq_false (by omega)
  have hd1 : decide ((l : Int) ≤ (n : Int)) = false := decide_eq_false (by omega)
  have hd2 : decide ((k : Int) < 1) = false := decide_eq_false (by omega)
  have hd3 : decide ((32768 : Int) < (k : Int)) = false := decide_eq_false (by omega)
  have hd4 : decide ((n : Int) < (k : Int)) = false := decide_eq_false (by omega)
  obtain ⟨b, o, rfl, hbB, hc⟩ := hb (by rw [byteCells_length]; omega)
  have HC := Lib.hid hc
  clear hc g20 g21 g22 g23 g24 hb hl
  go_enter Tryz.func169, Tryz.ntmps169
  go_wp2
  go_loopg [7, 8] (capM bs n) (fun gk i i2 wr => ∃ j m : Nat, j + gk = capM bs n ∧ i = .int .i64 j ∧ i2 = .int .i64 (n + j : Nat) ∧ runM bs n k gk j = lenI bs (n : Int) (k : Int) ∧ wr = w.drewN m)
  case atStart => exact ⟨0, 0, by omega, rfl, rfl, HR0.out.symm, rfl⟩
  case round =>
    obtain ⟨j, m, hj, rfl, rfl, hrun, rfl⟩ := hrel
    have HRUN := Lib.hid hrun
    clear hrun
    by_cases h : gk = 0
    · subst h
      have hjc : j = lenI bs (n : Int) (k : Int) := by have := HRUN.out; rw [runM] at this; exact this
      have hcp := HCAP.out
      have HJ := Lib.hid hjc
      clear hjc
      by_cases h258 : n + j < l
      · have t0 : decide ((j : Int) < 258) = false := decide_eq_false (by omega)
        have t1 : decide ((n : Int) + (j : Int) < (l : Int)) = true := decide_eq_true (by omega)
        go_wp2
        go_ret
        exact ⟨by rw [← HJ.out]; rfl, _, rfl⟩
      · have t1 : decide ((n : Int) + (j : Int) < (l : Int)) = false := decide_eq_false (by omega)
        go_wp2
        go_ret
        exact ⟨by rw [← HJ.out]; rfl, _, rfl⟩
    · have hcp := HCAP.out
      have t0 : decide ((j : Int) < 258) = true := decide_eq_true (by omega)
      have t1 : decide ((n : Int) + (j : Int) < (l : Int)) = true := decide_eq_true (by omega)
      obtain ⟨x, hx⟩ : ∃ x, bs[n + j]? = some x := ⟨_, List.getElem?_eq_getElem (by have := HL.out; omega)⟩
      obtain ⟨y, hy⟩ : ∃ y, bs[n + j - k]? = some y := ⟨_, List.getElem?_eq_getElem (by have := HL.out; omega)⟩
      have c0 : w.cell? ⟨b, o + (n + j), none⟩ = some (.int .u8 (x.toNat : Int)) := HC.out _ _ (byteCells_get hx)
      have c1 : w.cell? ⟨b, o + (n + j - k), none⟩ = some (.int .u8 (y.toNat : Int)) := HC.out _ _ (byteCells_get hy)
      obtain ⟨p, rfl⟩ : ∃ p, gk = p + 1 := ⟨gk - 1, by omega⟩
      by_cases hxy : x = y
      · have HS : Hid (runM bs n k p (j + 1) = lenI bs (n : Int) (k : Int)) := by show _ = _; rw [← HRUN.out, runM_step hx (by rw [hy, hxy])]
        have t2 : (x.toNat == y.toNat) = true := by simp [hxy]
        have t3 : ((x.toNat : Int) == (y.toNat : Int)) = true := by simp [hxy]
        have t4 : ((x.toNat : Int) != (y.toNat : Int)) = false := by simp [hxy]
        have tw : IntKind.i64.wrap ((n : Int) + (j : Int)) = (n : Int) + (j : Int) := IntWalk.i64_in _ (by omega)
        have tw2 : IntKind.i64.wrap ((n : Int) + (j : Int) - (k : Int)) = (n : Int) + (j : Int) - (k : Int) := IntWalk.i64_in _ (by omega)
        have tn : ((n : Int) + (j : Int) - (k : Int)).toNat = n + j - k := by omega
        have tn0 : (0 : Int) ≤ (n : Int) + (j : Int) - (k : Int) := by omega
        have tn1 : (n : Int) + (j : Int) - (k : Int) < (l : Int) := by omega
        have tn2 : (n : Int) + (j : Int) < (l : Int) := by omega
        clear hx hy hxy h hcp
        go_upto_region 11 with (fail)
        go_region
        go_wp2
        go_roundg p
        case measure => omega
        case rel => exact ⟨j + 1, m + 1, by omega, by go_num, by go_num, HS.out, rfl⟩
      · have HS : Hid (j = lenI bs (n : Int) (k : Int)) := by show _ = _; rw [← HRUN.out, runM_stop hx hy hxy]
        have hne : ¬ (x.toNat : Int) = (y.toNat : Int) := fun e => hxy (UInt8.toNat_inj.1 (by omega))
        have t3 : ((x.toNat : Int) == (y.toNat : Int)) = false := by simpa using hne
        have t4 : ((x.toNat : Int) != (y.toNat : Int)) = true := by simpa using hne
        have tw : IntKind.i64.wrap ((n : Int) + (j : Int)) = (n : Int) + (j : Int) := IntWalk.i64_in _ (by omega)
        have tw2 : IntKind.i64.wrap ((n : Int) + (j : Int) - (k : Int)) = (n : Int) + (j : Int) - (k : Int) := IntWalk.i64_in _ (by omega)
        have tn : ((n : Int) + (j : Int) - (k : Int)).toNat = n + j - k := by omega
        have tn0 : (0 : Int) ≤ (n : Int) + (j : Int) - (k : Int) := by omega
        have tn1 : (n : Int) + (j : Int) - (k : Int) < (l : Int) := by omega
        have tn2 : (n : Int) + (j : Int) < (l : Int) := by omega
        clear hx hy hxy h hne hcp
        go_upto_region 11 with (fail)
        go_region
        go_wp2
        go_ret
        exact ⟨by rw [← HS.out]; rfl, m + 1, rfl⟩
end Go.Proofs.YtaknladkodibaaaGreatDoor
/- Layer 10's Best of the reference: the best match. -/
namespace Go.Proofs.YtaknladkodibaaaGreatDoor
open Go.RowKit

theorem three_len' {bs : List UInt8} {a d : Nat} (h1 : a + 3 ≤ bs.length) (h2 : 1 ≤ d) (h3 : d ≤ a) (h4 : d ≤ 32768) : three bs a d = decide (3 ≤ lenI bs (a : Int) (d : Int)) := by
  rw [lenI_at bs (by omega) h2 h4 h3]
  rw [Bool.eq_iff_iff, decide_eq_true_eq]
  constructor
  · intro h5
    unfold three at h5
    rw [Bool.and_eq_true, Bool.and_eq_true, beq_iff_eq, beq_iff_eq, beq_iff_eq] at h5
    refine runM_many bs a d _ 0 3 (by unfold capM; omega) fun i _ hi => ?_
    rcases (show i = 0 ∨ i = 1 ∨ i = 2 by omega) with rfl | rfl | rfl
    · exact h5.1.1.symm
    · rw [show a + 1 - d = a - d + 1 by omega]; exact h5.1.2.symm
    · rw [show a + 2 - d = a - d + 2 by omega]; exact h5.2.symm
  · intro h
    have e0 := runM_same bs a d (capM bs a) 0 0 (by omega) (by omega)
    have e1 := runM_same bs a d (capM bs a) 0 1 (by omega) (by omega)
    have e2 := runM_same bs a d (capM bs a) 0 2 (by omega) (by omega)
    rw [show a + 1 - d = a - d + 1 by omega] at e1
    rw [show a + 2 - d = a - d + 2 by omega] at e2
    simp only [Nat.add_zero] at e0
    unfold three
    rw [e0, e1, e2]
    simp
theorem lenI_short' {bs : List UInt8} {a d : Int} (h : (bs.length : Int) < a + 3) : lenI bs a d < 3 := by
  unfold lenI
  split
  · have := runM_le bs a.toNat d.toNat (capM bs a.toNat) 0
    unfold capM at this ⊢
    omega
  · omega
/-- The candidates up to a distance. -/
def cN (bs : List UInt8) (an e : Nat) : List Nat := if an + 3 ≤ bs.length then candN bs an e else []
theorem cN_step {bs : List UInt8} {an e : Nat} (h3 : e + 1 ≤ an) (h4 : e + 1 ≤ 32768) : cN bs an (e + 1) = if 3 ≤ lenI bs (an : Int) ((e + 1 : Nat) : Int) then cN bs an e ++ [e + 1] else cN bs an e := by
  unfold cN
  by_cases h : an + 3 ≤ bs.length
  · rw [if_pos h, if_pos h]
    have ht := three_len' h (by omega) h3 h4
    split
    · rename_i h5
      rw [decide_eq_true h5] at ht
      exact candN_yes ht
    · rename_i h5
      rw [decide_eq_false h5] at ht
      exact candN_no ht
  · rw [if_neg h, if_neg h, if_neg (by have := lenI_short' (bs := bs) (a := (an : Int)) (d := ((e + 1 : Nat) : Int)) (by omega); omega)]
theorem cN_all (bs : List UInt8) (an : Nat) : cands bs (an : Int) = cN bs an (min an 32768) := by
  unfold cands cN
  by_cases h : an + 3 ≤ bs.length
  · rw [if_pos (by omega), if_pos h, Int.toNat_natCast]
  · rw [if_neg (by omega), if_neg h]
theorem cN_pre (bs : List UInt8) (an : Nat) {e : Nat} (h : e ≤ min an 32768) : cN bs an e <+: cands bs (an : Int) := by
  rw [cN_all]
  unfold cN
  split
  · exact candN_pre bs an h
  · exact List.prefix_refl _
theorem best_end {bs : List UInt8} {an e n d : Nat} {depth : Int} (hf : foldM bs (an : Int) (cN bs an e) = (n, d)) (hee : e ≤ min an 32768) (hd : (((cN bs an e).length : Nat) : Int) ≤ depth ∨ (cN bs an e).length = 0)
    (he : e = min an 32768 ∨ depth - (((cN bs an e).length : Nat) : Int) ≤ 0) : bestM bs (an : Int) depth = (n, d) := by
  by_cases h0 : depth ≤ 0
  · have hxs : cN bs an e = [] := List.eq_nil_of_length_eq_zero (by omega)
    rw [bestM, show depth.toNat = 0 by omega, List.take_zero, ← hf, hxs]
  · rw [← hf]
    refine (bestM_end (cN_pre bs an hee) (by omega) ?_).symm
    rcases he with h | h
    · left; rw [h, ← cN_all]
    · right; left; omega
set_option maxRecDepth 100000 in
set_option maxHeartbeats 2000000 in
theorem rbest_any (A : Option Addr) (l c : Nat) (bs : List UInt8) (a depth : Int) (B : Nat) (w : World) (hl : bs.length = l) (hm : l ≤ 1099511627776) (hb : Bytes w B A bs) (hdp : -9223372036854775808 ≤ depth ∧ depth ≤ 9223372036854775807) :
    Calls Tryz.prog 121 #[.slice A l c, .int .i64 a, .int .i64 depth] w fun e w' => e = .returned (.tuple #[.int .i64 ((bestM bs a depth).1 : Nat), .int .i64 ((bestM bs a depth).2 : Nat)]) ∧ ∃ m, w' = w.drewN m := by
  by_cases h0 : a < 0
  · have HR : Hid (bestM bs a depth = (0, 0)) := by show _ = _; rw [bestM, cands, if_neg (by omega), List.take_nil]; rfl
    have t0 : decide (a < 0) = true := decide_eq_true h0
    clear h0 hb hl
    go_enter Tryz.func121, Tryz.ntmps121
    go_wp2
    go_ret2
    exact ⟨by rw [HR.out]; rfl, 0, rfl⟩
  have t0 : decide (a < 0) = false := decide_eq_false h0
  by_cases h1 : (l : Int) ≤ a
  · have HR : Hid (bestM bs a depth = (0, 0)) := by show _ = _; rw [bestM, cands, if_neg (by omega), List.take_nil]; rfl
    have t1 : decide ((l : Int) ≤ a) = true := decide_eq_true h1
    clear h0 h1 hb hl
    go_enter Tryz.func121, Tryz.ntmps121
    go_wp2
    go_ret2
    exact ⟨by rw [HR.out]; rfl, 0, rfl⟩
  obtain ⟨an, rfl⟩ := Int.eq_ofNat_of_zero_le (show 0 ≤ a by omega)
  have t1 : decide ((l : Int) ≤ (an : Int)) = false := decide_eq_false h1
  have t1' : decide (l ≤ an) = false := decide_eq_false (by omega)
  have hal : an < l := by omega
  have HBY := Lib.hid hb
  have HL := Lib.hid hl
  obtain ⟨M, hM⟩ : ∃ M, min an 32768 = M := ⟨_, rfl⟩
  have HM : Hid (M ≤ an ∧ M ≤ 32768 ∧ (M < an → M = 32768)) := by show _ ∧ _ ∧ _; omega
  have HMM := Lib.hid hM
  have HC0 : Hid (cN bs an 0 = []) := by
    show _ = _
    unfold cN
    split <;> rfl
  clear hb hl h0 h1 hM
  go_enter Tryz.func121, Tryz.ntmps121
  go_wp2
  go_loopg [2, 8, 9, 10] M (fun gk s2 s8 s9 s10 wr => ∃ (e n d k m : Nat) (dep : Int), e + gk = M ∧ s2 = .int .i64 dep ∧ s8 = .int .i64 n ∧ s9 = .int .i64 d ∧ s10 = .int .i64 ((e + 1 : Nat) : Int) ∧ wr = w.drewN m ∧
    (k = (cN bs an e).length ∧ foldM bs (an : Int) (cN bs an e) = (n, d)) ∧ dep = depth - (k : Int) ∧ ((k : Int) ≤ depth ∨ k = 0))
  case atStart => exact ⟨0, 0, 0, 0, 0, depth, by omega, rfl, rfl, rfl, rfl, rfl, ⟨by rw [HC0.out]; rfl, by rw [HC0.out]; rfl⟩, by simp, .inr rfl⟩
  case round =>
    obtain ⟨e, n, d, k, m, dep, hem, rfl, rfl, rfl, rfl, rfl, hk, hdep, hkd⟩ := hrel
    have HEND : Hid (gk = 0 ∨ dep ≤ 0 → bestM bs (an : Int) depth = (n, d)) := fun he =>
      best_end hk.2 (by rw [HMM.out]; omega) (by rw [← hk.1]; exact hkd) (by rw [← hk.1, ← hdep, HMM.out]; exact he.imp (fun h => by omega) id)
    have hmm := HM.out
    have HK := Lib.hid hk
    have HKD := Lib.hid hkd
    by_cases hg : gk = 0
    · have HE := Lib.hid (HEND.out (.inl hg))
      obtain rfl : e = M := by omega
      clear hk hkd hdep
      by_cases hea : e < an
      · have t2 : decide ((e : Int) + 1 ≤ (an : Int)) = true := decide_eq_true (by omega)
        have t3 : decide ((e : Int) + 1 ≤ 32768) = false := decide_eq_false (by omega)
        go_wp2
        go_ret2
        exact ⟨by rw [HE.out]; rfl, m, rfl⟩
      · have t2 : decide ((e : Int) + 1 ≤ (an : Int)) = false := decide_eq_false (by omega)
        go_wp2
        go_ret2
        exact ⟨by rw [HE.out]; rfl, m, rfl⟩
    · have t2 : decide ((e : Int) + 1 ≤ (an : Int)) = true := decide_eq_true (by omega)
      have t3 : decide ((e : Int) + 1 ≤ 32768) = true := decide_eq_true (by omega)
      by_cases hd0 : dep ≤ 0
      · have HE := Lib.hid (HEND.out (.inr hd0))
        have t4 : decide (0 < dep) = false := decide_eq_false (by omega)
        clear hk hkd hdep
        go_wp2
        go_ret2
        exact ⟨by rw [HE.out]; rfl, m, rfl⟩
      · have t4 : decide (0 < dep) = true := decide_eq_true (by omega)
        obtain ⟨ln, hln⟩ : ∃ ln, lenI bs (an : Int) ((e + 1 : Nat) : Int) = ln := ⟨_, rfl⟩
        have HST := Lib.hid (cN_step (bs := bs) (an := an) (e := e) (by omega) (by omega))
        rw [hln] at HST
        have HLN := Lib.hid (rlenM_any A l c bs B (an : Int) ((e + 1 : Nat) : Int) (w.drewN m) HL.out (by omega) HBY.out)
        rw [hln] at HLN
        have hln2 : ln ≤ 258 := by rw [← hln]; exact lenI_le _ _ _
        have hfx : stepM bs (an : Int) (n, d) (e + 1) = if n < ln then (ln, e + 1) else (n, d) := by rw [stepM, hln]
        have HDP : Hid (¬ dep ≤ 0 ∧ dep = depth - (k : Int)) := ⟨hd0, hdep⟩
        have hdle : dep ≤ 9223372036854775807 := by omega
        clear hk hkd hdep hln
        by_cases h3 : ln < 3
        · have t5 : decide ((ln : Int) < 3) = true := decide_eq_true (by omega)
          have HCE : Hid (cN bs an (e + 1) = cN bs an e) := by show _ = _; rw [HST.out, if_neg (by omega)]
          clear hfx
          go_wp2_with (go_at_call 169; refine HLN.out.mono ?_; rintro e w' ⟨rfl, m2, rfl⟩)
          go_roundg (gk - 1)
          case measure => omega
          case rel => exact ⟨e + 1, n, d, k, m + m2, dep, by omega, rfl, rfl, rfl, by go_num, by simp, by rw [HCE.out]; exact HK.out, HDP.out.2, HKD.out⟩
        · have t5 : decide ((ln : Int) < 3) = false := decide_eq_false (by omega)
          have HCE : Hid (cN bs an (e + 1) = cN bs an e ++ [e + 1]) := by show _ = _; rw [HST.out, if_pos (by omega)]
          have HCL : Hid (k + 1 = (cN bs an (e + 1)).length) := by show _ = _; rw [HCE.out, List.length_append, ← HK.out.1]; rfl
          have HFF : Hid (foldM bs (an : Int) (cN bs an (e + 1)) = if n < ln then (ln, e + 1) else (n, d)) := by show _ = _; rw [HCE.out, foldM_snoc, HK.out.2, hfx]
          have hwd : IntKind.i64.wrap (dep - 1) = dep - 1 := IntWalk.i64_in _ (by omega)
          clear hfx
          by_cases hgt : n < ln
          · have t6 : decide ((n : Int) < (ln : Int)) = true := decide_eq_true (by omega)
            go_wp2_with (go_at_call 169; refine HLN.out.mono ?_; rintro e w' ⟨rfl, m2, rfl⟩)
            go_roundg (gk - 1)
            case measure => omega
            case rel => exact ⟨e + 1, ln, e + 1, k + 1, m + m2, dep - 1, by omega, rfl, by go_num, by go_num, by go_num, by simp, ⟨HCL.out, by rw [HFF.out, if_pos hgt]⟩, by have := HDP.out; omega, by have := HKD.out; have := HDP.out; omega⟩
          · have t6 : decide ((n : Int) < (ln : Int)) = false := decide_eq_false (by omega)
            go_wp2_with (go_at_call 169; refine HLN.out.mono ?_; rintro e w' ⟨rfl, m2, rfl⟩)
            go_roundg (gk - 1)
            case measure => omega
            case rel => exact ⟨e + 1, n, d, k + 1, m + m2, dep - 1, by omega, rfl, by go_num, by go_num, by go_num, by simp, ⟨HCL.out, by rw [HFF.out, if_neg hgt]⟩, by have := HDP.out; omega, by have := HKD.out; have := HDP.out; omega⟩
end Go.Proofs.YtaknladkodibaaaGreatDoor
