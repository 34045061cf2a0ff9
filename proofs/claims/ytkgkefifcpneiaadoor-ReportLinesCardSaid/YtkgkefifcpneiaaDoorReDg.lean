/- Layer 33: the reference's digits. -/
import Derived.Test.YtkgkefifcpneiaaDoorReCt
namespace Go.Proofs.YtkgkefifcpneiaaDoor
open Go.RowKit

theorem dec_small {u : Nat} (h : u < 10) : Lib.decDigits u = [UInt8.ofNat (48 + u)] := by rw [Lib.decDigits, dif_pos h]
theorem dec_big {u : Nat} (h : ¬ u < 10) : Lib.decDigits u = Lib.decDigits (u / 10) ++ Lib.decDigits (u % 10) := by
  rw [Lib.decDigits, dif_neg h, dec_small (Nat.mod_lt _ (by omega))]
def itoaS (n : Int) : ByteArray := ⟨(Lib.itoa n).toArray⟩
theorem itoaS_size {n : Int} (h0 : -9223372036854775808 ≤ n) (h1 : n ≤ 9223372036854775807) : (itoaS n).size ≤ 20 := by
  have := itoa33_len h0 h1
  exact this
theorem itoaS_small {n : Int} (h0 : 0 ≤ n) (h1 : n < 10) : itoaS n = ⟨#[UInt8.ofNat (48 + n.toNat)]⟩ := by
  unfold itoaS Lib.itoa
  rw [if_neg (by omega), dec_small (by omega)]
theorem itoaS_big {n : Int} (h : 10 ≤ n) : itoaS n = itoaS (n / 10) ++ itoaS (n % 10) := by
  unfold itoaS Lib.itoa
  rw [if_neg (by omega), if_neg (by omega), if_neg (by omega), dec_big (by omega)]
  rw [show n.toNat / 10 = (n / 10).toNat by omega, show n.toNat % 10 = (n % 10).toNat by omega]
  apply ByteArray.ext
  rw [ByteArray.data_append]
  simp
theorem itoaS_neg1 {n : Int} (h : n < 0) : itoaS n = ⟨#[45]⟩ ++ itoaS (-n) := by
  unfold itoaS Lib.itoa
  rw [if_pos h, if_neg (by omega), show n.natAbs = (-n).toNat by omega]
  apply ByteArray.ext
  rw [ByteArray.data_append]
  simp
theorem itoaS_neg {n : Int} (h : n ≤ -10) : itoaS n = itoaS (-((-n) / 10)) ++ itoaS ((-n) % 10) := by
  rw [itoaS_neg1 (by omega), itoaS_big (by omega), itoaS_neg1 (n := -((-n) / 10)) (by omega), Int.neg_neg]
  apply ByteArray.ext
  simp only [ByteArray.data_append, Array.append_assoc]
theorem dig33_conv (m : Nat) (h : m < 10) (w : World) : (convert 31 9 (.slice (some ⟨w.heap.size, 0, none⟩) 1 1)).run Tryd.prog (w.alloc (.cells #[.int .u8 (48 + (m : Int))] 5)) = .ok (.string ⟨#[UInt8.ofNat (48 + m)]⟩) (w.alloc (.cells #[.int .u8 (48 + (m : Int))] 5)) := by
  have hb : Bytes (w.alloc (.cells #[.int .u8 (48 + (m : Int))] 5)) (w.heap.size + 1) (some ⟨w.heap.size, 0, none⟩) [UInt8.ofNat (48 + m)] := fun _ => ⟨w.heap.size, 0, rfl, Nat.lt_succ_self _, fun j u hu => by
    rw [Nat.zero_add, cell_of_row _ _ j _ _ _ (heap_alloc_new w _)]
    match j, hu with
    | 0, hu =>
      injection hu with hu
      subst hu
      have : (UInt8.ofNat (48 + m)).toNat = 48 + m := by rw [UInt8.toNat_ofNat']; omega
      show some _ = some (Value.int .u8 ((UInt8.ofNat (48 + m)).toNat : Int))
      rw [this, Int.natCast_add]
      rfl
    | _ + 1, hu => cases hu⟩
  exact run_string_of (P := Tryd.prog) 31 9 5 Tryd.underlying31 Tryd.underlying5 Tryd.underlying9 hb rfl
set_option maxRecDepth 100000 in
set_option maxHeartbeats 2000000 in
theorem digits33_pos : ∀ (m : Nat) (w : World), m ≤ 9223372036854775807 →
    Calls Tryd.prog 29 #[.int .i64 (m : Int)] w fun e w' => e = .returned (.string (itoaS (m : Int))) ∧ Below w.heap.size w w' := by
  intro m
  induction m using Nat.strongRecOn with
  | ind m ih =>
    intro w h1
    have hnn : decide ((m : Int) < 0) = false := by simp
    by_cases h : m < 10
    · have HE := itoaS_small (n := (m : Int)) (by omega) (by omega)
      rw [Int.toNat_natCast] at HE
      rw [HE]
      have hw1 : IntKind.i64.wrap (48 + (m : Int)) = 48 + (m : Int) := IntWalk.i64_in _ (by omega)
      have hw2 : IntKind.u8.wrap (48 + (m : Int)) = 48 + (m : Int) := IntWalk.u8_in _ (by omega)
      have hd : decide ((m : Int) < 10) = true := by simp; omega
      have hcv := dig33_conv m h w
      have HB : Hid (Below w.heap.size w (w.alloc (.cells #[.int .u8 (48 + (m : Int))] 5))) := (Below.refl _ w).alloc (Nat.le_refl _) _
      clear ih HE
      generalize (⟨#[UInt8.ofNat (48 + m)]⟩ : ByteArray) = ds at *
      go_enter Tryd.func29, Tryd.ntmps29
      go_wp2
      go_ret
      exact ⟨rfl, HB.out⟩
    · have HE := itoaS_big (n := (m : Int)) (by omega)
      rw [HE]
      have hd : decide ((m : Int) < 10) = false := by simp; omega
      have hq : Int.tdiv (m : Int) 10 = (m : Int) / 10 := Int.tdiv_eq_ediv_of_nonneg (by omega)
      have hr : Int.tmod (m : Int) 10 = (m : Int) % 10 := Int.tmod_eq_emod_of_nonneg (by omega)
      have h1' := fun W => ih (m / 10) (by omega) W (by omega)
      rw [show (((m / 10 : Nat) : Nat) : Int) = (m : Int) / 10 by omega] at h1'
      have h2' := fun W => ih (m % 10) (by omega) W (by omega)
      rw [show (((m % 10 : Nat) : Nat) : Int) = (m : Int) % 10 by omega] at h2'
      have HI1 := Lib.hid h1'
      have HI2 := Lib.hid h2'
      have hz1 := itoaS_size (n := (m : Int) / 10) (by omega) (by omega)
      have hz2 := itoaS_size (n := (m : Int) % 10) (by omega) (by omega)
      clear ih h1' h2' HE
      generalize itoaS ((m : Int) / 10) = sa at *
      generalize itoaS ((m : Int) % 10) = sb at *
      have hq' : (m : Int) / 10 = (m : Int) / 10 := rfl
      have hr' : (m : Int) % 10 = (m : Int) % 10 := rfl
      generalize h10 : (m : Int) / 10 = a at hq hq' HI1
      generalize h11 : (m : Int) % 10 = b at hr hr' HI2
      clear hq' hr'
      go_enter Tryd.func29, Tryd.ntmps29
      go_wp2_with ((first
        | (go_at_call 29; refine (HI2.out W2).mono ?_; rintro e W3 ⟨rfl, hb3⟩; have HB3 := Lib.hid (HB2.out.trans (hb3.mono HB2.out.size)); clear hb3)
        | (go_at_call 29; refine (HI1.out w).mono ?_; rintro e W2 ⟨rfl, hb2⟩; have HB2 := Lib.hid hb2; clear hb2)))
      go_ret
      exact ⟨rfl, HB3.out⟩
set_option maxRecDepth 100000 in
set_option maxHeartbeats 2000000 in
theorem digits33_neg : ∀ (k : Nat) (w : World), 0 < k → k ≤ 9223372036854775808 →
    Calls Tryd.prog 29 #[.int .i64 (-(k : Int))] w fun e w' => e = .returned (.string (itoaS (-(k : Int)))) ∧ Below w.heap.size w w' := by
  intro k
  induction k using Nat.strongRecOn with
  | ind k ih =>
    intro w h0 h1
    by_cases h : k < 10
    · have HE := itoaS_neg1 (n := -(k : Int)) (by omega)
      rw [Int.neg_neg] at HE
      rw [HE]
      have hz := itoaS_size (n := (k : Int)) (by omega) (by omega)
      have HI := Lib.hid (digits33_pos k w (by omega))
      have hw : IntKind.i64.wrap (k : Int) = (k : Int) := IntWalk.i64_in _ (by omega)
      generalize itoaS (k : Int) = sa at *
      clear ih HE
      generalize hn : -(k : Int) = n at *
      have hnk : -n = (k : Int) := by omega
      have hl : decide (n < 0) = true := by simp; omega
      have hg : decide (-10 < n) = true := by simp; omega
      have hl' : n < 0 := by omega
      have hg' : -10 < n := by omega
      clear hn
      generalize (k : Int) = kk at *
      go_enter Tryd.func29, Tryd.ntmps29
      go_wp2_with (go_at_call 29; refine HI.out.mono ?_; rintro e W2 ⟨rfl, hb2⟩; have HB2 := Lib.hid hb2; clear hb2)
      go_ret
      exact ⟨rfl, HB2.out⟩
    · have HE := itoaS_neg (n := -(k : Int)) (by omega)
      rw [Int.neg_neg, show (k : Int) / 10 = ((k / 10 : Nat) : Int) by omega, show (k : Int) % 10 = ((k % 10 : Nat) : Int) by omega] at HE
      rw [HE]
      have hz1 := itoaS_size (n := -((k / 10 : Nat) : Int)) (by omega) (by omega)
      have hz2 := itoaS_size (n := ((k % 10 : Nat) : Int)) (by omega) (by omega)
      have HI1 := Lib.hid (ih (k / 10) (by omega) w (by omega) (by omega))
      have HI2 := Lib.hid (fun W => digits33_pos (k % 10) W (by omega))
      have hq1 : Int.tdiv (-(k : Int)) 10 = -((k / 10 : Nat) : Int) := by
        rw [Int.neg_tdiv, Int.tdiv_eq_ediv_of_nonneg (by omega)]
        omega
      have hr1 : Int.tmod (-(k : Int)) 10 = -((k % 10 : Nat) : Int) := by
        rw [Int.neg_tmod, Int.tmod_eq_emod_of_nonneg (by omega)]
        omega
      have hk10 : k % 10 < 10 := Nat.mod_lt _ (by omega)
      generalize itoaS (-((k / 10 : Nat) : Int)) = sa at *
      generalize itoaS ((k % 10 : Nat) : Int) = sb at *
      clear ih HE
      generalize hn : -(k : Int) = n at *
      generalize k % 10 = r at *
      have hw : IntKind.i64.wrap (r : Int) = (r : Int) := IntWalk.i64_in _ (by omega)
      generalize ha : -((k / 10 : Nat) : Int) = a at *
      have hwa : wrap64 a = a := IntWalk.wrap64_in a (by omega)
      clear ha
      generalize hb : -(r : Int) = b at *
      have hbr : -b = (r : Int) := by omega
      have hwb : wrap64 b = b := IntWalk.wrap64_in b (by omega)
      have hl : decide (n < 0) = true := by simp; omega
      have hg : decide (-10 < n) = false := by simp; omega
      have hl' : n < 0 := by omega
      have hg' : ¬ -10 < n := by omega
      clear hn hb
      generalize (r : Int) = rr at *
      go_enter Tryd.func29, Tryd.ntmps29
      go_wp2_with ((first
        | (go_at_call 29; refine (HI2.out W2).mono ?_; rintro e W3 ⟨rfl, hb3⟩; have HB3 := Lib.hid (HB2.out.trans (hb3.mono HB2.out.size)); clear hb3)
        | (go_at_call 29; refine HI1.out.mono ?_; rintro e W2 ⟨rfl, hb2⟩; have HB2 := Lib.hid hb2; clear hb2)))
      go_ret
      exact ⟨rfl, HB3.out⟩
theorem digits33_any (n : Int) (h0 : -9223372036854775808 ≤ n) (h1 : n ≤ 9223372036854775807) (w : World) :
    Calls Tryd.prog 29 #[.int .i64 n] w fun e w' => e = .returned (.string (itoaS n)) ∧ Below w.heap.size w w' := by
  by_cases h : n < 0
  · have := digits33_neg n.natAbs w (by omega) (by omega)
    rwa [show -((n.natAbs : Nat) : Int) = n by omega] at this
  · have := digits33_pos n.toNat w (by omega)
    rwa [show ((n.toNat : Nat) : Int) = n by omega] at this
end Go.Proofs.YtkgkefifcpneiaaDoor
