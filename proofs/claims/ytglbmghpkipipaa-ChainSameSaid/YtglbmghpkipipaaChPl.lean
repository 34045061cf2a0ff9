/- Layer 35, plainly: hashes, chains. -/
import Derived.Test.YtglbmghpkipipaaMaPl
namespace Go.Proofs.Ytglbmghpkipipaa
open Go.RowKit

/-- Three bytes' hash. -/
def xorN (a b c : UInt8) : Nat := (a.toNat <<< 10) ^^^ (b.toNat <<< 5) ^^^ c.toNat
def hashN (a b c : UInt8) : Nat := xorN a b c % 4096
theorem hashN_lt (a b c : UInt8) : hashN a b c < 4096 := Nat.mod_lt _ (by omega)
/-- A bit of a byte, as a number. -/
def bitN (a : UInt8) (k : Nat) : Nat := a.toNat / 2 ^ k % 2
theorem bitN_lt (a : UInt8) (k : Nat) : bitN a k < 2 := Nat.mod_lt _ (by omega)
theorem bit_of (n k : Nat) : n / 2 ^ k % 2 = (n.testBit k).toNat := by rw [Nat.toNat_testBit]
/-- How many of the three have a bit there. -/
def onesN (a b c : UInt8) (k : Nat) : Nat := (if 10 ≤ k then bitN a (k - 10) else 0) + (if 5 ≤ k then bitN b (k - 5) else 0) + (if k < 8 then bitN c k else 0)
theorem onesN_lt (a b c : UInt8) (k : Nat) : onesN a b c k < 4 := by
  have h1 := bitN_lt a (k - 10)
  have h2 := bitN_lt b (k - 5)
  have h3 := bitN_lt c k
  unfold onesN
  split <;> split <;> split <;> omega
theorem ones_bit (a b c : UInt8) (k : Nat) : onesN a b c k % 2 = xorN a b c / 2 ^ k % 2 := by
  rw [bit_of]
  unfold xorN onesN bitN
  simp only [bit_of, Nat.testBit_xor, Nat.testBit_shiftLeft]
  have hc : 8 ≤ k → c.toNat.testBit k = false := fun h => Nat.testBit_lt_two_pow (Nat.lt_of_lt_of_le (UInt8.toNat_lt c) (Nat.pow_le_pow_right (by omega) h))
  by_cases h1 : 10 ≤ k <;> by_cases h2 : 5 ≤ k <;> by_cases h3 : k < 8 <;>
    first | omega | (
      try rw [hc (by omega)]
      simp only [h1, h2, h3, if_true, if_false, decide_true, decide_false, Bool.true_and, Bool.false_and, Nat.zero_add, Nat.add_zero, Bool.false_xor, Bool.xor_false]
      cases a.toNat.testBit (k - 10) <;> cases b.toNat.testBit (k - 5) <;> cases c.toNat.testBit k <;> rfl)
theorem hash_step (a b c : UInt8) (k : Nat) : xorN a b c % 2 ^ (k + 1) = xorN a b c % 2 ^ k + 2 ^ k * (onesN a b c k % 2) := by
  rw [ones_bit, Nat.mod_pow_succ]

/-- A place's hash. -/
def hv (bs : List UInt8) (p : Nat) : Nat := hashN (bs.getD p 0) (bs.getD (p + 1) 0) (bs.getD (p + 2) 0)
theorem hv_lt (bs : List UInt8) (p : Nat) : hv bs p < 4096 := hashN_lt _ _ _
/-- The place behind the last one below m that has a hash; 0: none has. -/
def back (bs : List UInt8) (h : Nat) : Nat → Nat
  | 0 => 0
  | m + 1 => if hv bs m = h then m + 1 else back bs h m
theorem back_le (bs : List UInt8) (h : Nat) : ∀ m, back bs h m ≤ m
  | 0 => Nat.le_refl 0
  | m + 1 => by
    rw [back]
    split
    · omega
    · have := back_le bs h m; omega
theorem back_has (bs : List UInt8) (h : Nat) : ∀ m, 0 < back bs h m → hv bs (back bs h m - 1) = h
  | 0, h0 => absurd h0 (by simp [back])
  | m + 1, h0 => by
    rw [back] at h0 ⊢
    split
    · rename_i he; exact he
    · rename_i he
      rw [if_neg he] at h0
      exact back_has bs h m h0
theorem back_none (bs : List UInt8) (h : Nat) : ∀ m q, back bs h m ≤ q → q < m → hv bs q ≠ h
  | 0, q, _, h2 => by omega
  | m + 1, q, h1, h2 => by
    rw [back] at h1
    split at h1
    · omega
    · rename_i he
      by_cases hq : q = m
      · rw [hq]; exact he
      · exact back_none bs h m q h1 (by omega)
/-- The place ahead of one in its chain, plus 1; 0: there is none. -/
def prevI (bs : List UInt8) (a : Int) : Nat := if 0 ≤ a ∧ a + 3 ≤ (bs.length : Int) then back bs (hv bs a.toNat) a.toNat else 0
theorem prevI_at {bs : List UInt8} {p : Nat} (h : p + 3 ≤ bs.length) : prevI bs (p : Int) = back bs (hv bs p) p := by
  rw [prevI, if_pos (by omega)]
  simp
theorem prevI_no {bs : List UInt8} {a : Int} (h : ¬ (0 ≤ a ∧ a + 3 ≤ (bs.length : Int))) : prevI bs a = 0 := if_neg h
theorem prevI_le (bs : List UInt8) (a : Int) (h : 0 < prevI bs a) : (prevI bs a : Int) ≤ a ∧ 0 ≤ a ∧ a + 3 ≤ (bs.length : Int) := by
  unfold prevI at h ⊢
  split at h
  · rename_i hc
    rw [if_pos hc]
    have := back_le bs (hv bs a.toNat) a.toNat
    omega
  · omega

theorem three_hash {bs : List UInt8} {a d : Nat} (h : three bs a d = true) : hv bs (a - d) = hv bs a := by
  unfold three at h
  rw [Bool.and_eq_true, Bool.and_eq_true, beq_iff_eq, beq_iff_eq, beq_iff_eq] at h
  unfold hv
  rw [h.1.1, h.1.2, h.2]
/-- No candidate stands between two places of a chain. -/
theorem candN_skip {bs : List UInt8} {a p q : Nat} (hpa : p ≤ a) (hqp : q ≤ p) (h : ∀ r, q ≤ r → r < p → hv bs r ≠ hv bs a) : candN bs a (a - q) = candN bs a (a - p) := by
  obtain ⟨k, rfl⟩ : ∃ k, p = q + k := ⟨p - q, by omega⟩
  induction k with
  | zero => rfl
  | succ k ih =>
    have h1 := ih (by omega) (by omega) (fun r hr hk => h r hr (by omega))
    rw [h1, show a - (q + k) = (a - (q + (k + 1))) + 1 by omega]
    refine candN_no ?_
    cases hc : three bs a (a - (q + (k + 1)) + 1) with
    | false => rfl
    | true =>
      have := three_hash hc
      rw [show a - (a - (q + (k + 1)) + 1) = q + k by omega] at this
      exact absurd this (h _ (by omega) (by omega))
theorem three_len {bs : List UInt8} {a d : Nat} (h1 : a + 3 ≤ bs.length) (h2 : 1 ≤ d) (h3 : d ≤ a) (h4 : d ≤ 32768) : three bs a d = decide (3 ≤ lenI bs (a : Int) (d : Int)) := by
  rw [lenI_at bs (by omega) h2 h4 h3]
  rw [Bool.eq_iff_iff, decide_eq_true_eq]
  constructor
  · intro h5
    unfold three at h5
    rw [Bool.and_eq_true, Bool.and_eq_true, beq_iff_eq, beq_iff_eq, beq_iff_eq] at h5
    refine runM_many bs a d _ 0 3 (by unfold capM; omega) fun i _ hi => ?_
    rcases (show i = 0 ∨ i = 1 ∨ i = 2 by omega) with rfl | rfl | rfl
    · exact h5.1.1.symm
    · rw [show a + 1 - d = a - d + 1 by omega]; exact h5.1.2.symm
    · rw [show a + 2 - d = a - d + 2 by omega]; exact h5.2.symm
  · intro h
    have e0 := runM_same bs a d (capM bs a) 0 0 (by omega) (by omega)
    have e1 := runM_same bs a d (capM bs a) 0 1 (by omega) (by omega)
    have e2 := runM_same bs a d (capM bs a) 0 2 (by omega) (by omega)
    rw [show a + 1 - d = a - d + 1 by omega] at e1
    rw [show a + 2 - d = a - d + 2 by omega] at e2
    simp only [Nat.add_zero] at e0
    unfold three
    rw [e0, e1, e2]
    simp
theorem lenI_short {bs : List UInt8} {a d : Int} (h : (bs.length : Int) < a + 3) : lenI bs a d < 3 := by
  unfold lenI
  split
  · have := runM_le bs a.toNat d.toNat (capM bs a.toNat) 0
    unfold capM at this ⊢
    omega
  · omega
end Go.Proofs.Ytglbmghpkipipaa
