/- Layer 11, plainly: the tokens of bytes. -/
import Derived.Test.YtglbmghpkipipaaMaPl
namespace Go.Proofs.Ytglbmghpkipipaa
open Go.RowKit

/-- A token: its byte, its length, its distance. -/
abbrev Tk := UInt8 × Nat × Nat
def depthN (lv : Int) : Int := if lv ≤ 0 then 1 else if lv = 1 then 4 else if lv = 2 then 32 else 256
def tokAt (bs : List UInt8) (lv : Int) (p : Nat) : Tk :=
  if (bestM bs (p : Int) (depthN lv)).1 = 0 ∨ (1 < lv ∧ (bestM bs (p : Int) (depthN lv)).1 < 258 ∧ (bestM bs (p : Int) (depthN lv)).1 < (bestM bs ((p + 1 : Nat) : Int) (depthN lv)).1) then (bs.getD p 0, 0, 0)
  else (0, (bestM bs (p : Int) (depthN lv)).1, (bestM bs (p : Int) (depthN lv)).2)
def tsz (t : Tk) : Nat := max t.2.1 1
theorem tsz_pos (t : Tk) : 1 ≤ tsz t := by unfold tsz; omega
def tokF (bs : List UInt8) (lv : Int) : Nat → Nat → List Tk
  | 0, _ => []
  | k + 1, p => if p < bs.length then tokAt bs lv p :: tokF bs lv k (p + tsz (tokAt bs lv p)) else []
/-- The tokens from a place on. -/
def toks (bs : List UInt8) (lv : Int) (p : Nat) : List Tk := tokF bs lv (bs.length - p) p
theorem tokF_more (bs : List UInt8) (lv : Int) : ∀ (k j p : Nat), bs.length - p ≤ k → bs.length - p ≤ j → tokF bs lv k p = tokF bs lv j p
  | 0, 0, _, _, _ => rfl
  | 0, j + 1, p, h, _ => by rw [tokF, tokF, if_neg (by omega)]
  | k + 1, 0, p, _, h => by rw [tokF, tokF, if_neg (by omega)]
  | k + 1, j + 1, p, h1, h2 => by
    rw [tokF, tokF]
    split
    · have := tsz_pos (tokAt bs lv p)
      rw [tokF_more bs lv k j _ (by omega) (by omega)]
    · rfl
theorem toks_step {bs : List UInt8} {lv : Int} {p : Nat} (h : p < bs.length) : toks bs lv p = tokAt bs lv p :: toks bs lv (p + tsz (tokAt bs lv p)) := by
  have := tsz_pos (tokAt bs lv p)
  unfold toks
  obtain ⟨k, hk⟩ : ∃ k, bs.length - p = k + 1 := ⟨bs.length - p - 1, by omega⟩
  rw [hk, tokF, if_pos h, tokF_more bs lv k (bs.length - (p + tsz (tokAt bs lv p))) _ (by omega) (by omega)]
theorem toks_end {bs : List UInt8} {lv : Int} {p : Nat} (h : bs.length ≤ p) : toks bs lv p = [] := by
  unfold toks
  rw [show bs.length - p = 0 by omega]
  rfl
theorem toks_len (bs : List UInt8) (lv : Int) (p : Nat) : (toks bs lv p).length ≤ bs.length - p := by
  obtain ⟨k, hk⟩ : ∃ k, bs.length - p = k := ⟨_, rfl⟩
  unfold toks
  rw [hk]
  clear hk
  induction k generalizing p with
  | zero => exact Nat.le_refl 0
  | succ k ih =>
    rw [tokF]
    split
    · have := ih (p + tsz (tokAt bs lv p))
      simp
      omega
    · simp
theorem tokAt_le (bs : List UInt8) (lv : Int) (p : Nat) : (tokAt bs lv p).2.1 ≤ 258 ∧ (tokAt bs lv p).2.2 ≤ 32768 := by
  unfold tokAt
  split
  · exact ⟨by simp, by simp⟩
  · refine ⟨bestM_le _ _ _, ?_⟩
    rcases bestM_of bs (p : Int) (depthN lv) with h | ⟨h, _⟩
    · rw [h]; simp
    · exact (cand_of h).2.2.2.1
end Go.Proofs.Ytglbmghpkipipaa
