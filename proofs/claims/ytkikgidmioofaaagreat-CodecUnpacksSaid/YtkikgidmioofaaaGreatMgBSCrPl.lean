/- Layer 8, plainly: a code's bits, the highest one first; 32 bits turned round. -/
import Derived.Test.YtkikgidmioofaaaGreatMgB01
import Derived.Laws.BitsAllLaws
namespace Go.Proofs.YtkikgidmioofaaaGreat
open Go Go.RowKit BitsP

/-- A code's bits. -/
def codeB (v n : Nat) : List Bool := (bitsOf v n).reverse
theorem codeB_len (v n : Nat) : (codeB v n).length = n := by unfold codeB; rw [List.length_reverse, bitsOf_length]
theorem bitsOf_get : ∀ (n k i : Nat), i < k → (bitsOf n k)[i]? = some (n.testBit i)
  | n, 0, i, h => by omega
  | n, k + 1, 0, _ => by
    show some (decide (n % 2 = 1)) = some _
    rw [Nat.testBit_zero]
  | n, k + 1, i + 1, h => by
    show (bitsOf (n / 2) k)[i]? = _
    rw [bitsOf_get (n / 2) k i (by omega), Nat.testBit_succ]
/-- One step of turning round: each bit and the one that stands 2^.. off change places. -/
def stepR (k m x : Nat) : Nat := (x / 2 ^ k &&& m) ||| ((x &&& m) * 2 ^ k % 4294967296)
def fitR (k m : Nat) : Bool := (List.range 32).all fun i => (i ^^^ k < 32) && if m.testBit i then (i ^^^ k == i + k) && (!(decide (k ≤ i)) || !(m.testBit (i - k))) else decide (k ≤ i) && (m.testBit (i - k) && (i ^^^ k == i - k))
theorem stepR_bit {k m : Nat} (hf : fitR k m = true) (x i : Nat) (hi : i < 32) : (stepR k m x).testBit i = x.testBit (i ^^^ k) ∧ i ^^^ k < 32 := by
  have h := List.all_eq_true.1 hf i (List.mem_range.2 hi)
  unfold stepR
  have e32 : (4294967296 : Nat) = 2 ^ 32 := by decide
  rw [e32, Nat.testBit_or, Nat.testBit_and, Nat.testBit_div_two_pow, Nat.testBit_mod_two_pow, Nat.testBit_mul_two_pow, Nat.testBit_and]
  rw [decide_eq_true hi, Bool.true_and]
  rw [Bool.and_eq_true, decide_eq_true_eq] at h
  refine ⟨?_, h.1⟩
  have h := h.2
  by_cases hm : m.testBit i = true
  · rw [if_pos hm] at h
    rw [hm, Bool.and_true]
    rw [Bool.and_eq_true, beq_iff_eq] at h
    rw [h.1]
    by_cases hk : k ≤ i
    · have h2 : m.testBit (i - k) = false := by
        have := h.2
        rw [decide_eq_true hk] at this
        simpa using this
      rw [h2]; simp
    · rw [decide_eq_false (by omega : ¬ i ≥ k)]; simp
  · rw [if_neg hm] at h
    have hm' : m.testBit i = false := by simpa using hm
    rw [hm', Bool.and_false, Bool.false_or]
    rw [Bool.and_eq_true, Bool.and_eq_true, decide_eq_true_eq, beq_iff_eq] at h
    rw [h.2.2, h.2.1, Bool.and_true, decide_eq_true (by omega : i ≥ k), Bool.true_and]
theorem stepR_lt (k m x : Nat) (hm : m < 4294967296) : stepR k m x < 4294967296 := by
  unfold stepR
  have e32 : (4294967296 : Nat) = 2 ^ 32 := by decide
  rw [e32] at hm ⊢
  exact Nat.or_lt_two_pow (Nat.lt_of_le_of_lt Nat.and_le_right hm) (Nat.mod_lt _ (by decide))
/-- All steps. -/
def rev32 (x : Nat) : Nat := stepR 16 65535 (stepR 8 16711935 (stepR 4 252645135 (stepR 2 858993459 (stepR 1 1431655765 x))))
theorem rev32_idx : ∀ i : Fin 32, ((((i.val ^^^ 16) ^^^ 8) ^^^ 4) ^^^ 2) ^^^ 1 = 31 - i.val := by decide
theorem rev32_bit (x i : Nat) (hi : i < 32) : (rev32 x).testBit i = x.testBit (31 - i) := by
  unfold rev32
  obtain ⟨h1, l1⟩ := stepR_bit (k := 16) (m := 65535) (by decide) (stepR 8 16711935 (stepR 4 252645135 (stepR 2 858993459 (stepR 1 1431655765 x)))) i hi
  obtain ⟨h2, l2⟩ := stepR_bit (k := 8) (m := 16711935) (by decide) (stepR 4 252645135 (stepR 2 858993459 (stepR 1 1431655765 x))) _ l1
  obtain ⟨h3, l3⟩ := stepR_bit (k := 4) (m := 252645135) (by decide) (stepR 2 858993459 (stepR 1 1431655765 x)) _ l2
  obtain ⟨h4, l4⟩ := stepR_bit (k := 2) (m := 858993459) (by decide) (stepR 1 1431655765 x) _ l3
  obtain ⟨h5, _⟩ := stepR_bit (k := 1) (m := 1431655765) (by decide) x _ l4
  rw [h1, h2, h3, h4, h5, rev32_idx ⟨i, hi⟩]
theorem rev32_lt (x : Nat) : rev32 x < 4294967296 := stepR_lt _ _ _ (by decide)
/-- The bits that Put writes. -/
theorem rev32_code {v n : Nat} (hn : n ≤ 32) : bitsOf (rev32 v / 2 ^ (32 - n)) n = codeB v n := by
  apply List.ext_getElem?
  intro i
  unfold codeB
  by_cases hi : i < n
  · rw [bitsOf_get _ _ _ hi, List.getElem?_reverse (by rw [bitsOf_length]; exact hi), bitsOf_length, bitsOf_get _ _ _ (by omega), Nat.testBit_div_two_pow, rev32_bit _ _ (by omega)]
    congr 2
    omega
  · rw [List.getElem?_eq_none (by rw [bitsOf_length]; omega), List.getElem?_eq_none (by rw [List.length_reverse, bitsOf_length]; omega)]
theorem stepR_int {k m x : Nat} (hx : x < 4294967296) (hm : m < 4294967296) : bits .or .u32 (bits .and .u32 ((x : Int) / (2 ^ k : Nat)) (m : Int)) (bits .and .u32 (x : Int) (m : Int) * (2 ^ k : Nat) % 4294967296) = (stepR k m x : Int) := by
  have e1 : (x : Int) / (2 ^ k : Nat) = ((x / 2 ^ k : Nat) : Int) := by simp
  have hd : x / 2 ^ k < 4294967296 := Nat.lt_of_le_of_lt (Nat.div_le_self _ _) hx
  rw [e1, u32_and_nat _ _ hd hm, u32_and_nat _ _ hx hm]
  have e2 : ((x &&& m : Nat) : Int) * (2 ^ k : Nat) % 4294967296 = (((x &&& m) * 2 ^ k % 4294967296 : Nat) : Int) := by
    rw [Int.natCast_emod, Int.natCast_mul]; rfl
  rw [e2, u32_or_nat _ _ (Nat.lt_of_le_of_lt Nat.and_le_right hm) (Nat.mod_lt _ (by decide))]
  rfl
theorem step16_int {x : Nat} (hx : x < 4294967296) : bits .or .u32 ((x : Int) / 65536) ((x : Int) * 65536 % 4294967296) = (stepR 16 65535 x : Int) := by
  have e1 : (x : Int) / 65536 = ((x / 65536 : Nat) : Int) := by simp
  have e2 : (x : Int) * 65536 % 4294967296 = ((x * 65536 % 4294967296 : Nat) : Int) := by simp
  rw [e1, e2, u32_or_nat _ _ (by omega) (by omega)]
  unfold stepR
  have a1 : x / 2 ^ 16 &&& 65535 = x / 65536 := by
    rw [show (65535 : Nat) = 2 ^ 16 - 1 by decide, Nat.and_two_pow_sub_one_eq_mod, show (2 : Nat) ^ 16 = 65536 by decide]
    omega
  have a2 : (x &&& 65535) * 2 ^ 16 % 4294967296 = x * 65536 % 4294967296 := by
    rw [show (65535 : Nat) = 2 ^ 16 - 1 by decide, Nat.and_two_pow_sub_one_eq_mod, show (2 : Nat) ^ 16 = 65536 by decide]
    omega
  rw [a1, a2]
end Go.Proofs.YtkikgidmioofaaaGreat
