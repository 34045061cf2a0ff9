/- Layer 12, plain: classes of numbers. -/
namespace Go.Proofs.YtgbbdgoleiolhaaGreat
namespace SymP

/-- How many bits a class has behind it. -/
def bitsC (n : Nat) : Nat := if n < 4 then 0 else n / 2 - 1
/-- The least number of a class. -/
def baseC (n : Nat) : Nat := if n < 4 then n else (2 + n % 2) * 2 ^ (n / 2 - 1)
/-- The class of a number below 32768. -/
def lenC (v : Nat) : Nat := if v < 2 then v else if v < 4 then 2 else if v < 8 then 3 else if v < 16 then 4 else if v < 32 then 5 else if v < 64 then 6 else if v < 128 then 7 else if v < 256 then 8 else if v < 512 then 9 else if v < 1024 then 10 else if v < 2048 then 11 else if v < 4096 then 12 else if v < 8192 then 13 else if v < 16384 then 14 else 15
def classC (v : Nat) : Nat := if v < 4 then v else 2 * (lenC v - 2) + v / 2 ^ (lenC v - 2)

theorem thirty {P : Nat → Prop} (h : ∀ i : Fin 30, P i.val) (n : Nat) (hn : n < 30) : P n := h ⟨n, hn⟩

theorem bitsC_le (n : Nat) (h : n < 30) : bitsC n ≤ 13 := by unfold bitsC; split <;> omega
theorem baseC_next (n : Nat) (h : n < 30) : baseC (n + 1) = baseC n + 2 ^ bitsC n := by
  revert n
  exact fun n hn => thirty (P := fun n => baseC (n + 1) = baseC n + 2 ^ bitsC n) (by decide) n hn
theorem baseC_top (n : Nat) (h : n < 30) : baseC n + 2 ^ bitsC n ≤ 32768 := thirty (P := fun n => baseC n + 2 ^ bitsC n ≤ 32768) (by decide) n h
theorem baseC_mono {m n : Nat} (h : m ≤ n) (hn : n ≤ 30) : baseC m ≤ baseC n := by
  induction n with
  | zero => obtain rfl : m = 0 := by omega
            exact Nat.le_refl _
  | succ n ih =>
    by_cases e : m = n + 1
    · rw [e]; exact Nat.le_refl _
    · exact Nat.le_trans (ih (by omega) (by omega)) (by rw [baseC_next n (by omega)]; exact Nat.le_add_right _ _)
theorem baseC_30 : baseC 30 = 32768 := by decide
theorem baseC_0 : baseC 0 = 0 := by decide

/-- What a number's class is. -/
theorem class_is (v : Nat) (h : v < 32768) : classC v < 30 ∧ baseC (classC v) + v % 2 ^ bitsC (classC v) = v := by
  by_cases h4 : v < 4
  · have e : classC v = v := by unfold classC; rw [if_pos h4]
    rw [e]
    refine ⟨by omega, ?_⟩
    have e1 : baseC v = v := by unfold baseC; rw [if_pos h4]
    have e2 : bitsC v = 0 := by unfold bitsC; rw [if_pos h4]
    rw [e1, e2, Nat.pow_zero, Nat.mod_one]
    rfl
  have e : classC v = 2 * (lenC v - 2) + v / 2 ^ (lenC v - 2) := by unfold classC; rw [if_neg h4]
  have key : ∀ k : Nat, 1 ≤ k → k ≤ 13 → 2 * 2 ^ k ≤ v → v < 4 * 2 ^ k → lenC v = k + 2 → classC v < 30 ∧ baseC (classC v) + v % 2 ^ bitsC (classC v) = v := by
    intro k k1 k2 l1 l2 hl
    rw [e, hl, Nat.add_sub_cancel]
    have hp : 0 < 2 ^ k := Nat.pow_pos (by omega)
    have a1 : 2 ≤ v / 2 ^ k := (Nat.le_div_iff_mul_le hp).2 l1
    have a2 : v / 2 ^ k < 4 := (Nat.div_lt_iff_lt_mul hp).2 l2
    have hd := Nat.div_add_mod v (2 ^ k)
    refine ⟨by omega, ?_⟩
    have e1 : (2 * k + v / 2 ^ k) / 2 - 1 = k := by omega
    have e2 : 2 + (2 * k + v / 2 ^ k) % 2 = v / 2 ^ k := by omega
    unfold baseC bitsC
    rw [if_neg (by omega), if_neg (by omega), e1, e2, Nat.mul_comm]
    exact hd
  by_cases b1 : v < 8
  · exact key 1 (by omega) (by omega) (by omega) (by omega) (by simp only [lenC]; repeat (first | rw [if_neg (by omega)] | rw [if_pos (by omega)]))
  by_cases b2 : v < 16
  · exact key 2 (by omega) (by omega) (by omega) (by omega) (by simp only [lenC]; repeat (first | rw [if_neg (by omega)] | rw [if_pos (by omega)]))
  by_cases b3 : v < 32
  · exact key 3 (by omega) (by omega) (by omega) (by omega) (by simp only [lenC]; repeat (first | rw [if_neg (by omega)] | rw [if_pos (by omega)]))
  by_cases b4 : v < 64
  · exact key 4 (by omega) (by omega) (by omega) (by omega) (by simp only [lenC]; repeat (first | rw [if_neg (by omega)] | rw [if_pos (by omega)]))
  by_cases b5 : v < 128
  · exact key 5 (by omega) (by omega) (by omega) (by omega) (by simp only [lenC]; repeat (first | rw [if_neg (by omega)] | rw [if_pos (by omega)]))
  by_cases b6 : v < 256
  · exact key 6 (by omega) (by omega) (by omega) (by omega) (by simp only [lenC]; repeat (first | rw [if_neg (by omega)] | rw [if_pos (by omega)]))
  by_cases b7 : v < 512
  · exact key 7 (by omega) (by omega) (by omega) (by omega) (by simp only [lenC]; repeat (first | rw [if_neg (by omega)] | rw [if_pos (by omega)]))
  by_cases b8 : v < 1024
  · exact key 8 (by omega) (by omega) (by omega) (by omega) (by simp only [lenC]; repeat (first | rw [if_neg (by omega)] | rw [if_pos (by omega)]))
  by_cases b9 : v < 2048
  · exact key 9 (by omega) (by omega) (by omega) (by omega) (by simp only [lenC]; repeat (first | rw [if_neg (by omega)] | rw [if_pos (by omega)]))
  by_cases b10 : v < 4096
  · exact key 10 (by omega) (by omega) (by omega) (by omega) (by simp only [lenC]; repeat (first | rw [if_neg (by omega)] | rw [if_pos (by omega)]))
  by_cases b11 : v < 8192
  · exact key 11 (by omega) (by omega) (by omega) (by omega) (by simp only [lenC]; repeat (first | rw [if_neg (by omega)] | rw [if_pos (by omega)]))
  by_cases b12 : v < 16384
  · exact key 12 (by omega) (by omega) (by omega) (by omega) (by simp only [lenC]; repeat (first | rw [if_neg (by omega)] | rw [if_pos (by omega)]))
  · exact key 13 (by omega) (by omega) (by omega) (by omega) (by simp only [lenC]; repeat (first | rw [if_neg (by omega)] | rw [if_pos (by omega)]))

/-- A class is the one whose numbers one is among. -/
theorem class_of {v n : Nat} (hn : n < 30) (h1 : baseC n ≤ v) (h2 : v < baseC n + 2 ^ bitsC n) : classC v = n := by
  have hv : v < 32768 := Nat.lt_of_lt_of_le h2 (baseC_top n hn)
  obtain ⟨c1, c2⟩ := class_is v hv
  have c3 : v % 2 ^ bitsC (classC v) < 2 ^ bitsC (classC v) := Nat.mod_lt _ (Nat.pow_pos (by omega))
  have c4 := baseC_next (classC v) c1
  have c5 := baseC_next n hn
  by_cases g : n < classC v
  · have := baseC_mono (m := n + 1) (n := classC v) (by omega) (by omega)
    omega
  by_cases g2 : classC v < n
  · have := baseC_mono (m := classC v + 1) (n := n) (by omega) (by omega)
    omega
  omega
theorem class_mono {v w : Nat} (h : v ≤ w) (hw : w < 32768) : classC v ≤ classC w := by
  obtain ⟨c1, c2⟩ := class_is v (by omega)
  obtain ⟨d1, d2⟩ := class_is w hw
  have d3 : w % 2 ^ bitsC (classC w) < 2 ^ bitsC (classC w) := Nat.mod_lt _ (Nat.pow_pos (by omega))
  have d4 := baseC_next (classC w) d1
  by_cases g : classC w < classC v
  · have := baseC_mono (m := classC w + 1) (n := classC v) (by omega) (by omega)
    omega
  omega
theorem extra_of {v n : Nat} (hn : n < 30) (h1 : baseC n ≤ v) (h2 : v < baseC n + 2 ^ bitsC n) : v % 2 ^ bitsC n = v - baseC n := by
  obtain ⟨_, c2⟩ := class_is v (Nat.lt_of_lt_of_le h2 (baseC_top n hn))
  rw [class_of hn h1 h2] at c2
  omega
theorem baseC_le_iff {v n : Nat} (hv : v < 32768) (hn : n < 30) : baseC n ≤ v ↔ n ≤ classC v := by
  obtain ⟨c1, c2⟩ := class_is v hv
  have c3 : v % 2 ^ bitsC (classC v) < 2 ^ bitsC (classC v) := Nat.mod_lt _ (Nat.pow_pos (by omega))
  have c4 := baseC_next (classC v) c1
  constructor
  · intro h
    by_cases g : classC v < n
    · have := baseC_mono (m := classC v + 1) (n := n) (by omega) (by omega)
      omega
    omega
  · intro h
    have := baseC_mono (m := n) (n := classC v) h (by omega)
    omega
end SymP
end Go.Proofs.YtgbbdgoleiolhaaGreat
