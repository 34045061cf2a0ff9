/- Plain mathematics of layer 1: turns of a number, the table, and what a sum goes on to. -/
namespace Go.Proofs.YtaknladkodibaaaGreatDoor.CrcP

/-- One turn. -/
def turn (n : Nat) : Nat := if n % 2 = 1 then n / 2 ^^^ 3988292384 else n / 2
/-- k turns, one behind the other. -/
def turns : Nat → Nat → Nat
  | 0, n => n
  | k + 1, n => turn (turns k n)

theorem turn_lt {n : Nat} (h : n < 4294967296) : turn n < 4294967296 := by
  unfold turn
  split
  · exact Nat.xor_lt_two_pow (n := 32) (by omega) (by omega)
  · omega
theorem turns_lt {n : Nat} (h : n < 4294967296) : ∀ k, turns k n < 4294967296
  | 0 => h
  | k + 1 => turn_lt (turns_lt h k)

theorem xor_div2 (a b : Nat) : (a ^^^ b) / 2 = a / 2 ^^^ b / 2 := by
  have := Nat.shiftRight_xor_distrib (a := a) (b := b) (i := 1)
  simpa [Nat.shiftRight_eq_div_pow] using this
theorem xor_mod2 (a b : Nat) : (a ^^^ b) % 2 = (a % 2 + b % 2) % 2 := by
  have h := Nat.xor_mod_two_pow (a := a) (b := b) (n := 1)
  simp only [Nat.pow_one] at h
  rw [h]
  rcases Nat.mod_two_eq_zero_or_one a with ha | ha <;> rcases Nat.mod_two_eq_zero_or_one b with hb | hb <;> simp [ha, hb]

theorem xor_right_comm (a b c : Nat) : a ^^^ b ^^^ c = a ^^^ c ^^^ b := by
  rw [Nat.xor_assoc, Nat.xor_comm b c, ← Nat.xor_assoc]

theorem turn_xor (a b : Nat) : turn (a ^^^ b) = turn a ^^^ turn b := by
  unfold turn
  rw [xor_div2, xor_mod2]
  rcases Nat.mod_two_eq_zero_or_one a with ha | ha <;> rcases Nat.mod_two_eq_zero_or_one b with hb | hb <;> simp [ha, hb]
  · rw [Nat.xor_assoc]
  · rw [xor_right_comm]
  · rw [Nat.xor_assoc, ← Nat.xor_assoc 3988292384, Nat.xor_comm 3988292384, Nat.xor_assoc (b / 2), Nat.xor_self, Nat.xor_zero]

theorem turns_xor (a b : Nat) : ∀ k, turns k (a ^^^ b) = turns k a ^^^ turns k b
  | 0 => rfl
  | k + 1 => by rw [turns, turns, turns, turns_xor a b k, turn_xor]

/-- Turns of a number that has only zeros in its lowest bits: they fall off. -/
theorem turns_shift : ∀ (k m : Nat), turns k (m * 2 ^ k) = m
  | 0, m => by simp [turns]
  | k + 1, m => by
    have e : m * 2 ^ (k + 1) = (m * 2) * 2 ^ k := by rw [Nat.pow_succ, Nat.mul_comm (2 ^ k) 2, Nat.mul_assoc]
    rw [turns, e, turns_shift k (m * 2)]
    unfold turn
    rw [if_neg (by omega)]
    omega

/-- The table's number at i. -/
def tabAt (i : Nat) : Nat := turns 8 i
theorem tabAt_lt {i : Nat} (h : i < 256) : tabAt i < 4294967296 := turns_lt (by omega) 8

/-- A sum goes on by a byte. -/
def goStep (n x : Nat) : Nat := tabAt (n % 256 ^^^ x) ^^^ n / 256
theorem goStep_turns (n x : Nat) (hx : x < 256) : goStep n x = turns 8 (n ^^^ x) := by
  have e : n ^^^ x = (n % 256 ^^^ x) ^^^ (n / 256 * 2 ^ 8) := by
    apply Nat.eq_of_testBit_eq
    intro i
    have h1 : (n % 256).testBit i = (decide (i < 8) && n.testBit i) := by
      rw [show (256 : Nat) = 2 ^ 8 from rfl, Nat.testBit_mod_two_pow]
    have h2 : (n / 256 * 2 ^ 8).testBit i = (decide (8 ≤ i) && n.testBit i) := by
      rw [Nat.testBit_mul_two_pow, show (256 : Nat) = 2 ^ 8 from rfl, Nat.testBit_div_two_pow]
      by_cases h : 8 ≤ i
      · rw [show i - 8 + 8 = i by omega]
      · simp [h]
    simp only [Nat.testBit_xor, h1, h2]
    by_cases h : i < 8
    · have : ¬ 8 ≤ i := by omega
      simp [h, this]
    · have h8 : 8 ≤ i := by omega
      have hxi : x.testBit i = false := Nat.testBit_lt_two_pow (Nat.lt_of_lt_of_le hx (by rw [show (256 : Nat) = 2 ^ 8 from rfl]; exact Nat.pow_le_pow_right (by decide) h8))
      simp [h, h8, hxi]
  unfold goStep tabAt
  conv => rhs; rw [e, turns_xor, turns_shift]
theorem goStep_lt {n x : Nat} (h : n < 4294967296) (hx : x < 256) : goStep n x < 4294967296 := by
  rw [goStep_turns n x hx]
  exact turns_lt (Nat.xor_lt_two_pow (n := 32) (by omega) (by omega)) 8

/-- A number gone on by bytes. -/
def goN (n : Nat) (bs : List UInt8) : Nat := bs.foldl (fun n x => goStep n x.toNat) n
theorem goN_lt : ∀ (bs : List UInt8) {n : Nat}, n < 4294967296 → goN n bs < 4294967296
  | [], _, h => h
  | x :: r, _, h => goN_lt r (goStep_lt h (UInt8.toNat_lt x))
theorem goN_append (n : Nat) (a b : List UInt8) : goN n (a ++ b) = goN (goN n a) b := List.foldl_append ..
theorem goN_snoc (n : Nat) (a : List UInt8) (x : UInt8) : goN n (a ++ [x]) = goStep (goN n a) x.toNat := by rw [goN_append]; rfl
/-- The sum of bytes. -/
def sumN (bs : List UInt8) : Nat := goN 4294967295 bs ^^^ 4294967295
theorem sumN_lt (bs : List UInt8) : sumN bs < 4294967296 := Nat.xor_lt_two_pow (n := 32) (goN_lt bs (by omega)) (by omega)

end Go.Proofs.YtaknladkodibaaaGreatDoor.CrcP
/- Layer 12, plain: classes of numbers. -/
namespace Go.Proofs.YtaknladkodibaaaGreatDoor
namespace SymP

/-- How many bits a class has behind it. -/
def bitsC (n : Nat) : Nat := if n < 4 then 0 else n / 2 - 1
/-- The least number of a class. -/
def baseC (n : Nat) : Nat := if n < 4 then n else (2 + n % 2) * 2 ^ (n / 2 - 1)
/-- The class of a number below 32768. -/
def lenC (v : Nat) : Nat := if v < 2 then v else if v < 4 then 2 else if v < 8 then 3 else if v < 16 then 4 else if v < 32 then 5 else if v < 64 then 6 else if v < 128 then 7 else if v < 256 then 8 else if v < 512 then 9 else if v < 1024 then 10 else if v < 2048 then 11 else if v < 4096 then 12 else if v < 8192 then 13 else if v < 16384 then 14 else 15
def classC (v : Nat) : Nat := if v < 4 then v else 2 * (lenC v - 2) + v / 2 ^ (lenC v - 2)

theorem thirty {P : Nat → Prop} (h : ∀ i : Fin 30, P i.val) (n : Nat) (hn : n < 30) : P n := h ⟨n, hn⟩

theorem bitsC_le (n : Nat) (h : n < 30) : bitsC n ≤ 13 := by unfold bitsC; split <;> omega
theorem baseC_next (n : Nat) (h : n < 30) : baseC (n + 1) = baseC n + 2 ^ bitsC n := by
  revert n
  exact fun n hn => thirty (P := fun n => baseC (n + 1) = baseC n + 2 ^ bitsC n) (by decide) n hn
theorem baseC_mono {m n : Nat} (h : m ≤ n) (hn : n ≤ 30) : baseC m ≤ baseC n := by
  induction n with
  | zero => obtain rfl : m = 0 := by omega
            exact Nat.le_refl _
  | succ n ih =>
    by_cases e : m = n + 1
    · rw [e]; exact Nat.le_refl _
    · exact Nat.le_trans (ih (by omega) (by omega)) (by rw [baseC_next n (by omega)]; exact Nat.le_add_right _ _)
/-- What a number's class is. -/
theorem class_is (v : Nat) (h : v < 32768) : classC v < 30 ∧ baseC (classC v) + v % 2 ^ bitsC (classC v) = v := by
  by_cases h4 : v < 4
  · have e : classC v = v := by unfold classC; rw [if_pos h4]
    rw [e]
    refine ⟨by omega, ?_⟩
    have e1 : baseC v = v := by unfold baseC; rw [if_pos h4]
    have e2 : bitsC v = 0 := by unfold bitsC; rw [if_pos h4]
    rw [e1, e2, Nat.pow_zero, Nat.mod_one]
    rfl
  have e : classC v = 2 * (lenC v - 2) + v / 2 ^ (lenC v - 2) := by unfold classC; rw [if_neg h4]
  have key : ∀ k : Nat, 1 ≤ k → k ≤ 13 → 2 * 2 ^ k ≤ v → v < 4 * 2 ^ k → lenC v = k + 2 → classC v < 30 ∧ baseC (classC v) + v % 2 ^ bitsC (classC v) = v := by
    intro k k1 k2 l1 l2 hl
    rw [e, hl, Nat.add_sub_cancel]
    have hp : 0 < 2 ^ k := Nat.pow_pos (by omega)
    have a1 : 2 ≤ v / 2 ^ k := (Nat.le_div_iff_mul_le hp).2 l1
    have a2 : v / 2 ^ k < 4 := (Nat.div_lt_iff_lt_mul hp).2 l2
    have hd := Nat.div_add_mod v (2 ^ k)
    refine ⟨by omega, ?_⟩
    have e1 : (2 * k + v / 2 ^ k) / 2 - 1 = k := by omega
    have e2 : 2 + (2 * k + v / 2 ^ k) % 2 = v / 2 ^ k := by omega
    unfold baseC bitsC
    rw [if_neg (by omega), if_neg (by omega), e1, e2, Nat.mul_comm]
    exact hd
  by_cases b1 : v < 8
  · exact key 1 (by omega) (by omega) (by omega) (by omega) (by simp only [lenC]; repeat (first | rw [if_neg (by omega)] | rw [if_pos (by omega)]))
  by_cases b2 : v < 16
  · exact key 2 (by omega) (by omega) (by omega) (by omega) (by simp only [lenC]; repeat (first | rw [if_neg (by omega)] | rw [if_pos (by omega)]))
  by_cases b3 : v < 32
  · exact key 3 (by omega) (by omega) (by omega) (by omega) (by simp only [lenC]; repeat (first | rw [if_neg (by omega)] | rw [if_pos (by omega)]))
  by_cases b4 : v < 64
  · exact key 4 (by omega) (by omega) (by omega) (by omega) (by simp only [lenC]; repeat (first | rw [if_neg (by omega)] | rw [if_pos (by omega)]))
  by_cases b5 : v < 128
  · exact key 5 (by omega) (by omega) (by omega) (by omega) (by simp only [lenC]; repeat (first | rw [if_neg (by omega)] | rw [if_pos (by omega)]))
  by_cases b6 : v < 256
  · exact key 6 (by omega) (by omega) (by omega) (by omega) (by simp only [lenC]; repeat (first | rw [if_neg (by omega)] | rw [if_pos (by omega)]))
  by_cases b7 : v < 512
  · exact key 7 (by omega) (by omega) (by omega) (by omega) (by simp only [lenC]; repeat (first | rw [if_neg (by omega)] | rw [if_pos (by omega)]))
  by_cases b8 : v < 1024
  · exact key 8 (by omega) (by omega) (by omega) (by omega) (by simp only [lenC]; repeat (first | rw [if_neg (by omega)] | rw [if_pos (by omega)]))
  by_cases b9 : v < 2048
  · exact key 9 (by omega) (by omega) (by omega) (by omega) (by simp only [lenC]; repeat (first | rw [if_neg (by omega)] | rw [if_pos (by omega)]))
  by_cases b10 : v < 4096
  · exact key 10 (by omega) (by omega) (by omega) (by omega) (by simp only [lenC]; repeat (first | rw [if_neg (by omega)] | rw [if_pos (by omega)]))
  by_cases b11 : v < 8192
  · exact key 11 (by omega) (by omega) (by omega) (by omega) (by simp only [lenC]; repeat (first | rw [if_neg (by omega)] | rw [if_pos (by omega)]))
  by_cases b12 : v < 16384
  · exact key 12 (by omega) (by omega) (by omega) (by omega) (by simp only [lenC]; repeat (first | rw [if_neg (by omega)] | rw [if_pos (by omega)]))
  · exact key 13 (by omega) (by omega) (by omega) (by omega) (by simp only [lenC]; repeat (first | rw [if_neg (by omega)] | rw [if_pos (by omega)]))

theorem class_mono {v w : Nat} (h : v ≤ w) (hw : w < 32768) : classC v ≤ classC w := by
  obtain ⟨c1, c2⟩ := class_is v (by omega)
  obtain ⟨d1, d2⟩ := class_is w hw
  have d3 : w % 2 ^ bitsC (classC w) < 2 ^ bitsC (classC w) := Nat.mod_lt _ (Nat.pow_pos (by omega))
  have d4 := baseC_next (classC w) d1
  by_cases g : classC w < classC v
  · have := baseC_mono (m := classC w + 1) (n := classC v) (by omega) (by omega)
    omega
  omega
end SymP
end Go.Proofs.YtaknladkodibaaaGreatDoor
