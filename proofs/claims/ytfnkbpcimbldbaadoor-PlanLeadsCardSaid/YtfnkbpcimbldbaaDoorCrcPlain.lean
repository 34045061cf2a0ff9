/- Plain mathematics of layer 1: turns of a number, the table, and what a sum goes on to. -/
namespace Go.Proofs.YtfnkbpcimbldbaaDoor.CrcP

def poly : Nat := 3988292384
/-- One turn. -/
def turn (n : Nat) : Nat := if n % 2 = 1 then n / 2 ^^^ 3988292384 else n / 2
/-- k turns, one behind the other. -/
def turns : Nat → Nat → Nat
  | 0, n => n
  | k + 1, n => turn (turns k n)

theorem turn_lt {n : Nat} (h : n < 4294967296) : turn n < 4294967296 := by
  unfold turn
  split
  · exact Nat.xor_lt_two_pow (n := 32) (by omega) (by omega)
  · omega
theorem turns_lt {n : Nat} (h : n < 4294967296) : ∀ k, turns k n < 4294967296
  | 0 => h
  | k + 1 => turn_lt (turns_lt h k)

theorem turn_zero : turn 0 = 0 := rfl

theorem xor_div2 (a b : Nat) : (a ^^^ b) / 2 = a / 2 ^^^ b / 2 := by
  have := Nat.shiftRight_xor_distrib (a := a) (b := b) (i := 1)
  simpa [Nat.shiftRight_eq_div_pow] using this
theorem xor_mod2 (a b : Nat) : (a ^^^ b) % 2 = (a % 2 + b % 2) % 2 := by
  have h := Nat.xor_mod_two_pow (a := a) (b := b) (n := 1)
  simp only [Nat.pow_one] at h
  rw [h]
  rcases Nat.mod_two_eq_zero_or_one a with ha | ha <;> rcases Nat.mod_two_eq_zero_or_one b with hb | hb <;> simp [ha, hb]

theorem xor_right_comm (a b c : Nat) : a ^^^ b ^^^ c = a ^^^ c ^^^ b := by
  rw [Nat.xor_assoc, Nat.xor_comm b c, ← Nat.xor_assoc]

theorem turn_xor (a b : Nat) : turn (a ^^^ b) = turn a ^^^ turn b := by
  unfold turn
  rw [xor_div2, xor_mod2]
  rcases Nat.mod_two_eq_zero_or_one a with ha | ha <;> rcases Nat.mod_two_eq_zero_or_one b with hb | hb <;> simp [ha, hb]
  · rw [Nat.xor_assoc]
  · rw [xor_right_comm]
  · rw [Nat.xor_assoc, ← Nat.xor_assoc 3988292384, Nat.xor_comm 3988292384, Nat.xor_assoc (b / 2), Nat.xor_self, Nat.xor_zero]

theorem turns_xor (a b : Nat) : ∀ k, turns k (a ^^^ b) = turns k a ^^^ turns k b
  | 0 => rfl
  | k + 1 => by rw [turns, turns, turns, turns_xor a b k, turn_xor]

theorem turns_add (j n : Nat) : ∀ k, turns (k + j) n = turns k (turns j n)
  | 0 => by rw [Nat.zero_add]; rfl
  | k + 1 => by rw [Nat.add_right_comm, turns, turns, turns_add j n k]

theorem xor_eq_zero {a b : Nat} (h : a ^^^ b = 0) : a = b := by
  have e : (a ^^^ b) ^^^ b = b := by rw [h, Nat.zero_xor]
  rwa [Nat.xor_assoc, Nat.xor_self, Nat.xor_zero] at e

/-- A turn leads nothing but 0 to 0. -/
theorem turn_eq_zero {n : Nat} (h : n < 4294967296) (e : turn n = 0) : n = 0 := by
  unfold turn at e
  split at e
  · have := xor_eq_zero e
    omega
  · omega
theorem turns_eq_zero {n : Nat} (h : n < 4294967296) : ∀ k, turns k n = 0 → n = 0
  | 0, e => e
  | k + 1, e => turns_eq_zero h k (turn_eq_zero (turns_lt h k) e)
theorem turns_zero : ∀ k, turns k 0 = 0
  | 0 => rfl
  | k + 1 => by rw [turns, turns_zero k]; rfl

/-- Turns of a number that has only zeros in its lowest bits: they fall off. -/
theorem turns_shift : ∀ (k m : Nat), turns k (m * 2 ^ k) = m
  | 0, m => by simp [turns]
  | k + 1, m => by
    have e : m * 2 ^ (k + 1) = (m * 2) * 2 ^ k := by rw [Nat.pow_succ, Nat.mul_comm (2 ^ k) 2, Nat.mul_assoc]
    rw [turns, e, turns_shift k (m * 2)]
    unfold turn
    rw [if_neg (by omega)]
    omega

/-- The table's number at i. -/
def tabAt (i : Nat) : Nat := turns 8 i
theorem tabAt_lt {i : Nat} (h : i < 256) : tabAt i < 4294967296 := turns_lt (by omega) 8

/-- A sum goes on by a byte. -/
def goStep (n x : Nat) : Nat := tabAt (n % 256 ^^^ x) ^^^ n / 256
theorem goStep_turns (n x : Nat) (hx : x < 256) : goStep n x = turns 8 (n ^^^ x) := by
  have e : n ^^^ x = (n % 256 ^^^ x) ^^^ (n / 256 * 2 ^ 8) := by
    apply Nat.eq_of_testBit_eq
    intro i
    have h1 : (n % 256).testBit i = (decide (i < 8) && n.testBit i) := by
      rw [show (256 : Nat) = 2 ^ 8 from rfl, Nat.testBit_mod_two_pow]
    have h2 : (n / 256 * 2 ^ 8).testBit i = (decide (8 ≤ i) && n.testBit i) := by
      rw [Nat.testBit_mul_two_pow, show (256 : Nat) = 2 ^ 8 from rfl, Nat.testBit_div_two_pow]
      by_cases h : 8 ≤ i
      · rw [show i - 8 + 8 = i by omega]
      · simp [h]
    simp only [Nat.testBit_xor, h1, h2]
    by_cases h : i < 8
    · have : ¬ 8 ≤ i := by omega
      simp [h, this]
    · have h8 : 8 ≤ i := by omega
      have hxi : x.testBit i = false := Nat.testBit_lt_two_pow (Nat.lt_of_lt_of_le hx (by rw [show (256 : Nat) = 2 ^ 8 from rfl]; exact Nat.pow_le_pow_right (by decide) h8))
      simp [h, h8, hxi]
  unfold goStep tabAt
  conv => rhs; rw [e, turns_xor, turns_shift]
theorem goStep_lt {n x : Nat} (h : n < 4294967296) (hx : x < 256) : goStep n x < 4294967296 := by
  rw [goStep_turns n x hx]
  exact turns_lt (Nat.xor_lt_two_pow (n := 32) (by omega) (by omega)) 8

/-- A number gone on by bytes. -/
def goN (n : Nat) (bs : List UInt8) : Nat := bs.foldl (fun n x => goStep n x.toNat) n
theorem goN_lt : ∀ (bs : List UInt8) {n : Nat}, n < 4294967296 → goN n bs < 4294967296
  | [], _, h => h
  | x :: r, _, h => goN_lt r (goStep_lt h (UInt8.toNat_lt x))
theorem goN_append (n : Nat) (a b : List UInt8) : goN n (a ++ b) = goN (goN n a) b := List.foldl_append ..
theorem goN_snoc (n : Nat) (a : List UInt8) (x : UInt8) : goN n (a ++ [x]) = goStep (goN n a) x.toNat := by rw [goN_append]; rfl
theorem goN_cons (n : Nat) (x : UInt8) (a : List UInt8) : goN n (x :: a) = goN (goStep n x.toNat) a := rfl

/-- The sum of bytes. -/
def sumN (bs : List UInt8) : Nat := goN 4294967295 bs ^^^ 4294967295
theorem sumN_lt (bs : List UInt8) : sumN bs < 4294967296 := Nat.xor_lt_two_pow (n := 32) (goN_lt bs (by omega)) (by omega)

theorem xor_all {n : Nat} (h : n < 4294967296) : n ^^^ 4294967295 = 4294967295 - n := by
  have e : (4294967295 : Nat) - n = 2 ^ 32 - (n + 1) := by omega
  have e2 : (4294967295 : Nat) = 2 ^ 32 - (0 + 1) := by omega
  rw [e]
  conv => lhs; rw [e2]
  apply Nat.eq_of_testBit_eq
  intro i
  rw [Nat.testBit_xor, Nat.testBit_two_pow_sub_succ (by omega), Nat.testBit_two_pow_sub_succ (by omega)]
  by_cases hi : i < 32
  · simp [hi]
  · have : n.testBit i = false := Nat.testBit_lt_two_pow (Nat.lt_of_lt_of_le h (by rw [show (4294967296 : Nat) = 2 ^ 32 from rfl]; exact Nat.pow_le_pow_right (by decide) (by omega)))
    simp [hi, this]

/-- The chapter's example. -/
theorem sum_example : sumN [49, 50, 51, 52, 53, 54, 55, 56, 57] = 3421780262 := by decide +kernel

end Go.Proofs.YtfnkbpcimbldbaaDoor.CrcP
