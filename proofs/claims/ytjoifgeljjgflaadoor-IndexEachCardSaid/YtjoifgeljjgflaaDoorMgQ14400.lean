/- Plain mathematics of layer 1: turns of a number, the table, and what a sum goes on to. -/
namespace Go.Proofs.YtjoifgeljjgflaaDoor.CrcP

/-- One turn. -/
def turn (n : Nat) : Nat := if n % 2 = 1 then n / 2 ^^^ 3988292384 else n / 2
/-- k turns, one behind the other. -/
def turns : Nat → Nat → Nat
  | 0, n => n
  | k + 1, n => turn (turns k n)

theorem turn_lt {n : Nat} (h : n < 4294967296) : turn n < 4294967296 := by
  unfold turn
  split
  · exact Nat.xor_lt_two_pow (n := 32) (by omega) (by omega)
  · omega
theorem turns_lt {n : Nat} (h : n < 4294967296) : ∀ k, turns k n < 4294967296
  | 0 => h
  | k + 1 => turn_lt (turns_lt h k)

theorem xor_div2 (a b : Nat) : (a ^^^ b) / 2 = a / 2 ^^^ b / 2 := by
  have := Nat.shiftRight_xor_distrib (a := a) (b := b) (i := 1)
  simpa [Nat.shiftRight_eq_div_pow] using this
theorem xor_mod2 (a b : Nat) : (a ^^^ b) % 2 = (a % 2 + b % 2) % 2 := by
  have h := Nat.xor_mod_two_pow (a := a) (b := b) (n := 1)
  simp only [Nat.pow_one] at h
  rw [h]
  rcases Nat.mod_two_eq_zero_or_one a with ha | ha <;> rcases Nat.mod_two_eq_zero_or_one b with hb | hb <;> simp [ha, hb]

theorem xor_right_comm (a b c : Nat) : a ^^^ b ^^^ c = a ^^^ c ^^^ b := by
  rw [Nat.xor_assoc, Nat.xor_comm b c, ← Nat.xor_assoc]

theorem turn_xor (a b : Nat) : turn (a ^^^ b) = turn a ^^^ turn b := by
  unfold turn
  rw [xor_div2, xor_mod2]
  rcases Nat.mod_two_eq_zero_or_one a with ha | ha <;> rcases Nat.mod_two_eq_zero_or_one b with hb | hb <;> simp [ha, hb]
  · rw [Nat.xor_assoc]
  · rw [xor_right_comm]
  · rw [Nat.xor_assoc, ← Nat.xor_assoc 3988292384, Nat.xor_comm 3988292384, Nat.xor_assoc (b / 2), Nat.xor_self, Nat.xor_zero]

theorem turns_xor (a b : Nat) : ∀ k, turns k (a ^^^ b) = turns k a ^^^ turns k b
  | 0 => rfl
  | k + 1 => by rw [turns, turns, turns, turns_xor a b k, turn_xor]

theorem turns_add (j n : Nat) : ∀ k, turns (k + j) n = turns k (turns j n)
  | 0 => by rw [Nat.zero_add]; rfl
  | k + 1 => by rw [Nat.add_right_comm, turns, turns, turns_add j n k]

theorem xor_eq_zero {a b : Nat} (h : a ^^^ b = 0) : a = b := by
  have e : (a ^^^ b) ^^^ b = b := by rw [h, Nat.zero_xor]
  rwa [Nat.xor_assoc, Nat.xor_self, Nat.xor_zero] at e

/-- A turn leads nothing but 0 to 0. -/
theorem turn_eq_zero {n : Nat} (h : n < 4294967296) (e : turn n = 0) : n = 0 := by
  unfold turn at e
  split at e
  · have := xor_eq_zero e
    omega
  · omega
theorem turns_eq_zero {n : Nat} (h : n < 4294967296) : ∀ k, turns k n = 0 → n = 0
  | 0, e => e
  | k + 1, e => turns_eq_zero h k (turn_eq_zero (turns_lt h k) e)
theorem turns_zero : ∀ k, turns k 0 = 0
  | 0 => rfl
  | k + 1 => by rw [turns, turns_zero k]; rfl

/-- Turns of a number that has only zeros in its lowest bits: they fall off. -/
theorem turns_shift : ∀ (k m : Nat), turns k (m * 2 ^ k) = m
  | 0, m => by simp [turns]
  | k + 1, m => by
    have e : m * 2 ^ (k + 1) = (m * 2) * 2 ^ k := by rw [Nat.pow_succ, Nat.mul_comm (2 ^ k) 2, Nat.mul_assoc]
    rw [turns, e, turns_shift k (m * 2)]
    unfold turn
    rw [if_neg (by omega)]
    omega

/-- The table's number at i. -/
def tabAt (i : Nat) : Nat := turns 8 i
/-- A sum goes on by a byte. -/
def goStep (n x : Nat) : Nat := tabAt (n % 256 ^^^ x) ^^^ n / 256
theorem goStep_turns (n x : Nat) (hx : x < 256) : goStep n x = turns 8 (n ^^^ x) := by
  have e : n ^^^ x = (n % 256 ^^^ x) ^^^ (n / 256 * 2 ^ 8) := by
    apply Nat.eq_of_testBit_eq
    intro i
    have h1 : (n % 256).testBit i = (decide (i < 8) && n.testBit i) := by
      rw [show (256 : Nat) = 2 ^ 8 from rfl, Nat.testBit_mod_two_pow]
    have h2 : (n / 256 * 2 ^ 8).testBit i = (decide (8 ≤ i) && n.testBit i) := by
      rw [Nat.testBit_mul_two_pow, show (256 : Nat) = 2 ^ 8 from rfl, Nat.testBit_div_two_pow]
      by_cases h : 8 ≤ i
      · rw [show i - 8 + 8 = i by omega]
      · simp [h]
    simp only [Nat.testBit_xor, h1, h2]
    by_cases h : i < 8
    · have : ¬ 8 ≤ i := by omega
      simp [h, this]
    · have h8 : 8 ≤ i := by omega
      have hxi : x.testBit i = false := Nat.testBit_lt_two_pow (Nat.lt_of_lt_of_le hx (by rw [show (256 : Nat) = 2 ^ 8 from rfl]; exact Nat.pow_le_pow_right (by decide) h8))
      simp [h, h8, hxi]
  unfold goStep tabAt
  conv => rhs; rw [e, turns_xor, turns_shift]
theorem goStep_lt {n x : Nat} (h : n < 4294967296) (hx : x < 256) : goStep n x < 4294967296 := by
  rw [goStep_turns n x hx]
  exact turns_lt (Nat.xor_lt_two_pow (n := 32) (by omega) (by omega)) 8

/-- A number gone on by bytes. -/
def goN (n : Nat) (bs : List UInt8) : Nat := bs.foldl (fun n x => goStep n x.toNat) n
theorem goN_lt : ∀ (bs : List UInt8) {n : Nat}, n < 4294967296 → goN n bs < 4294967296
  | [], _, h => h
  | x :: r, _, h => goN_lt r (goStep_lt h (UInt8.toNat_lt x))
theorem goN_cons (n : Nat) (x : UInt8) (a : List UInt8) : goN n (x :: a) = goN (goStep n x.toNat) a := rfl

/-- The sum of bytes. -/
def sumN (bs : List UInt8) : Nat := goN 4294967295 bs ^^^ 4294967295
theorem sumN_lt (bs : List UInt8) : sumN bs < 4294967296 := Nat.xor_lt_two_pow (n := 32) (goN_lt bs (by omega)) (by omega)

end Go.Proofs.YtjoifgeljjgflaaDoor.CrcP
/- Plain mathematics of layer 1: bits of bytes, flips, and that a burst's sum is unlike. -/
namespace Go.Proofs.YtjoifgeljjgflaaDoor.CrcP

/-- The bit of a place (false behind the last byte). -/
def bitAt (bs : List UInt8) (p : Nat) : Bool := match bs[p / 8]? with
  | some x => x.toNat.testBit (p % 8)
  | none => false
/-- The bit of one place changed, if there is such a place. -/
def flipAt (bs : List UInt8) (p : Nat) : List UInt8 := match bs[p / 8]? with
  | some x => bs.set (p / 8) (UInt8.ofNat (x.toNat ^^^ 2 ^ (p % 8)))
  | none => bs
/-- The first k bits of a flip. -/
def flipK (bs : List UInt8) (at_ bits : Nat) : Nat → List UInt8
  | 0 => bs
  | k + 1 => if bits / 2 ^ k % 2 = 1 then flipAt (flipK bs at_ bits k) (at_ + k) else flipK bs at_ bits k

theorem length_flipAt (bs : List UInt8) (p : Nat) : (flipAt bs p).length = bs.length := by
  unfold flipAt
  split <;> simp
theorem length_flipK (bs : List UInt8) (a bits : Nat) : ∀ k, (flipK bs a bits k).length = bs.length
  | 0 => rfl
  | k + 1 => by
    unfold flipK
    split
    · rw [length_flipAt, length_flipK bs a bits k]
    · exact length_flipK bs a bits k

theorem byte_xor_lt (x : UInt8) {r : Nat} (hr : r < 8) : x.toNat ^^^ 2 ^ r < 256 :=
  Nat.xor_lt_two_pow (n := 8) (UInt8.toNat_lt x) (Nat.pow_lt_pow_right (by omega) hr)

theorem bitAt_flipAt (bs : List UInt8) (p q : Nat) (hq : q / 8 < bs.length) : bitAt (flipAt bs p) q = (bitAt bs q ^^ decide (q = p)) := by
  unfold flipAt
  split
  · rename_i x hx
    have hp := (List.getElem?_eq_some_iff.1 hx).1
    unfold bitAt
    rw [List.getElem?_set]
    by_cases h : p / 8 = q / 8
    · rw [if_pos h, if_pos (by omega), ← h, hx]
      have hlt : x.toNat ^^^ 2 ^ (p % 8) < 256 := byte_xor_lt x (by omega)
      simp only [UInt8.toNat_ofNat']
      rw [Nat.mod_eq_of_lt hlt, Nat.testBit_xor, Nat.testBit_two_pow]
      congr 1
      have : (p % 8 = q % 8) = (q = p) := propext ⟨fun e => by omega, fun e => by rw [e]⟩
      simp only [this]
    · rw [if_neg h]
      have : ¬ q = p := fun e => h (by rw [e])
      simp [this]
  · rename_i hx
    have hp : bs.length ≤ p / 8 := by simpa using hx
    have : ¬ q = p := fun e => by subst e; omega
    simp [this]

theorem bitAt_flipK (bs : List UInt8) (a bits q : Nat) (hq : q / 8 < bs.length) : ∀ k, bitAt (flipK bs a bits k) q = (bitAt bs q ^^ (decide (a ≤ q) && (decide (q < a + k) && bits.testBit (q - a))))
  | 0 => by
    have h0 : (decide (a ≤ q) && (decide (q < a + 0) && bits.testBit (q - a))) = false := by
      by_cases h : a ≤ q
      · have h2 : decide (q < a + 0) = false := by simp; omega
        rw [h2]; simp
      · simp [h]
    rw [h0, flipK, Bool.xor_false]
  | k + 1 => by
    have ih := bitAt_flipK bs a bits q hq k
    have hb : bits.testBit k = decide (bits / 2 ^ k % 2 = 1) := Nat.testBit_eq_decide_div_mod_eq
    unfold flipK
    split
    · rename_i h1
      rw [bitAt_flipAt _ _ _ (by rw [length_flipK]; exact hq), ih]
      by_cases e : q = a + k
      · subst e
        have : a + k - a = k := by omega
        simp [this, hb, h1]
      · by_cases h2 : a ≤ q
        · by_cases h3 : q < a + k
          · have : q < a + (k + 1) := by omega
            simp [e, h2, h3, this]
          · have : ¬ q < a + (k + 1) := by omega
            simp [e, h2, h3, this]
        · simp [e, h2]
    · rename_i h1
      rw [ih]
      by_cases e : q = a + k
      · subst e
        have : a + k - a = k := by omega
        simp [this, hb, h1]
      · by_cases h2 : a ≤ q
        · by_cases h3 : q < a + k
          · have : q < a + (k + 1) := by omega
            simp [h2, h3, this]
          · have : ¬ q < a + (k + 1) := by omega
            simp [h2, h3, this]
        · simp [h2]

/-- Bytes whose bits are the same are the same. -/
theorem bits_ext {a b : List UInt8} (hl : a.length = b.length) (h : ∀ q, q / 8 < a.length → bitAt a q = bitAt b q) : a = b := by
  apply List.ext_getElem hl
  intro i h1 h2
  apply UInt8.toNat_inj.1
  apply Nat.eq_of_testBit_eq
  intro r
  by_cases hr : r < 8
  · have hq := h (8 * i + r) (by omega)
    unfold bitAt at hq
    have e1 : (8 * i + r) / 8 = i := by omega
    have e2 : (8 * i + r) % 8 = r := by omega
    rw [e1, e2, List.getElem?_eq_getElem h1, List.getElem?_eq_getElem h2] at hq
    exact hq
  · have hx : ∀ x : UInt8, x.toNat.testBit r = false := fun x => Nat.testBit_lt_two_pow (Nat.lt_of_lt_of_le (UInt8.toNat_lt x) (Nat.pow_le_pow_right (by decide) (by omega)))
    rw [hx, hx]

/-- A number gone on by bits, the lowest first. -/
def serial (s : Nat) (L : List Bool) : Nat := L.foldl (fun s b => turn (s ^^^ b.toNat)) s
theorem serial_append (s : Nat) (a b : List Bool) : serial s (a ++ b) = serial (serial s a) b := List.foldl_append ..

/-- The lowest m bits of a number. -/
def lowBits (m x : Nat) : List Bool := (List.range m).map x.testBit
theorem lowBits_succ (m x : Nat) : lowBits (m + 1) x = x.testBit 0 :: lowBits m (x / 2) := by
  unfold lowBits
  rw [List.range_succ_eq_map, List.map_cons, List.map_map]
  congr 1
  apply List.map_congr_left
  intro i _
  simp [Nat.testBit_succ]

theorem turn_double (y : Nat) : turn (y * 2) = y := by
  unfold turn
  rw [if_neg (by omega)]
  omega
theorem low_xor (x : Nat) : x = (x % 2) ^^^ (x / 2 * 2) := by
  apply Nat.eq_of_testBit_eq
  intro i
  rw [Nat.testBit_xor]
  cases i with
  | zero => simp [Nat.testBit_zero]
  | succ i => simp [Nat.testBit_succ]

theorem turns_step' (k n : Nat) : turns (k + 1) n = turns k (turn n) := turns_add 1 n k
theorem turns_serial : ∀ (m n x : Nat), x < 2 ^ m → turns m (n ^^^ x) = serial n (lowBits m x)
  | 0, n, x, h => by
    have : x = 0 := by omega
    subst this
    rw [Nat.xor_zero]
    rfl
  | m + 1, n, x, h => by
    have hb : (x.testBit 0).toNat = x % 2 := by
      rw [Nat.testBit_zero]
      rcases Nat.mod_two_eq_zero_or_one x with h | h <;> simp [h]
    rw [turns_step', lowBits_succ]
    show _ = serial (turn (n ^^^ (x.testBit 0).toNat)) (lowBits m (x / 2))
    rw [hb, ← turns_serial m _ (x / 2) (by rw [Nat.pow_succ] at h; omega)]
    congr 1
    conv => lhs; rw [low_xor x, ← Nat.xor_assoc, turn_xor, turn_double]

/-- The bits of bytes, in order. -/
def allBits : List UInt8 → List Bool
  | [] => []
  | x :: r => lowBits 8 x.toNat ++ allBits r
theorem allBits_length : ∀ bs, (allBits bs).length = 8 * bs.length
  | [] => rfl
  | x :: r => by
    rw [allBits, List.length_append, allBits_length r, List.length_cons]
    simp [lowBits]
    omega
theorem allBits_get : ∀ (bs : List UInt8) (q : Nat), q < 8 * bs.length → (allBits bs)[q]? = some (bitAt bs q)
  | [], q, h => by simp at h
  | x :: r, q, h => by
    rw [allBits]
    have hl : (lowBits 8 x.toNat).length = 8 := by simp [lowBits]
    by_cases h8 : q < 8
    · rw [List.getElem?_append_left (by omega)]
      have e1 : q / 8 = 0 := by omega
      have e2 : q % 8 = q := by omega
      unfold bitAt lowBits
      rw [e1, e2]
      simp [h8]
    · rw [List.getElem?_append_right (by omega), hl, allBits_get r (q - 8) (by rw [List.length_cons] at h; omega)]
      unfold bitAt
      have e1 : q / 8 = (q - 8) / 8 + 1 := by omega
      have e2 : (q - 8) % 8 = q % 8 := by omega
      rw [e1, e2, List.getElem?_cons_succ]

theorem goN_serial : ∀ (bs : List UInt8) (n : Nat), goN n bs = serial n (allBits bs)
  | [], _ => rfl
  | x :: r, n => by
    rw [goN_cons, goStep_turns n x.toNat (UInt8.toNat_lt x), turns_serial 8 n x.toNat (UInt8.toNat_lt x), goN_serial r, allBits, serial_append]

theorem serial_xor : ∀ (L L' : List Bool) (s s' : Nat), L.length = L'.length → serial s L ^^^ serial s' L' = serial (s ^^^ s') (List.zipWith (· ^^ ·) L L')
  | [], [], _, _, _ => rfl
  | b :: L, b' :: L', s, s', h => by
    show serial (turn (s ^^^ b.toNat)) L ^^^ serial (turn (s' ^^^ b'.toNat)) L' = serial (turn (s ^^^ s' ^^^ (b ^^ b').toNat)) (List.zipWith (· ^^ ·) L L')
    rw [serial_xor L L' _ _ (by simpa using h), ← turn_xor]
    congr 2
    have : (b ^^ b').toNat = b.toNat ^^^ b'.toNat := by cases b <;> cases b' <;> rfl
    rw [this, Nat.xor_assoc, Nat.xor_assoc, ← Nat.xor_assoc b.toNat, Nat.xor_comm b.toNat s', Nat.xor_assoc s']
theorem serial_zeros (s : Nat) : ∀ k, serial s (List.replicate k false) = turns k s
  | 0 => rfl
  | k + 1 => by
    rw [List.replicate_succ]
    show serial (turn (s ^^^ false.toNat)) (List.replicate k false) = _
    rw [serial_zeros _ k, turns_step']
    simp

/-- Bits of which only a window of at most 32 may be set: what they go on to from 0 is 0 only if none is set. -/
theorem window (a m r x : Nat) (hm : m ≤ 32) (hx : x < 2 ^ m) : serial 0 (List.replicate a false ++ (lowBits m x ++ List.replicate r false)) = 0 ↔ x = 0 := by
  rw [serial_append, serial_append, serial_zeros 0 a, turns_zero, ← turns_serial m 0 x hx, serial_zeros, Nat.zero_xor]
  have h32 : x < 4294967296 := Nat.lt_of_lt_of_le hx (by rw [show (4294967296 : Nat) = 2 ^ 32 from rfl]; exact Nat.pow_le_pow_right (by decide) hm)
  constructor
  · intro h
    exact turns_eq_zero h32 m (turns_eq_zero (turns_lt h32 m) r h)
  · rintro rfl
    rw [turns_zero, turns_zero]

theorem xor_left_inj {a b c : Nat} (h : a ^^^ c = b ^^^ c) : a = b := by
  have := congrArg (· ^^^ c) h
  simp only [Nat.xor_assoc, Nat.xor_self, Nat.xor_zero] at this
  exact this

/-- A burst has an unlike sum. -/
theorem burst (bs : List UInt8) (a bits : Nat) (ha : a / 8 < bs.length) : sumN (flipK bs a bits 32) = sumN bs ↔ bs = flipK bs a bits 32 := by
  constructor
  · intro h
    have hg : goN 4294967295 (flipK bs a bits 32) = goN 4294967295 bs := xor_left_inj h
    rw [goN_serial, goN_serial] at hg
    have hz := serial_xor (allBits (flipK bs a bits 32)) (allBits bs) 4294967295 4294967295 (by rw [allBits_length, allBits_length, length_flipK])
    rw [hg, Nat.xor_self, Nat.xor_self] at hz
    have hD : List.zipWith (· ^^ ·) (allBits (flipK bs a bits 32)) (allBits bs) =
        List.replicate a false ++ (lowBits (min 32 (8 * bs.length - a)) (bits % 2 ^ (min 32 (8 * bs.length - a))) ++ List.replicate (8 * bs.length - a - min 32 (8 * bs.length - a)) false) := by
      have hal : a < 8 * bs.length := by omega
      generalize hm : min 32 (8 * bs.length - a) = m
      apply List.ext_getElem?
      intro q
      by_cases hq : q < 8 * bs.length
      · rw [List.getElem?_zipWith, allBits_get _ _ (by rw [length_flipK]; exact hq), allBits_get _ _ hq, bitAt_flipK _ _ _ _ (by omega)]
        simp only
        have hleft : (bitAt bs q ^^ (decide (a ≤ q) && (decide (q < a + 32) && bits.testBit (q - a))) ^^ bitAt bs q) = (decide (a ≤ q) && (decide (q < a + 32) && bits.testBit (q - a))) := by
          cases bitAt bs q <;> simp
        rw [hleft]
        by_cases h1 : q < a
        · rw [List.getElem?_append_left (by simpa using h1)]
          have : ¬ a ≤ q := by omega
          simp [this, h1]
        · rw [List.getElem?_append_right (by simp; omega)]
          have h1' : a ≤ q := by omega
          have hll : (lowBits m (bits % 2 ^ m)).length = m := by simp [lowBits]
          rw [List.length_replicate]
          by_cases h2 : q - a < m
          · rw [List.getElem?_append_left (by omega)]
            have h3 : q < a + 32 := by omega
            unfold lowBits
            simp [h1', h3, h2, Nat.testBit_mod_two_pow]
          · rw [List.getElem?_append_right (by omega), hll]
            have h3 : ¬ q < a + 32 := by omega
            rw [List.getElem?_replicate, if_pos (by omega)]
            simp [h3]
      · rw [List.getElem?_eq_none, List.getElem?_eq_none]
        · simp [lowBits]
          omega
        · rw [List.length_zipWith, allBits_length, allBits_length, length_flipK]
          omega
    rw [hD] at hz
    have hx := (window a _ _ _ (Nat.min_le_left _ _) (Nat.mod_lt _ (Nat.two_pow_pos _))).1 hz.symm
    apply bits_ext (by rw [length_flipK])
    intro q hq
    rw [bitAt_flipK _ _ _ _ hq]
    by_cases h1 : a ≤ q
    · by_cases h2 : q < a + 32
      · have ht := congrArg (fun y => Nat.testBit y (q - a)) hx
        simp only [Nat.zero_testBit, Nat.testBit_mod_two_pow] at ht
        have hqm : q - a < min 32 (8 * bs.length - a) := by omega
        simp only [hqm, decide_true, Bool.true_and] at ht
        simp [ht]
      · simp [h2]
    · simp [h1]
  · intro h
    rw [← h]

end Go.Proofs.YtjoifgeljjgflaaDoor.CrcP
