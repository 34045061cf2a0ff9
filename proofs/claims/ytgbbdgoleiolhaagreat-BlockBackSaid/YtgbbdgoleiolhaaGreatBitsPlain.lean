/- Bits, plainly: of a number, as a number, in bytes. -/
import Derived.IntWalk
namespace Go.Proofs.YtgbbdgoleiolhaaGreat.BitsP

/-- How many bits a number has. -/
def cnt (b : Int) : Nat := if b < 0 then 0 else if 32 < b then 32 else b.toNat
theorem cnt_le (b : Int) : cnt b ≤ 32 := by unfold cnt; split <;> (try split) <;> omega
theorem cnt_of {b : Int} (h1 : 0 ≤ b) (h4 : b ≤ 32) : (cnt b : Int) = b := by unfold cnt; rw [if_neg (by omega), if_neg (by omega)]; omega
theorem cnt_nat {k : Nat} (h : k ≤ 32) : cnt (k : Int) = k := by have := cnt_of (b := (k : Int)) (by omega) (by omega); omega

/-- 2 to the k. -/
def p2 : Nat → Nat
  | 0 => 1
  | k + 1 => 2 * p2 k
theorem p2_pow (k : Nat) : p2 k = 2 ^ k := by
  induction k with
  | zero => rfl
  | succ k ih => rw [p2, ih, Nat.pow_succ, Nat.mul_comm]
theorem p2_pos (k : Nat) : 0 < p2 k := by rw [p2_pow]; exact Nat.two_pow_pos k
theorem p2_add (a b : Nat) : p2 (a + b) = p2 a * p2 b := by rw [p2_pow, p2_pow, p2_pow, Nat.pow_add]
theorem p2_le {a b : Nat} (h : a ≤ b) : p2 a ≤ p2 b := by rw [p2_pow, p2_pow]; exact Nat.pow_le_pow_right (by omega) h

/-- A bit's value. -/
def bit (b : Bool) : Nat := if b then 1 else 0
theorem bit_le (b : Bool) : bit b ≤ 1 := by cases b <;> decide

/-- Bits as a number, the lowest first. -/
def num : List Bool → Nat
  | [] => 0
  | b :: l => bit b + 2 * num l
theorem num_lt (l : List Bool) : num l < p2 l.length := by
  induction l with
  | nil => exact Nat.one_pos
  | cons b l ih =>
    have := bit_le b
    rw [num, List.length_cons, p2]
    omega
theorem num_append (a b : List Bool) : num (a ++ b) = num a + p2 a.length * num b := by
  induction a with
  | nil => simp [num, p2]
  | cons x l ih => rw [List.cons_append, num, ih, num, List.length_cons, p2, Nat.mul_add, Nat.mul_assoc, Nat.add_assoc]
theorem num_take (l : List Bool) (k : Nat) : num (l.take k) = num l % p2 k := by
  by_cases h : k ≤ l.length
  · have h1 := num_append (l.take k) (l.drop k)
    rw [List.take_append_drop, List.length_take, Nat.min_eq_left h] at h1
    have h2 := num_lt (l.take k)
    rw [List.length_take, Nat.min_eq_left h] at h2
    rw [h1, Nat.add_mul_mod_self_left, Nat.mod_eq_of_lt h2]
  · rw [List.take_of_length_le (by omega), Nat.mod_eq_of_lt]
    exact Nat.lt_of_lt_of_le (num_lt l) (p2_le (by omega))
theorem num_drop (l : List Bool) (k : Nat) : num (l.drop k) = num l / p2 k := by
  by_cases h : k ≤ l.length
  · have h1 := num_append (l.take k) (l.drop k)
    rw [List.take_append_drop, List.length_take, Nat.min_eq_left h] at h1
    have h2 := num_lt (l.take k)
    rw [List.length_take, Nat.min_eq_left h] at h2
    rw [h1, Nat.add_mul_div_left _ _ (p2_pos k), Nat.div_eq_of_lt h2, Nat.zero_add]
  · rw [List.drop_of_length_le (by omega), Nat.div_eq_of_lt]
    · rfl
    · exact Nat.lt_of_lt_of_le (num_lt l) (p2_le (by omega))

/-- The lowest k bits of a number. -/
def bitsOf (n : Nat) : Nat → List Bool
  | 0 => []
  | k + 1 => decide (n % 2 = 1) :: bitsOf (n / 2) k
theorem bitsOf_length (n k : Nat) : (bitsOf n k).length = k := by
  induction k generalizing n with
  | zero => rfl
  | succ k ih => rw [bitsOf, List.length_cons, ih]
theorem num_bitsOf (n k : Nat) : num (bitsOf n k) = n % p2 k := by
  induction k generalizing n with
  | zero => simp [bitsOf, num, p2, Nat.mod_one]
  | succ k ih =>
    rw [bitsOf, num, ih, p2, Nat.mod_mul]
    congr 1
    unfold bit
    by_cases h : n % 2 = 1
    · simp [h]
    · have : n % 2 = 0 := by omega
      simp [this]
theorem num_inj {a b : List Bool} (hl : a.length = b.length) (h : num a = num b) : a = b := by
  induction a generalizing b with
  | nil => exact (List.eq_nil_of_length_eq_zero (by simpa using hl.symm)).symm
  | cons x l ih =>
    cases b with
    | nil => simp at hl
    | cons y m =>
      rw [num, num] at h
      have hx : bit x = bit y := by
        have := bit_le x
        have := bit_le y
        omega
      have hm : num l = num m := by omega
      rw [ih (by simpa using hl) hm]
      congr 1
      revert hx
      cases x <;> cases y <;> simp [bit]
theorem bitsOf_num (l : List Bool) : bitsOf (num l) l.length = l := by
  apply num_inj (bitsOf_length _ _)
  rw [num_bitsOf, Nat.mod_eq_of_lt (num_lt l)]
theorem bitsOf_add (n a b : Nat) : bitsOf n (a + b) = bitsOf n a ++ bitsOf (n / p2 a) b := by
  apply num_inj
  · rw [bitsOf_length, List.length_append, bitsOf_length, bitsOf_length]
  · rw [num_append, num_bitsOf, num_bitsOf, num_bitsOf, bitsOf_length, p2_add, Nat.mod_mul]
/-- A number's next bit. -/
theorem bitsOf_snoc (n k : Nat) : bitsOf n (k + 1) = bitsOf n k ++ [decide (n / p2 k % 2 = 1)] := by
  rw [bitsOf_add]
  rfl

/-- The bits of bytes. -/
def unpack : List UInt8 → List Bool
  | [] => []
  | x :: l => bitsOf x.toNat 8 ++ unpack l
theorem unpack_append (a b : List UInt8) : unpack (a ++ b) = unpack a ++ unpack b := by
  induction a with
  | nil => rfl
  | cons x l ih => rw [List.cons_append, unpack, ih, unpack, List.append_assoc]
theorem unpack_length (a : List UInt8) : (unpack a).length = 8 * a.length := by
  induction a with
  | nil => rfl
  | cons x l ih => rw [unpack, List.length_append, bitsOf_length, ih, List.length_cons]; omega
theorem unpack_one {a : List Bool} (h : a.length = 8) : unpack [UInt8.ofNat (num a)] = a := by
  rw [unpack, unpack, List.append_nil]
  have h1 := num_lt a
  rw [h] at h1
  have h2 : p2 8 = 256 := rfl
  have : (UInt8.ofNat (num a)).toNat = num a := by simp [UInt8.toNat_ofNat']; omega
  rw [this, ← h]
  exact bitsOf_num a
theorem unpack_drop (bs : List UInt8) (i : Nat) : unpack (bs.drop i) = (unpack bs).drop (8 * i) := by
  induction bs generalizing i with
  | nil => simp [unpack]
  | cons x l ih =>
    cases i with
    | zero => rfl
    | succ i =>
      have hl : (bitsOf x.toNat 8).length = 8 := bitsOf_length _ _
      rw [List.drop_succ_cons, ih, unpack, List.drop_append, hl, List.drop_of_length_le (l := bitsOf x.toNat 8) (by rw [hl]; omega)]
      rw [show 8 * (i + 1) - 8 = 8 * i by omega, List.nil_append]
theorem unpack_take (bs : List UInt8) (i : Nat) : unpack (bs.take i) = (unpack bs).take (8 * i) := by
  induction bs generalizing i with
  | nil => simp [unpack]
  | cons x l ih =>
    cases i with
    | zero => rfl
    | succ i =>
      have hl : (bitsOf x.toNat 8).length = 8 := bitsOf_length _ _
      rw [List.take_succ_cons, unpack, ih, unpack, List.take_append, hl, List.take_of_length_le (l := bitsOf x.toNat 8) (by rw [hl]; omega)]
      rw [show 8 * (i + 1) - 8 = 8 * i by omega]
theorem unpack_inj {a b : List UInt8} (h : unpack a = unpack b) : a = b := by
  induction a generalizing b with
  | nil =>
    have := congrArg List.length h
    rw [unpack_length, unpack_length] at this
    exact (List.eq_nil_of_length_eq_zero (by simp at this; omega)).symm
  | cons x l ih =>
    cases b with
    | nil =>
      have := congrArg List.length h
      rw [unpack_length, unpack_length] at this
      simp at this
    | cons y m =>
      rw [unpack, unpack] at h
      have h1 := (List.append_inj h (by rw [bitsOf_length, bitsOf_length])).1
      have h2 := (List.append_inj h (by rw [bitsOf_length, bitsOf_length])).2
      have h3 := congrArg num h1
      rw [num_bitsOf, num_bitsOf, show p2 8 = 256 from rfl, Nat.mod_eq_of_lt (UInt8.toNat_lt x), Nat.mod_eq_of_lt (UInt8.toNat_lt y)] at h3
      rw [ih h2, UInt8.toNat_inj.1 h3]

/-- Bits as whole bytes, and the rest. -/
def Split (L : List Bool) (whole : List UInt8) (R : List Bool) : Prop := L = unpack whole ++ R ∧ R.length < 8
theorem Split.length {L : List Bool} {whole : List UInt8} {R : List Bool} (h : Split L whole R) : L.length = 8 * whole.length + R.length := by rw [h.1, List.length_append, unpack_length]
theorem Split.unique {L : List Bool} {w1 w2 : List UInt8} {R1 R2 : List Bool} (h1 : Split L w1 R1) (h2 : Split L w2 R2) : w1 = w2 ∧ R1 = R2 := by
  have e1 := h1.length
  have e2 := h2.length
  have := h1.2
  have := h2.2
  have hw : w1.length = w2.length := by omega
  have h := h1.1.symm.trans h2.1
  obtain ⟨a, b⟩ := List.append_inj h (by rw [unpack_length, unpack_length, hw])
  exact ⟨unpack_inj a, b⟩
theorem Split.nil : Split [] [] [] := ⟨rfl, by decide⟩
/-- All bits as bytes, with as many 0 behind them as it takes. -/
def pk (whole : List UInt8) (R : List Bool) : List UInt8 := whole ++ (if R = [] then [] else [UInt8.ofNat (num R)])
theorem pk_nil (whole : List UInt8) : pk whole [] = whole := by simp [pk]
theorem pk_some {whole : List UInt8} {R : List Bool} (h : R ≠ []) : pk whole R = whole ++ [UInt8.ofNat (num R)] := by simp [pk, h]

/-- Bits as bytes 0 and 1. -/
def bitBytes (L : List Bool) : List UInt8 := L.map fun b => if b then 1 else 0
theorem bitBytes_length (L : List Bool) : (bitBytes L).length = L.length := by simp [bitBytes]
theorem bitBytes_append (a b : List Bool) : bitBytes (a ++ b) = bitBytes a ++ bitBytes b := by simp [bitBytes]
theorem bitBytes_get {L : List Bool} {i : Nat} {b : Bool} (h : L[i]? = some b) : (bitBytes L)[i]? = some (if b then 1 else 0) := by simp [bitBytes, h]
theorem bit_byte (n : Nat) : UInt8.ofNat (n % 2) = if decide (n % 2 = 1) then 1 else 0 := by
  have h : n % 2 = 0 ∨ n % 2 = 1 := by omega
  rcases h with h | h <;> simp [h]

/-- How many bits lack for a whole byte. -/
def lack (n : Nat) : Nat := (8 - n % 8) % 8
def zeros (n : Nat) : List Bool := List.replicate n false
theorem zeros_bits (k : Nat) : bitsOf 0 k = zeros k := by
  induction k with
  | zero => rfl
  | succ k ih => rw [bitsOf, ih]; rfl
theorem num_zeros (k : Nat) : num (zeros k) = 0 := by
  induction k with
  | zero => rfl
  | succ k ih =>
    show bit false + 2 * num (zeros k) = 0
    rw [ih]
    rfl
/-- All bits as bytes. -/
def splitN : Nat → List Bool → List UInt8 × List Bool
  | 0, L => ([], L)
  | n + 1, L => if L.length < 8 then ([], L) else (UInt8.ofNat (num (L.take 8)) :: (splitN n (L.drop 8)).1, (splitN n (L.drop 8)).2)
theorem splitN_split (n : Nat) (L : List Bool) (h : L.length < 8 * (n + 1)) : Split L (splitN n L).1 (splitN n L).2 := by
  induction n generalizing L with
  | zero => exact ⟨rfl, by simpa [splitN] using h⟩
  | succ n ih =>
    by_cases h8 : L.length < 8
    · rw [splitN, if_pos h8]
      exact ⟨rfl, h8⟩
    · rw [splitN, if_neg h8]
      obtain ⟨h1, h2⟩ := ih (L.drop 8) (by rw [List.length_drop]; omega)
      refine ⟨?_, h2⟩
      have e : ∀ (x : UInt8) (l : List UInt8), unpack (x :: l) = unpack [x] ++ unpack l := fun x l => by rw [unpack, unpack, unpack, List.append_nil]
      show L = unpack (_ :: _) ++ _
      rw [e, unpack_one (by rw [List.length_take]; omega), List.append_assoc, ← h1, List.take_append_drop]
def pack (L : List Bool) : List UInt8 := pk (splitN L.length L).1 (splitN L.length L).2
theorem pack_eq {L : List Bool} {w : List UInt8} {R : List Bool} (h : Split L w R) : pack L = pk w R := by
  obtain ⟨h1, h2⟩ := (splitN_split L.length L (by omega)).unique h
  unfold pack
  rw [h1, h2]
theorem pack_length (L : List Bool) : (pack L).length ≤ L.length := by
  have h := splitN_split L.length L (by omega)
  have hl := h.length
  unfold pack pk
  rw [List.length_append]
  by_cases hr : (splitN L.length L).2 = []
  · rw [if_pos hr]
    simp
    omega
  · rw [if_neg hr]
    have : 0 < ((splitN L.length L).2).length := List.length_pos_iff.2 hr
    simp
    omega
/-- Five bytes are enough for any 32 bits. -/
theorem peek_eq (bs : List UInt8) (p q f r : Nat) (hp : p = 8 * f + r) (hr : r < 8) (hq : q ≤ 32) : (num (unpack ((bs.drop f).take 5)) / p2 r) % p2 q = num (((unpack bs).drop p).take q) := by
  rw [← num_drop, ← num_take]
  congr 1
  rw [unpack_take, unpack_drop, List.drop_take, List.take_take, List.drop_drop, Nat.min_eq_left (by omega), ← hp]
theorem num_unpack_snoc (W : List UInt8) (k : Nat) (x : UInt8) (h : W[k]? = some x) : num (unpack (W.take (k + 1))) = num (unpack (W.take k)) + p2 (8 * k) * x.toNat := by
  have hk : k < W.length := (List.getElem?_eq_some_iff.1 h).1
  have hx : num (unpack [x]) = x.toNat := by
    rw [unpack, unpack, List.append_nil, num_bitsOf]
    exact Nat.mod_eq_of_lt (UInt8.toNat_lt x)
  rw [List.take_add_one, h, unpack_append, num_append, unpack_length, List.length_take, Nat.min_eq_left (by omega)]
  show _ + _ * num (unpack [x]) = _
  rw [hx]
theorem num_unpack_lt (W : List UInt8) (k : Nat) : num (unpack (W.take k)) < p2 (8 * k) := by
  have h := num_lt (unpack (W.take k))
  rw [unpack_length, List.length_take] at h
  exact Nat.lt_of_lt_of_le h (p2_le (by omega))
/-- A bit more of some bits, from a place on. -/
theorem num_from_some {L : List Bool} {a i : Nat} {b : Bool} (h : L[a + i]? = some b) : num ((L.drop a).take (i + 1)) = num ((L.drop a).take i) + p2 i * bit b := by
  have hlt := (List.getElem?_eq_some_iff.1 h).1
  rw [List.take_add_one, List.getElem?_drop, h, num_append, List.length_take, List.length_drop, Nat.min_eq_left (by omega)]
  simp [num]
theorem num_from_none {L : List Bool} {a i : Nat} (h : L.length ≤ a + i) : num ((L.drop a).take (i + 1)) = num ((L.drop a).take i) := by
  rw [List.take_of_length_le (by rw [List.length_drop]; omega), List.take_of_length_le (by rw [List.length_drop]; omega)]
theorem num_from_lt (L : List Bool) (a i : Nat) : num ((L.drop a).take i) < p2 i := by
  have h := num_lt ((L.drop a).take i)
  exact Nat.lt_of_lt_of_le h (p2_le (by rw [List.length_take]; omega))
theorem pack_unpack (L : List Bool) : unpack (pack L) = L ++ zeros (lack L.length) := by
  have h := splitN_split L.length L (by omega)
  rw [pack_eq h]
  generalize (splitN L.length L).1 = w at *
  generalize (splitN L.length L).2 = R at *
  obtain ⟨h1, h2⟩ := h
  have hl : L.length = 8 * w.length + R.length := by rw [h1, List.length_append, unpack_length]
  by_cases hr : R = []
  · subst hr
    rw [pk_nil, h1, List.append_nil]
    have : lack (unpack w).length = 0 := by unfold lack; rw [unpack_length]; omega
    rw [this]
    exact (List.append_nil _).symm
  · rw [pk_some hr, unpack_append]
    have hpos : 0 < R.length := List.length_pos_iff.2 hr
    have h3 : unpack [UInt8.ofNat (num R)] = bitsOf (num R) 8 := by
      rw [unpack, unpack, List.append_nil]
      have h4 := num_lt R
      have h5 := p2_le (show R.length ≤ 7 by omega)
      have h6 : p2 7 = 128 := rfl
      have : (UInt8.ofNat (num R)).toNat = num R := by simp [UInt8.toNat_ofNat']; omega
      rw [this]
    have h4 : bitsOf (num R) 8 = R ++ zeros (lack L.length) := by
      have e : 8 = R.length + (8 - R.length) := by omega
      have e2 : lack L.length = 8 - R.length := by unfold lack; omega
      rw [e2]
      conv => lhs; rw [e]
      rw [bitsOf_add, bitsOf_num, Nat.div_eq_of_lt (num_lt R), zeros_bits]
    rw [h3, h4, h1, List.append_assoc]
theorem pack_size (L : List Bool) : 8 * (pack L).length = L.length + lack L.length := by
  have h := congrArg List.length (pack_unpack L)
  rw [unpack_length, List.length_append] at h
  simpa [zeros] using h

/-- Bits of numbers, one behind the other. -/
def flatB : List (Nat × Nat) → List Bool
  | [] => []
  | x :: l => bitsOf x.1 x.2 ++ flatB l
theorem flatB_append (a b : List (Nat × Nat)) : flatB (a ++ b) = flatB a ++ flatB b := by
  induction a with
  | nil => rfl
  | cons x l ih => rw [List.cons_append, flatB, ih, flatB, List.append_assoc]
theorem flatB_take {l : List (Nat × Nat)} {k n q : Nat} (h : l[k]? = some (n, q)) : flatB (l.take (k + 1)) = flatB (l.take k) ++ bitsOf n q := by
  rw [List.take_add_one, h, flatB_append]
  show _ ++ (bitsOf n q ++ []) = _
  rw [List.append_nil]
theorem flatB_split {l : List (Nat × Nat)} {k n q : Nat} (h : l[k]? = some (n, q)) : flatB l = flatB (l.take k) ++ (bitsOf n q ++ flatB (l.drop (k + 1))) := by
  have hk : k < l.length := (List.getElem?_eq_some_iff.1 h).1
  have hx : l[k] = (n, q) := (List.getElem?_eq_some_iff.1 h).2
  have hs : l = l.take k ++ ((n, q) :: l.drop (k + 1)) := by rw [← hx, ← List.drop_eq_getElem_cons hk, List.take_append_drop]
  conv => lhs; rw [hs, flatB_append]
  rfl
theorem flatB_len {l : List (Nat × Nat)} {k n q : Nat} (h : l[k]? = some (n, q)) : (flatB (l.take k)).length + q ≤ (flatB l).length := by
  rw [flatB_split h, List.length_append, List.length_append, bitsOf_length]
  omega
theorem flatB_read {l : List (Nat × Nat)} {k n q : Nat} (h : l[k]? = some (n, q)) : num (((unpack (pack (flatB l))).drop (flatB (l.take k)).length).take q) = n % p2 q := by
  rw [pack_unpack, flatB_split h, List.append_assoc, List.drop_left, List.append_assoc, List.take_append_of_le_length (by rw [bitsOf_length]; omega), List.take_of_length_le (by rw [bitsOf_length]; omega), num_bitsOf]
theorem flatB_end (l : List (Nat × Nat)) (q : Nat) : num (((unpack (pack (flatB l))).drop (flatB l).length).take q) = 0 := by
  rw [pack_unpack, List.drop_left, num_take, num_zeros, Nat.zero_mod]
theorem flatB_bound (l : List (Nat × Nat)) (h : ∀ x ∈ l, x.2 ≤ 32) : (flatB l).length ≤ 32 * l.length := by
  induction l with
  | nil => exact Nat.le_refl _
  | cons x l ih =>
    have h1 := h x (by simp)
    have h2 := ih (fun y hy => h y (by simp [hy]))
    rw [flatB, List.length_append, bitsOf_length, List.length_cons]
    omega
end Go.Proofs.YtgbbdgoleiolhaaGreat.BitsP
