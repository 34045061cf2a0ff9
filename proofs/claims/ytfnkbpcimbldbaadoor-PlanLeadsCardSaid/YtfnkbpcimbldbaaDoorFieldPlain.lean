/- Numbers as bytes, plainly: how many bytes, the bytes of a number, the number of some bytes. -/
import Derived.IntWalk
namespace Go.Proofs.YtfnkbpcimbldbaaDoor.FieldP

/-- How many bytes a number has. -/
def cnt (b : Int) : Nat := if b < 1 then 1 else if 4 < b then 4 else b.toNat
theorem cnt_le (b : Int) : cnt b ≤ 4 := by unfold cnt; split <;> (try split) <;> omega
theorem cnt_pos (b : Int) : 1 ≤ cnt b := by unfold cnt; split <;> (try split) <;> omega
theorem cnt_of {b : Int} (h1 : 1 ≤ b) (h4 : b ≤ 4) : (cnt b : Int) = b := by unfold cnt; rw [if_neg (by omega), if_neg (by omega)]; omega

/-- A number without its lowest k bytes. -/
def sh (n : Nat) : Nat → Nat
  | 0 => n
  | k + 1 => sh n k / 256
theorem sh_le (n k : Nat) : sh n k ≤ n := by
  induction k with
  | zero => exact Nat.le_refl _
  | succ k ih => rw [sh]; omega
theorem sh_shift (n k : Nat) : sh (n / 256) k = sh n (k + 1) := by
  induction k with
  | zero => rfl
  | succ k ih => rw [sh, ih]; rfl

/-- The lowest k bytes of a number. -/
def putN (n : Nat) : Nat → List UInt8
  | 0 => []
  | k + 1 => putN n k ++ [UInt8.ofNat (sh n k)]
theorem putN_length (n k : Nat) : (putN n k).length = k := by
  induction k with
  | zero => rfl
  | succ k ih => rw [putN, List.length_append, ih]; rfl
theorem putN_cons (n k : Nat) : putN n (k + 1) = UInt8.ofNat n :: putN (n / 256) k := by
  induction k with
  | zero => rfl
  | succ k ih => rw [putN, ih, putN, ← sh_shift]; rfl
theorem byte_toNat (n : Nat) : (UInt8.ofNat n).toNat = n % 256 := by simp [UInt8.toNat_ofNat']
theorem byte_cell (n : Nat) : ((UInt8.ofNat n).toNat : Int) = (n : Int) % 256 := by rw [byte_toNat]; omega
theorem byte_mod (n : Nat) : UInt8.ofNat (n % 256) = UInt8.ofNat n := by
  apply UInt8.toNat_inj.1
  rw [byte_toNat, byte_toNat]
  omega

/-- The number of some bytes, the lowest first. -/
def val : List UInt8 → Nat
  | [] => 0
  | x :: l => x.toNat + 256 * val l
def unit : Nat → Nat
  | 0 => 1
  | k + 1 => 256 * unit k
theorem unit_pos (k : Nat) : 0 < unit k := by
  induction k with
  | zero => exact Nat.one_pos
  | succ k ih => rw [unit]; omega
theorem val_append (a b : List UInt8) : val (a ++ b) = val a + unit a.length * val b := by
  induction a with
  | nil => simp [val, unit]
  | cons x l ih =>
    rw [List.cons_append, val, ih, val, List.length_cons, unit, Nat.mul_add, Nat.mul_assoc, Nat.add_assoc]
theorem val_lt (l : List UInt8) : val l < unit l.length := by
  induction l with
  | nil => exact Nat.one_pos
  | cons x l ih =>
    have := UInt8.toNat_lt x
    rw [val, List.length_cons, unit]
    omega
theorem unit_four : unit 4 = 4294967296 := rfl
theorem val_lt4 {l : List UInt8} (h : l.length ≤ 4) : val l < 4294967296 := by
  have h1 := val_lt l
  have : unit l.length ≤ 4294967296 := by
    match hl : l.length, h with
    | 0, _ => decide
    | 1, _ => decide
    | 2, _ => decide
    | 3, _ => decide
    | 4, _ => decide
  omega
theorem val_putN (n k : Nat) : val (putN n k) = n % unit k := by
  induction k generalizing n with
  | zero => simp [putN, val, unit, Nat.mod_one]
  | succ k ih =>
    rw [putN_cons, val, ih, byte_toNat, unit]
    rw [Nat.mod_mul]

/-- The number that stands at a place, if all of its bytes are there. -/
def getN (bs : List UInt8) (at_ : Int) (k : Nat) : Option Nat := if 0 ≤ at_ ∧ at_ ≤ (bs.length : Int) - k then some (val ((bs.drop at_.toNat).take k)) else none
theorem getN_some {bs : List UInt8} {a k : Nat} (h : a + k ≤ bs.length) : getN bs (a : Int) k = some (val ((bs.drop a).take k)) := by
  unfold getN
  rw [if_pos ⟨by omega, by omega⟩, Int.toNat_natCast]
theorem getN_lt {bs : List UInt8} {a : Int} {k n : Nat} (hk : k ≤ 4) (h : getN bs a k = some n) : n < 4294967296 := by
  unfold getN at h
  split at h
  · injection h with h
    subst h
    exact val_lt4 (by rw [List.length_take]; omega)
  · cases h
theorem take_snoc {bs : List UInt8} {a k : Nat} {x : UInt8} (h : bs[a + k]? = some x) : (bs.drop a).take (k + 1) = (bs.drop a).take k ++ [x] := by
  rw [List.take_add_one]
  congr 1
  rw [List.getElem?_drop, h]
  rfl
theorem val_snoc {bs : List UInt8} {a k : Nat} {x : UInt8} (h : bs[a + k]? = some x) : val ((bs.drop a).take (k + 1)) = val ((bs.drop a).take k) + unit k * x.toNat := by
  rw [take_snoc h, val_append]
  have hl : ((bs.drop a).take k).length = k := by
    have := (List.getElem?_eq_some_iff.1 h).1
    rw [List.length_take, List.length_drop]
    omega
  rw [hl, val, val, Nat.mul_zero, Nat.add_zero]
theorem val_take_lt {bs : List UInt8} {a k : Nat} (h : a + k ≤ bs.length) : val ((bs.drop a).take k) < unit k := by
  have h1 := val_lt ((bs.drop a).take k)
  rwa [show ((bs.drop a).take k).length = k by rw [List.length_take, List.length_drop]; omega] at h1
/-- Numbers, one behind the other. -/
def flat (q : Nat) : List Nat → List UInt8
  | [] => []
  | x :: l => putN x q ++ flat q l
theorem flat_append (q : Nat) (a b : List Nat) : flat q (a ++ b) = flat q a ++ flat q b := by
  induction a with
  | nil => rfl
  | cons x l ih => rw [List.cons_append, flat, ih, flat, List.append_assoc]
theorem flat_length (q : Nat) (a : List Nat) : (flat q a).length = a.length * q := by
  induction a with
  | nil => simp [flat]
  | cons x l ih => rw [flat, List.length_append, putN_length, ih, List.length_cons, Nat.add_mul]; omega
theorem flat_take {q k x : Nat} {ns : List Nat} (h : ns[k]? = some x) : flat q (ns.take (k + 1)) = flat q (ns.take k) ++ putN x q := by
  rw [List.take_add_one, h, flat_append]
  show _ ++ (putN x q ++ []) = _
  rw [List.append_nil]
theorem getN_flat {bs : List UInt8} {q k x : Nat} {ns : List Nat} (h : ns[k]? = some x) : getN (bs ++ flat q ns) ((bs.length + k * q : Nat) : Int) q = some (x % unit q) := by
  have hk : k < ns.length := (List.getElem?_eq_some_iff.1 h).1
  have hs : ns = ns.take k ++ (x :: ns.drop (k + 1)) := by
    have hx : ns[k] = x := (List.getElem?_eq_some_iff.1 h).2
    rw [← hx, ← List.drop_eq_getElem_cons hk, List.take_append_drop]
  have hl : (ns.take k).length = k := by rw [List.length_take]; omega
  have hmul : (k + 1) * q ≤ ns.length * q := Nat.mul_le_mul_right q hk
  rw [Nat.add_mul, Nat.one_mul] at hmul
  rw [getN_some (by rw [List.length_append, flat_length]; omega)]
  congr 1
  rw [← val_putN]
  congr 1
  have he : bs ++ flat q ns = (bs ++ flat q (ns.take k)) ++ (putN x q ++ flat q (ns.drop (k + 1))) := by
    conv => lhs; rw [hs, flat_append, flat, ← List.append_assoc]
  have hlen : (bs ++ flat q (ns.take k)).length = bs.length + k * q := by rw [List.length_append, flat_length, hl]
  rw [he, ← hlen, List.drop_left, List.take_append_of_le_length (by rw [putN_length]; omega), List.take_of_length_le (by rw [putN_length]; omega)]
end Go.Proofs.YtfnkbpcimbldbaaDoor.FieldP
