/- Numbers as bytes, plainly: how many bytes, the bytes of a number, the number of some bytes. -/
import Derived.IntWalk
import Derived.Laws.BitsAllLaws
namespace Go.Proofs.YtaknladkodibaaaGreatDoor.FieldP
def cnt (b:Int):Nat:=if b < 1 then 1 else if 4 < b then 4 else b.toNat
theorem cnt_le (b:Int):cnt b ≤ 4:=by unfold cnt;split <;> (try split) <;> omega
theorem cnt_pos (b:Int):1 ≤ cnt b:=by unfold cnt;split <;> (try split) <;> omega
theorem cnt_of {b:Int} (h1:1 ≤ b) (h4:b ≤ 4):(cnt b:Int) = b:=by unfold cnt;rw [if_neg (by omega),if_neg (by omega)];omega
def sh (n:Nat):Nat→Nat
 | 0 => n
 | k + 1 => sh n k / 256
theorem sh_le (n k:Nat):sh n k ≤ n:=by
 induction k with
 | zero => exact Nat.le_refl _
 | succ k ih => rw [sh];omega
theorem sh_shift (n k:Nat):sh (n / 256) k = sh n (k + 1):=by
 induction k with
 | zero => rfl
 | succ k ih => rw [sh,ih];rfl
def putN (n:Nat):Nat→List UInt8
 | 0 => []
 | k + 1 => putN n k++[UInt8.ofNat (sh n k)]
theorem putN_length (n k:Nat):(putN n k).length = k:=by
 induction k with
 | zero => rfl
 | succ k ih => rw [putN,List.length_append,ih];rfl
theorem putN_cons (n k:Nat):putN n (k + 1) = UInt8.ofNat n :: putN (n / 256) k:=by
 induction k with
 | zero => rfl
 | succ k ih => rw [putN,ih,putN,← sh_shift];rfl
theorem byte_toNat (n:Nat):(UInt8.ofNat n).toNat = n % 256:=by simp [UInt8.toNat_ofNat']
theorem byte_cell (n:Nat):((UInt8.ofNat n).toNat:Int) = (n:Int) % 256:=by rw [byte_toNat];omega
def val:List UInt8→Nat
 | [] => 0
 | x :: l => x.toNat + 256 * val l
def unit:Nat→Nat
 | 0 => 1
 | k + 1 => 256 * unit k
theorem val_append (a b:List UInt8):val (a++b) = val a + unit a.length * val b:=by
 induction a with
 | nil => simp [val,unit]
 | cons x l ih =>
  rw [List.cons_append,val,ih,val,List.length_cons,unit,Nat.mul_add,Nat.mul_assoc,Nat.add_assoc]
theorem val_lt (l:List UInt8):val l < unit l.length:=by
 induction l with
 | nil => exact Nat.one_pos
 | cons x l ih =>
  have:=UInt8.toNat_lt x
  rw [val,List.length_cons,unit]
  omega
theorem val_lt4 {l:List UInt8} (h:l.length ≤ 4):val l < 4294967296:=by
 have h1:=val_lt l
 have:unit l.length ≤ 4294967296:=by
  match hl:l.length,h with
  | 0,_ => decide
  | 1,_ => decide
  | 2,_ => decide
  | 3,_ => decide
  | 4,_ => decide
 omega
theorem val_putN (n k:Nat):val (putN n k) = n % unit k:=by
 induction k generalizing n with
 | zero => simp [putN,val,unit,Nat.mod_one]
 | succ k ih =>
  rw [putN_cons,val,ih,byte_toNat,unit]
  rw [Nat.mod_mul]
def getN (bs:List UInt8) (at_:Int) (k:Nat):Option Nat:=if 0 ≤ at_∧at_ ≤ (bs.length:Int) - k then some (val ((bs.drop at_.toNat).take k)) else none
theorem getN_some {bs:List UInt8} {a k:Nat} (h:a + k ≤ bs.length):getN bs (a:Int) k = some (val ((bs.drop a).take k)):=by
 unfold getN
 rw [if_pos ⟨by omega,by omega⟩,Int.toNat_natCast]
theorem take_snoc {bs:List UInt8} {a k:Nat} {x:UInt8} (h:bs[a + k]? = some x):(bs.drop a).take (k + 1) = (bs.drop a).take k++[x]:=by
 rw [List.take_add_one]
 congr 1
 rw [List.getElem?_drop,h]
 rfl
theorem val_snoc {bs:List UInt8} {a k:Nat} {x:UInt8} (h:bs[a + k]? = some x):val ((bs.drop a).take (k + 1)) = val ((bs.drop a).take k) + unit k * x.toNat:=by
 rw [take_snoc h,val_append]
 have hl:((bs.drop a).take k).length = k:=by
  have:=(List.getElem?_eq_some_iff.1 h).1
  rw [List.length_take,List.length_drop]
  omega
 rw [hl,val,val,Nat.mul_zero,Nat.add_zero]
theorem val_take_lt {bs:List UInt8} {a k:Nat} (h:a + k ≤ bs.length):val ((bs.drop a).take k) < unit k:=by
 have h1:=val_lt ((bs.drop a).take k)
 rwa [show ((bs.drop a).take k).length = k by rw [List.length_take,List.length_drop];omega] at h1
def flat (q:Nat):List Nat→List UInt8
 | [] => []
 | x :: l => putN x q++flat q l
end Go.Proofs.YtaknladkodibaaaGreatDoor.FieldP
/- Bits, plainly: of a number, as a number, in bytes. -/
namespace Go.Proofs.YtaknladkodibaaaGreatDoor.BitsP
def cnt (b:Int):Nat:=if b < 0 then 0 else if 32 < b then 32 else b.toNat
theorem cnt_le (b:Int):cnt b ≤ 32:=by unfold cnt;split <;> (try split) <;> omega
theorem cnt_of {b:Int} (h1:0 ≤ b) (h4:b ≤ 32):(cnt b:Int) = b:=by unfold cnt;rw [if_neg (by omega),if_neg (by omega)];omega
theorem cnt_nat {k:Nat} (h:k ≤ 32):cnt (k:Int) = k:=by have:=cnt_of (b:=(k:Int)) (by omega) (by omega);omega
def p2:Nat→Nat
 | 0 => 1
 | k + 1 => 2 * p2 k
theorem p2_pow (k:Nat):p2 k = 2 ^ k:=by
 induction k with
 | zero => rfl
 | succ k ih => rw [p2,ih,Nat.pow_succ,Nat.mul_comm]
theorem p2_pos (k:Nat):0 < p2 k:=by rw [p2_pow];exact Nat.two_pow_pos k
theorem p2_add (a b:Nat):p2 (a + b) = p2 a * p2 b:=by rw [p2_pow,p2_pow,p2_pow,Nat.pow_add]
theorem p2_le {a b:Nat} (h:a ≤ b):p2 a ≤ p2 b:=by rw [p2_pow,p2_pow];exact Nat.pow_le_pow_right (by omega) h
def bit (b:Bool):Nat:=if b then 1 else 0
theorem bit_le (b:Bool):bit b ≤ 1:=by cases b <;> decide
def num:List Bool→Nat
 | [] => 0
 | b :: l => bit b + 2 * num l
theorem num_lt (l:List Bool):num l < p2 l.length:=by
 induction l with
 | nil => exact Nat.one_pos
 | cons b l ih =>
  have:=bit_le b
  rw [num,List.length_cons,p2]
  omega
theorem num_append (a b:List Bool):num (a++b) = num a + p2 a.length * num b:=by
 induction a with
 | nil => simp [num,p2]
 | cons x l ih => rw [List.cons_append,num,ih,num,List.length_cons,p2,Nat.mul_add,Nat.mul_assoc,Nat.add_assoc]
theorem num_take (l:List Bool) (k:Nat):num (l.take k) = num l % p2 k:=by
 by_cases h:k ≤ l.length
 ·have h1:=num_append (l.take k) (l.drop k)
  rw [List.take_append_drop,List.length_take,Nat.min_eq_left h] at h1
  have h2:=num_lt (l.take k)
  rw [List.length_take,Nat.min_eq_left h] at h2
  rw [h1,Nat.add_mul_mod_self_left,Nat.mod_eq_of_lt h2]
 ·rw [List.take_of_length_le (by omega),Nat.mod_eq_of_lt]
  exact Nat.lt_of_lt_of_le (num_lt l) (p2_le (by omega))
theorem num_drop (l:List Bool) (k:Nat):num (l.drop k) = num l / p2 k:=by
 by_cases h:k ≤ l.length
 ·have h1:=num_append (l.take k) (l.drop k)
  rw [List.take_append_drop,List.length_take,Nat.min_eq_left h] at h1
  have h2:=num_lt (l.take k)
  rw [List.length_take,Nat.min_eq_left h] at h2
  rw [h1,Nat.add_mul_div_left _ _ (p2_pos k),Nat.div_eq_of_lt h2,Nat.zero_add]
 ·rw [List.drop_of_length_le (by omega),Nat.div_eq_of_lt]
  ·rfl
  ·exact Nat.lt_of_lt_of_le (num_lt l) (p2_le (by omega))
def bitsOf (n:Nat):Nat→List Bool
 | 0 => []
 | k + 1 => decide (n % 2 = 1) :: bitsOf (n / 2) k
theorem bitsOf_length (n k:Nat):(bitsOf n k).length = k:=by
 induction k generalizing n with
 | zero => rfl
 | succ k ih => rw [bitsOf,List.length_cons,ih]
theorem num_bitsOf (n k:Nat):num (bitsOf n k) = n % p2 k:=by
 induction k generalizing n with
 | zero => simp [bitsOf,num,p2,Nat.mod_one]
 | succ k ih =>
  rw [bitsOf,num,ih,p2,Nat.mod_mul]
  congr 1
  unfold bit
  by_cases h:n % 2 = 1
  ·simp [h]
  ·have:n % 2 = 0:=by omega
   simp [this]
theorem num_inj {a b:List Bool} (hl:a.length = b.length) (h:num a = num b):a = b:=by
 induction a generalizing b with
 | nil => exact (List.eq_nil_of_length_eq_zero (by simpa using hl.symm)).symm
 | cons x l ih =>
  cases b with
  | nil => simp at hl
  | cons y m =>
   rw [num,num] at h
   have hx:bit x = bit y:=by
    have:=bit_le x
    have:=bit_le y
    omega
   have hm:num l = num m:=by omega
   rw [ih (by simpa using hl) hm]
   congr 1
   revert hx
   cases x <;> cases y <;> simp [bit]
theorem bitsOf_num (l:List Bool):bitsOf (num l) l.length = l:=by
 apply num_inj (bitsOf_length _ _)
 rw [num_bitsOf,Nat.mod_eq_of_lt (num_lt l)]
theorem bitsOf_add (n a b:Nat):bitsOf n (a + b) = bitsOf n a++bitsOf (n / p2 a) b:=by
 apply num_inj
 ·rw [bitsOf_length,List.length_append,bitsOf_length,bitsOf_length]
 ·rw [num_append,num_bitsOf,num_bitsOf,num_bitsOf,bitsOf_length,p2_add,Nat.mod_mul]
def unpack:List UInt8→List Bool
 | [] => []
 | x :: l => bitsOf x.toNat 8++unpack l
theorem unpack_append (a b:List UInt8):unpack (a++b) = unpack a++unpack b:=by
 induction a with
 | nil => rfl
 | cons x l ih => rw [List.cons_append,unpack,ih,unpack,List.append_assoc]
theorem unpack_length (a:List UInt8):(unpack a).length = 8 * a.length:=by
 induction a with
 | nil => rfl
 | cons x l ih => rw [unpack,List.length_append,bitsOf_length,ih,List.length_cons];omega
theorem unpack_one {a:List Bool} (h:a.length = 8):unpack [UInt8.ofNat (num a)] = a:=by
 rw [unpack,unpack,List.append_nil]
 have h1:=num_lt a
 rw [h] at h1
 have h2:p2 8 = 256:=rfl
 have:(UInt8.ofNat (num a)).toNat = num a:=by simp [UInt8.toNat_ofNat'];omega
 rw [this,← h]
 exact bitsOf_num a
theorem unpack_drop (bs:List UInt8) (i:Nat):unpack (bs.drop i) = (unpack bs).drop (8 * i):=by
 induction bs generalizing i with
 | nil => simp [unpack]
 | cons x l ih =>
  cases i with
  | zero => rfl
  | succ i =>
   have hl:(bitsOf x.toNat 8).length = 8:=bitsOf_length _ _
   rw [List.drop_succ_cons,ih,unpack,List.drop_append,hl,List.drop_of_length_le (l:=bitsOf x.toNat 8) (by rw [hl];omega)]
   rw [show 8 * (i + 1) - 8 = 8 * i by omega,List.nil_append]
theorem unpack_take (bs:List UInt8) (i:Nat):unpack (bs.take i) = (unpack bs).take (8 * i):=by
 induction bs generalizing i with
 | nil => simp [unpack]
 | cons x l ih =>
  cases i with
  | zero => rfl
  | succ i =>
   have hl:(bitsOf x.toNat 8).length = 8:=bitsOf_length _ _
   rw [List.take_succ_cons,unpack,ih,unpack,List.take_append,hl,List.take_of_length_le (l:=bitsOf x.toNat 8) (by rw [hl];omega)]
   rw [show 8 * (i + 1) - 8 = 8 * i by omega]
theorem unpack_inj {a b:List UInt8} (h:unpack a = unpack b):a = b:=by
 induction a generalizing b with
 | nil =>
  have:=congrArg List.length h
  rw [unpack_length,unpack_length] at this
  exact (List.eq_nil_of_length_eq_zero (by simp at this;omega)).symm
 | cons x l ih =>
  cases b with
  | nil =>
   have:=congrArg List.length h
   rw [unpack_length,unpack_length] at this
   simp at this
  | cons y m =>
   rw [unpack,unpack] at h
   have h1:=(List.append_inj h (by rw [bitsOf_length,bitsOf_length])).1
   have h2:=(List.append_inj h (by rw [bitsOf_length,bitsOf_length])).2
   have h3:=congrArg num h1
   rw [num_bitsOf,num_bitsOf,show p2 8 = 256 from rfl,Nat.mod_eq_of_lt (UInt8.toNat_lt x),Nat.mod_eq_of_lt (UInt8.toNat_lt y)] at h3
   rw [ih h2,UInt8.toNat_inj.1 h3]
def Split (L:List Bool) (whole:List UInt8) (R:List Bool):Prop:=L = unpack whole++R∧R.length < 8
theorem Split.length {L:List Bool} {whole:List UInt8} {R:List Bool} (h:Split L whole R):L.length = 8 * whole.length + R.length:=by rw [h.1,List.length_append,unpack_length]
theorem Split.unique {L:List Bool} {w1 w2:List UInt8} {R1 R2:List Bool} (h1:Split L w1 R1) (h2:Split L w2 R2):w1 = w2∧R1 = R2:=by
 have e1:=h1.length
 have e2:=h2.length
 have:=h1.2
 have:=h2.2
 have hw:w1.length = w2.length:=by omega
 have h:=h1.1.symm.trans h2.1
 obtain ⟨a,b⟩:=List.append_inj h (by rw [unpack_length,unpack_length,hw])
 exact ⟨unpack_inj a,b⟩
theorem Split.nil:Split [] [] []:=⟨rfl,by decide⟩
def pk (whole:List UInt8) (R:List Bool):List UInt8:=whole++(if R = [] then [] else [UInt8.ofNat (num R)])
theorem pk_nil (whole:List UInt8):pk whole [] = whole:=by simp [pk]
theorem pk_some {whole:List UInt8} {R:List Bool} (h:R ≠ []):pk whole R = whole++[UInt8.ofNat (num R)]:=by simp [pk,h]
def lack (n:Nat):Nat:=(8 - n % 8) % 8
def zeros (n:Nat):List Bool:=List.replicate n false
theorem zeros_bits (k:Nat):bitsOf 0 k = zeros k:=by
 induction k with
 | zero => rfl
 | succ k ih => rw [bitsOf,ih];rfl
theorem num_zeros (k:Nat):num (zeros k) = 0:=by
 induction k with
 | zero => rfl
 | succ k ih =>
  show bit false + 2 * num (zeros k) = 0
  rw [ih]
  rfl
def splitN:Nat→List Bool→List UInt8 × List Bool
 | 0,L => ([],L)
 | n + 1,L => if L.length < 8 then ([],L) else (UInt8.ofNat (num (L.take 8)) :: (splitN n (L.drop 8)).1,(splitN n (L.drop 8)).2)
theorem splitN_split (n:Nat) (L:List Bool) (h:L.length < 8 * (n + 1)):Split L (splitN n L).1 (splitN n L).2:=by
 induction n generalizing L with
 | zero => exact ⟨rfl,by simpa [splitN] using h⟩
 | succ n ih =>
  by_cases h8:L.length < 8
  ·rw [splitN,if_pos h8]
   exact ⟨rfl,h8⟩
  ·rw [splitN,if_neg h8]
   obtain ⟨h1,h2⟩:=ih (L.drop 8) (by rw [List.length_drop];omega)
   refine ⟨?_,h2⟩
   have e:∀ (x:UInt8) (l:List UInt8),unpack (x :: l) = unpack [x]++unpack l:=fun x l => by rw [unpack,unpack,unpack,List.append_nil]
   show L = unpack (_ :: _)++_
   rw [e,unpack_one (by rw [List.length_take];omega),List.append_assoc,← h1,List.take_append_drop]
def pack (L:List Bool):List UInt8:=pk (splitN L.length L).1 (splitN L.length L).2
theorem pack_eq {L:List Bool} {w:List UInt8} {R:List Bool} (h:Split L w R):pack L = pk w R:=by
 obtain ⟨h1,h2⟩:=(splitN_split L.length L (by omega)).unique h
 unfold pack
 rw [h1,h2]
theorem pack_length (L:List Bool):(pack L).length ≤ L.length:=by
 have h:=splitN_split L.length L (by omega)
 have hl:=h.length
 unfold pack pk
 rw [List.length_append]
 by_cases hr:(splitN L.length L).2 = []
 ·rw [if_pos hr]
  simp
  omega
 ·rw [if_neg hr]
  have:0 < ((splitN L.length L).2).length:=List.length_pos_iff.2 hr
  simp
  omega
theorem peek_eq (bs:List UInt8) (p q f r:Nat) (hp:p = 8 * f + r) (hr:r < 8) (hq:q ≤ 32):(num (unpack ((bs.drop f).take 5)) / p2 r) % p2 q = num (((unpack bs).drop p).take q):=by
 rw [← num_drop,← num_take]
 congr 1
 rw [unpack_take,unpack_drop,List.drop_take,List.take_take,List.drop_drop,Nat.min_eq_left (by omega),← hp]
theorem num_unpack_snoc (W:List UInt8) (k:Nat) (x:UInt8) (h:W[k]? = some x):num (unpack (W.take (k + 1))) = num (unpack (W.take k)) + p2 (8 * k) * x.toNat:=by
 have hk:k < W.length:=(List.getElem?_eq_some_iff.1 h).1
 have hx:num (unpack [x]) = x.toNat:=by
  rw [unpack,unpack,List.append_nil,num_bitsOf]
  exact Nat.mod_eq_of_lt (UInt8.toNat_lt x)
 rw [List.take_add_one,h,unpack_append,num_append,unpack_length,List.length_take,Nat.min_eq_left (by omega)]
 show _ + _ * num (unpack [x]) = _
 rw [hx]
theorem num_unpack_lt (W:List UInt8) (k:Nat):num (unpack (W.take k)) < p2 (8 * k):=by
 have h:=num_lt (unpack (W.take k))
 rw [unpack_length,List.length_take] at h
 exact Nat.lt_of_lt_of_le h (p2_le (by omega))
theorem num_from_lt (L:List Bool) (a i:Nat):num ((L.drop a).take i) < p2 i:=by
 have h:=num_lt ((L.drop a).take i)
 exact Nat.lt_of_lt_of_le h (p2_le (by rw [List.length_take];omega))
theorem pack_unpack (L:List Bool):unpack (pack L) = L++zeros (lack L.length):=by
 have h:=splitN_split L.length L (by omega)
 rw [pack_eq h]
 generalize (splitN L.length L).1 = w at *
 generalize (splitN L.length L).2 = R at *
 obtain ⟨h1,h2⟩:=h
 have hl:L.length = 8 * w.length + R.length:=by rw [h1,List.length_append,unpack_length]
 by_cases hr:R = []
 ·subst hr
  rw [pk_nil,h1,List.append_nil]
  have:lack (unpack w).length = 0:=by unfold lack;rw [unpack_length];omega
  rw [this]
  exact (List.append_nil _).symm
 ·rw [pk_some hr,unpack_append]
  have hpos:0 < R.length:=List.length_pos_iff.2 hr
  have h3:unpack [UInt8.ofNat (num R)] = bitsOf (num R) 8:=by
   rw [unpack,unpack,List.append_nil]
   have h4:=num_lt R
   have h5:=p2_le (show R.length ≤ 7 by omega)
   have h6:p2 7 = 128:=rfl
   have:(UInt8.ofNat (num R)).toNat = num R:=by simp [UInt8.toNat_ofNat'];omega
   rw [this]
  have h4:bitsOf (num R) 8 = R++zeros (lack L.length):=by
   have e:8 = R.length + (8 - R.length):=by omega
   have e2:lack L.length = 8 - R.length:=by unfold lack;omega
   rw [e2]
   conv => lhs;rw [e]
   rw [bitsOf_add,bitsOf_num,Nat.div_eq_of_lt (num_lt R),zeros_bits]
  rw [h3,h4,h1,List.append_assoc]
end Go.Proofs.YtaknladkodibaaaGreatDoor.BitsP
namespace Go.Proofs.YtaknladkodibaaaGreatDoor
open Go Go.RowKit BitsP
def codeB (v n:Nat):List Bool:=(bitsOf v n).reverse
theorem codeB_len (v n:Nat):(codeB v n).length = n:=by unfold codeB;rw [List.length_reverse,bitsOf_length]
theorem bitsOf_get:∀ (n k i:Nat),i < k→(bitsOf n k)[i]? = some (n.testBit i)
 | n,0,i,h => by omega
 | n,k + 1,0,_ => by
  show some (decide (n % 2 = 1)) = some _
  rw [Nat.testBit_zero]
 | n,k + 1,i + 1,h => by
  show (bitsOf (n / 2) k)[i]? = _
  rw [bitsOf_get (n / 2) k i (by omega),Nat.testBit_succ]
def stepR (k m x:Nat):Nat:=(x / 2 ^ k &&& m) ||| ((x &&& m) * 2 ^ k % 4294967296)
def fitR (k m:Nat):Bool:=(List.range 32).all fun i => (i ^^^ k < 32) && if m.testBit i then (i ^^^ k == i + k) && (!(decide (k ≤ i)) || !(m.testBit (i - k))) else decide (k ≤ i) && (m.testBit (i - k) && (i ^^^ k == i - k))
theorem stepR_bit {k m:Nat} (hf:fitR k m = true) (x i:Nat) (hi:i < 32):(stepR k m x).testBit i = x.testBit (i ^^^ k)∧i ^^^ k < 32:=by
 have h:=List.all_eq_true.1 hf i (List.mem_range.2 hi)
 unfold stepR
 have e32:(4294967296:Nat) = 2 ^ 32:=by decide
 rw [e32,Nat.testBit_or,Nat.testBit_and,Nat.testBit_div_two_pow,Nat.testBit_mod_two_pow,Nat.testBit_mul_two_pow,Nat.testBit_and]
 rw [decide_eq_true hi,Bool.true_and]
 rw [Bool.and_eq_true,decide_eq_true_eq] at h
 refine ⟨?_,h.1⟩
 have h:=h.2
 by_cases hm:m.testBit i = true
 ·rw [if_pos hm] at h
  rw [hm,Bool.and_true]
  rw [Bool.and_eq_true,beq_iff_eq] at h
  rw [h.1]
  by_cases hk:k ≤ i
  ·have h2:m.testBit (i - k) = false:=by
    have:=h.2
    rw [decide_eq_true hk] at this
    simpa using this
   rw [h2];simp
  ·rw [decide_eq_false (by omega:¬ i ≥ k)];simp
 ·rw [if_neg hm] at h
  have hm':m.testBit i = false:=by simpa using hm
  rw [hm',Bool.and_false,Bool.false_or]
  rw [Bool.and_eq_true,Bool.and_eq_true,decide_eq_true_eq,beq_iff_eq] at h
  rw [h.2.2,h.2.1,Bool.and_true,decide_eq_true (by omega:i ≥ k),Bool.true_and]
theorem stepR_lt (k m x:Nat) (hm:m < 4294967296):stepR k m x < 4294967296:=by
 unfold stepR
 have e32:(4294967296:Nat) = 2 ^ 32:=by decide
 rw [e32] at hm ⊢
 exact Nat.or_lt_two_pow (Nat.lt_of_le_of_lt Nat.and_le_right hm) (Nat.mod_lt _ (by decide))
def rev32 (x:Nat):Nat:=stepR 16 65535 (stepR 8 16711935 (stepR 4 252645135 (stepR 2 858993459 (stepR 1 1431655765 x))))
theorem rev32_idx:∀ i:Fin 32,((((i.val ^^^ 16) ^^^ 8) ^^^ 4) ^^^ 2) ^^^ 1 = 31 - i.val:=by decide
theorem rev32_bit (x i:Nat) (hi:i < 32):(rev32 x).testBit i = x.testBit (31 - i):=by
 unfold rev32
 obtain ⟨h1,l1⟩:=stepR_bit (k:=16) (m:=65535) (by decide) (stepR 8 16711935 (stepR 4 252645135 (stepR 2 858993459 (stepR 1 1431655765 x)))) i hi
 obtain ⟨h2,l2⟩:=stepR_bit (k:=8) (m:=16711935) (by decide) (stepR 4 252645135 (stepR 2 858993459 (stepR 1 1431655765 x))) _ l1
 obtain ⟨h3,l3⟩:=stepR_bit (k:=4) (m:=252645135) (by decide) (stepR 2 858993459 (stepR 1 1431655765 x)) _ l2
 obtain ⟨h4,l4⟩:=stepR_bit (k:=2) (m:=858993459) (by decide) (stepR 1 1431655765 x) _ l3
 obtain ⟨h5,_⟩:=stepR_bit (k:=1) (m:=1431655765) (by decide) x _ l4
 rw [h1,h2,h3,h4,h5,rev32_idx ⟨i,hi⟩]
theorem rev32_lt (x:Nat):rev32 x < 4294967296:=stepR_lt _ _ _ (by decide)
theorem rev32_code {v n:Nat} (hn:n ≤ 32):bitsOf (rev32 v / 2 ^ (32 - n)) n = codeB v n:=by
 apply List.ext_getElem?
 intro i
 unfold codeB
 by_cases hi:i < n
 ·rw [bitsOf_get _ _ _ hi,List.getElem?_reverse (by rw [bitsOf_length];exact hi),bitsOf_length,bitsOf_get _ _ _ (by omega),Nat.testBit_div_two_pow,rev32_bit _ _ (by omega)]
  congr 2
  omega
 ·rw [List.getElem?_eq_none (by rw [bitsOf_length];omega),List.getElem?_eq_none (by rw [List.length_reverse,bitsOf_length];omega)]
theorem stepR_int {k m x:Nat} (hx:x < 4294967296) (hm:m < 4294967296):bits .or .u32 (bits .and .u32 ((x:Int) / (2 ^ k:Nat)) (m:Int)) (bits .and .u32 (x:Int) (m:Int) * (2 ^ k:Nat) % 4294967296) = (stepR k m x:Int):=by
 have e1:(x:Int) / (2 ^ k:Nat) = ((x / 2 ^ k:Nat):Int):=by simp
 have hd:x / 2 ^ k < 4294967296:=Nat.lt_of_le_of_lt (Nat.div_le_self _ _) hx
 rw [e1,u32_and_nat _ _ hd hm,u32_and_nat _ _ hx hm]
 have e2:((x &&& m:Nat):Int) * (2 ^ k:Nat) % 4294967296 = (((x &&& m) * 2 ^ k % 4294967296:Nat):Int):=by
  rw [Int.natCast_emod,Int.natCast_mul];rfl
 rw [e2,u32_or_nat _ _ (Nat.lt_of_le_of_lt Nat.and_le_right hm) (Nat.mod_lt _ (by decide))]
 rfl
theorem step16_int {x:Nat} (hx:x < 4294967296):bits .or .u32 ((x:Int) / 65536) ((x:Int) * 65536 % 4294967296) = (stepR 16 65535 x:Int):=by
 have e1:(x:Int) / 65536 = ((x / 65536:Nat):Int):=by simp
 have e2:(x:Int) * 65536 % 4294967296 = ((x * 65536 % 4294967296:Nat):Int):=by simp
 rw [e1,e2,u32_or_nat _ _ (by omega) (by omega)]
 unfold stepR
 have a1:x / 2 ^ 16 &&& 65535 = x / 65536:=by
  rw [show (65535:Nat) = 2 ^ 16 - 1 by decide,Nat.and_two_pow_sub_one_eq_mod,show (2:Nat) ^ 16 = 65536 by decide]
  omega
 have a2:(x &&& 65535) * 2 ^ 16 % 4294967296 = x * 65536 % 4294967296:=by
  rw [show (65535:Nat) = 2 ^ 16 - 1 by decide,Nat.and_two_pow_sub_one_eq_mod,show (2:Nat) ^ 16 = 65536 by decide]
  omega
 rw [a1,a2]
end Go.Proofs.YtaknladkodibaaaGreatDoor
