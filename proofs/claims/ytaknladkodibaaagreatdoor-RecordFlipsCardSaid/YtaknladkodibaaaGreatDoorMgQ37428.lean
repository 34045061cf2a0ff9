/- Layer 18: where pieces end. -/
import Derived.Test.YtaknladkodibaaaGreatDoorMgQ37419
import Derived.RegionTactic
import Derived.Deep.Cut
import Derived.Deep.DeepCutAuto
import Derived.IntWalk
import Derived.Outline
import Derived.Deep.LoopGhost
import Derived.BigQuiet
import Derived.Test.YtaknladkodibaaaGreatDoorMgQ37416
import Derived.Test.YtaknladkodibaaaGreatDoorMgQ37400
import Derived.Test.YtaknladkodibaaaGreatDoorMgQ37408
import Derived.Laws.CopyOwn
namespace Go.Proofs.YtaknladkodibaaaGreatDoor
open Go.RowKit CrcP FieldP
def two (bs : List UInt8) (p : Nat) : Nat := val ((bs.drop p).take 2)
def endN (bs : List UInt8) (p : Nat) : Option Nat := if _h : p + 2 ≤ bs.length then (if two bs p = 0 then some (p + 2) else endN bs (p + 2 + two bs p)) else none
termination_by bs.length - p
decreasing_by omega
theorem endN_none {bs : List UInt8} {p : Nat} (h : ¬ p + 2 ≤ bs.length) : endN bs p = none := by rw [endN,dif_neg h]
theorem endN_zero {bs : List UInt8} {p : Nat} (h : p + 2 ≤ bs.length) (h2 : two bs p = 0) : endN bs p = some (p + 2) := by rw [endN,dif_pos h,if_pos h2]
theorem endN_more {bs : List UInt8} {p : Nat} (h : p + 2 ≤ bs.length) (h2 : two bs p ≠ 0) : endN bs p = endN bs (p + 2 + two bs p) := by rw [endN,dif_pos h,if_neg h2]
def endP : Option Nat → Value
 | some q => .tuple #[.int .i64 (q : Int),.int .i64 0]
 | none => .tuple #[.int .i64 0,.int .i64 2]
def endV (bs : List UInt8) (p : Int) : Value := if p < 0 ∨ (bs.length : Int) < p then .tuple #[.int .i64 0,.int .i64 1] else endP (endN bs p.toNat)
theorem endV_form (bs : List UInt8) (p : Int) : ∃ a e : Int,endV bs p = .tuple #[.int .i64 a,.int .i64 e] := by
 unfold endV
 split
 ·exact ⟨_,_,rfl⟩
 ·cases endN bs p.toNat <;> exact ⟨_,_,rfl⟩
def endS (bs : List UInt8) (s : RSt) : Option Nat := if s.bad = true then none else endN bs s.p
theorem two_lt (bs : List UInt8) (p : Nat) : two bs p < 65536 := by
 unfold two
 have h := val_lt ((bs.drop p).take 2)
 refine Nat.lt_of_lt_of_le h ?_
 have : ((bs.drop p).take 2).length ≤ 2 := by rw [List.length_take];omega
 generalize ((bs.drop p).take 2).length = k at *
 have : k = 0 ∨ k = 1 ∨ k = 2 := by omega
 rcases this with rfl | rfl | rfl <;> decide
set_option maxHeartbeats 400000 in
theorem seek_out (g : Nat) (A : Option Addr) (l c : Nat) (p a : Int) (w : World) (h : Rd w g A l c p false) (h1 : (l : Int) < a) :
  Calls Tryz.prog 130 #[.pointer (some ⟨g,0,none⟩),.int .i64 a] w fun e w' => e = .returned (.tuple #[]) ∧ Rd w' g A l c p true ∧ Only g w w' := by
 have H := Lib.hid h
 obtain ⟨c0,c1,c2,f1,f2⟩ := h.cells
 have h0 : ¬ a < 0 := by omega
 clear h
 go_enter Tryz.func130,Tryz.ntmps130
 go_wp2
 exact bodyPost_ret (results_none rfl _ _ _) rfl ⟨rfl,H.out.setBad,only_set (only_refl _ _) _ _⟩
set_option maxRecDepth 100000 in
set_option maxHeartbeats 1000000 in
theorem dcEnd_any (A : Option Addr) (l c : Nat) (bs : List UInt8) (p : Int) (w : World) (hl : bs.length = l) (hm : l ≤ 1000000) (hb : Bytes w w.heap.size A bs) :
  Calls Tryz.prog 92 #[.slice A l c,.int .i64 p] w fun e w' => e = .returned (endV bs p) ∧ Below w.heap.size w w' := by
 by_cases h0 : p < 0
 ·have HE : Hid (endV bs p = .tuple #[.int .i64 0,.int .i64 1]) := by show _ = _;unfold endV;rw [if_pos (.inl h0)]
  clear hb hl
  go_enter Tryz.func92,Tryz.ntmps92
  go_wp2
  go_ret2
  exact ⟨by rw [HE.out];rfl,Below.refl _ _⟩
 by_cases h1 : (l : Int) < p
 ·have HE : Hid (endV bs p = .tuple #[.int .i64 0,.int .i64 1]) := by show _ = _;unfold endV;rw [if_pos (.inr (by omega))]
  clear hb hl
  go_enter Tryz.func92,Tryz.ntmps92
  go_wp2
  go_ret2
  exact ⟨by rw [HE.out];rfl,Below.refl _ _⟩
 obtain ⟨q,rfl⟩ := Int.eq_ofNat_of_zero_le (show 0 ≤ p by omega)
 have hql : q ≤ l := by omega
 have HE : Hid (endV bs (q : Int) = endP (endN bs q)) := by show _ = _;unfold endV;rw [if_neg (by omega),Int.toNat_natCast]
 have HL := Lib.hid hl
 have HB := Lib.hid hb
 have HNW := Lib.hid (newK_any A l c w)
 obtain ⟨W1,hW1⟩ : ∃ W1,w.alloc (.cells #[.slice A l c,.int .i64 0,.bool false] 196) = W1 := ⟨_,rfl⟩
 have HR1 : Hid (Rd W1 w.heap.size A l c 0 false) := by show Rd _ _ _ _ _ _ _;rw [← hW1];exact rd_new A l c w
 have HB1 : Hid (Below w.heap.size w W1) := by show Below _ _ _;rw [← hW1];exact (Below.refl _ w).alloc (Nat.le_refl _) _
 rw [hW1] at HNW
 have HSK := Lib.hid (seek_any w.heap.size A l c 0 (q : Int) W1 HR1.out (by omega) (by omega))
 have HNUM : Hid (∀ (W : World) (s : RSt),RdK W w.heap.size A l c s → s.p ≤ l → Below w.heap.size w W → _) := fun W s hs hp hW => number_st w.heap.size A l c bs w.heap.size s 2 2 W hs HL.out (by omega) hp (by omega) (by omega) rfl (HB.out.below hW (Nat.le_refl _))
 clear hb hl h0 h1 hW1
 go_enter Tryz.func92,Tryz.ntmps92
 go_wp2_with (first
  | (go_at_call 126;refine HNW.out.mono ?_;rintro e w' ⟨rfl,rfl⟩)
  | (go_at_call 130;refine HSK.out.mono ?_;rintro e w2 ⟨rfl,hr2,ho2⟩;have HR2 := Lib.hid hr2;have HB2 := Lib.hid (only_below ho2 HB1.out HB1.out.size (Nat.le_refl _));clear hr2 ho2)
  | (go_at_call 88;refine (HNUM.out _ ⟨q,false⟩ HR2.out hql HB2.out).mono ?_;rintro e w3 ⟨rfl,hr3,ho3⟩;have HR3 := Lib.hid hr3;have HB3 := Lib.hid (only_below ho3 HB2.out HB2.out.size (Nat.le_refl _));clear hr3 ho3))
 go_loopg [7] (l + 1 - q) (fun gk nv wr => ∃ st : RSt,nv = .int .u32 ((st.num bs 2).1 : Nat) ∧ RdK wr w.heap.size A l c (st.num bs 2).2 ∧ Below w.heap.size w wr ∧ st.p ≤ l ∧ endS bs st = endN bs q ∧ gk = if st.bad = true then 0 else l + 1 - st.p)
 case atStart => exact ⟨⟨q,false⟩,rfl,HR3.out,HB3.out,hql,rfl,rfl⟩
 case round =>
  obtain ⟨st,rfl,hrd,hbw,hsp,hes,hgk⟩ := hrel
  have HRD := Lib.hid hrd
  have HBW := Lib.hid hbw
  clear hrd hbw HR3 HB3 HR2 HB2
  obtain ⟨pp,bad⟩ := st
  cases bad with
  | true =>
   have HN0 : Hid ((RSt.num bs ⟨pp,true⟩ 2) = (0,⟨pp,true⟩)) := rfl
   rw [HN0.out] at HRD ⊢
   have HEE : Hid (endN bs q = none) := hes.symm
   clear hes hgk HNUM HSK
   have HOK := Lib.hid (ok_any w.heap.size A l c (pp : Int) true wr HRD.out)
   go_wp2_with (go_at_call 128;refine HOK.out.mono ?_;rintro e w' ⟨rfl,rfl⟩)
   go_ret2
   exact ⟨by rw [HE.out,HEE.out];rfl,HBW.out⟩
  | false =>
   have hgk2 : gk = l + 1 - pp := hgk
   have hes2 : endN bs pp = endN bs q := hes
   have hpl : pp ≤ l := hsp
   clear hgk hes hsp
   by_cases hin : pp + 2 ≤ l
   ·have HN0 : Hid ((RSt.num bs ⟨pp,false⟩ 2) = (two bs pp,⟨pp + 2,false⟩)) := by
     show _ = _
     unfold RSt.num
     rw [if_neg Bool.false_ne_true,if_pos (by rw [HL.out];exact hin)]
     rfl
    rw [HN0.out] at HRD ⊢
    have hlt := two_lt bs pp
    have HES := Lib.hid hes2
    by_cases h2 : two bs pp = 0
    ·have HEE : Hid (endN bs q = some (pp + 2)) := by show _ = _;rw [← HES.out];exact endN_zero (by rw [HL.out];exact hin) h2
     rw [h2] at ⊢
     clear h2 hlt hes2 HNUM HSK
     have HOK := Lib.hid (ok_any w.heap.size A l c ((pp + 2 : Nat) : Int) false wr HRD.out)
     have HAT := Lib.hid (at_any w.heap.size A l c ((pp + 2 : Nat) : Int) false wr HRD.out)
     go_wp2_with (first
      | (go_at_call 128;refine HOK.out.mono ?_;rintro e w' ⟨rfl,rfl⟩)
      | (go_at_call 91;refine HAT.out.mono ?_;rintro e w' ⟨rfl,rfl⟩))
     go_ret2
     exact ⟨by rw [HE.out,HEE.out];rfl,HBW.out⟩
    ·have hmore := endN_more (bs := bs) (p := pp) (by rw [HL.out];exact hin) h2
     obtain ⟨n,hn⟩ : ∃ n,two bs pp = n := ⟨_,rfl⟩
     rw [hn] at h2 hlt hmore ⊢
     have HMO : Hid (endN bs (pp + 2 + n) = endN bs q) := hmore.symm.trans HES.out
     have t1 : decide ((0 : Int) < (n : Int)) = true := decide_eq_true (by omega)
     have t1' : decide (0 < n) = true := decide_eq_true (by omega)
     obtain ⟨p2,hp2⟩ : ∃ p2,pp + 2 = p2 := ⟨_,rfl⟩
     rw [hp2] at HMO HRD
     have HAT := Lib.hid (at_any w.heap.size A l c (p2 : Int) false wr HRD.out)
     clear hn hmore hes2 HSK
     by_cases hfit : p2 + n ≤ l
     ·have HSE := Lib.hid (seek_any w.heap.size A l c (p2 : Int) ((p2 : Int) + (n : Int)) wr HRD.out (by omega) (by omega))
      go_wp2_with (first
       | (go_at_call 91;refine HAT.out.mono ?_;rintro e w' ⟨rfl,rfl⟩)
       | (go_at_call 130;refine HSE.out.mono ?_;rintro e w5 ⟨rfl,hr5,ho5⟩;have HR5 : Hid (RdK w5 w.heap.size A l c ⟨p2 + n,false⟩) := hr5;have HB5 := Lib.hid (only_below ho5 HBW.out HBW.out.size (Nat.le_refl _));clear hr5 ho5)
       | (go_at_call 88;refine (HNUM.out _ ⟨p2 + n,false⟩ HR5.out hfit HB5.out).mono ?_;rintro e w6 ⟨rfl,hr6,ho6⟩;have HR6 := Lib.hid hr6;have HB6 := Lib.hid (only_below ho6 HB5.out HB5.out.size (Nat.le_refl _));clear hr6 ho6))
      go_roundg (l + 1 - (p2 + n))
      case measure => omega
      case rel => exact ⟨⟨p2 + n,false⟩,rfl,HR6.out,HB6.out,hfit,HMO.out,rfl⟩
     ·have HSE := Lib.hid (seek_out w.heap.size A l c (p2 : Int) ((p2 : Int) + (n : Int)) wr HRD.out (by omega))
      have HNN : Hid (endN bs q = none) := by show _ = _;rw [← HMO.out];exact endN_none (by rw [HL.out];omega)
      go_wp2_with (first
       | (go_at_call 91;refine HAT.out.mono ?_;rintro e w' ⟨rfl,rfl⟩)
       | (go_at_call 130;refine HSE.out.mono ?_;rintro e w5 ⟨rfl,hr5,ho5⟩;have HR5 : Hid (RdK w5 w.heap.size A l c ⟨p2,true⟩) := hr5;have HB5 := Lib.hid (only_below ho5 HBW.out HBW.out.size (Nat.le_refl _));clear hr5 ho5)
       | (go_at_call 88;refine (HNUM.out _ ⟨p2,true⟩ HR5.out (show p2 ≤ l by omega) HB5.out).mono ?_;rintro e w6 ⟨rfl,hr6,ho6⟩;have HR6 := Lib.hid hr6;have HB6 := Lib.hid (only_below ho6 HB5.out HB5.out.size (Nat.le_refl _));clear hr6 ho6))
      go_roundg 0
      case measure => omega
      case rel => exact ⟨⟨p2,true⟩,rfl,HR6.out,HB6.out,(show p2 ≤ l by omega),HNN.out.symm,rfl⟩
   ·have HN0 : Hid ((RSt.num bs ⟨pp,false⟩ 2) = (0,⟨pp,true⟩)) := by
     show _ = _
     unfold RSt.num
     rw [if_neg Bool.false_ne_true,if_neg (by rw [HL.out];exact hin)]
    rw [HN0.out] at HRD ⊢
    have HEE : Hid (endN bs q = none) := by show _ = _;rw [← hes2];exact endN_none (by rw [HL.out];exact hin)
    clear hes2 HNUM HSK
    have HOK := Lib.hid (ok_any w.heap.size A l c (pp : Int) true wr HRD.out)
    go_wp2_with (go_at_call 128;refine HOK.out.mono ?_;rintro e w' ⟨rfl,rfl⟩)
    go_ret2
    exact ⟨by rw [HE.out,HEE.out];rfl,HBW.out⟩
end Go.Proofs.YtaknladkodibaaaGreatDoor
namespace Go.Proofs.YtaknladkodibaaaGreatDoor
open Go.RowKit CrcP
theorem bit_value {bs : List UInt8} {p : Nat} {x : UInt8} (h : bs[p / 8]? = some x) : (x.toNat / 2 ^ (p % 8)) % 2 = (bitAt bs p).toNat := by
 unfold bitAt
 rw [h]
 show _ = (x.toNat.testBit (p % 8)).toNat
 rw [Nat.testBit_eq_decide_div_mod_eq]
 rcases Nat.mod_two_eq_zero_or_one (x.toNat / 2 ^ (p % 8)) with h | h <;> simp [h]
theorem half_pow (x i : Nat) : x / 2 ^ (i + 1) = x / 2 ^ i / 2 := by rw [Nat.pow_succ,Nat.div_div_eq_div_mul]
set_option maxRecDepth 100000 in
set_option maxHeartbeats 400000 in
theorem refBit_any (A : Option Addr) (l c : Nat) (bs : List UInt8) (B : Nat) (a : Int) (p : Nat) (w : World) (ha : a = (p : Int)) (hl : bs.length = l) (hp : p / 8 < l) (hpm : p ≤ 9223372036854775807) (hlm : l ≤ 9223372036854775807) (hb : Bytes w B A bs) :
  Calls Tryz.prog 59 #[.slice A l c,.int .i64 a] w fun e w' => e = .returned (.int .i64 ((bitAt bs p).toNat : Nat)) ∧ w = w' := by
 subst ha
 obtain ⟨x,hx⟩ := get_lt (bs := bs) (k := p / 8) (by omega)
 obtain ⟨b,o,rfl,_,hcell⟩ := hb (by rw [byteCells_length];omega)
 have hc := hcell _ _ (byteCells_get hx)
 have HV := Lib.hid (bit_value hx)
 have hxb : x.toNat < 256 := UInt8.toNat_lt x
 have hi : (p : Int) / 8 < (l : Int) := by omega
 have hr : (p : Int) % 8 < 8 := by omega
 clear hcell hb hl hx hp
 generalize x.toNat = y at *
 go_enter Tryz.func59,Tryz.ntmps59
 go_wp2
 go_loop [5,6] (fun n i => ∃ k : Nat,k ≤ p % 8 ∧ i = .int .i64 k ∧ n = .int .i64 (y / 2 ^ k : Nat)) (fun _ i => 8 - (intOf i).toNat)
 case atStart => exact ⟨0,Nat.zero_le _,rfl,by simp⟩
 case round =>
  obtain ⟨k,hk,rfl,rfl⟩ := hrel
  have hv : y / 2 ^ k ≤ y := Nat.div_le_self _ _
  have HS := Lib.hid (half_pow y k)
  by_cases hkr : k < p % 8
  ·have ht : decide ((k : Int) < (p : Int) % 8) = true := by simp;omega
   generalize y / 2 ^ k = v at *
   go_wp2
   go_round
   case rel => exact ⟨k + 1,by omega,by go_num,by rw [HS.out];rfl⟩
   case measure => simp [intOf];omega
  ·have ht : decide ((k : Int) < (p : Int) % 8) = false := by simp;omega
   obtain rfl : k = p % 8 := by omega
   have HV2 := Lib.hid HV.out
   clear HV
   generalize y / 2 ^ (p % 8) = v at *
   go_wp2
   go_ret
   exact ⟨ret_int (by rw [← HV2.out];rfl),rfl⟩
theorem flipK_yes {bs : List UInt8} {q m k : Nat} {x : UInt8} (h : m / 2 ^ k % 2 = 1) (hx : (flipK bs q m k)[(q + k) / 8]? = some x) :
  flipK bs q m (k + 1) = (flipK bs q m k).set ((q + k) / 8) (UInt8.ofNat (x.toNat ^^^ 2 ^ ((q + k) % 8))) := by
 rw [flipK,if_pos h,flipAt,hx]
theorem flipK_no {bs : List UInt8} {q m k : Nat} (h : ¬ m / 2 ^ k % 2 = 1) : flipK bs q m (k + 1) = flipK bs q m k := by
 rw [flipK,if_neg h]
theorem flipK_out {bs : List UInt8} {q m k : Nat} (h : bs.length ≤ (q + k) / 8) : flipK bs q m (k + 1) = flipK bs q m k := flipK_end bs q m k h 1
theorem byteCells_set (bs : List UInt8) (i : Nat) (y : UInt8) : byteCells (bs.set i y) = (byteCells bs).set i (.int .u8 (y.toNat : Int)) := by
 unfold byteCells
 rw [List.map_set]
theorem add_or_sub : ∀ x < 256,∀ r < 8,(x.testBit r = true → 2 ^ r ≤ x ∧ x - 2 ^ r = x ^^^ 2 ^ r) ∧ (x.testBit r = false → x + 2 ^ r < 256 ∧ x + 2 ^ r = x ^^^ 2 ^ r) := by decide +kernel
set_option maxRecDepth 100000 in
set_option maxHeartbeats 400000 in
theorem refFlip_any (A : Option Addr) (l c : Nat) (bs : List UInt8) (a : Int) (bits : Int) (w : World) (hl : bs.length = l) (hm : l ≤ 1000000) (ha1 : 0 ≤ a) (ha2 : a ≤ 1099511627776)
  (h0 : 0 ≤ bits) (h1 : bits < 4294967296) (hb : Bytes w w.heap.size A bs) :
  Calls Tryz.prog 22 #[.slice A l c,.int .i64 a,.int .u32 bits] w fun e w' => ∃ A' c',e = .returned (.slice A' l c') ∧ Bytes w' w'.heap.size A' (flipK bs a.toNat bits.toNat 32) ∧ Below w.heap.size w w' ∧ l ≤ c' := by
 obtain ⟨m,rfl⟩ := Int.eq_ofNat_of_zero_le h0
 obtain ⟨q,rfl⟩ := Int.eq_ofNat_of_zero_le ha1
 rw [Int.toNat_natCast,Int.toNat_natCast]
 have HL := Lib.hid hl
 have HB : Hid (Bytes w w.heap.size A bs) := hb
 obtain ⟨i0,hi,hz0,hz1,hz2⟩ := info_parts byteInfo
 have HI : Hid (Tryz.prog.info? 5 = some i0 ∧ i0.zero = some (.int .u8 0) ∧ i0.size = 1 ∧ i0.bytes = 1) := ⟨hi,hz0,hz1,hz2⟩
 have HOWN := Lib.hid (own_empty w 5 (Nat.le_refl _))
 clear hl hb h0 ha1 hi hz0 hz1 hz2
 go_enter Tryz.func22,Tryz.ntmps22
 go_wp2_with (at_builtin;refine wpList_append_cells _ rfl (.tmp 12) (.tmp 13) 25 rfl w.heap.size 5 i0 (.int .u8 0) 1 Tryz.underlying25 HI.out.1 HI.out.2.1 HI.out.2.2.1 HI.out.2.2.2 rfl (.slice (some ⟨w.heap.size,0,none⟩) 0 0) 0 [] rfl HOWN.out _ A l c (byteCells bs) rfl (by rw [byteCells_length,HL.out]) (HB.out.alloc (Nat.le_refl _) _) (byteCells_one _) (by unfold maxLen;omega) (by omega) (by simp) ?_;intro A' c' w3 hown hgrow hat;simp only [Nat.zero_add,List.nil_append] at hown ⊢;have HOWN3 := Lib.hid hown;have HBL3 := Lib.hid (((Below.refl w.heap.size w).alloc (Nat.le_refl _) (.cells #[] 5)).grown hgrow (by simp) (by simp [Value.ownBlock]));clear hown hgrow hat)
 clear HB HOWN HI
 go_loopw [1,8,9] (fun a n i wr => ∃ k : Nat,k ≤ 32 ∧ i = .int .i64 k ∧ a = .int .i64 ((q + k : Nat) : Int) ∧ n = .int .u32 ((m / 2 ^ k : Nat) : Int) ∧ OwnB wr w.heap.size 5 (.slice A' l c') l (flipK bs q m k) ∧ Below w.heap.size w wr) (fun _ _ i _ => 32 - (intOf i).toNat)
 case atStart => exact ⟨0,by omega,rfl,rfl,by simp,HOWN3.out,HBL3.out⟩
 case round =>
  obtain ⟨k,hk,rfl,rfl,rfl,hown,hbel⟩ := hrel
  have HO := Lib.hid hown
  have HBL := Lib.hid hbel
  clear hown hbel HOWN3 HBL3
  by_cases hlt : k < 32
  ·have hd : decide ((k : Int) < 32) = true := by simp;omega
   have HV := Lib.hid (half_pow m k)
   have hv : m / 2 ^ k ≤ m := Nat.div_le_self _ _
   have HK1 := Lib.hid (fun (x : UInt8) h => flipK_yes (bs := bs) (q := q) (m := m) (k := k) (x := x) h)
   have HK0 := Lib.hid (fun h => flipK_no (bs := bs) (q := q) (m := m) (k := k) h)
   have HKO := Lib.hid (fun h => flipK_out (bs := bs) (q := q) (m := m) (k := k) h)
   have HLK : Hid ((flipK bs q m k).length = l) := by rw [length_flipK];exact HL.out
   have HPS : Hid (q + (k + 1) = (q + k) + 1) := rfl
   have hpb : q + k ≤ 1099511628000 := by omega
   generalize m / 2 ^ k = v at *
   generalize flipK bs q m k = cur at *
   generalize q + k = P at *
   by_cases hbit : v % 2 = 1
   ·have hb1 : ((v : Int) % 2 == 1) = true := by simp;omega
    by_cases hin : P / 8 < l
    ·have hin' : decide ((P : Int) / 8 < (l : Int)) = true := by simp;omega
     have hinI : (P : Int) / 8 < (l : Int) := by omega
     obtain ⟨x,hx⟩ := get_lt (bs := cur) (k := P / 8) (by rw [HLK.out];omega)
     obtain ⟨g,cc,hA⟩ : ∃ g cc,Value.slice A' l c' = .slice (some ⟨g,0,none⟩) l cc := by
      rcases HO.out.2 with ⟨_,h⟩ | ⟨g,cap,_,h,_⟩
      ·omega
      ·exact ⟨g,cap,h⟩
     obtain ⟨rfl,rfl⟩ : A' = some ⟨g,0,none⟩ ∧ c' = cc := by
      simp only [Value.slice.injEq] at hA
      exact ⟨hA.1,hA.2.2⟩
     have hc : wr.cell? ⟨g,P / 8,none⟩ = some (.int .u8 (x.toNat : Int)) := by
      rw [HO.out.cellAt (P / 8) (by omega)]
      exact byteCells_get hx
     have hf := HO.out.frozenAt (P / 8)
     have HBIT := Lib.hid hbit
     have HX := Lib.hid (HK1.out x hbit hx)
     have HXX := Lib.hid hx
     have HIN := Lib.hid hin
     clear hbit hin hA hx HK1 HK0 HKO
     go_wp2
     go_loop [10,11] (fun u i => ∃ j : Nat,j ≤ P % 8 ∧ i = .int .i64 j ∧ u = .int .i64 ((2 ^ j : Nat) : Int)) (fun _ i => 8 - (intOf i).toNat)
     case atStart => exact ⟨0,Nat.zero_le _,rfl,rfl⟩
     case round =>
      obtain ⟨j,hj,rfl,rfl⟩ := hrel
      have HS : Hid (2 ^ (j + 1) = 2 ^ j * 2) := Nat.pow_succ ..
      have hu : 2 ^ j ≤ 2 ^ 7 := Nat.pow_le_pow_right (by decide) (by omega : j ≤ 7)
      by_cases hjr : j < P % 8
      ·have ht : decide ((j : Int) < (P : Int) % 8) = true := by simp;omega
       generalize 2 ^ j = u at *
       go_wp2
       go_round
       case rel => exact ⟨j + 1,by omega,by go_num,by rw [HS.out];rfl⟩
       case measure => simp [intOf];omega
      ·have ht : decide ((j : Int) < (P : Int) % 8) = false := by simp;omega
       obtain rfl : j = P % 8 := by omega
       have HAS := Lib.hid (add_or_sub x.toNat (UInt8.toNat_lt x) (P % 8) (by omega))
       have HBV : Hid (bitAt cur P = x.toNat.testBit (P % 8)) := by
        show bitAt cur P = _
        unfold bitAt
        rw [HXX.out]
       have hlt256 : x.toNat ^^^ 2 ^ (P % 8) < 256 := byte_xor_lt x (by omega)
       have HTN : Hid (((UInt8.ofNat (x.toNat ^^^ 2 ^ (P % 8))).toNat : Int) = ((x.toNat ^^^ 2 ^ (P % 8) : Nat) : Int)) := by
        show _ = _
        simp only [UInt8.toNat_ofNat']
        rw [Nat.mod_eq_of_lt hlt256]
       have HST := Lib.hid (HO.out.stored (P / 8) (.int .u8 ((UInt8.ofNat (x.toNat ^^^ 2 ^ (P % 8))).toNat : Int)))
       have hgb : w.heap.size ≤ g := (HO.out.lt g rfl).1
       generalize UInt8.ofNat (x.toNat ^^^ 2 ^ (P % 8)) = y at *
       generalize hz : x.toNat ^^^ 2 ^ (P % 8) = z at *
       generalize 2 ^ (P % 8) = u at *
       have hxb : x.toNat < 256 := UInt8.toNat_lt x
       cases hbt : x.toNat.testBit (P % 8)
       ·have HB2 := HBV.out.trans hbt
        obtain ⟨hs1,hs2⟩ := HAS.out.2 hbt
        have HSUM := Lib.hid hs2
        have HB3 := Lib.hid HB2
        clear hbt HB2 hs2 hz HAS
        go_wp2_with fail
        refine (refBit_any _ l c' cur _ _ P wr rfl HLK.out HIN.out (by omega) (by omega) (Cells.of_own HO.out)).mono ?_
        rintro e w' ⟨rfl,rfl⟩
        rw [HB3.out]
        go_wp2
        refine ⟨⟨k + 1,by omega,by go_num,by rw [HPS.out];go_num,by rw [HV.out];rfl,?_,HBL.out.setCell hgb _⟩,by simp [intOf];omega⟩
        have e : ((x.toNat : Int) + (u : Int)) = (y.toNat : Int) := by rw [HTN.out,← HSUM.out];rfl
        rw [e,HX.out]
        show World.ownsRow _ _ _ _ _ _ (byteCells (cur.set (P / 8) y))
        rw [byteCells_set]
        exact HST.out.1
       ·have HB2 := HBV.out.trans hbt
        obtain ⟨hs1,hs2⟩ := HAS.out.1 hbt
        have HSUM := Lib.hid hs2
        have HB3 := Lib.hid HB2
        clear hbt HB2 hs2 hz HAS
        go_wp2_with fail
        refine (refBit_any _ l c' cur _ _ P wr rfl HLK.out HIN.out (by omega) (by omega) (Cells.of_own HO.out)).mono ?_
        rintro e w' ⟨rfl,rfl⟩
        rw [HB3.out]
        go_wp2
        refine ⟨⟨k + 1,by omega,by go_num,by rw [HPS.out];go_num,by rw [HV.out];rfl,?_,HBL.out.setCell hgb _⟩,by simp [intOf];omega⟩
        have e : ((x.toNat : Int) + -(u : Int)) = (y.toNat : Int) := by rw [HTN.out,← HSUM.out];omega
        rw [e,HX.out]
        show World.ownsRow _ _ _ _ _ _ (byteCells (cur.set (P / 8) y))
        rw [byteCells_set]
        exact HST.out.1
    ·have hin' : decide ((P : Int) / 8 < (l : Int)) = false := by simp;omega
     have HE := Lib.hid (HKO.out (by rw [HL.out];omega))
     clear hbit hin
     go_wp2
     go_roundw
     case rel => exact ⟨k + 1,by omega,by go_num,by rw [HPS.out];go_num,by rw [HV.out];rfl,by rw [HE.out];exact HO.out,HBL.out⟩
     case measure => simp [intOf];omega
   ·have hb1 : ((v : Int) % 2 == 1) = false := by simp;omega
    have HE := Lib.hid (HK0.out hbit)
    clear hbit
    go_wp2
    go_roundw
    case rel => exact ⟨k + 1,by omega,by go_num,by rw [HPS.out];go_num,by rw [HV.out];rfl,by rw [HE.out];exact HO.out,HBL.out⟩
    case measure => simp [intOf];omega
  ·obtain rfl : k = 32 := by omega
   have HC := Lib.hid (Cells.of_own HO.out)
   go_wp2
   go_ret
   exact ⟨_,_,rfl,HC.out,HBL.out,own_capK (OwnT.of HO.out)⟩
end Go.Proofs.YtaknladkodibaaaGreatDoor
