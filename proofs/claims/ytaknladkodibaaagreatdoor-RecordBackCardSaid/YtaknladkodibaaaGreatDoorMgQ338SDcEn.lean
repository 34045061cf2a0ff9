/- Layer 18: where pieces end. -/
import Derived.Test.YtaknladkodibaaaGreatDoorMgQ33819
import Derived.RegionTactic
import Derived.Deep.Cut
import Derived.Deep.DeepCutAuto
import Derived.IntWalk
import Derived.Outline
import Derived.Deep.LoopGhost
import Derived.BigQuiet
namespace Go.Proofs.YtaknladkodibaaaGreatDoor
open Go.RowKit CrcP FieldP
def two (bs:List UInt8) (p:Nat):Nat:=val ((bs.drop p).take 2)
def endN (bs:List UInt8) (p:Nat):Option Nat:=if _h:p + 2 ≤ bs.length then (if two bs p = 0 then some (p + 2) else endN bs (p + 2 + two bs p)) else none
termination_by bs.length - p
decreasing_by omega
theorem endN_none {bs:List UInt8} {p:Nat} (h:¬ p + 2 ≤ bs.length):endN bs p = none:=by rw [endN,dif_neg h]
theorem endN_zero {bs:List UInt8} {p:Nat} (h:p + 2 ≤ bs.length) (h2:two bs p = 0):endN bs p = some (p + 2):=by rw [endN,dif_pos h,if_pos h2]
theorem endN_more {bs:List UInt8} {p:Nat} (h:p + 2 ≤ bs.length) (h2:two bs p ≠ 0):endN bs p = endN bs (p + 2 + two bs p):=by rw [endN,dif_pos h,if_neg h2]
def endP:Option Nat→Value
 | some q => .tuple #[.int .i64 (q:Int),.int .i64 0]
 | none => .tuple #[.int .i64 0,.int .i64 2]
def endV (bs:List UInt8) (p:Int):Value:=if p < 0 ∨ (bs.length:Int) < p then .tuple #[.int .i64 0,.int .i64 1] else endP (endN bs p.toNat)
theorem endV_form (bs:List UInt8) (p:Int):∃ a e:Int,endV bs p = .tuple #[.int .i64 a,.int .i64 e]:=by
 unfold endV
 split
 ·exact ⟨_,_,rfl⟩
 ·cases endN bs p.toNat <;> exact ⟨_,_,rfl⟩
def endS (bs:List UInt8) (s:RSt):Option Nat:=if s.bad = true then none else endN bs s.p
theorem two_lt (bs:List UInt8) (p:Nat):two bs p < 65536:=by
 unfold two
 have h:=val_lt ((bs.drop p).take 2)
 refine Nat.lt_of_lt_of_le h ?_
 have:((bs.drop p).take 2).length ≤ 2:=by rw [List.length_take];omega
 generalize ((bs.drop p).take 2).length = k at *
 have:k = 0 ∨ k = 1 ∨ k = 2:=by omega
 rcases this with rfl | rfl | rfl <;> decide
set_option maxHeartbeats 400000 in
theorem seek_out (g:Nat) (A:Option Addr) (l c:Nat) (p a:Int) (w:World) (h:Rd w g A l c p false) (h1:(l:Int) < a) :
  Calls Tryz.prog 130 #[.pointer (some ⟨g,0,none⟩),.int .i64 a] w fun e w' => e = .returned (.tuple #[])∧Rd w' g A l c p true∧Only g w w':=by
 have H:=Lib.hid h
 obtain ⟨c0,c1,c2,f1,f2⟩:=h.cells
 have h0:¬ a < 0:=by omega
 clear h
 go_enter Tryz.func130,Tryz.ntmps130
 go_wp2
 exact bodyPost_ret (results_none rfl _ _ _) rfl ⟨rfl,H.out.setBad,only_set (only_refl _ _) _ _⟩
set_option maxRecDepth 100000 in
set_option maxHeartbeats 1000000 in
theorem dcEnd_any (A:Option Addr) (l c:Nat) (bs:List UInt8) (p:Int) (w:World) (hl:bs.length = l) (hm:l ≤ 1000000) (hb:Bytes w w.heap.size A bs) :
  Calls Tryz.prog 92 #[.slice A l c,.int .i64 p] w fun e w' => e = .returned (endV bs p)∧Below w.heap.size w w':=by
 by_cases h0:p < 0
 ·have HE:Hid (endV bs p = .tuple #[.int .i64 0,.int .i64 1]):=by show _ = _;unfold endV;rw [if_pos (.inl h0)]
  clear hb hl
  go_enter Tryz.func92,Tryz.ntmps92
  go_wp2
  go_ret2
  exact ⟨by rw [HE.out];rfl,Below.refl _ _⟩
 by_cases h1:(l:Int) < p
 ·have HE:Hid (endV bs p = .tuple #[.int .i64 0,.int .i64 1]):=by show _ = _;unfold endV;rw [if_pos (.inr (by omega))]
  clear hb hl
  go_enter Tryz.func92,Tryz.ntmps92
  go_wp2
  go_ret2
  exact ⟨by rw [HE.out];rfl,Below.refl _ _⟩
 obtain ⟨q,rfl⟩:=Int.eq_ofNat_of_zero_le (show 0 ≤ p by omega)
 have hql:q ≤ l:=by omega
 have HE:Hid (endV bs (q:Int) = endP (endN bs q)):=by show _ = _;unfold endV;rw [if_neg (by omega),Int.toNat_natCast]
 have HL:=Lib.hid hl
 have HB:=Lib.hid hb
 have HNW:=Lib.hid (newK_any A l c w)
 obtain ⟨W1,hW1⟩:∃ W1,w.alloc (.cells #[.slice A l c,.int .i64 0,.bool false] 196) = W1:=⟨_,rfl⟩
 have HR1:Hid (Rd W1 w.heap.size A l c 0 false):=by show Rd _ _ _ _ _ _ _;rw [← hW1];exact rd_new A l c w
 have HB1:Hid (Below w.heap.size w W1):=by show Below _ _ _;rw [← hW1];exact (Below.refl _ w).alloc (Nat.le_refl _) _
 rw [hW1] at HNW
 have HSK:=Lib.hid (seek_any w.heap.size A l c 0 (q:Int) W1 HR1.out (by omega) (by omega))
 have HNUM:Hid (∀ (W:World) (s:RSt),RdK W w.heap.size A l c s→s.p ≤ l→Below w.heap.size w W→_):=fun W s hs hp hW => number_st w.heap.size A l c bs w.heap.size s 2 2 W hs HL.out (by omega) hp (by omega) (by omega) rfl (HB.out.below hW (Nat.le_refl _))
 clear hb hl h0 h1 hW1
 go_enter Tryz.func92,Tryz.ntmps92
 go_wp2_with (first
  | (go_at_call 126;refine HNW.out.mono ?_;rintro e w' ⟨rfl,rfl⟩)
  | (go_at_call 130;refine HSK.out.mono ?_;rintro e w2 ⟨rfl,hr2,ho2⟩;have HR2:=Lib.hid hr2;have HB2:=Lib.hid (only_below ho2 HB1.out HB1.out.size (Nat.le_refl _));clear hr2 ho2)
  | (go_at_call 88;refine (HNUM.out _ ⟨q,false⟩ HR2.out hql HB2.out).mono ?_;rintro e w3 ⟨rfl,hr3,ho3⟩;have HR3:=Lib.hid hr3;have HB3:=Lib.hid (only_below ho3 HB2.out HB2.out.size (Nat.le_refl _));clear hr3 ho3))
 go_loopg [7] (l + 1 - q) (fun gk nv wr => ∃ st:RSt,nv = .int .u32 ((st.num bs 2).1:Nat)∧RdK wr w.heap.size A l c (st.num bs 2).2∧Below w.heap.size w wr∧st.p ≤ l∧endS bs st = endN bs q∧gk = if st.bad = true then 0 else l + 1 - st.p)
 case atStart => exact ⟨⟨q,false⟩,rfl,HR3.out,HB3.out,hql,rfl,rfl⟩
 case round =>
  obtain ⟨st,rfl,hrd,hbw,hsp,hes,hgk⟩:=hrel
  have HRD:=Lib.hid hrd
  have HBW:=Lib.hid hbw
  clear hrd hbw HR3 HB3 HR2 HB2
  obtain ⟨pp,bad⟩:=st
  cases bad with
  | true =>
   have HN0:Hid ((RSt.num bs ⟨pp,true⟩ 2) = (0,⟨pp,true⟩)):=rfl
   rw [HN0.out] at HRD ⊢
   have HEE:Hid (endN bs q = none):=hes.symm
   clear hes hgk HNUM HSK
   have HOK:=Lib.hid (ok_any w.heap.size A l c (pp:Int) true wr HRD.out)
   go_wp2_with (go_at_call 128;refine HOK.out.mono ?_;rintro e w' ⟨rfl,rfl⟩)
   go_ret2
   exact ⟨by rw [HE.out,HEE.out];rfl,HBW.out⟩
  | false =>
   have hgk2:gk = l + 1 - pp:=hgk
   have hes2:endN bs pp = endN bs q:=hes
   have hpl:pp ≤ l:=hsp
   clear hgk hes hsp
   by_cases hin:pp + 2 ≤ l
   ·have HN0:Hid ((RSt.num bs ⟨pp,false⟩ 2) = (two bs pp,⟨pp + 2,false⟩)):=by
     show _ = _
     unfold RSt.num
     rw [if_neg Bool.false_ne_true,if_pos (by rw [HL.out];exact hin)]
     rfl
    rw [HN0.out] at HRD ⊢
    have hlt:=two_lt bs pp
    have HES:=Lib.hid hes2
    by_cases h2:two bs pp = 0
    ·have HEE:Hid (endN bs q = some (pp + 2)):=by show _ = _;rw [← HES.out];exact endN_zero (by rw [HL.out];exact hin) h2
     rw [h2] at ⊢
     clear h2 hlt hes2 HNUM HSK
     have HOK:=Lib.hid (ok_any w.heap.size A l c ((pp + 2:Nat):Int) false wr HRD.out)
     have HAT:=Lib.hid (at_any w.heap.size A l c ((pp + 2:Nat):Int) false wr HRD.out)
     go_wp2_with (first
      | (go_at_call 128;refine HOK.out.mono ?_;rintro e w' ⟨rfl,rfl⟩)
      | (go_at_call 91;refine HAT.out.mono ?_;rintro e w' ⟨rfl,rfl⟩))
     go_ret2
     exact ⟨by rw [HE.out,HEE.out];rfl,HBW.out⟩
    ·have hmore:=endN_more (bs:=bs) (p:=pp) (by rw [HL.out];exact hin) h2
     obtain ⟨n,hn⟩:∃ n,two bs pp = n:=⟨_,rfl⟩
     rw [hn] at h2 hlt hmore ⊢
     have HMO:Hid (endN bs (pp + 2 + n) = endN bs q):=hmore.symm.trans HES.out
     have t1:decide ((0:Int) < (n:Int)) = true:=decide_eq_true (by omega)
     have t1':decide (0 < n) = true:=decide_eq_true (by omega)
     obtain ⟨p2,hp2⟩:∃ p2,pp + 2 = p2:=⟨_,rfl⟩
     rw [hp2] at HMO HRD
     have HAT:=Lib.hid (at_any w.heap.size A l c (p2:Int) false wr HRD.out)
     clear hn hmore hes2 HSK
     by_cases hfit:p2 + n ≤ l
     ·have HSE:=Lib.hid (seek_any w.heap.size A l c (p2:Int) ((p2:Int) + (n:Int)) wr HRD.out (by omega) (by omega))
      go_wp2_with (first
       | (go_at_call 91;refine HAT.out.mono ?_;rintro e w' ⟨rfl,rfl⟩)
       | (go_at_call 130;refine HSE.out.mono ?_;rintro e w5 ⟨rfl,hr5,ho5⟩;have HR5:Hid (RdK w5 w.heap.size A l c ⟨p2 + n,false⟩):=hr5;have HB5:=Lib.hid (only_below ho5 HBW.out HBW.out.size (Nat.le_refl _));clear hr5 ho5)
       | (go_at_call 88;refine (HNUM.out _ ⟨p2 + n,false⟩ HR5.out hfit HB5.out).mono ?_;rintro e w6 ⟨rfl,hr6,ho6⟩;have HR6:=Lib.hid hr6;have HB6:=Lib.hid (only_below ho6 HB5.out HB5.out.size (Nat.le_refl _));clear hr6 ho6))
      go_roundg (l + 1 - (p2 + n))
      case measure => omega
      case rel => exact ⟨⟨p2 + n,false⟩,rfl,HR6.out,HB6.out,hfit,HMO.out,rfl⟩
     ·have HSE:=Lib.hid (seek_out w.heap.size A l c (p2:Int) ((p2:Int) + (n:Int)) wr HRD.out (by omega))
      have HNN:Hid (endN bs q = none):=by show _ = _;rw [← HMO.out];exact endN_none (by rw [HL.out];omega)
      go_wp2_with (first
       | (go_at_call 91;refine HAT.out.mono ?_;rintro e w' ⟨rfl,rfl⟩)
       | (go_at_call 130;refine HSE.out.mono ?_;rintro e w5 ⟨rfl,hr5,ho5⟩;have HR5:Hid (RdK w5 w.heap.size A l c ⟨p2,true⟩):=hr5;have HB5:=Lib.hid (only_below ho5 HBW.out HBW.out.size (Nat.le_refl _));clear hr5 ho5)
       | (go_at_call 88;refine (HNUM.out _ ⟨p2,true⟩ HR5.out (show p2 ≤ l by omega) HB5.out).mono ?_;rintro e w6 ⟨rfl,hr6,ho6⟩;have HR6:=Lib.hid hr6;have HB6:=Lib.hid (only_below ho6 HB5.out HB5.out.size (Nat.le_refl _));clear hr6 ho6))
      go_roundg 0
      case measure => omega
      case rel => exact ⟨⟨p2,true⟩,rfl,HR6.out,HB6.out,(show p2 ≤ l by omega),HNN.out.symm,rfl⟩
   ·have HN0:Hid ((RSt.num bs ⟨pp,false⟩ 2) = (0,⟨pp,true⟩)):=by
     show _ = _
     unfold RSt.num
     rw [if_neg Bool.false_ne_true,if_neg (by rw [HL.out];exact hin)]
    rw [HN0.out] at HRD ⊢
    have HEE:Hid (endN bs q = none):=by show _ = _;rw [← hes2];exact endN_none (by rw [HL.out];exact hin)
    clear hes2 HNUM HSK
    have HOK:=Lib.hid (ok_any w.heap.size A l c (pp:Int) true wr HRD.out)
    go_wp2_with (go_at_call 128;refine HOK.out.mono ?_;rintro e w' ⟨rfl,rfl⟩)
    go_ret2
    exact ⟨by rw [HE.out,HEE.out];rfl,HBW.out⟩
end Go.Proofs.YtaknladkodibaaaGreatDoor
