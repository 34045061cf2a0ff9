/- Layer 17: tombstones are put. -/
import Derived.Test.YtaknladkodibaaaGreatDoorMgQ33835
import Derived.Test.YtaknladkodibaaaGreatDoorMgQ33824
import Derived.Test.YtaknladkodibaaaGreatDoorMgQ33819
import Derived.Test.YtaknladkodibaaaGreatDoorMgQ33832
import Derived.Lib.SmallJoins
import Derived.Test.YtaknladkodibaaaGreatDoorMgQ33818
namespace Go.Proofs.YtaknladkodibaaaGreatDoor
open Go.RowKit CrcP FieldP
def tombBytes:List UInt8:=[84,79,77,66]
def tombB (l:List UInt8):List UInt8:=sealed (tombBytes++putN l.length 1++l)
theorem tombB_length (l:List UInt8):(tombB l).length = 9 + l.length:=by
 unfold tombB
 rw [sealed_length]
 simp [putN_length,tombBytes]
 omega
theorem rightB_len {l:List UInt8} (h:rightB l = true):1 ≤ l.length∧l.length ≤ 64:=by
 unfold rightB at h
 simp only [Bool.and_eq_true,decide_eq_true_eq] at h
 exact ⟨h.1.1.1,h.1.1.2⟩
set_option maxHeartbeats 1000000 in
theorem stPut_no (g:Nat) (s:ByteArray) (w:World) (hm:s.size ≤ maxLen) (h:rightB s.data.toList = false):Calls Tryz.prog 21 #[.pointer (some ⟨g,0,none⟩),.string s] w fun e w' => e = .returned (.tuple #[.slice none 0 0,.int .i64 6])∧Below w.heap.size w w':=by
 have HR:=Lib.hid (rightM_any s w hm)
 rw [h] at HR
 clear h
 go_enter Tryz.func21,Tryz.ntmps21
 go_wp2_with (go_at_call 30;refine HR.out.mono ?_;rintro e w1 ⟨rfl,hb⟩;have HB1:=Lib.hid hb;clear hb)
 go_ret2
 exact ⟨rfl,HB1.out⟩
set_option maxRecDepth 100000 in
set_option maxHeartbeats 1000000 in
theorem stPut_yes (g:Nat) (s:ByteArray) (w:World) (hm:s.size ≤ maxLen) (h:rightB s.data.toList = true) (hT:Table w g):Calls Tryz.prog 21 #[.pointer (some ⟨g,0,none⟩),.string s] w fun e w' =>
  ∃ A k,e = .returned (.tuple #[.slice A (9 + s.size) k,.int .i64 0])∧OwnY w' w.heap.size (.slice A (9 + s.size) k) (9 + s.size) (tombB s.data.toList)∧Below w.heap.size w w':=by
 have hln:s.data.toList.length = s.size:=by rw [Array.length_toList];rfl
 have hs:=rightB_len h
 have HR:=Lib.hid (rightM_any s w hm)
 rw [h] at HR
 have HD:Hid (tombB s.data.toList = sealed (tombBytes++putN s.size 1++s.data.toList)):=by show _ = _;unfold tombB;rw [hln]
 have HLN:=Lib.hid hln
 rw [hln] at hs
 have HT:Hid (Table w g):=hT
 have htl:=hT.lt
 have HM:=Lib.hid hm
 clear h hT hln hm
 go_enter Tryz.func21,Tryz.ntmps21
 go_wp2_with fail
 refine HR.out.mono ?_
 rintro e w1 ⟨rfl,hb⟩
 have HB1:=Lib.hid hb
 have HT1:=Lib.hid (HT.out.below hb htl)
 clear hb
 have kc:=fun (C:Array Value) (n k:Nat) => Joins.run_convert_bytes_const_at (P:=Tryz.prog) w1 25 5 C n k w1.heap.size rfl Tryz.underlying25 Tryz.underlying5
 have HO1:=Lib.hid (own_of_const w1 (base:=w.heap.size) (e:=5) (C:=#[.int .u8 84,.int .u8 79,.int .u8 77,.int .u8 66]) (fz:=(4,5)) (n:=4) (xs:=byteCells tombBytes) rfl rfl HB1.out.size (by unfold maxLen;omega) (by simp))
 have HB2:=Lib.hid (HB1.out.alloc HB1.out.size (.cells #[.int .u8 84,.int .u8 79,.int .u8 77,.int .u8 66] 5 (4,5)))
 have HT2:=Lib.hid (HT1.out.alloc (.cells #[.int .u8 84,.int .u8 79,.int .u8 77,.int .u8 66] 5 (4,5)))
 go_wp2_with fail
 clear kc
 generalize w1.alloc (.cells #[.int .u8 84,.int .u8 79,.int .u8 77,.int .u8 66] 5 (4,5)) = w2 at *
 refine (put_any _ 4 tombBytes (s.size:Int) 1 w.heap.size w2 (by omega) (by omega) (by omega) (by omega) (by omega) HO1.out HB2.out.size).mono ?_
 rintro e w3 ⟨A3,c3,rfl,happ⟩
 have HO3:Hid (OwnY w3 w.heap.size (.slice A3 5 c3) 5 (tombBytes++putN s.size 1)):=by have:=happ.own;rwa [Int.toNat_natCast,show cnt 1 = 1 from rfl] at this
 have HB3:=Lib.hid (happ.below HB2.out HB2.out.size (fun k hk => (HO1.out.lt k hk).1))
 have HT3:=Lib.hid (HT.out.below HB3.out htl)
 rw [show (4:Nat) + cnt 1 = 5 from rfl]
 clear happ HO1
 go_wp2_with (at_builtin;refine wpList_appT_string _ byteElem Tryz.underlying9 rfl (.tmp 17) (.tmp 18) rfl w.heap.size (.slice A3 5 c3) 5 (byteCells (tombBytes++putN s.size 1)) rfl HO3.out s rfl (by unfold maxLen;omega) (by omega) HB3.out.size ?_;intro A4 c4 w4 hA;have HA:=Lib.hid hA;clear hA)
 have HO4:Hid (OwnY w4 w.heap.size (.slice A4 (5 + s.size) c4) (5 + s.size) (tombBytes++putN s.size 1++s.data.toList)):=by have:=HA.out.own;rwa [← byteCells_append] at this
 have HB4:=Lib.hid (HA.out.below HB3.out HB3.out.size (fun k hk => (HO3.out.lt k hk).1))
 have HT4:=Lib.hid (HT.out.below HB4.out htl)
 refine (close_any g _ (5 + s.size) _ w.heap.size w4 (by omega) HO4.out HB4.out.size HT4.out).mono ?_
 rintro e w5 ⟨A5,c5,rfl,happ⟩
 have HO5:=Lib.hid happ.own
 have HB5:=Lib.hid (happ.below HB4.out HB4.out.size (fun k hk => (HO4.out.lt k hk).1))
 rw [← HD.out] at HO5
 rw [show 5 + s.size + 4 = 9 + s.size by omega] at HO5 ⊢
 clear happ
 go_wp2
 go_ret2
 exact ⟨A5,c5,rfl,HO5.out,HB5.out⟩
def tombMark:ByteArray:=⟨#[84,79,77,66]⟩
def stS1 (bs:List UInt8) (p:Nat):Nat × RSt:=(openS bs p).num bs 1
def stS2 (bs:List UInt8) (p:Nat):List UInt8 × RSt:=(stS1 bs p).2.row bs (stS1 bs p).1
def stR (bs:List UInt8) (p:Nat):Nat:=if chkN bs p (stS2 bs p).2 = 0 then (if rightB (stS2 bs p).1 = true then 0 else 6) else chkN bs p (stS2 bs p).2
def stV (bs:List UInt8) (p:Nat):Value :=
 .tuple #[.string (if stR bs p = 0 then ⟨(stS2 bs p).1.toArray⟩ else ⟨#[]⟩),.int .i64 (if stR bs p = 0 then (((stS2 bs p).2.num bs 4).2.p:Int) else 0),.int .i64 (stR bs p:Nat)]
theorem stV_good {bs:List UInt8} {p:Nat} (h:stR bs p = 0):stV bs p = .tuple #[.string ⟨(stS2 bs p).1.toArray⟩,.int .i64 (((stS2 bs p).2.num bs 4).2.p:Int),.int .i64 0]:=by
 unfold stV
 rw [if_pos h,if_pos h,h]
 rfl
theorem stV_bad {bs:List UInt8} {p:Nat} (h:stR bs p ≠ 0):stV bs p = .tuple #[.string ⟨#[]⟩,.int .i64 0,.int .i64 (stR bs p:Nat)]:=by
 unfold stV
 rw [if_neg h,if_neg h]
set_option maxRecDepth 100000 in
set_option maxHeartbeats 1000000 in
theorem stTake_arg (tg:Nat) (A:Option Addr) (l c:Nat) (p:Int) (w:World) (h:p < 0 ∨ (l:Int) < p) :
  Calls Tryz.prog 86 #[.pointer (some ⟨tg,0,none⟩),.slice A l c,.int .i64 p] w fun e w' => e = .returned (.tuple #[.string ⟨#[]⟩,.int .i64 0,.int .i64 1])∧w = w':=by
 have HO:=Lib.hid (fun W => open_arg tombMark A l c p W h)
 clear h
 go_enter Tryz.func86,Tryz.ntmps86
 go_wp2_with (go_at_call 87;refine (HO.out _).mono ?_;rintro e w' ⟨rfl,rfl⟩)
 go_ret3
 exact ⟨rfl,rfl⟩
set_option maxRecDepth 100000 in
set_option maxHeartbeats 1000000 in
theorem stTake_form (tg:Nat) (A:Option Addr) (l c:Nat) (bs:List UInt8) (B:Nat) (p:Nat) (w:World) (hl:bs.length = l) (hm:l ≤ 1099511627776) (hlc:l ≤ c)
  (hb:Bytes w B A bs) (hp:p + 4 ≤ l) (hi:isB tombBytes bs p = false) :
  Calls Tryz.prog 86 #[.pointer (some ⟨tg,0,none⟩),.slice A l c,.int .i64 (p:Int)] w fun e w' => e = .returned (.tuple #[.string ⟨#[]⟩,.int .i64 0,.int .i64 3])∧w = w':=by
 have HO:=Lib.hid (open_form tombMark A l c bs B p w rfl hl hm hlc hb hp hi)
 clear hi hb hl
 go_enter Tryz.func86,Tryz.ntmps86
 go_wp2_with (go_at_call 87;refine HO.out.mono ?_;rintro e w' ⟨rfl,rfl⟩)
 go_ret3
 exact ⟨rfl,rfl⟩
set_option maxRecDepth 100000 in
set_option maxHeartbeats 2000000 in
theorem stTake_ok (tg:Nat) (A:Option Addr) (l c:Nat) (bs:List UInt8) (B:Nat) (p:Nat) (w:World) (hT:Table w tg) (hl:bs.length = l) (hm:l ≤ 1099511627776) (hlc:l ≤ c)
  (hb:Bytes w B A bs) (hB:B ≤ w.heap.size) (hp:p ≤ l) (hi:p + 4 ≤ l→isB tombBytes bs p = true) :
  Calls Tryz.prog 86 #[.pointer (some ⟨tg,0,none⟩),.slice A l c,.int .i64 (p:Int)] w fun e w' => e = .returned (stV bs p)∧Below w.heap.size w w':=by
 have HO:=Lib.hid (open_ok tombMark A l c bs B p w rfl hl hm hlc hb hB hp hi)
 have HT0:=Lib.hid hT
 have HBA:=Lib.hid hb
 have HL:=Lib.hid hl
 have htl:=hT.lt
 have HS0:=Lib.hid (openS_le (bs:=bs) (p:=p) (by omega))
 have HG0:=Lib.hid (openS_ge bs p)
 have HS1:=Lib.hid (num_le (k:=1) HS0.out)
 have HG1:=Lib.hid (num_ge bs (openS bs p) 1)
 have HS2:=Lib.hid (row_le (k:=(stS1 bs p).1) HS1.out)
 have HG2:=Lib.hid (row_ge bs (stS1 bs p).2 (stS1 bs p).1)
 have hn1:(stS1 bs p).1 < 4294967296:=num_lt1 bs _
 have HRL:Hid ((stS2 bs p).1.length ≤ (stS1 bs p).1):=row_len _ _
 have E1:Hid ((openS bs p).num bs 1 = stS1 bs p):=rfl
 have E2:Hid ((stS1 bs p).2.row bs (stS1 bs p).1 = stS2 bs p):=rfl
 have HR:Hid (stR bs p = if chkN bs p (stS2 bs p).2 = 0 then (if rightB (stS2 bs p).1 = true then 0 else 6) else chkN bs p (stS2 bs p).2):=rfl
 have HVG:Hid (stR bs p = 0→stV bs p = .tuple #[.string ⟨(stS2 bs p).1.toArray⟩,.int .i64 (((stS2 bs p).2.num bs 4).2.p:Int),.int .i64 0]):=stV_good
 have HVB:Hid (stR bs p ≠ 0→stV bs p = .tuple #[.string ⟨#[]⟩,.int .i64 0,.int .i64 (stR bs p:Nat)]):=stV_bad
 have hcv:∀ (W:World) (A:Option Addr) (m c' B:Nat) (xs:List UInt8),Bytes W B A xs→xs.length = m→(convert 25 9 (.slice A m c')).run Tryz.prog W = .ok (.string ⟨xs.toArray⟩) W:=fun W A m c' B xs h hl => run_string_of 25 9 5 Tryz.underlying25 Tryz.underlying5 Tryz.underlying9 h hl
 have HCV:=Lib.hid hcv
 clear hi hb hl hT hcv
 rw [E1.out] at HS1 HG1 HS2
 rw [E2.out] at HS2 HG2
 obtain ⟨n,hn⟩:∃ n,(stS1 bs p).1 = n:=⟨_,rfl⟩
 rw [hn] at hn1 HRL E2
 have HN:=Lib.hid hn
 clear hn
 go_enter Tryz.func86,Tryz.ntmps86
 go_wp2_with (go_at_call 87;refine HO.out.mono ?_;rintro e w1 ⟨g,rfl,hg,hr,hbw⟩;have HR1:=Lib.hid hr;have HB1:=Lib.hid hbw;have HG:=Lib.hid hg;clear hr hbw hg)
 have hgl:=HR1.out.lt
 refine (number_st g A l c bs B (openS bs p) 1 1 _ HR1.out HL.out hm (by have:=HS0.out;have:=HL.out;omega) (by omega) (by omega) rfl (HBA.out.below HB1.out hB)).mono ?_
 rintro e w2 ⟨rfl,hr,ho⟩
 rw [E1.out] at hr ⊢
 rw [HN.out]
 have HR2:=Lib.hid hr
 have HB2:=Lib.hid (only_below ho HB1.out HB1.out.size HG.out)
 have HO2:=Lib.hid ho
 clear hr ho
 go_wp2_with fail
 refine (bytes_st g A l c bs B (stS1 bs p).2 n _ HR2.out HL.out hm hlc (by have:=HS1.out;have:=HL.out;omega) (HBA.out.below HB2.out hB) (Nat.le_trans hB HB2.out.size)).mono ?_
 rintro e w3 ⟨A',m,k,rfl,hown,hr,ho⟩
 rw [E2.out] at hr hown
 have HR3:=Lib.hid hr
 have HB3:=Lib.hid (only_below ho HB2.out HB2.out.size HG.out)
 have hxl:(stS2 bs p).1.length = m:=by have:=(OwnT.of hown).1;rwa [byteCells_length] at this
 have HXL:=Lib.hid hxl
 have hcv:=HCV.out w3 A' m k _ _ (OwnT.of hown).cells hxl
 clear hr ho hown hxl
 obtain ⟨T,hT⟩:∃ T:ByteArray,(⟨(stS2 bs p).1.toArray⟩:ByteArray) = T:=⟨_,rfl⟩
 rw [hT] at hcv HVG
 have HRT:Hid (∀ W,Calls Tryz.prog 30 #[.string T] W fun e w' => e = .returned (.bool (rightB (stS2 bs p).1))∧Below W.heap.size W w'):=fun W => by
  have:=rightM_any T W (by rw [← hT];show (stS2 bs p).1.toArray.size ≤ maxLen;rw [List.size_toArray];have:=HRL.out;unfold maxLen;omega)
  rw [← hT] at this ⊢
  exact this
 have HTT:=Lib.hid hT
 clear hT
 have HCK:=Lib.hid (check_any tg g A l c bs B p (stS2 bs p).2 _ (HT0.out.below HB3.out htl) HR3.out HL.out hm hlc (by have:=HS2.out;have:=HL.out;omega) (Nat.le_trans HG0.out (Nat.le_trans HG1.out HG2.out)) (HBA.out.below HB3.out hB) (Nat.le_trans hB HG.out))
 obtain ⟨r,hr⟩:∃ r,chkN bs p (stS2 bs p).2 = r:=⟨_,rfl⟩
 rw [hr] at HCK HR
 clear hr
 by_cases hr0:r = 0
 ·subst hr0
  cases hrb:rightB (stS2 bs p).1 with
  | false =>
   rw [hrb] at HRT HR
   have HR6:Hid (stR bs p = 6):=HR.out
   go_wp2_with (first | (go_at_call 90;refine HCK.out.mono ?_;rintro e w4 ⟨rfl,_,ho⟩;have HB4:=Lib.hid (only_below ho HB3.out HB3.out.size HG.out);clear ho) | (go_at_call 30;refine (HRT.out _).mono ?_;rintro e w5 ⟨rfl,hb⟩;have HB5:=Lib.hid (HB4.out.trans (hb.mono HB4.out.size));clear hb))
   go_ret3
   exact ⟨by rw [HVB.out (by rw [HR6.out];decide),HR6.out];rfl,HB5.out⟩
  | true =>
   rw [hrb] at HRT HR
   have HR6:Hid (stR bs p = 0):=HR.out
   go_wp2_with (first | (go_at_call 90;refine HCK.out.mono ?_;rintro e w4 ⟨rfl,hr4,ho⟩;have HR4:=Lib.hid hr4;have HB4:=Lib.hid (only_below ho HB3.out HB3.out.size HG.out);clear hr4 ho;have hgl4:=HR4.out.lt) | (go_at_call 30;refine (HRT.out _).mono ?_;rintro e w5 ⟨rfl,hb⟩;have HR5:=Lib.hid (Rd.below HR4.out hb hgl4);have HB5:=Lib.hid (HB4.out.trans (hb.mono HB4.out.size));clear hb) | (go_at_call 91;refine (at_any g A l c _ _ _ HR5.out).mono ?_;rintro e w' ⟨rfl,rfl⟩))
   go_ret3
   exact ⟨by rw [HVG.out HR6.out];rfl,HB5.out⟩
 ·have HR6:Hid (stR bs p = r):=by show _ = _;rw [HR.out,if_neg hr0]
  have hne:((r:Int) != 0) = true:=by simp;omega
  go_wp2_with (go_at_call 90;refine HCK.out.mono ?_;rintro e w4 ⟨rfl,_,ho⟩;have HB4:=Lib.hid (only_below ho HB3.out HB3.out.size HG.out);clear ho)
  go_ret3
  exact ⟨by rw [HVB.out (by rw [HR6.out];exact hr0),HR6.out];rfl,HB4.out⟩
theorem tombB_parts (l:List UInt8):tombB l = tombBytes++(putN l.length 1++(l++putN (sumN (tombBytes++putN l.length 1++l)) 4)):=by
 unfold tombB sealed
 simp [List.append_assoc]
theorem val_put1 {n:Nat} (h:n < 256):val (putN n 1) = n:=by rw [val_putN];exact Nat.mod_eq_of_lt h
theorem tomb_back {bs l:List UInt8} {p:Nat} (hr:rightB l = true) (h:(bs.drop p).take (9 + l.length) = tombB l) :
  p + 9 + l.length ≤ bs.length∧isB tombBytes bs p = true∧stR bs p = 0∧(stS2 bs p).1 = l∧((stS2 bs p).2.num bs 4).2.p = p + 9 + l.length:=by
 obtain ⟨_,h64⟩:=rightB_len hr
 have hl:p + 9 + l.length ≤ bs.length:=by
  have:=congrArg List.length h
  rw [tombB_length,List.length_take,List.length_drop] at this
  omega
 have hX:=tombB_parts l
 have hsum:=sumN_lt (tombBytes++putN l.length 1++l)
 have d0:(tombB l).take 4 = tombBytes:=by rw [hX];exact app_take rfl
 have d4:((tombB l).drop 4).take 1 = putN l.length 1:=by rw [hX,app_drop (n:=4) rfl];exact app_take (putN_length _ _)
 have d5:((tombB l).drop 5).take l.length = l:=by
  rw [hX,show (5:Nat) = 4 + 1 from rfl,← List.drop_drop,app_drop (n:=4) rfl,app_drop (putN_length _ _)]
  exact app_take rfl
 have dn:((tombB l).drop (5 + l.length)).take 4 = putN (sumN (tombBytes++putN l.length 1++l)) 4:=by
  unfold tombB sealed
  rw [app_drop (by simp [putN_length,tombBytes];omega)]
  exact List.take_of_length_le (by rw [putN_length];omega)
 have dh:(tombB l).take (5 + l.length) = tombBytes++putN l.length 1++l:=by
  unfold tombB sealed
  exact app_take (by simp [putN_length,tombBytes];omega)
 have e0:openS bs p = ⟨p + 4,false⟩:=openS_there (by omega)
 have e1:stS1 bs p = (l.length,⟨p + 5,false⟩):=by
  unfold stS1
  rw [e0,num_there (by omega),cut_in (i:=4) (k:=1) h (by omega),d4,val_put1 (by omega)]
 have e2:stS2 bs p = (l,⟨p + 5 + l.length,false⟩):=by
  unfold stS2
  rw [e1]
  show RSt.row bs ⟨p + 5,false⟩ l.length = _
  rw [row_there (by omega),cut_in (i:=5) (k:=l.length) h (by omega),d5]
 have e3:(stS2 bs p).2.num bs 4 = (sumN (tombBytes++putN l.length 1++l),⟨p + 5 + l.length + 4,false⟩):=by
  rw [e2]
  show RSt.num bs ⟨p + 5 + l.length,false⟩ 4 = _
  rw [num_there (by omega),show p + 5 + l.length = p + (5 + l.length) by omega,cut_in (i:=5 + l.length) (k:=4) h (by omega),dn,val_put4 hsum]
 have e4:chkN bs p (stS2 bs p).2 = 0:=by
  unfold chkN
  rw [e3]
  rw [if_neg (by simp),if_pos ?_]
  rw [e2]
  show _ = sumN ((bs.drop p).take (p + 5 + l.length - p))
  rw [show p + 5 + l.length - p = 5 + l.length by omega]
  have:=cut_in (i:=0) (k:=5 + l.length) h (by omega)
  rw [Nat.add_zero,List.drop_zero,dh] at this
  rw [this]
 refine ⟨hl,?_,?_,by rw [e2],by rw [e3];show p + 5 + l.length + 4 = _;omega⟩
 ·rw [isB_in (by show p + 4 ≤ _;omega)]
  have:=cut_in (i:=0) (k:=4) h (by omega)
  rw [Nat.add_zero,List.drop_zero,d0] at this
  exact decide_eq_true this
 ·unfold stR
  rw [if_pos e4,e2,if_pos hr]
theorem stV_back {bs l:List UInt8} {p:Nat} (hr:rightB l = true) (h:(bs.drop p).take (9 + l.length) = tombB l) :
  stV bs p = .tuple #[.string ⟨l.toArray⟩,.int .i64 ((p + 9 + l.length:Nat):Int),.int .i64 0]:=by
 obtain ⟨_,_,h1,h2,h3⟩:=tomb_back hr h
 rw [stV_good h1,h2,h3]
theorem num_bad {bs:List UInt8} {s:RSt} {k:Nat} (h:s.bad = true):(s.num bs k).2.bad = true:=by unfold RSt.num;rw [if_pos h];exact h
theorem row_bad {bs:List UInt8} {s:RSt} {k:Nat} (h:s.bad = true):(s.row bs k).2.bad = true:=by unfold RSt.row;rw [if_pos h];exact h
theorem num_cut {bs:List UInt8} {s:RSt} {k:Nat} (h:bs.length < s.p + k):(s.num bs k).2.bad = true:=by
 unfold RSt.num
 by_cases hb:s.bad = true
 ·rw [if_pos hb];exact hb
 ·rw [if_neg hb,if_neg (by omega)]
theorem row_cut {bs:List UInt8} {s:RSt} {k:Nat} (h:bs.length < s.p + k):(s.row bs k).2.bad = true:=by
 unfold RSt.row
 by_cases hb:s.bad = true
 ·rw [if_pos hb];exact hb
 ·rw [if_neg hb,if_neg (by omega)]
theorem chkN_bad {bs:List UInt8} {p:Nat} {s:RSt} (h:(s.num bs 4).2.bad = true):chkN bs p s = 2:=by unfold chkN;rw [if_pos h]
theorem stR_of {bs:List UInt8} {p:Nat} (h:((stS2 bs p).2.num bs 4).2.bad = true):stR bs p = 2:=by
 unfold stR
 rw [chkN_bad h]
 rfl
theorem stR_short {bs:List UInt8} {p:Nat} (h:bs.length < p + 5):stR bs p = 2:=by
 apply stR_of
 apply num_bad
 apply row_bad
 unfold stS1
 by_cases h4:p + 4 ≤ bs.length
 ·rw [openS_there h4]
  exact num_cut (by show _ < p + 4 + 1;omega)
 ·exact num_bad (row_cut (s:=⟨p,false⟩) (by show _ < p + 4;omega))
end Go.Proofs.YtaknladkodibaaaGreatDoor
namespace Go.Proofs.YtaknladkodibaaaGreatDoor
open Go.RowKit CrcP FieldP
attribute [local go_sem ↓] Go.wp_at_zero Go.wp_at_succ
end Go.Proofs.YtaknladkodibaaaGreatDoor
namespace Go.Proofs.YtaknladkodibaaaGreatDoor
open Go.RowKit CrcP FieldP
def stAns (bs:List UInt8) (p:Int):Value :=
 if p < 0 ∨ (bs.length:Int) < p then .tuple #[.string ⟨#[]⟩,.int .i64 0,.int .i64 1]
 else if p + 4 ≤ bs.length∧isB tombBytes bs p = false then .tuple #[.string ⟨#[]⟩,.int .i64 0,.int .i64 3]
 else stV bs p.toNat
theorem stAns_form (bs:List UInt8) (p:Int):∃ S K E,stAns bs p = .tuple #[.string S,.int .i64 K,.int .i64 E]:=by
 unfold stAns
 split
 ·exact ⟨_,_,_,rfl⟩
 ·split
  ·exact ⟨_,_,_,rfl⟩
  ·exact ⟨_,_,_,rfl⟩
theorem stTake_any (tg:Nat) (A:Option Addr) (l c:Nat) (bs:List UInt8) (B:Nat) (p:Int) (w:World) (hT:Table w tg) (hl:bs.length = l) (hm:l ≤ 1000000) (hlc:l ≤ c)
  (hb:Bytes w B A bs) (hB:B ≤ w.heap.size) :
  Calls Tryz.prog 86 #[.pointer (some ⟨tg,0,none⟩),.slice A l c,.int .i64 p] w fun e w' => e = .returned (stAns bs p)∧Below w.heap.size w w':=by
 by_cases h1:p < 0 ∨ (bs.length:Int) < p
 ·have e1:stAns bs p = .tuple #[.string ⟨#[]⟩,.int .i64 0,.int .i64 1]:=by unfold stAns;rw [if_pos h1]
  rw [e1]
  refine (stTake_arg tg A l c p w (by rw [← hl];exact h1)).mono ?_
  rintro e w' ⟨rfl,rfl⟩
  exact ⟨rfl,Below.refl _ _⟩
 obtain ⟨q,rfl⟩:=Int.eq_ofNat_of_zero_le (show 0 ≤ p by omega)
 by_cases h2:(q:Int) + 4 ≤ bs.length∧isB tombBytes bs q = false
 ·have e1:stAns bs q = .tuple #[.string ⟨#[]⟩,.int .i64 0,.int .i64 3]:=by unfold stAns;rw [if_neg h1,if_pos h2]
  rw [e1]
  refine (stTake_form tg A l c bs B q w hl (by omega) hlc hb (by omega) h2.2).mono ?_
  rintro e w' ⟨rfl,rfl⟩
  exact ⟨rfl,Below.refl _ _⟩
 ·have e1:stAns bs q = stV bs q:=by unfold stAns;rw [if_neg h1,if_neg h2,Int.toNat_natCast]
  rw [e1]
  exact stTake_ok tg A l c bs B q w hT hl (by omega) hlc hb hB (by omega) (fun h => by cases hi:isB tombBytes bs q with | true => rfl | false => exact absurd ⟨by omega,hi⟩ h2)
set_option maxHeartbeats 400000 in
theorem stIs_any (A:Option Addr) (l c:Nat) (bs:List UInt8) (B:Nat) (p:Int) (w:World) (hl:bs.length = l) (hm:l ≤ 1000000) (hlc:l ≤ c)
  (p0:-9223372036854775808 ≤ p) (p1:p ≤ 9223372036854775807) (hb:Bytes w B A bs) :
  Calls Tryz.prog 44 #[.slice A l c,.int .i64 p] w fun e w' => e = .returned (.bool (isB tombBytes bs p))∧w = w':=by
 have HI:=Lib.hid (is_any tombMark A l c bs B p w rfl hl (by omega) hlc p0 p1 hb)
 clear hl hb
 go_enter Tryz.func44,Tryz.ntmps44
 go_wp2_with (go_at_call 85;refine HI.out.mono ?_;rintro e w' ⟨rfl,rfl⟩)
 go_ret
 exact ⟨rfl,rfl⟩
def hdF (m n sz ar su:Nat):Nat→List UInt8
 | 0 => headBytes
 | 1 => headBytes++putN m 1
 | 2 => headBytes++putN m 1++putN n 1
 | 3 => headBytes++putN m 1++putN n 1++putN sz 4
 | 4 => headBytes++putN m 1++putN n 1++putN sz 4++putN ar 4
 | _ => headBytes++putN m 1++putN n 1++putN sz 4++putN ar 4++putN su 4
def hdLen:Nat→Nat
 | 0 => 4
 | 1 => 5
 | 2 => 6
 | 3 => 10
 | 4 => 14
 | _ => 18
def headB (m:Nat) (l:List UInt8) (sz ar su:Nat):List UInt8:=sealed (hdF m l.length sz ar su 5++l)
theorem headB_length (m:Nat) (l:List UInt8) (sz ar su:Nat):(headB m l sz ar su).length = 22 + l.length:=by
 unfold headB
 rw [sealed_length]
 simp [hdF,putN_length,headBytes]
 omega
theorem hdB_name {m:Int} {l:List UInt8} {sz ar su:Int} (h:hdB m l sz ar su = true):rightB l = true:=by
 unfold hdB at h
 simp only [Bool.and_eq_true] at h
 exact h.1.1.1
theorem hdB_nums {m:Int} {l:List UInt8} {sz ar su:Int} (h:hdB m l sz ar su = true):0 ≤ m∧m ≤ 2∧0 ≤ sz∧sz ≤ 65536∧0 ≤ ar∧ar ≤ 65536:=by
 unfold hdB at h
 simp only [Bool.and_eq_true,decide_eq_true_eq] at h
 obtain ⟨⟨⟨_,h1⟩,h2⟩,h3⟩:=h
 split at h3
 ·have:ar = sz:=by simpa using h3
  omega
 ·split at h3
  ·simp only [Bool.and_eq_true,decide_eq_true_eq] at h3
   omega
  ·split at h3
   ·simp only [Bool.and_eq_true,beq_iff_eq] at h3
    omega
   ·cases h3
theorem rightB_len' {l:List UInt8} (h:rightB l = true):1 ≤ l.length∧l.length ≤ 64:=by
 unfold rightB at h
 simp only [Bool.and_eq_true,decide_eq_true_eq] at h
 exact ⟨h.1.1.1,h.1.1.2⟩
set_option maxRecDepth 100000 in
set_option maxHeartbeats 2000000 in
theorem lcPut_yes (g:Nat) (m:Nat) (s:ByteArray) (sz ar su:Nat) (w:World) (hW:Wid w) (hsu:su < 4294967296) (h:hdB m s.data.toList sz ar su = true) (hT:Table w g) :
  Calls Tryz.prog 32 #[.pointer (some ⟨g,0,none⟩),.agg #[.int .i64 (m:Int),.string s,.int .i64 (sz:Int),.int .i64 (ar:Int),.int .u32 (su:Int)]] w fun e w' =>
   ∃ A k,e = .returned (.tuple #[.slice A (22 + s.size) k,.int .i64 0])∧OwnY w' w.heap.size (.slice A (22 + s.size) k) (22 + s.size) (headB m s.data.toList sz ar su)∧Below w.heap.size w w':=by
 have hln:s.data.toList.length = s.size:=by rw [Array.length_toList];rfl
 have hrn:=rightB_len' (hdB_name h)
 rw [hln] at hrn
 obtain ⟨_,hm2,_,hs2,_,ha2⟩:=hdB_nums h
 have hm3:(m:Int) < 4294967296:=by omega
 have hs3:(sz:Int) < 4294967296:=by omega
 have ha3:(ar:Int) < 4294967296:=by omega
 have HR:=Lib.hid (fun W => lcRight_any m s sz ar su W (by unfold maxLen;omega))
 rw [h] at HR
 have HD:Hid (headB m s.data.toList sz ar su = sealed (hdF m s.size sz ar su 5++s.data.toList)):=by show _ = _;unfold headB;rw [hln]
 have HLN:=Lib.hid hln
 have HT0:=Lib.hid hT
 have HW:=Lib.hid hW
 have hw0:=hW.1
 have htl:=hT.lt
 have HB0:=Lib.hid ((Below.refl w.heap.size w).alloc (Nat.le_refl _) (.cells #[.int .i64 (m:Int),.string s,.int .i64 (sz:Int),.int .i64 (ar:Int),.int .u32 (su:Int)] 71))
 have HX0:Hid (Box (w.alloc (.cells #[.int .i64 (m:Int),.string s,.int .i64 (sz:Int),.int .i64 (ar:Int),.int .u32 (su:Int)] 71)) w.heap.size #[.int .i64 (m:Int),.string s,.int .i64 (sz:Int),.int .i64 (ar:Int),.int .u32 (su:Int)] 71):=heap_alloc_new w _
 clear h hT hW hln hm2 hs2 ha2
 go_enter Tryz.func32,Tryz.ntmps32
 go_wp2_with fail
 refine (HR.out _).mono ?_
 rintro e w1 ⟨rfl,hb⟩
 have HX1:=Lib.hid (HX0.out.below hb HX0.out.lt)
 have HB1:=Lib.hid (HB0.out.trans (hb.mono HB0.out.size))
 clear hb
 have hz1:=HB1.out.size
 have hx1:=HX1.out.lt
 have kc:=fun (C:Array Value) (n k:Nat) => Joins.run_convert_bytes_const_at (P:=Tryz.prog) w1 25 5 C n k w1.heap.size rfl Tryz.underlying25 Tryz.underlying5
 have HO1:=Lib.hid (own_of_const w1 (base:=w1.heap.size) (e:=5) (C:=#[.int .u8 76,.int .u8 77,.int .u8 66,.int .u8 82]) (fz:=(4,5)) (n:=4) (xs:=byteCells headBytes) rfl rfl (Nat.le_refl _) (by unfold maxLen;omega) (by simp))
 have HB2:=Lib.hid ((Below.refl w1.heap.size w1).alloc (Nat.le_refl _) (.cells #[.int .u8 76,.int .u8 77,.int .u8 66,.int .u8 82] 5 (4,5)))
 obtain ⟨w2,hw2⟩:∃ w2,w1.alloc (.cells #[.int .u8 76,.int .u8 77,.int .u8 66,.int .u8 82] 5 (4,5)) = w2:=⟨_,rfl⟩
 rw [hw2] at HO1 HB2
 have HX2:=Lib.hid (HX1.out.below HB2.out hx1)
 have h0:w2.cell? ⟨w.heap.size,0,none⟩ = some (.int .i64 (m:Int)):=HX2.out.cell 0
 have h1:w2.cell? ⟨w.heap.size,1,none⟩ = some (.string s):=HX2.out.cell 1
 have h2:w2.cell? ⟨w.heap.size,2,none⟩ = some (.int .i64 (sz:Int)):=HX2.out.cell 2
 have h3:w2.cell? ⟨w.heap.size,3,none⟩ = some (.int .i64 (ar:Int)):=HX2.out.cell 3
 have h4:w2.cell? ⟨w.heap.size,4,none⟩ = some (.int .u32 (su:Int)):=HX2.out.cell 4
 go_wp2
 clear h0 h1 h2 h3 h4 kc
 go_loopw [6,7,8,30] (fun vb _ _ i wr => ∃ k:Nat,k ≤ 5∧i = .int .i64 k∧OwnY wr w1.heap.size vb (hdLen k) (hdF m s.size sz ar su k)∧Below w1.heap.size w1 wr) (fun _ _ _ i _ => 5 - (intOf i).toNat)
 case atStart => exact ⟨0,by omega,rfl,HO1.out,HB2.out⟩
 case round =>
  obtain ⟨k,hk,rfl,hown,hbel⟩:=hrel
  have HOWN:=Lib.hid hown
  have HBEL:=Lib.hid hbel
  have HWR:=Lib.hid (HB1.out.trans (hbel.mono hz1))
  clear hown hbel
  obtain ⟨Ak,ck,rfl⟩:=HOWN.out.form
  by_cases hk3:k < 5
  ·have hk4:k = 0 ∨ k = 1 ∨ k = 2 ∨ k = 3 ∨ k = 4:=by omega
   rcases hk4 with rfl | rfl | rfl | rfl | rfl
   ·have hix:∀ w,(Instr.index 121 (.agg #[.int .u32 (m:Int),.int .u32 (s.size:Int),.int .u32 (sz:Int),.int .u32 (ar:Int),.int .u32 (su:Int)]) (.int .i64 0)).run Tryz.prog w = .ok (.int .u32 (m:Int)) w:=fun _ => by kernel_rfl
    have hwd:=(HWR.out.cell (p:=⟨0,0,none⟩) hw0).trans (HW.out.2 0 (by omega))
    rw [show ((wid 0:Nat):Int) = 1 from rfl] at hwd
    have HST:=Lib.hid (put_any (.slice Ak 4 ck) 4 _ (m:Int) 1 w1.heap.size _ (by omega) (by omega) (by omega) (by omega) (by omega) HOWN.out HBEL.out.size)
    rw [Int.toNat_natCast,show cnt 1 = 1 from rfl] at HST
    rw [show hdLen 0 = 4 from rfl]
    go_wp2_with (go_at_call 57;refine HST.out.mono ?_;rintro e w2 ⟨A2,c2,rfl,happ⟩;have HO2:=Lib.hid happ.own;have HB2':=Lib.hid (happ.below HBEL.out HBEL.out.size (fun k hk => (HOWN.out.lt k hk).1));clear happ hwd)
    exact ⟨⟨1,by omega,rfl,HO2.out,HB2'.out⟩,by simp [intOf]⟩
   ·have hix:∀ w,(Instr.index 121 (.agg #[.int .u32 (m:Int),.int .u32 (s.size:Int),.int .u32 (sz:Int),.int .u32 (ar:Int),.int .u32 (su:Int)]) (.int .i64 1)).run Tryz.prog w = .ok (.int .u32 (s.size:Int)) w:=fun _ => by kernel_rfl
    have hwd:=(HWR.out.cell (p:=⟨0,1,none⟩) hw0).trans (HW.out.2 1 (by omega))
    rw [show ((wid 1:Nat):Int) = 1 from rfl] at hwd
    have HST:=Lib.hid (put_any (.slice Ak 5 ck) 5 _ (s.size:Int) 1 w1.heap.size _ (by omega) (by omega) (by omega) (by omega) (by omega) HOWN.out HBEL.out.size)
    rw [Int.toNat_natCast,show cnt 1 = 1 from rfl] at HST
    rw [show hdLen 1 = 5 from rfl]
    go_wp2_with (go_at_call 57;refine HST.out.mono ?_;rintro e w2 ⟨A2,c2,rfl,happ⟩;have HO2:=Lib.hid happ.own;have HB2':=Lib.hid (happ.below HBEL.out HBEL.out.size (fun k hk => (HOWN.out.lt k hk).1));clear happ hwd)
    exact ⟨⟨2,by omega,rfl,HO2.out,HB2'.out⟩,by simp [intOf]⟩
   ·have hix:∀ w,(Instr.index 121 (.agg #[.int .u32 (m:Int),.int .u32 (s.size:Int),.int .u32 (sz:Int),.int .u32 (ar:Int),.int .u32 (su:Int)]) (.int .i64 2)).run Tryz.prog w = .ok (.int .u32 (sz:Int)) w:=fun _ => by kernel_rfl
    have hwd:=(HWR.out.cell (p:=⟨0,2,none⟩) hw0).trans (HW.out.2 2 (by omega))
    rw [show ((wid 2:Nat):Int) = 4 from rfl] at hwd
    have HST:=Lib.hid (put_any (.slice Ak 6 ck) 6 _ (sz:Int) 4 w1.heap.size _ (by omega) (by omega) (by omega) (by omega) (by omega) HOWN.out HBEL.out.size)
    rw [Int.toNat_natCast,show cnt 4 = 4 from rfl] at HST
    rw [show hdLen 2 = 6 from rfl]
    go_wp2_with (go_at_call 57;refine HST.out.mono ?_;rintro e w2 ⟨A2,c2,rfl,happ⟩;have HO2:=Lib.hid happ.own;have HB2':=Lib.hid (happ.below HBEL.out HBEL.out.size (fun k hk => (HOWN.out.lt k hk).1));clear happ hwd)
    exact ⟨⟨3,by omega,rfl,HO2.out,HB2'.out⟩,by simp [intOf]⟩
   ·have hix:∀ w,(Instr.index 121 (.agg #[.int .u32 (m:Int),.int .u32 (s.size:Int),.int .u32 (sz:Int),.int .u32 (ar:Int),.int .u32 (su:Int)]) (.int .i64 3)).run Tryz.prog w = .ok (.int .u32 (ar:Int)) w:=fun _ => by kernel_rfl
    have hwd:=(HWR.out.cell (p:=⟨0,3,none⟩) hw0).trans (HW.out.2 3 (by omega))
    rw [show ((wid 3:Nat):Int) = 4 from rfl] at hwd
    have HST:=Lib.hid (put_any (.slice Ak 10 ck) 10 _ (ar:Int) 4 w1.heap.size _ (by omega) (by omega) (by omega) (by omega) (by omega) HOWN.out HBEL.out.size)
    rw [Int.toNat_natCast,show cnt 4 = 4 from rfl] at HST
    rw [show hdLen 3 = 10 from rfl]
    go_wp2_with (go_at_call 57;refine HST.out.mono ?_;rintro e w2 ⟨A2,c2,rfl,happ⟩;have HO2:=Lib.hid happ.own;have HB2':=Lib.hid (happ.below HBEL.out HBEL.out.size (fun k hk => (HOWN.out.lt k hk).1));clear happ hwd)
    exact ⟨⟨4,by omega,rfl,HO2.out,HB2'.out⟩,by simp [intOf]⟩
   ·have hix:∀ w,(Instr.index 121 (.agg #[.int .u32 (m:Int),.int .u32 (s.size:Int),.int .u32 (sz:Int),.int .u32 (ar:Int),.int .u32 (su:Int)]) (.int .i64 4)).run Tryz.prog w = .ok (.int .u32 (su:Int)) w:=fun _ => by kernel_rfl
    have hwd:=(HWR.out.cell (p:=⟨0,4,none⟩) hw0).trans (HW.out.2 4 (by omega))
    rw [show ((wid 4:Nat):Int) = 4 from rfl] at hwd
    have HST:=Lib.hid (put_any (.slice Ak 14 ck) 14 _ (su:Int) 4 w1.heap.size _ (by omega) (by omega) (by omega) (by omega) (by omega) HOWN.out HBEL.out.size)
    rw [Int.toNat_natCast,show cnt 4 = 4 from rfl] at HST
    rw [show hdLen 4 = 14 from rfl]
    go_wp2_with (go_at_call 57;refine HST.out.mono ?_;rintro e w2 ⟨A2,c2,rfl,happ⟩;have HO2:=Lib.hid happ.own;have HB2':=Lib.hid (happ.below HBEL.out HBEL.out.size (fun k hk => (HOWN.out.lt k hk).1));clear happ hwd)
    exact ⟨⟨5,by omega,rfl,HO2.out,HB2'.out⟩,by simp [intOf]⟩
  ·obtain rfl:k = 5:=by omega
   have HXR:=Lib.hid (HX1.out.below HBEL.out hx1)
   have h1:_ = some (Value.string s):=HXR.out.cell 1
   rw [show hdLen 5 = 18 from rfl] at HOWN ⊢
   go_wp2_with (at_builtin;refine wpList_appT_string _ byteElem Tryz.underlying9 rfl (.tmp 42) (.tmp 44) rfl w1.heap.size (.slice Ak 18 ck) 18 (byteCells (hdF m s.size sz ar su 5)) rfl HOWN.out s rfl (by unfold maxLen;omega) (by omega) HBEL.out.size ?_;intro A4 c4 w4 hA;have HA:=Lib.hid hA;clear hA)
   have HO4:Hid (OwnY w4 w1.heap.size (.slice A4 (18 + s.size) c4) (18 + s.size) (hdF m s.size sz ar su 5++s.data.toList)):=by have:=HA.out.own;rwa [← byteCells_append] at this
   have HB4:=Lib.hid (HA.out.below HBEL.out HBEL.out.size (fun k hk => (HOWN.out.lt k hk).1))
   have HT4:=Lib.hid (HT0.out.below (HB1.out.trans (HB4.out.mono hz1)) htl)
   refine (close_any g _ (18 + s.size) _ w1.heap.size w4 (by omega) HO4.out HB4.out.size HT4.out).mono ?_
   rintro e w5 ⟨A5,c5,rfl,happ⟩
   have HO5:=Lib.hid (happ.own.le hz1)
   have HB5:=Lib.hid (happ.below HB4.out HB4.out.size (fun k hk => (HO4.out.lt k hk).1))
   rw [← HD.out] at HO5
   rw [show 18 + s.size + 4 = 22 + s.size by omega] at HO5 ⊢
   clear happ
   go_wp2
   go_ret2
   exact ⟨A5,c5,rfl,HO5.out,HB1.out.trans (HB5.out.mono hz1)⟩
theorem headB_parts (m:Nat) (l:List UInt8) (sz ar su:Nat):headB m l sz ar su = headBytes++(putN m 1++(putN l.length 1++(putN sz 4++(putN ar 4++(putN su 4++(l++putN (sumN (hdF m l.length sz ar su 5++l)) 4)))))):=by
 unfold headB sealed
 simp [hdF,List.append_assoc]
theorem val_put1' {n:Nat} (h:n < 256):val (putN n 1) = n:=by rw [val_putN];exact Nat.mod_eq_of_lt h
theorem lcS_next {bs:List UInt8} {s:RSt} {k q:Nat} (h:lcS bs s k = ⟨q,false⟩) (hl:q + wid k ≤ bs.length):lcS bs s (k + 1) = ⟨q + wid k,false⟩∧lcN bs s k = val ((bs.drop q).take (wid k)):=by
 refine ⟨?_,?_⟩
 ·show ((lcS bs s k).num bs (wid k)).2 = _
  rw [h,num_there hl]
 ·unfold lcN
  rw [h,num_there hl]
theorem head_back {bs l:List UInt8} {p m sz ar su:Nat} (hd:hdB m l sz ar su = true) (hsu:su < 4294967296) (h:(bs.drop p).take (22 + l.length) = headB m l sz ar su) :
  p + 22 + l.length ≤ bs.length∧isB headBytes bs p = true∧lcV bs p = .tuple #[.agg #[.int .i64 (m:Int),.string ⟨l.toArray⟩,.int .i64 (sz:Int),.int .i64 (ar:Int),.int .u32 (su:Int)],.int .i64 ((p + 22 + l.length:Nat):Int),.int .i64 0]:=by
 obtain ⟨_,h64⟩:=rightB_len' (hdB_name hd)
 obtain ⟨_,hm2,_,hs2,_,ha2⟩:=hdB_nums hd
 have hl:p + 22 + l.length ≤ bs.length:=by
  have:=congrArg List.length h
  rw [headB_length,List.length_take,List.length_drop] at this
  omega
 have hX:=headB_parts m l sz ar su
 have hsum:=sumN_lt (hdF m l.length sz ar su 5++l)
 have d0:(headB m l sz ar su).take 4 = headBytes:=by rw [hX];exact app_take rfl
 have d4:((headB m l sz ar su).drop 4).take 1 = putN m 1:=by rw [hX,app_drop (n:=4) rfl];exact app_take (putN_length _ _)
 have d5:((headB m l sz ar su).drop 5).take 1 = putN l.length 1:=by
  rw [hX,show (5:Nat) = 4 + 1 from rfl,← List.drop_drop,app_drop (n:=4) rfl,app_drop (putN_length _ _)]
  exact app_take (putN_length _ _)
 have d6:((headB m l sz ar su).drop 6).take 4 = putN sz 4:=by
  rw [hX,show (6:Nat) = 4 + 1 + 1 from rfl,← List.drop_drop,← List.drop_drop,app_drop (n:=4) rfl,app_drop (putN_length _ _),app_drop (putN_length _ _)]
  exact app_take (putN_length _ _)
 have d10:((headB m l sz ar su).drop 10).take 4 = putN ar 4:=by
  rw [hX,show (10:Nat) = 4 + 1 + 1 + 4 from rfl,← List.drop_drop,← List.drop_drop,← List.drop_drop,app_drop (n:=4) rfl,app_drop (putN_length _ _),app_drop (putN_length _ _),app_drop (putN_length _ _)]
  exact app_take (putN_length _ _)
 have d14:((headB m l sz ar su).drop 14).take 4 = putN su 4:=by
  rw [hX,show (14:Nat) = 4 + 1 + 1 + 4 + 4 from rfl,← List.drop_drop,← List.drop_drop,← List.drop_drop,← List.drop_drop,app_drop (n:=4) rfl,app_drop (putN_length _ _),app_drop (putN_length _ _),app_drop (putN_length _ _),app_drop (putN_length _ _)]
  exact app_take (putN_length _ _)
 have d18:((headB m l sz ar su).drop 18).take l.length = l:=by
  rw [hX,show (18:Nat) = 4 + 1 + 1 + 4 + 4 + 4 from rfl,← List.drop_drop,← List.drop_drop,← List.drop_drop,← List.drop_drop,← List.drop_drop,app_drop (n:=4) rfl,app_drop (putN_length _ _),app_drop (putN_length _ _),app_drop (putN_length _ _),app_drop (putN_length _ _),app_drop (putN_length _ _)]
  exact app_take rfl
 have hFl:(hdF m l.length sz ar su 5++l).length = 18 + l.length:=by simp [hdF,putN_length,headBytes];omega
 have dn:((headB m l sz ar su).drop (18 + l.length)).take 4 = putN (sumN (hdF m l.length sz ar su 5++l)) 4:=by
  unfold headB sealed
  rw [app_drop hFl]
  exact List.take_of_length_le (by rw [putN_length];omega)
 have dh:(headB m l sz ar su).take (18 + l.length) = hdF m l.length sz ar su 5++l:=by
  unfold headB sealed
  exact app_take hFl
 have e0:lcS bs (openS bs p) 0 = ⟨p + 4,false⟩:=by show openS bs p = _;exact openS_there (by omega)
 obtain ⟨e1,n0⟩:=lcS_next e0 (by show p + 4 + 1 ≤ _;omega)
 obtain ⟨e2,n1⟩:=lcS_next e1 (by show p + 4 + 1 + 1 ≤ _;omega)
 obtain ⟨e3,n2⟩:=lcS_next e2 (by show p + 4 + 1 + 1 + 4 ≤ _;omega)
 obtain ⟨e4,n3⟩:=lcS_next e3 (by show p + 4 + 1 + 1 + 4 + 4 ≤ _;omega)
 obtain ⟨e5,n4⟩:=lcS_next e4 (by show p + 4 + 1 + 1 + 4 + 4 + 4 ≤ _;omega)
 have m0:lcN bs (openS bs p) 0 = m:=by rw [n0];show val ((bs.drop (p + 4)).take 1) = _;rw [cut_in (i:=4) (k:=1) h (by omega),d4,val_put1' (by omega)]
 have m1:lcN bs (openS bs p) 1 = l.length:=by rw [n1];show val ((bs.drop (p + 5)).take 1) = _;rw [cut_in (i:=5) (k:=1) h (by omega),d5,val_put1' (by omega)]
 have m2:lcN bs (openS bs p) 2 = sz:=by rw [n2];show val ((bs.drop (p + 6)).take 4) = _;rw [cut_in (i:=6) (k:=4) h (by omega),d6,val_put4 (by omega)]
 have m3:lcN bs (openS bs p) 3 = ar:=by rw [n3];show val ((bs.drop (p + 10)).take 4) = _;rw [cut_in (i:=10) (k:=4) h (by omega),d10,val_put4 (by omega)]
 have m4:lcN bs (openS bs p) 4 = su:=by rw [n4];show val ((bs.drop (p + 14)).take 4) = _;rw [cut_in (i:=14) (k:=4) h (by omega),d14,val_put4 (by omega)]
 have eX:lcX bs p = (l,⟨p + 18 + l.length,false⟩):=by
  unfold lcX
  rw [e5,m1]
  show RSt.row bs ⟨p + 18,false⟩ l.length = _
  rw [row_there (by omega),cut_in (i:=18) (k:=l.length) h (by omega),d18]
 have e6:(lcX bs p).2.num bs 4 = (sumN (hdF m l.length sz ar su 5++l),⟨p + 18 + l.length + 4,false⟩):=by
  rw [eX]
  show RSt.num bs ⟨p + 18 + l.length,false⟩ 4 = _
  rw [num_there (by omega),show p + 18 + l.length = p + (18 + l.length) by omega,cut_in (i:=18 + l.length) (k:=4) h (by omega),dn,val_put4 hsum]
 have e7:chkN bs p (lcX bs p).2 = 0:=by
  unfold chkN
  rw [e6,if_neg (by simp),if_pos ?_]
  rw [eX]
  show _ = sumN ((bs.drop p).take (p + 18 + l.length - p))
  rw [show p + 18 + l.length - p = 18 + l.length by omega]
  have:=cut_in (i:=0) (k:=18 + l.length) h (by omega)
  rw [Nat.add_zero,List.drop_zero,dh] at this
  rw [this]
 have hR:lcR bs p = 0:=by
  unfold lcR lcHd
  rw [if_pos e7,m0,m2,m3,m4,eX,if_pos hd]
 refine ⟨hl,?_,?_⟩
 ·rw [isB_in (by show p + 4 ≤ _;omega)]
  have:=cut_in (i:=0) (k:=4) h (by omega)
  rw [Nat.add_zero,List.drop_zero,d0] at this
  exact decide_eq_true this
 ·rw [lcV_good hR,m0,m2,m3,m4,e6,eX]
  show Value.tuple #[_,.int .i64 ((p + 18 + l.length + 4:Nat):Int),_] = _
  rw [show p + 18 + l.length + 4 = p + 22 + l.length by omega]
end Go.Proofs.YtaknladkodibaaaGreatDoor
namespace Go.Proofs.YtaknladkodibaaaGreatDoor
open Go.RowKit CrcP FieldP
attribute [local go_sem ↓] Go.wp_at_zero Go.wp_at_succ
end Go.Proofs.YtaknladkodibaaaGreatDoor
namespace Go.Proofs.YtaknladkodibaaaGreatDoor
open Go.RowKit CrcP FieldP
theorem lcAns_tomb {bs:List UInt8} {q:Nat} (h4:q + 4 ≤ bs.length) (hi:isB tombBytes bs q = true):lcAns bs q = .tuple #[.agg #[.int .i64 0,.string ⟨#[]⟩,.int .i64 0,.int .i64 0,.int .u32 0],.int .i64 0,.int .i64 3]:=by
 have hh:isB headBytes bs q = false:=by
  rw [isB_in (by show q + 4 ≤ _;omega)] at hi ⊢
  have h:(bs.drop q).take 4 = tombBytes:=of_decide_eq_true hi
  refine decide_eq_false ?_
  show ¬ (bs.drop q).take 4 = headBytes
  rw [h]
  decide
 unfold lcAns
 rw [if_neg (by omega),if_pos ⟨by omega,hh⟩]
theorem apart {bs:List UInt8} {q:Nat} {S:ByteArray} {K:Int} (h:stAns bs q = .tuple #[.string S,.int .i64 K,.int .i64 0]):lcAns bs q = .tuple #[.agg #[.int .i64 0,.string ⟨#[]⟩,.int .i64 0,.int .i64 0,.int .u32 0],.int .i64 0,.int .i64 3]:=by
 unfold stAns at h
 split at h
 ·injection h with h;injection h with h;simp at h
 ·rename_i h1
  split at h
  ·injection h with h;injection h with h;simp at h
  ·rename_i h2
   have hR:stR bs q = 0:=by
    rw [Int.toNat_natCast] at h
    unfold stV at h
    injection h with h
    injection h with h
    simp at h
    omega
   have h4:q + 4 ≤ bs.length:=by
    by_cases h4:q + 4 ≤ bs.length
    ·exact h4
    ·rw [stR_short (by omega)] at hR;cases hR
   have hi:isB tombBytes bs q = true:=by cases hi:isB tombBytes bs q with | true => rfl | false => exact absurd ⟨by omega,hi⟩ h2
   exact lcAns_tomb h4 hi
theorem tomb_among {l hs0 cs:List UInt8}:((hs0++tombB l++cs).drop hs0.length).take (9 + l.length) = tombB l:=by
 rw [List.append_assoc,app_drop rfl,app_take (tombB_length l)]
theorem back_ans (s:ByteArray) (hs0 cs:List UInt8) (hr:rightB s.data.toList = true) :
  stAns (hs0++tombB s.data.toList++cs) (hs0.length:Nat) = .tuple #[.string s,.int .i64 ((hs0.length:Int) + (9 + (s.size:Int))),.int .i64 0]∧lcAns (hs0++tombB s.data.toList++cs) (hs0.length:Nat) = .tuple #[.agg #[.int .i64 0,.string ⟨#[]⟩,.int .i64 0,.int .i64 0,.int .u32 0],.int .i64 0,.int .i64 3]:=by
 have hln:s.data.toList.length = s.size:=by rw [Array.length_toList];rfl
 obtain ⟨hl,hi,_⟩:=tomb_back (bs:=hs0++tombB s.data.toList++cs) (p:=hs0.length) hr tomb_among
 refine ⟨?_,lcAns_tomb (by omega) hi⟩
 unfold stAns
 rw [if_neg (by omega),if_neg (fun h => by rw [hi] at h;exact absurd h.2 (by decide)),Int.toNat_natCast,stV_back hr tomb_among,hln]
 have hs:(⟨s.data.toList.toArray⟩:ByteArray) = s:=by rw [Array.toArray_toList]
 rw [hs,show ((hs0.length + 9 + s.size:Nat):Int) = (hs0.length:Int) + (9 + (s.size:Int)) by omega]
end Go.Proofs.YtaknladkodibaaaGreatDoor
