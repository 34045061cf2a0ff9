/- Layer 8: a symbol is taken. -/
import Derived.Test.YtaknladkodibaaaGreatDoorMgQ33817
import Derived.Test.YtaknladkodibaaaGreatDoorMgQ33825
import Derived.WalkMore
import Derived.Deep.RegionHeld3
import Derived.Test.YtaknladkodibaaaGreatDoorMgQ33805
import Derived.Test.YtaknladkodibaaaGreatDoorMgQ33802
namespace Go.Proofs.YtaknladkodibaaaGreatDoor
open Go.RowKit BitsP
theorem i64_or_low (C Y:Nat) (hC:C < 32768) (hY:Y < 2):bits .or .i64 ((2 * C:Nat):Int) (Y:Int) = ((Y + 2 * C:Nat):Int):=by
 have e:∀ a:Nat,a < 65536→(BitVec.ofInt 64 (a:Int)).toNat = a:=fun a ha => by
  rw [BitVec.ofInt_natCast,BitVec.toNat_ofNat];exact Nat.mod_eq_of_lt (by omega)
 have ho:2 * C ||| Y = Y + 2 * C:=by
  have:=Nat.two_pow_add_eq_or_of_lt (i:=1) (b:=Y) (by omega) C
  rw [Nat.pow_one] at this
  omega
 show IntKind.i64.wrap ((BitVec.ofInt 64 ((2 * C:Nat):Int) ||| BitVec.ofInt 64 (Y:Int)).toNat:Int) = _
 rw [BitVec.toNat_or,e _ (by omega),e _ (by omega),ho]
 exact IntWalk.i64_in _ (by omega)
theorem num_bit {L:List Bool} {d:Nat} {b:Bool} (h:L[d]? = some b):num L / 2 ^ d % 2 = bit b:=by
 have hl:=(List.getElem?_eq_some_iff.1 h).1
 have hb:=(List.getElem?_eq_some_iff.1 h).2
 have h1:=num_drop L d
 rw [p2_pow,List.drop_eq_getElem_cons hl,hb,num] at h1
 rw [← h1]
 have:=bit_le b
 omega
theorem lc_max {zs:List Int} (hr:caR zs = true) {m:Int} (hm:isMax zs m):∃ n:Nat,m = (n:Int)∧n ≤ 15:=by
 have h:=lenB_yes ((caR_len hr).2 m hm.2)
 exact ⟨m.toNat,by omega,by omega⟩
set_option maxRecDepth 100000 in
set_option maxHeartbeats 400000 in
theorem take8_any (g r base:Nat) (zs:List Int) (S:Nat→Prop) (bs:List UInt8) (p:Nat) (w:World) (hr:caR zs = true) (h:LC w g zs) (hrd:RdS w r base S bs p) (hbl:bs.length ≤ 1000000) :
  Calls Tryz.prog 232 #[.pointer (some ⟨g,0,none⟩),.pointer (some ⟨r,0,none⟩)] w
   fun e w' => ∃ (m on:Nat) (s er:Int),e = .returned (.tuple #[.int .i64 s,.int .i64 er])∧isMax zs (m:Int)∧TakeR zs m ((unpack bs).drop p) s er on∧RdS w' r base S bs (p + on)∧Mod (oneB r) w w':=by
 obtain ⟨A1,A2,A3,c1,c2,c3,mz,hcb,hmx,h1,h2,h3⟩:=h
 obtain ⟨m,rfl,hm15⟩:=lc_max hr hmx
 obtain ⟨p0,p1,p2,p3⟩:=cb_pre hcb
 have hzl:=(caR_len hr).1
 obtain ⟨U,hU⟩:∃ U,(unpack bs).drop p = U:=⟨_,rfl⟩
 have hUl:U.length = 8 * bs.length - p:=by rw [← hU,List.length_drop,unpack_length]
 have HPK:=Lib.hid (rpeek_any r base S bs p (m:Int) w hrd (by omega) (by omega) (by omega))
 rw [hU,cnt_nat (by omega)] at HPK
 have HLF:=Lib.hid (fun nd:Nat => rleft_any r base S bs p (w.drewN nd) (hrd.drewN nd) (by omega))
 rw [← hUl] at HLF
 have HSK:=Lib.hid (fun (nd n:Nat) (hn:n ≤ 15) => rskip_any r base S bs p (n:Int) (w.drewN nd) (hrd.drewN nd) (by omega) (by omega) (by omega))
 have hXl:=num_from_lt U 0 m
 rw [List.drop_zero,p2_pow] at hXl
 have hXp:(2:Nat) ^ m ≤ 32768:=Nat.le_trans (Nat.pow_le_pow_right (by decide) hm15) (by decide)
 obtain ⟨X,hX⟩:∃ X,num (U.take m) = X:=⟨_,rfl⟩
 rw [hX] at HPK hXl
 have HEND:Hid (∀ n,n ≤ 15→w.cell? ⟨g,4 + n,none⟩ = some (.int .i64 ((whole zs n).length:Nat))):=fun n hn => cb_end hcb (range_map_get (by omega))
 have HV:=Lib.hid h2
 have HO:=Lib.hid h3
 have HR:=Lib.hid hr
 have HMX:=Lib.hid hmx
 have HU:=Lib.hid hU
 have HUL:=Lib.hid hUl
 have HX:=Lib.hid hX
 have hX32:X < 32768:=by omega
 have HRD:=Lib.hid hrd
 have hel:∀ n,n ≤ 15→(whole zs n).length ≤ 15 * 320:=fun n hn => by have:=whole_len zs n;have:n * zs.length ≤ 15 * 320:=Nat.mul_le_mul hn hzl;omega
 have HEL:=Lib.hid hel
 obtain ⟨UL,hUL⟩:∃ UL,U.length = UL:=⟨_,rfl⟩
 rw [hUL] at HLF
 have hUL32:UL ≤ 8000000:=by omega
 clear h1 h2 h3 hcb hr hmx hX hXl hXp hU hrd hel p0 hUl
 go_enter Tryz.func232,Tryz.ntmps232
 go_wp2
 go_step3
 go_wp2_with (go_at_call 139;refine HPK.out.mono ?_;rintro e w' ⟨rfl,nd0,rfl⟩)
 go_step3
 go_wp2
 go_loopg [7,8,9,10] m (fun gk s7 s8 s9 s10 wr => ∃ (d n nd C:Nat),d + gk = m∧n = d + 1∧s7 = .int .i64 (C:Int)∧s8 = .int .i64 0∧s9 = .int .i64 13∧s10 = .int .i64 (n:Int)∧wr = w.drewN nd∧C = hiN (U.take d)∧d ≤ UL ∧
  ∀ n,1 ≤ n→n ≤ d→noHit zs (hiN (U.take n)) n)
 case atStart => exact ⟨0,1,nd0,0,by omega,rfl,rfl,rfl,rfl,rfl,rfl,rfl,by omega,fun n h1 h2 => by omega⟩
 case round =>
  obtain ⟨d,n,nd,C,hk,hn,rfl,rfl,rfl,rfl,rfl,hC,hdl,hno⟩:=hrel
  have HNO:=Lib.hid hno
  have HCC:=Lib.hid hC
  have HN:=Lib.hid hn
  clear hno hC
  by_cases hdm:n ≤ m
  ·by_cases hdu:n ≤ UL
   ·have hdu':d < U.length:=by rw [hUL];omega
    obtain ⟨b,hb⟩:∃ b,U[d]? = some b:=⟨_,List.getElem?_eq_getElem hdu'⟩
    have hbit:X / 2 ^ d % 2 = bit b:=by
     rw [← HX.out]
     exact num_bit (by rw [List.getElem?_take,if_pos (by omega)];exact hb)
    have HC2:Hid (bit b + 2 * C = hiN (U.take n)):=by show _ = _;rw [hn,hiN_up hb,← HCC.out]
    have hC32:C < 32768:=by
     rw [HCC.out]
     refine Nat.lt_of_lt_of_le (hiN_lt _) (Nat.le_trans (Nat.pow_le_pow_right (by decide) (show (U.take d).length ≤ 15 from ?_)) (by decide))
     rw [List.length_take];omega
    have hY2:=bit_le b
    obtain ⟨Y,hY⟩:∃ Y,bit b = Y:=⟨_,rfl⟩
    rw [hY] at hbit HC2 hY2
    obtain ⟨Z,hZ⟩:∃ Z,X / 2 ^ d = Z:=⟨_,rfl⟩
    have hZX:Z ≤ X:=by rw [← hZ];exact Nat.div_le_self _ _
    have hshr:(X:Int) / 2 ^ d = (Z:Int):=by rw [← hZ];simp
    rw [hZ] at hbit
    have hand:bits .and .u32 (Z:Int) 1 = (Y:Int):=by
     rw [show (1:Int) = ((1:Nat):Int) from rfl,u32_and_nat _ _ (by omega) (by decide),Nat.and_one_is_mod,hbit]
    have hor:bits .or .i64 ((C:Int) * 2) (Y:Int) = ((Y + 2 * C:Nat):Int):=by
     rw [← i64_or_low C Y hC32 (by omega)]
     congr 1
     omega
    have hsub:IntKind.i64.wrap ((n:Int) - 1) = (d:Int):=by rw [IntWalk.i64_in _ (by omega)];omega
    obtain ⟨D,hD⟩:∃ D,Y + 2 * C = D:=⟨_,rfl⟩
    rw [hD] at hor HC2
    have hD2:D < 65536:=by omega
    have hn15:n ≤ 15:=by omega
    have q1:=HEND.out n hn15
    have q0:=HEND.out d (by omega)
    have he1:=HEL.out n hn15
    have he0:=HEL.out d (by omega)
    have HIN:Hid (∀ k,(whole zs d).length ≤ k→k < (whole zs n).length→∃ s v,Sym zs s n v k):=fun k hk0 hk1 => by
     obtain ⟨R,hR,_⟩:=whole_pre zs n (15 - n)
     rw [show n + (15 - n) = 15 by omega] at hR
     have hkl:k < (ordL zs).length:=by
      show k < (whole zs 15).length
      rw [hR,List.length_append];omega
     obtain ⟨s,hs⟩:∃ s,(ordL zs)[k]? = some s:=⟨_,List.getElem?_eq_getElem hkl⟩
     obtain ⟨n',v,hy⟩:=sym_at hs
     have h1:=(hy.upto hn15).1 hk1
     obtain rfl:n' = n:=by
      rcases Nat.lt_or_ge d n' with h3 | h3
      ·have:=HN.out
       omega
      ·have:=(hy.upto (m:=d) (by omega)).2 h3
       omega
     exact ⟨s,v,hy⟩
    have HOUT1:Hid (∀ j s' v',(whole zs n).length ≤ j→Sym zs s' n v' j→D ≠ v'):=fun j s' v' hj hy => by
     have:=(hy.upto hn15).2 (Nat.le_refl _)
     omega
    have HOUT0:Hid (∀ j s' v',Sym zs s' n v' j→(whole zs d).length ≤ j):=fun j s' v' hy => by
     rcases Nat.lt_or_ge j (whole zs d).length with h1 | h1
     ·have:=(hy.upto (m:=d) (by omega)).1 h1
      have:=HN.out
      omega
     ·exact h1
    have hee:(whole zs d).length ≤ (whole zs n).length:=by rw [hn,whole,List.length_append];omega
    obtain ⟨e1,he1'⟩:∃ e1,(whole zs n).length = e1:=⟨_,rfl⟩
    obtain ⟨e0,he0'⟩:∃ e0,(whole zs d).length = e0:=⟨_,rfl⟩
    rw [he1'] at q1 he1 HIN HOUT1 hee
    rw [he0'] at q0 he0 HIN HOUT0 hee
    clear he1' he0' hZ hbit hY hD hb hdu' hn
    have u2:decide (UL < n) = false:=decide_eq_false (by omega)
    go_wp2_with (go_at_call 138;refine (HLF.out nd).mono ?_;rintro e w' ⟨rfl,nd1,rfl⟩)
    obtain ⟨GK,hGK⟩:∃ GK,GK = gk:=⟨_,rfl⟩
    subst hGK
    have hGK1:1 ≤ GK:=by have:=HN.out;omega
    go_loopg [8,9,11] (e1 - e0) (fun gk s8 s9 s11 wr2 => ∃ (nd2:Nat) (kz:Int),s8 = .int .i64 0∧s9 = .int .i64 13∧s11 = .int .i64 kz∧kz = (e0:Int) + (gk:Int) - 1∧e0 + gk ≤ e1∧wr2 = w.drewN nd2∧∀ j s' v',e0 + gk ≤ j→Sym zs s' n v' j→D ≠ v')
    case atStart => exact ⟨nd + nd1,(e1:Int) - 1,rfl,rfl,rfl,by omega,by omega,rfl,fun j s' v' hj hy => HOUT1.out j s' v' (by omega) hy⟩
    case round =>
     obtain ⟨nd2,kz,rfl,rfl,rfl,hkz,hgk2,rfl,hab⟩:=hrel
     have HAB:=Lib.hid hab
     clear hab
     by_cases hg0:gk = 0
     ·have HHIT:Hid (noHit zs (hiN (U.take n)) n):=by
       rw [← HC2.out]
       exact fun s' v' j hy => HAB.out j s' v' (by have:=HOUT0.out j s' v' hy;omega) hy
      have u1:¬ (e0:Int) ≤ kz:=by omega
      go_wp2
      go_roundg (GK - 1)
      case measure => omega
      case rel => exact ⟨n,n + 1,_,D,by have:=HN.out;omega,rfl,rfl,rfl,rfl,by go_num,rfl,HC2.out,hdu,fun n' h1 h2 => by
       rcases Nat.lt_or_ge d n' with h3 | h3
       ·obtain rfl:n' = n:=by have:=HN.out;omega
        exact HHIT.out
       ·exact HNO.out n' h1 h3⟩
     ·obtain ⟨q,rfl⟩:∃ q,gk = q + 1:=⟨gk - 1,by omega⟩
      obtain ⟨kn,rfl⟩:∃ kn:Nat,kz = (kn:Int):=⟨e0 + q,by omega⟩
      obtain ⟨s,v,hy⟩:=HIN.out kn (by omega) (by omega)
      have hkl:=(List.getElem?_eq_some_iff.1 hy.at_).1
      have hvl:=(List.getElem?_eq_some_iff.1 hy.val).1
      have hsl:=(List.getElem?_eq_some_iff.1 hy.len).1
      obtain ⟨b3,o3,rfl,hb3,hc3⟩:=HO.out (by rw [List.length_map];omega)
      have c5:w.cell? ⟨b3,o3 + kn,none⟩ = some (.int .i64 (s:Int)):=hc3 kn _ (by rw [List.getElem?_map,hy.at_];rfl)
      obtain ⟨b2,o2,rfl,hb2,hc2⟩:=HV.out (by rw [List.length_map];omega)
      have c6:w.cell? ⟨b2,o2 + s,none⟩ = some (.int .i64 (v:Int)):=hc2 s _ (by rw [List.getElem?_map,hy.val];rfl)
      have HY:=Lib.hid hy
      have u1:(e0:Int) ≤ (kn:Int):=by omega
      have u0:e0 ≤ kn:=by omega
      have hkl5:kn < 5000:=by omega
      have HQ:Hid (kn = e0 + q∧e0 + (q + 1) ≤ e1):=⟨by omega,hgk2⟩
      have HABS:Hid (∀ j s' v',kn < j→Sym zs s' n v' j→D ≠ v'):=fun j s' v' hj hy => HAB.out j s' v' (by have:=HQ.out;omega) hy
      clear hc2 hc3 hb2 hb3 hy hkz hvl hgk2 HAB hg0
      rcases Nat.lt_trichotomy v D with hvD | hvD | hvD
      ·have HHIT:Hid (noHit zs (hiN (U.take n)) n):=by
        rw [← HC2.out]
        exact noHit_less HY.out hvD HABS.out
       go_wp2
       go_roundg (GK - 1)
       case measure => omega
       case rel => exact ⟨n,n + 1,_,D,by have:=HN.out;omega,rfl,rfl,rfl,rfl,by go_num,rfl,HC2.out,hdu,fun n' h1 h2 => by
        rcases Nat.lt_or_ge d n' with h3 | h3
        ·obtain rfl:n' = n:=by have:=HN.out;omega
         exact HHIT.out
        ·exact HNO.out n' h1 h3⟩
      ·have t1:decide (v < D) = false:=decide_eq_false (by omega)
       have t1':¬ (v:Int) < (D:Int):=by omega
       have t2:(v == D) = true:=by simp;omega
       have t2':((v:Int) == (D:Int)) = true:=by simp;omega
       have HVD:=Lib.hid hvD
       have HSKN:=Lib.hid (fun nd => HSK.out nd n hn15)
       clear hvD
       go_wp2_with (go_at_call 245;refine (HSKN.out _).mono ?_;rintro e w9 ⟨rfl,hrd9,hm9⟩;have HRD9:=Lib.hid hrd9;have HM9:=Lib.hid hm9;clear hrd9 hm9)
       rw [Exit.noGoto_ret]
       go_ret2
       rw [HU.out]
       have hfit:p + n ≤ 8 * bs.length:=by have:=HUL.out;have:=HN.out;omega
       have hrd:=HRD9.out
       rw [cnt_nat (by omega),(fits_yes hfit).2] at hrd
       exact ⟨m,n,(s:Int),0,rfl,HMX.out,.inl ⟨s,v,kn,HY.out,by rw [hUL];exact hdu,by rw [← HC2.out];exact HVD.out.symm,rfl,rfl⟩,hrd,((Mod.refl (oneB r) w).drewN nd2).then_ HM9.out⟩
      ·have t1:decide (v < D) = false:=decide_eq_false (by omega)
       have t1':¬ (v:Int) < (D:Int):=by omega
       have t2:(v == D) = false:=by simp;omega
       have t2':((v:Int) == (D:Int)) = false:=by simp;omega
       have HVD:=Lib.hid hvD
       clear hvD
       go_wp2
       go_roundg q
       case measure => omega
       case rel =>
        refine ⟨_,(kn:Int) - 1,rfl,rfl,by go_num,by have:=HQ.out.1;omega,by have:=HQ.out.2;omega,rfl,fun j s' v' hj hy => ?_⟩
        rcases Nat.lt_or_ge kn j with h3 | h3
        ·exact HABS.out j s' v' h3 hy
        ·obtain rfl:j = kn:=by have:=HQ.out.1;omega
         have he:=HY.out.at_.symm.trans hy.at_
         injection he with he
         have:=(HY.out.one_val hy he).2
         have:=HVD.out
         omega
   ·have u1:decide (UL < n) = true:=decide_eq_true (by omega)
    go_wp2_with (go_at_call 138;refine (HLF.out nd).mono ?_;rintro e w' ⟨rfl,nd1,rfl⟩)
    rw [Exit.noGoto_ret]
    go_ret2
    rw [HU.out]
    refine ⟨m,0,0,2,rfl,HMX.out,.inr ⟨rfl,rfl,fun n' h1 h2 h3 => HNO.out n' h1 (by rw [hUL] at h3;have:=HN.out;omega),?_⟩,HRD.out.drewN _,(Mod.refl (oneB r) w).drewN _⟩
    rw [if_pos (by rw [hUL];omega)]
  ·go_wp2
   rw [Exit.noGoto_ret]
   go_ret2
   rw [HU.out]
   refine ⟨m,0,0,13,rfl,HMX.out,.inr ⟨rfl,rfl,fun n' h1 h2 h3 => HNO.out n' h1 (by omega),?_⟩,HRD.out.drewN _,(Mod.refl (oneB r) w).drewN _⟩
   rw [if_neg (by rw [hUL];omega)]
end Go.Proofs.YtaknladkodibaaaGreatDoor
namespace Go.Proofs.YtaknladkodibaaaGreatDoor
open Go.RowKit BitsP Go.Maps
def padZ (U:List Bool):List Bool:=U++zeros 15
theorem padZ_len (U:List Bool):(padZ U).length = U.length + 15:=by simp [padZ,zeros]
theorem pad_take {U:List Bool} {n:Nat} (h:n ≤ U.length):(padZ U).take n = U.take n:=by
 unfold padZ
 rw [List.take_append_of_le_length h]
def HitZ (U:List Bool) (n v:Nat):Prop:=hiN ((padZ U).take n) = v
theorem hit_one {zs:List Int} {U:List Bool} {s n v k s' n' v' k':Nat} (hy:Sym zs s n v k) (h:HitZ U n v) (hy':Sym zs s' n' v' k') (h':HitZ U n' v'):s = s':=by
 have hf:=hy.few
 have hf':=hy'.few
 have hl:=padZ_len U
 rcases Nat.le_total n n' with hle | hle
 ·refine hy.apart hy' hle ?_
  have:=hiN_take (U:=padZ U) (n:=n) (n' - n) (by omega)
  rw [show n + (n' - n) = n' by omega] at this
  have e1:hiN ((padZ U).take n) = v:=h
  have e2:hiN ((padZ U).take n') = v':=h'
  rw [e1,e2] at this
  exact this
 ·refine (hy'.apart hy hle ?_).symm
  have:=hiN_take (U:=padZ U) (n:=n') (n - n') (by omega)
  rw [show n' + (n - n') = n by omega] at this
  have e1:hiN ((padZ U).take n) = v:=h
  have e2:hiN ((padZ U).take n') = v':=h'
  rw [e1,e2] at this
  exact this
theorem takeR_fun {zs:List Int} {m:Nat} (hm:isMax zs (m:Int)) {U:List Bool} {s e s' e':Int} {on on':Nat} (h:TakeR zs m U s e on) (h':TakeR zs m U s' e' on'):s = s'∧e = e'∧on = on':=by
 have one:∀ {s e s' e':Int} {on on':Nat},(∃ t v k:Nat,Sym zs t on v k∧on ≤ U.length∧hiN (U.take on) = v∧s = (t:Int)∧e = 0)→¬ (s' = 0∧on' = 0∧(∀ n,1 ≤ n→n ≤ m→n ≤ U.length→noHit zs (hiN (U.take n)) n)∧e' = if U.length < m then 2 else 13):=by
  rintro s e s' e' on on' ⟨t,v,k,hy,hl,hv,_,_⟩ ⟨_,_,hno,_⟩
  exact hno _ hy.one (hy.at_le hm) hl t v k hy hv
 rcases h with h | h <;> rcases h' with h' | h'
 ·obtain ⟨t,v,k,hy,hl,hv,rfl,rfl⟩:=h
  obtain ⟨t',v',k',hy',hl',hv',rfl,rfl⟩:=h'
  have hs:=hit_one (U:=U) hy (by show hiN _ = _;rw [pad_take hl];exact hv) hy' (by show hiN _ = _;rw [pad_take hl'];exact hv')
  exact ⟨by rw [hs],rfl,(hy.one_val hy' hs).1⟩
 ·exact absurd h' (one h)
 ·exact absurd h (one h')
 ·exact ⟨h.1.trans h'.1.symm,h.2.2.2.trans h'.2.2.2.symm,h.2.1.trans h'.2.1.symm⟩
def begB (a b:List Bool):Bool:=decide (a.take b.length = b.take a.length)
def SeenT (zs:List Int) (U:List Bool) (i:Nat) (er:Int):Prop :=
 (∀ s n v k,s < i→Sym zs s n v k→n ≤ U.length→begB (codeB v n) U = false) ∧
 ((er = 2∧(U.length = 0 ∨ ∃ s n v k,Sym zs s n v k∧U.length < n)) ∨ (er = 13∧U.length ≠ 0∧∀ s n v k,s < i→Sym zs s n v k→U.length < n→begB (codeB v n) U = false))
theorem SeenT.start (zs:List Int) (U:List Bool):SeenT zs U 0 (if U.length = 0 then 2 else 13):=by
 refine ⟨fun s n v k h => by omega,?_⟩
 by_cases h:U.length = 0
 ·exact .inl ⟨if_pos h,.inl h⟩
 ·exact .inr ⟨if_neg h,h,fun s n v k h => by omega⟩
theorem SeenT.skip {zs:List Int} {U:List Bool} {i:Nat} {er:Int} (h:SeenT zs U i er) (hi:∀ n v k,Sym zs i n v k→begB (codeB v n) U = false):SeenT zs U (i + 1) er:=by
 refine ⟨fun s n v k hs hy hn => ?_,?_⟩
 ·rcases Nat.lt_or_ge s i with h1 | h1
  ·exact h.1 s n v k h1 hy hn
  ·obtain rfl:s = i:=by omega
   exact hi n v k hy
 ·rcases h.2 with h2 | ⟨h2,h3,h4⟩
  ·exact .inl h2
  ·refine .inr ⟨h2,h3,fun s n v k hs hy hn => ?_⟩
   rcases Nat.lt_or_ge s i with h1 | h1
   ·exact h4 s n v k h1 hy hn
   ·obtain rfl:s = i:=by omega
    exact hi n v k hy
theorem SeenT.long {zs:List Int} {U:List Bool} {i n v k:Nat} {er:Int} (h:SeenT zs U i er) (hy:Sym zs i n v k) (hn:U.length < n):SeenT zs U (i + 1) 2:=by
 refine ⟨fun s n' v' k' hs hy' hn' => ?_,.inl ⟨rfl,.inr ⟨i,n,v,k,hy,hn⟩⟩⟩
 rcases Nat.lt_or_ge s i with h1 | h1
 ·exact h.1 s n' v' k' h1 hy' hn'
 ·obtain rfl:s = i:=by omega
  have:=(hy.one_val hy' rfl).1
  omega
end Go.Proofs.YtaknladkodibaaaGreatDoor
namespace Go.Proofs.YtaknladkodibaaaGreatDoor
open BitsP
theorem isMax_one {zs:List Int} {m m':Int} (h:isMax zs m) (h':isMax zs m'):m = m':=by
 have h1:=h.1 m' h'.2
 have h2:=h'.1 m h.2
 omega
def FunT (F:List Int→List Bool→Int × Int × Nat):Prop:=∀ (zs:List Int) (U:List Bool) (s e:Int) (on m:Nat),isMax zs (m:Int)→TakeR zs m U s e on→F zs U = (s,e,on)
theorem funT_ex:∃ F,FunT F:=by
 refine ⟨fun zs U => @dite _ (∃ x:Int × Int × Nat,∃ m:Nat,isMax zs (m:Int)∧TakeR zs m U x.1 x.2.1 x.2.2) (Classical.propDecidable _) (fun h => Classical.choose h) (fun _ => (0,0,0)),fun zs U s e on m hm h => ?_⟩
 have hx:∃ x:Int × Int × Nat,∃ m:Nat,isMax zs (m:Int)∧TakeR zs m U x.1 x.2.1 x.2.2:=⟨(s,e,on),m,hm,h⟩
 dsimp only
 rw [dif_pos hx]
 obtain ⟨m',hm',ht⟩:=Classical.choose_spec hx
 have hmm:=isMax_one hm hm'
 obtain rfl:m = m':=by omega
 obtain ⟨h1,h2,h3⟩:=takeR_fun hm h ht
 generalize Classical.choose hx = y at *
 obtain ⟨y1,y2,y3⟩:=y
 dsimp only at h1 h2 h3
 rw [h1,h2,h3]
section
variable (F:List Int→List Bool→Int × Int × Nat)
def partF (zs:List Int) (U:List Bool):Int × Nat × Nat × Nat :=
 if (F zs U).2.1 ≠ 0 then ((F zs U).2.1,0,0,0)
 else if U.length < (F zs U).2.2 + (spanP (F zs U).1.toNat).2 then (2,0,0,0)
 else (0,(F zs U).1.toNat,(spanP (F zs U).1.toNat).1 + num ((U.drop (F zs U).2.2).take (spanP (F zs U).1.toNat).2),(F zs U).2.2 + (spanP (F zs U).1.toNat).2)
def lensF (zs:List Int) (n:Nat) (L:List Bool):Nat→List Nat→Nat→Int × List Nat × Nat
 | 0,l,p => (0,l,p)
 | k + 1,l,p =>
  if n ≤ l.length then (0,l,p)
  else if (partF F zs (L.drop p)).1 ≠ 0 then ((partF F zs (L.drop p)).1,[],0)
  else if (partF F zs (L.drop p)).2.1 = 16∧l = [] then (3,[],0)
  else if n < l.length + (partF F zs (L.drop p)).2.2.1 then (3,[],0)
  else lensF zs n L k (l++List.replicate (partF F zs (L.drop p)).2.2.1 (saysP l (partF F zs (L.drop p)).2.1)) (p + (partF F zs (L.drop p)).2.2.2)
def numA (L:List Bool) (p n:Nat):Nat:=num ((L.drop p).take n)
def lensA (L:List Bool) (p k:Nat):List Nat:=(List.range k).map fun i => numA L (p + 4 * i) 4
def tkF (L:List Bool) (p:Nat):Int × List Nat × Nat :=
 if L.length < p + 9 then (2,[],0)
 else if numA L p 9 = 0 ∨ 320 < numA L p 9 then (5,[],0)
 else if L.length < p + 85 then (2,[],0)
 else if caR ((lensA L (p + 9) 19).map fun n:Nat => (n:Int)) = false then (13,[],0)
 else lensF F ((lensA L (p + 9) 19).map fun n:Nat => (n:Int)) (numA L p 9) L (numA L p 9) [] (p + 85)
end
theorem lensA_len (L:List Bool) (p k:Nat):(lensA L p k).length = k:=by simp [lensA]
theorem lensA_up (L:List Bool) (p k:Nat):lensA L p (k + 1) = lensA L p k++[numA L (p + 4 * k) 4]:=by simp [lensA,List.range_succ]
theorem numA_lt (L:List Bool) (p n:Nat):numA L p n < 2 ^ n:=by
 have h:=num_from_lt (L.drop p) 0 n
 rw [List.drop_zero,p2_pow] at h
 exact h
theorem partF_many (F:List Int→List Bool→Int × Int × Nat) (zs:List Int) (U:List Bool) (h:(partF F zs U).1 = 0):1 ≤ (partF F zs U).2.2.1∧(partF F zs U).2.2.1 < 400:=by
 unfold partF at h ⊢
 split at h
 ·rename_i h1;exact absurd h h1
 ·split at h
  ·cases h
  ·rename_i h1 h2
   rw [if_neg h1,if_neg h2]
   have h3:=spanP_le (F zs U).1.toNat
   have h4:=numA_lt (U.drop (F zs U).2.2) 0 (spanP (F zs U).1.toNat).2
   have h5:2 ^ (spanP (F zs U).1.toNat).2 ≤ 2 ^ 7:=Nat.pow_le_pow_right (by decide) h3.2.2
   unfold numA at h4
   rw [List.drop_zero] at h4
   dsimp only
   omega
end Go.Proofs.YtaknladkodibaaaGreatDoor
namespace Go.Proofs.YtaknladkodibaaaGreatDoor
open Go.RowKit BitsP
set_option maxHeartbeats 400000 in
theorem revb_any (x:Nat) (w:World) (hx:x < 4294967296) :
  Calls Tryz.prog 197 #[.int .u32 (x:Int)] w fun e w' => e = .returned (.int .u32 (stepR 16 65535 (stepR 8 16711935 x):Nat))∧w = w':=by
 have h8:=stepR_int (k:=8) (m:=16711935) hx (by decide)
 have l8:=stepR_lt 8 16711935 x (by decide)
 obtain ⟨y,hy⟩:∃ y,stepR 8 16711935 x = y:=⟨_,rfl⟩
 rw [hy] at h8 l8 ⊢
 have h16:=step16_int l8
 obtain ⟨z,hz⟩:∃ z,stepR 16 65535 y = z:=⟨_,rfl⟩
 rw [hz] at h16 ⊢
 have h8':bits .or .u32 (bits .and .u32 ((x:Int) / 256) 16711935) (bits .and .u32 (x:Int) 16711935 * 256 % 4294967296) = (y:Int):=h8
 clear hy hz hx h8 l8
 go_enter Tryz.func197,Tryz.ntmps197
 go_wp2
 go_ret
 exact ⟨rfl,rfl⟩
set_option maxHeartbeats 1000000 in
theorem rev_any (x:Nat) (w:World) (hx:x < 4294967296) :
  Calls Tryz.prog 157 #[.int .u32 (x:Int)] w fun e w' => e = .returned (.int .u32 (rev32 x:Nat))∧w = w':=by
 unfold rev32
 have h1:=stepR_int (k:=1) (m:=1431655765) hx (by decide)
 have l1:=stepR_lt 1 1431655765 x (by decide)
 obtain ⟨y1,hy1⟩:∃ y,stepR 1 1431655765 x = y:=⟨_,rfl⟩
 rw [hy1] at h1 l1 ⊢
 have h2:=stepR_int (k:=2) (m:=858993459) l1 (by decide)
 have l2:=stepR_lt 2 858993459 y1 (by decide)
 obtain ⟨y2,hy2⟩:∃ y,stepR 2 858993459 y1 = y:=⟨_,rfl⟩
 rw [hy2] at h2 l2 ⊢
 have h3:=stepR_int (k:=4) (m:=252645135) l2 (by decide)
 have l3:=stepR_lt 4 252645135 y2 (by decide)
 obtain ⟨y3,hy3⟩:∃ y,stepR 4 252645135 y2 = y:=⟨_,rfl⟩
 rw [hy3] at h3 l3 ⊢
 have HB:=Lib.hid (revb_any y3 w l3)
 obtain ⟨z,hz⟩:∃ z,stepR 16 65535 (stepR 8 16711935 y3) = z:=⟨_,rfl⟩
 rw [hz] at HB ⊢
 have h1':bits .or .u32 (bits .and .u32 ((x:Int) / 2) 1431655765) (bits .and .u32 (x:Int) 1431655765 * 2 % 4294967296) = (y1:Int):=h1
 have h2':bits .or .u32 (bits .and .u32 ((y1:Int) / 4) 858993459) (bits .and .u32 (y1:Int) 858993459 * 4 % 4294967296) = (y2:Int):=h2
 have h3':bits .or .u32 (bits .and .u32 ((y2:Int) / 16) 252645135) (bits .and .u32 (y2:Int) 252645135 * 16 % 4294967296) = (y3:Int):=h3
 clear hy1 hy2 hy3 hz hx h1 h2 h3 l1 l2 l3
 go_enter Tryz.func157,Tryz.ntmps157
 go_wp2_with (go_at_call 197;refine HB.out.mono ?_;rintro e w' ⟨rfl,rfl⟩)
 go_ret
 exact ⟨rfl,rfl⟩
def symB (zs:List Int) (s:Int):List Bool:=if 0 < lenAt zs s then codeB ((caV zs).getD s.toNat 0).toNat (lenAt zs s).toNat else []
def hasB (zs:List Int) (s:Int):Bool:=decide (0 < lenAt zs s)
theorem lenAt_cases {zs:List Int} (hr:caR zs = true) (s:Int):(lenAt zs s = 0∧hasB zs s = false∧symB zs s = []) ∨
  ∃ t n v k:Nat,s = (t:Int)∧Sym zs t n v k∧lenAt zs s = (n:Int)∧hasB zs s = true∧symB zs s = codeB v n∧v < 2 ^ n:=by
 by_cases h0:0 ≤ s
 ·obtain ⟨t,rfl⟩:=Int.eq_ofNat_of_zero_le h0
  by_cases ht:t < zs.length
  ·obtain ⟨x,hx⟩:∃ x,zs[t]? = some x:=⟨_,List.getElem?_eq_getElem ht⟩
   have hb:=lenB_yes ((caR_len hr).2 x (List.mem_of_getElem? hx))
   obtain ⟨n,rfl⟩:=Int.eq_ofNat_of_zero_le hb.1
   have hl:lenAt zs (t:Int) = (n:Int):=by rw [lenAt,if_pos h0,Int.toNat_natCast,getD_of hx]
   by_cases h1:1 ≤ n
   ·obtain ⟨v,k,hs⟩:=sym_of hx h1 (by omega)
    refine .inr ⟨t,n,v,k,rfl,hs,hl,?_,?_,hs.lt hr⟩
    ·unfold hasB;rw [hl];exact decide_eq_true (by omega)
    ·unfold symB;rw [hl,if_pos (by omega),Int.toNat_natCast,Int.toNat_natCast,getD_of hs.val,Int.toNat_natCast]
   ·have h2:n = 0:=by omega
    subst h2
    exact .inl ⟨hl,by unfold hasB;rw [hl];rfl,by unfold symB;rw [hl];rfl⟩
  ·have hl:lenAt zs (t:Int) = 0:=by rw [lenAt,if_pos h0,List.getD,List.getElem?_eq_none (by rw [Int.toNat_natCast];omega)];rfl
   exact .inl ⟨hl,by unfold hasB;rw [hl];rfl,by unfold symB;rw [hl];rfl⟩
 ·have hl:lenAt zs s = 0:=by rw [lenAt,if_neg h0]
  exact .inl ⟨hl,by unfold hasB;rw [hl];rfl,by unfold symB;rw [hl];rfl⟩
theorem LC.mod {w w':World} {g:Nat} {zs:List Int} {S:Nat→Prop} (h:LC w g zs) (hm:Mod S w w') (hS:∀ k,S k→g < k):LC w' g zs:=by
 obtain ⟨A1,A2,A3,c1,c2,c3,m,hcb,hmx,h1,h2,h3⟩:=h
 have hg:=cb_lt hcb
 have key:∀ {A:Option Addr} {xs:List Value},Cells w g A xs→Cells w' g A xs:=fun hc hp => by
  obtain ⟨b,o,e,hb,hcc⟩:=hc hp
  exact ⟨b,o,e,hb,fun j u hj => (World.cell?_of_block (a:=⟨b,o + j,none⟩) (hm.block b (by omega) (fun hs => by have:=hS b hs;omega))).trans (hcc j u hj)⟩
 exact ⟨A1,A2,A3,c1,c2,c3,m,hm.keep hcb (fun hs => by have:=hS g hs;omega),hmx,key h1,key h2,key h3⟩
set_option maxHeartbeats 1000000 in
theorem put8_any (g q base:Nat) (zs:List Int) (S:Nat→Prop) (L:List Bool) (s:Int) (w:World) (hr:caR zs = true) (h:LC w g zs) (hw:WrS w q base S L) (hL:L.length ≤ 1000000000) (hbase:base ≤ w.heap.size) :
  Calls Tryz.prog 111 #[.pointer (some ⟨g,0,none⟩),.pointer (some ⟨q,0,none⟩),.int .i64 s] w
   fun e w' => e = .returned (.bool (hasB zs s))∧∃ S',WrS w' q base S' (L++symB zs s)∧Mod S w w'∧∀ k,S' k→S k ∨ w.heap.size ≤ k:=by
 have hzl:=(caR_len hr).1
 have HLN:=Lib.hid (len_any g zs s w h (by omega))
 rcases lenAt_cases hr s with ⟨e1,e2,e3⟩ | ⟨t,n,v,k,rfl,hs,e1,e2,e3,hvn⟩
 ·rw [e1] at HLN
  have HW:=Lib.hid hw
  have HE2:=Lib.hid e2
  have HE3:=Lib.hid e3
  clear h hw e1 e2 e3
  go_enter Tryz.func111,Tryz.ntmps111
  go_wp2_with (go_at_call 156;refine HLN.out.mono ?_;rintro e w' ⟨rfl,rfl⟩)
  go_ret
  exact ⟨by rw [HE2.out];rfl,S,by rw [HE3.out,List.append_nil];exact HW.out,Mod.refl _ _,fun k hk => .inl hk⟩
 ·obtain ⟨A1,A2,A3,c1,c2,c3,m,hcb,hmx,h1,h2,h3⟩:=h
  obtain ⟨p0,p1,p2,p3⟩:=cb_pre hcb
  have hvl:=(List.getElem?_eq_some_iff.1 hs.val).1
  have htl:=(List.getElem?_eq_some_iff.1 hs.len).1
  obtain ⟨b,o,rfl,hb,hc2⟩:=h2 (by rw [List.length_map];omega)
  have c0:w.cell? ⟨b,o + t,none⟩ = some (.int .i64 (v:Int)):=hc2 t _ (by rw [List.getElem?_map,hs.val];rfl)
  have h15:=hs.few
  have h1n:=hs.one
  have hp15:(2:Nat) ^ n ≤ 32768:=Nat.le_trans (Nat.pow_le_pow_right (by decide) h15) (by decide)
  have hv15:v < 32768:=by omega
  have hwv:IntKind.u32.wrap (v:Int) = (v:Int):=IntWalk.u32_in _ (by omega)
  have HRV:=Lib.hid (rev_any v w (by omega))
  obtain ⟨d,hd⟩:∃ d,32 - n = d:=⟨_,rfl⟩
  have hsub:IntKind.i64.wrap (32 - (n:Int)) = (d:Int):=by rw [IntWalk.i64_in _ (by omega)];omega
  have hcode:=rev32_code (v:=v) (n:=n) (by omega)
  have hrl:=rev32_lt v
  rw [hd] at hcode
  obtain ⟨X,hX⟩:∃ X,rev32 v = X:=⟨_,rfl⟩
  rw [hX] at HRV hcode hrl
  obtain ⟨Y,hY⟩:∃ Y,X / 2 ^ d = Y:=⟨_,rfl⟩
  rw [hY] at hcode
  have hYX:Y ≤ X:=by rw [← hY];exact Nat.div_le_self _ _
  have hsh:(X:Int) / 2 ^ d = (Y:Int):=by rw [← hY];simp
  have HPW:=Lib.hid (wput_any q base S L (Y:Int) (n:Int) w hw (by omega) hbase (by omega) (by omega) (by omega) (by omega))
  rw [cnt_nat (by omega),Int.toNat_natCast,hcode] at HPW
  rw [e1] at HLN
  have t0:((n:Int) == 0) = false:=by simp;omega
  have t0':(n == 0) = false:=by simp;omega
  have HE2:=Lib.hid e2
  have HE3:=Lib.hid e3
  have hd31:d ≤ 31:=by omega
  clear hX hY hcode hs h1 h3 hc2 hw e1 e2 e3 hcb hvn hd hp15
  go_enter Tryz.func111,Tryz.ntmps111
  go_wp2_with (first
   | (go_at_call 156;refine HLN.out.mono ?_;rintro e w' ⟨rfl,rfl⟩)
   | (go_at_call 157;refine HRV.out.mono ?_;rintro e w' ⟨rfl,rfl⟩)
   | (go_at_call 155;refine HPW.out.mono ?_;rintro e w5 ⟨rfl,hx⟩;have HX:=Lib.hid hx;clear hx))
  go_ret
  exact ⟨by rw [HE2.out];rfl,by rw [HE3.out];exact HX.out⟩
end Go.Proofs.YtaknladkodibaaaGreatDoor
