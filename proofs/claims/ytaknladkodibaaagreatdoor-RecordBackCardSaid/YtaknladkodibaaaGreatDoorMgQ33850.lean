/- Layer 13: a block is taken. -/
import Derived.Test.YtaknladkodibaaaGreatDoorMgQ33849
import Derived.Test.YtaknladkodibaaaGreatDoorMgQ33839
import Derived.Test.YtaknladkodibaaaGreatDoorMgQ33837
import Derived.Test.YtaknladkodibaaaGreatDoorMgQ33841
import Derived.Test.YtaknladkodibaaaGreatDoorMgQ33835
import Derived.Test.YtaknladkodibaaaGreatDoorMgQ33816
import Derived.Test.YtaknladkodibaaaGreatDoorMgQ33824
import Derived.Test.YtaknladkodibaaaGreatDoorMgQ33838
import Derived.Test.YtaknladkodibaaaGreatDoorMgQ33842
import Derived.Test.YtaknladkodibaaaGreatDoorMgQ338SStG
namespace Go.Proofs.YtaknladkodibaaaGreatDoor
open Go.RowKit BitsP SymP
theorem LCa.below_ {w w':World} {n g:Nat} {zs:List Int} (h:LCa w n g zs) (hb:Below w.heap.size w w'):LCa w' n g zs:=h.keep2 (Mod.of_below hb) (fun _ h => h.elim)
set_option maxRecDepth 100000 in
set_option maxHeartbeats 2000000 in
theorem blktake_any (F:List Int→List Bool→Int × Int × Nat) (hF:FunT F) (r base:Nat) (S:Nat→Prop) (bs:List UInt8) (p:Nat) (most:Int) (w:World) (hrd:RdS w r base S bs p) (hbl:bs.length ≤ 1000000) (m0:-9223372036854775808 ≤ most) (m1:most ≤ 9223372036854775807) :
  Calls Tryz.prog 136 #[.pointer (some ⟨r,0,none⟩),.int .i64 most] w
   fun e w' => ∃ (A:Option Addr) (c p':Nat) (t:Int × List Tk × Nat),blkF F (unpack bs) p most = t∧e = .returned (.tuple #[.slice A t.2.1.length c,.int .i64 t.1])∧w'.ownsRow w.heap.size 164 3 (.slice A t.2.1.length c) t.2.1.length (t.2.1.flatMap tcC)∧RdS w' r base S bs p'∧(t.1 = 0→p' = t.2.2)∧Mod (oneB r) w w':=by
 obtain ⟨hrl0,hp8,_⟩:=rd_low hrd
 have HA:=Lib.hid (tkalph_any F hF r base S bs p w hrd hbl)
 clear hrd
 go_enter Tryz.func136,Tryz.ntmps136
 go_wp2_with fail
 refine HA.out.mono ?_
 rintro e w2 ⟨a,b,n,m,er,p2,rfl,hrd2,hm2,⟨hne,hbk⟩ | ⟨rfl,z1,z2,ga,gb,rfl,rfl,rfl,rfl,h1,h2,hz1,hz2,hla,hlb,hbk⟩⟩
 ·have HB:=Lib.hid (hbk most)
  have HR2:=Lib.hid hrd2
  have HM2:=Lib.hid hm2
  have HNE:=Lib.hid hne
  have t1:(er != 0) = true:=by simpa using hne
  have hbx:=(Below.refl w2.heap.size w2).alloc (Nat.le_refl _) (.cells #[.pointer a,.int .i64 n,.pointer b,.int .i64 m] 251)
  have HBX:=Lib.hid hbx
  clear hne hbk hrd2 hm2 hbx
  unfold alC
  go_wp2
  refine bodyPost_ret (results_tmp2 rfl _ _ _) rfl ?_
  exact ⟨none,0,p2,_,HB.out,by rfl,World.ownsRow_nil _ _ _ _,HR2.out.keep (Mod.of_below HBX.out) (fun _ _ h => h),fun h => absurd h HNE.out,HM2.out.then_ ((Mod.of_below HBX.out).mono fun _ h => h.elim)⟩
 ·have HB:=Lib.hid (hbk most)
  have HM2:=Lib.hid hm2
  have hbx:=(Below.refl w2.heap.size w2).alloc (Nat.le_refl _) (.cells #[.pointer (some ⟨ga,0,none⟩),.int .i64 257,.pointer (some ⟨gb,0,none⟩),.int .i64 0] 251)
  have hs2:=hm2.size
  have HTS:=Lib.hid (tktoks_any F hF r base w.heap.size ga gb S bs p2 most z1 z2 (w2.alloc (.cells #[.pointer (some ⟨ga,0,none⟩),.int .i64 257,.pointer (some ⟨gb,0,none⟩),.int .i64 0] 251)) h1 h2 hz1 hz2 (hla.below_ hbx) (hlb.below_ hbx) hrl0 (hrd2.keep (Mod.of_below hbx) (fun _ _ h => h)) hbl m0 m1)
  have HBX:=Lib.hid hbx
  clear hbk hrd2 hm2 hbx hla hlb
  unfold alC at HTS ⊢
  go_wp2_with (go_at_call 173;refine HTS.out.mono ?_;rintro e w3 ⟨A3,c3,p3,t3,ht3,rfl,hown3,hrd3,hpe3,hm3⟩;have HT3:=Lib.hid (And.intro ht3 (And.intro hown3 (And.intro hrd3 (And.intro hpe3 hm3))));clear ht3 hown3 hrd3 hpe3 hm3)
  obtain ⟨ht3,hown3,hrd3,hpe3,hm3⟩:=HT3.out
  refine bodyPost_ret (results_tmp2 rfl _ _ _) rfl ?_
  exact ⟨A3,c3,p3,t3,HB.out.trans ht3,by rfl,own_leT hown3 (by simp;omega),hrd3,hpe3,(HM2.out.then_ ((Mod.of_below HBX.out).mono fun _ h => h.elim)).then_ hm3⟩
end Go.Proofs.YtaknladkodibaaaGreatDoor
namespace Go.Proofs.YtaknladkodibaaaGreatDoor
open Go.RowKit BitsP
end Go.Proofs.YtaknladkodibaaaGreatDoor
namespace Go.Proofs.YtaknladkodibaaaGreatDoor
open Go.RowKit BitsP SymP
attribute [local go_sem ↓] Go.wp_at_zero Go.wp_at_succ
theorem expE_le {most:Int}:∀ (L:List Ti) (out o:List UInt8),expE most L out = (0,o)→(out.length:Int) ≤ most→(o.length:Int) ≤ most
 | [],out,o,h,h1 => by
  rw [expE] at h
  rw [← (Prod.mk.inj h).2]
  exact h1
 | t :: L,out,o,h,h1 => by
  rw [expE] at h
  split at h
  ·cases (Prod.mk.inj h).1
  ·rename_i h2
   split at h
   ·cases (Prod.mk.inj h).1
   ·rename_i h3
    refine expE_le L _ o h ?_
    rw [putT_len out (by cases hk:okX t with | true => rfl | false => exact absurd (.inl hk) h2)]
    omega
def unB (F:List Int→List Bool→Int × Int × Nat) (area:List UInt8) (size:Int):Int × List UInt8 :=
 if (blkF F (unpack area) 0 size).1 ≠ 0 then ((blkF F (unpack area) 0 size).1,[])
 else if (szs (blkF F (unpack area) 0 size).2.1:Int) ≠ size then (5,[])
 else if 7 < 8 * area.length - (blkF F (unpack area) 0 size).2.2 ∨ numA (unpack area) (blkF F (unpack area) 0 size).2.2 8 ≠ 0 then (3,[])
 else (0,(expE size ((blkF F (unpack area) 0 size).2.1.map ti) []).2)
theorem blkF_many (F:List Int→List Bool→Int × Int × Nat) (L:List Bool) (p:Nat) (most:Int):(blkF F L p most).2.1.length ≤ L.length + 1:=by
 have key:∀ (z1 z2:List Int) (k:Nat) (ts:List Tk) (size p:Nat),(blkL F z1 z2 L most k ts size p).2.1.length ≤ ts.length + k:=by
  intro z1 z2 k
  induction k with
  | zero => intro ts size p;exact Nat.zero_le _
  | succ k ih =>
   intro ts size p
   rw [blkL]
   split
   ·exact Nat.zero_le _
   split
   ·show ts.length ≤ _;omega
   split
   ·exact Nat.zero_le _
   split
   ·exact Nat.zero_le _
   ·split
    ·exact Nat.zero_le _
    split
    ·exact Nat.zero_le _
    ·refine Nat.le_trans (ih _ _ _) ?_
     rw [List.length_append,List.length_singleton]
     omega
 unfold blkF
 split
 ·exact Nat.zero_le _
 split
 ·exact Nat.zero_le _
 split
 ·exact Nat.zero_le _
 split
 ·exact Nat.zero_le _
 ·refine Nat.le_trans (key _ _ _ _ _ _) ?_
  rw [List.length_nil]
  omega
theorem own_len {w:World} {base:Nat} {v:Value} {n:Nat} {xs:List UInt8} (h:OwnB w base 5 v n xs):xs.length = n:=by
 have h1:=h.1
 rw [byteCells_length,Nat.mul_one] at h1
 exact h1
theorem ti_row {w:World} {A:Option Addr} {B:Nat} {ts:List Tk} (h:Cells w B A (ts.flatMap tcC)):Cells w B A ((ts.map ti).map tiC).flatten:=by
 rw [List.flatMap_def] at h
 rw [List.map_map]
 exact h
set_option maxRecDepth 100000 in
set_option maxHeartbeats 2000000 in
theorem cdunpack_any (F:List Int→List Bool→Int × Int × Nat) (hF:FunT F) (A:Option Addr) (l c:Nat) (bs:List UInt8) (size:Int) (w:World) (hl:bs.length = l) (hm:l ≤ 40000) (h0:0 ≤ size) (h1:size ≤ 65536) (hb:Bytes w w.heap.size A bs) :
  Calls Tryz.prog 98 #[.slice A l c,.int .i64 size] w fun e w' => ∃ A' c',e = .returned (.tuple #[.slice A' (unB F bs size).2.length c',.int .i64 (unB F bs size).1])∧Bytes w' w'.heap.size A' (unB F bs size).2∧Below w.heap.size w w':=by
 have HNEW:=Lib.hid (rnew_any A l c w.heap.size bs w hl (by omega) (Nat.le_refl _) hb)
 have HTK:Hid (∀ (W:World) (base g:Nat) (S:Nat→Prop),RdS W g base S bs 0→_):=fun W base g S hW => blktake_any F hF g base S bs 0 size W hW (by omega) (by omega) (by omega)
 have hlen:=blkF_many F (unpack bs) 0 size
 rw [unpack_length,hl] at hlen
 obtain ⟨⟨er,ts,q⟩,hT⟩:∃ T,blkF F (unpack bs) 0 size = T:=⟨_,rfl⟩
 have HU:Hid (unB F bs size = if er ≠ 0 then (er,[]) else if (szs ts:Int) ≠ size then (5,[]) else if 7 < 8 * l - q ∨ numA (unpack bs) q 8 ≠ 0 then (3,[]) else (0,(expE size (ts.map ti) []).2)):=by show _ = _;rw [unB,hT,hl]
 rw [hT] at HTK hlen
 dsimp only at hlen
 obtain ⟨n,hn⟩:∃ n,ts.length = n:=⟨_,rfl⟩
 have HN:=Lib.hid hn
 have HLL:=Lib.hid hl
 have hn4:n ≤ 330000:=by omega
 have HUL:Hid ((unpack bs).length = 8 * l):=by show _ = _;rw [unpack_length,hl]
 by_cases her:er = 0
 rotate_left
 ·have HE:Hid (unB F bs size = (er,[])):=by show _ = _;rw [HU.out,if_pos her]
  have v1:(er != 0) = true:=by simpa using her
  clear hb hl hT hlen hn her HU
  rw [HE.out]
  dsimp only
  go_enter Tryz.func98,Tryz.ntmps98
  go_wp2_with (first
   | (go_at_call 135;refine HNEW.out.mono ?_;rintro e w2 ⟨g,S,rfl,hrd2,hb2,hS2⟩;have HB2:=Lib.hid hb2;have HR2:=Lib.hid hrd2;have HG2:Hid (w.heap.size ≤ g):=hS2 g (rd_low hrd2).2.2;clear hrd2 hb2 hS2)
   | (go_at_call 136;refine (HTK.out w2 w.heap.size g S HR2.out).mono ?_;rintro e w3 ⟨A3,c3,p3,t3,rfl,rfl,hown3,hrd3,hpe3,hm3⟩;dsimp only at hown3 hpe3;dsimp only;rw [HN.out] at hown3;rw [HN.out];have HO3:=Lib.hid (cells_of_own7 hown3);have HR3:=Lib.hid hrd3;have HPE:=Lib.hid hpe3;have HB3:=Lib.hid (hm3.below HB2.out HB2.out.size (fun k hk => by cases hk;exact HG2.out));clear hown3 hrd3 hpe3 hm3))
  exact bodyPost_ret (results_tmp2 rfl _ _ _) rfl ⟨none,0,rfl,Cells.nil _ _ _,HB3.out⟩
 subst her
 obtain ⟨out,ho,hol⟩:=blkF_exp hT
 have hle:=expE_le _ _ _ ho (by simpa using h0)
 have HEX:Hid (∀ (W:World) (A3:Option Addr) (c3:Nat),Cells W W.heap.size A3 (ts.flatMap tcC)→_):=fun W A3 c3 hW => Expand_any A3 n c3 (ts.map ti) size W (by rw [List.length_map];exact hn) (by omega) (by omega) (by omega) (ti_row hW)
 rw [ho] at HEX HU
 dsimp only at HEX
 rw [if_neg (by simp)] at HU
 obtain ⟨ol,holl⟩:∃ ol,out.length = ol:=⟨_,rfl⟩
 have HOL:=Lib.hid holl
 rw [← hol,holl] at HU
 rw [holl] at HEX hle
 by_cases hsz:(ol:Int) = size
 rotate_left
 ·have HE:Hid (unB F bs size = (5,[])):=by show _ = _;rw [HU.out,if_pos hsz]
  have v2:decide ((ol:Int) < size) = true:=decide_eq_true (by omega)
  clear hb hl hT hlen hn hsz HU hol ho holl
  rw [HE.out]
  dsimp only
  go_enter Tryz.func98,Tryz.ntmps98
  go_wp2_with (first
   | (go_at_call 135;refine HNEW.out.mono ?_;rintro e w2 ⟨g,S,rfl,hrd2,hb2,hS2⟩;have HB2:=Lib.hid hb2;have HR2:=Lib.hid hrd2;have HG2:Hid (w.heap.size ≤ g):=hS2 g (rd_low hrd2).2.2;clear hrd2 hb2 hS2)
   | (go_at_call 136;refine (HTK.out w2 w.heap.size g S HR2.out).mono ?_;rintro e w3 ⟨A3,c3,p3,t3,rfl,rfl,hown3,hrd3,hpe3,hm3⟩;dsimp only at hown3 hpe3;dsimp only;rw [HN.out] at hown3;rw [HN.out];have HO3:=Lib.hid (cells_of_own7 hown3);have HR3:=Lib.hid hrd3;have HPE:=Lib.hid hpe3;have HB3:=Lib.hid (hm3.below HB2.out HB2.out.size (fun k hk => by cases hk;exact HG2.out));clear hown3 hrd3 hpe3 hm3)
   | (go_at_call 137;refine (HEX.out w3 A3 c3 HO3.out).mono ?_;rintro e w4 ⟨A4,c4,rfl,hc4,hb4⟩;have HC4:=Lib.hid hc4;have HB4:=Lib.hid (HB3.out.trans (hb4.mono HB3.out.size));obtain rfl:=HPE.out rfl;have HR4:=Lib.hid (HR3.out.keep (Mod.of_below hb4) (fun _ _ h => h));clear hc4 hb4))
  exact bodyPost_ret (results_tmp2 rfl _ _ _) rfl ⟨none,0,rfl,Cells.nil _ _ _,HB4.out⟩
 have v2:decide ((ol:Int) < size) = false:=decide_eq_false (by omega)
 rw [if_neg (by omega)] at HU
 obtain ⟨lf,hlf⟩:∃ lf,8 * l - q = lf:=⟨_,rfl⟩
 have HLF:=Lib.hid hlf
 rw [hlf] at HU
 by_cases h7:7 < lf
 ·have HE:Hid (unB F bs size = (3,[])):=by show _ = _;rw [HU.out,if_pos (.inl h7)]
  have v3:decide ((8:Int) ≤ (lf:Int)) = true:=decide_eq_true (by omega)
  have v3n:decide (8 ≤ lf) = true:=decide_eq_true (by omega)
  have v3m:decide ((7:Int) < (lf:Int)) = true:=decide_eq_true (by omega)
  clear hb hl hT hlen hn hsz HU hol ho holl hlf h7
  rw [HE.out]
  dsimp only
  go_enter Tryz.func98,Tryz.ntmps98
  go_wp2_with (first
   | (go_at_call 135;refine HNEW.out.mono ?_;rintro e w2 ⟨g,S,rfl,hrd2,hb2,hS2⟩;have HB2:=Lib.hid hb2;have HR2:=Lib.hid hrd2;have HG2:Hid (w.heap.size ≤ g):=hS2 g (rd_low hrd2).2.2;clear hrd2 hb2 hS2)
   | (go_at_call 136;refine (HTK.out w2 w.heap.size g S HR2.out).mono ?_;rintro e w3 ⟨A3,c3,p3,t3,rfl,rfl,hown3,hrd3,hpe3,hm3⟩;dsimp only at hown3 hpe3;dsimp only;rw [HN.out] at hown3;rw [HN.out];have HO3:=Lib.hid (cells_of_own7 hown3);have HR3:=Lib.hid hrd3;have HPE:=Lib.hid hpe3;have HB3:=Lib.hid (hm3.below HB2.out HB2.out.size (fun k hk => by cases hk;exact HG2.out));clear hown3 hrd3 hpe3 hm3)
   | (go_at_call 137;refine (HEX.out w3 A3 c3 HO3.out).mono ?_;rintro e w4 ⟨A4,c4,rfl,hc4,hb4⟩;have HC4:=Lib.hid hc4;have HB4:=Lib.hid (HB3.out.trans (hb4.mono HB3.out.size));obtain rfl:=HPE.out rfl;have HR4:=Lib.hid (HR3.out.keep (Mod.of_below hb4) (fun _ _ h => h));clear hc4 hb4)
   | (go_at_call 138;refine (rleft_any g w.heap.size S bs _ w4 HR4.out (by rw [HLL.out];omega)).mono ?_;rintro e w' ⟨rfl,nl,rfl⟩;rw [HLL.out,HLF.out];have HR5:=Lib.hid (HR4.out.drewN nl);clear HR4))
  exact bodyPost_ret (results_tmp2 rfl _ _ _) rfl ⟨none,0,rfl,Cells.nil _ _ _,Below.drewN HB4.out nl⟩
 have v3:decide ((8:Int) ≤ (lf:Int)) = false:=decide_eq_false (by omega)
 have v3n:decide (8 ≤ lf) = false:=decide_eq_false (by omega)
 have v3m:decide ((7:Int) < (lf:Int)) = false:=decide_eq_false (by omega)
 have hlf7:lf ≤ 7:=by omega
 have HPN:Hid (num (((unpack bs).drop q).take lf) = numA (unpack bs) q 8):=by
  show _ = _
  unfold numA
  rw [List.take_of_length_le (by rw [List.length_drop,HUL.out];omega),List.take_of_length_le (by rw [List.length_drop,HUL.out];omega)]
 obtain ⟨nm,hnm⟩:∃ nm,numA (unpack bs) q 8 = nm:=⟨_,rfl⟩
 rw [hnm] at HPN HU
 by_cases hz:nm = 0
 ·have HE:Hid (unB F bs size = (0,out)):=by show _ = _;rw [HU.out,if_neg (by omega)]
  have v4:((nm:Int) != 0) = false:=by simp [hz]
  clear hb hl hT hlen hn hsz HU hol ho holl hlf h7 hnm hz
  rw [HE.out]
  dsimp only
  rw [HOL.out]
  go_enter Tryz.func98,Tryz.ntmps98
  go_wp2_with (first
   | (go_at_call 135;refine HNEW.out.mono ?_;rintro e w2 ⟨g,S,rfl,hrd2,hb2,hS2⟩;have HB2:=Lib.hid hb2;have HR2:=Lib.hid hrd2;have HG2:Hid (w.heap.size ≤ g):=hS2 g (rd_low hrd2).2.2;clear hrd2 hb2 hS2)
   | (go_at_call 136;refine (HTK.out w2 w.heap.size g S HR2.out).mono ?_;rintro e w3 ⟨A3,c3,p3,t3,rfl,rfl,hown3,hrd3,hpe3,hm3⟩;dsimp only at hown3 hpe3;dsimp only;rw [HN.out] at hown3;rw [HN.out];have HO3:=Lib.hid (cells_of_own7 hown3);have HR3:=Lib.hid hrd3;have HPE:=Lib.hid hpe3;have HB3:=Lib.hid (hm3.below HB2.out HB2.out.size (fun k hk => by cases hk;exact HG2.out));clear hown3 hrd3 hpe3 hm3)
   | (go_at_call 137;refine (HEX.out w3 A3 c3 HO3.out).mono ?_;rintro e w4 ⟨A4,c4,rfl,hc4,hb4⟩;have HC4:=Lib.hid hc4;have HB4:=Lib.hid (HB3.out.trans (hb4.mono HB3.out.size));obtain rfl:=HPE.out rfl;have HR4:=Lib.hid (HR3.out.keep (Mod.of_below hb4) (fun _ _ h => h));clear hc4 hb4)
   | (go_at_call 138;refine (rleft_any g w.heap.size S bs _ w4 HR4.out (by rw [HLL.out];omega)).mono ?_;rintro e w' ⟨rfl,nl,rfl⟩;rw [HLL.out,HLF.out];have HR5:=Lib.hid (HR4.out.drewN nl);clear HR4)
   | (go_at_call 138;refine (rleft_any g w.heap.size S bs _ (w4.drewN nl) HR5.out (by rw [HLL.out];omega)).mono ?_;rintro e w' ⟨rfl,nl2,rfl⟩;rw [HLL.out,HLF.out];have HR6:=Lib.hid (HR5.out.drewN nl2);clear HR5)
   | (go_at_call 139;refine (rpeek_any g w.heap.size S bs p3 (lf:Int) _ ?_ (by rw [HLL.out];omega) (by omega) (by omega)).mono ?_;(exact HR6.out);rintro e w' ⟨rfl,np,rfl⟩;rw [cnt_nat (k:=lf) (by omega),HPN.out]))
  exact bodyPost_ret (results_tmp2 rfl _ _ _) rfl ⟨A4,c4,rfl,HC4.out,Below.drewN HB4.out (nl + nl2 + np)⟩
 ·have HE:Hid (unB F bs size = (3,[])):=by show _ = _;rw [HU.out,if_pos (.inr hz)]
  have v4:((nm:Int) != 0) = true:=by simpa using hz
  clear hb hl hT hlen hn hsz HU hol ho holl hlf h7 hnm hz
  rw [HE.out]
  dsimp only
  go_enter Tryz.func98,Tryz.ntmps98
  go_wp2_with (first
   | (go_at_call 135;refine HNEW.out.mono ?_;rintro e w2 ⟨g,S,rfl,hrd2,hb2,hS2⟩;have HB2:=Lib.hid hb2;have HR2:=Lib.hid hrd2;have HG2:Hid (w.heap.size ≤ g):=hS2 g (rd_low hrd2).2.2;clear hrd2 hb2 hS2)
   | (go_at_call 136;refine (HTK.out w2 w.heap.size g S HR2.out).mono ?_;rintro e w3 ⟨A3,c3,p3,t3,rfl,rfl,hown3,hrd3,hpe3,hm3⟩;dsimp only at hown3 hpe3;dsimp only;rw [HN.out] at hown3;rw [HN.out];have HO3:=Lib.hid (cells_of_own7 hown3);have HR3:=Lib.hid hrd3;have HPE:=Lib.hid hpe3;have HB3:=Lib.hid (hm3.below HB2.out HB2.out.size (fun k hk => by cases hk;exact HG2.out));clear hown3 hrd3 hpe3 hm3)
   | (go_at_call 137;refine (HEX.out w3 A3 c3 HO3.out).mono ?_;rintro e w4 ⟨A4,c4,rfl,hc4,hb4⟩;have HC4:=Lib.hid hc4;have HB4:=Lib.hid (HB3.out.trans (hb4.mono HB3.out.size));obtain rfl:=HPE.out rfl;have HR4:=Lib.hid (HR3.out.keep (Mod.of_below hb4) (fun _ _ h => h));clear hc4 hb4)
   | (go_at_call 138;refine (rleft_any g w.heap.size S bs _ w4 HR4.out (by rw [HLL.out];omega)).mono ?_;rintro e w' ⟨rfl,nl,rfl⟩;rw [HLL.out,HLF.out];have HR5:=Lib.hid (HR4.out.drewN nl);clear HR4)
   | (go_at_call 138;refine (rleft_any g w.heap.size S bs _ (w4.drewN nl) HR5.out (by rw [HLL.out];omega)).mono ?_;rintro e w' ⟨rfl,nl2,rfl⟩;rw [HLL.out,HLF.out];have HR6:=Lib.hid (HR5.out.drewN nl2);clear HR5)
   | (go_at_call 139;refine (rpeek_any g w.heap.size S bs p3 (lf:Int) _ ?_ (by rw [HLL.out];omega) (by omega) (by omega)).mono ?_;(exact HR6.out);rintro e w' ⟨rfl,np,rfl⟩;rw [cnt_nat (k:=lf) (by omega),HPN.out]))
  exact bodyPost_ret (results_tmp2 rfl _ _ _) rfl ⟨none,0,rfl,Cells.nil _ _ _,Below.drewN HB4.out (nl + nl2 + np)⟩
def unM (F:List Int→List Bool→Int × Int × Nat) (m:Int) (area:List UInt8) (size:Int):Int × List UInt8 :=
 if m < 0 ∨ 2 < m then (1,[]) else if size < 0 ∨ 65536 < size then (5,[]) else if m = 1 then unB F area size
 else if m = 2 then (if (pcA area).2 ≠ 0 then ((pcA area).2,[]) else if ((pcA area).1.flatten.length:Int) ≠ size then (5,[]) else (0,(pcA area).1.flatten))
 else if (area.length:Int) ≠ size then (5,[]) else (0,area)
def UnQ (w:World) (t:Int × List UInt8) (e:Ending) (w':World):Prop:=∃ A' c',e = .returned (.tuple #[.slice A' t.2.length c',.int .i64 t.1])∧Bytes w' w'.heap.size A' t.2∧Below w.heap.size w w'
theorem UnQ.err {w w':World} {er:Int} {t:Int × List UInt8} (ht:t = (er,[])) (hb:Below w.heap.size w w'):UnQ w t (.returned (.tuple #[.slice none 0 0,.int .i64 er])) w':=by
 subst ht
 exact ⟨none,0,rfl,Cells.nil _ _ _,hb⟩
set_option maxRecDepth 100000 in
set_option maxHeartbeats 1000000 in
theorem cdUnpack_any (F:List Int→List Bool→Int × Int × Nat) (hF:FunT F) (A:Option Addr) (l c:Nat) (bs:List UInt8) (m size:Int) (w:World) (hl:bs.length = l) (hm:l ≤ 1000000) (hmb:m = 1→l ≤ 40000) (hc:l ≤ c) (hb:Bytes w w.heap.size A bs) :
  Calls Tryz.prog 54 #[.int .i64 m,.slice A l c,.int .i64 size] w (UnQ w (unM F m bs size)):=by
 by_cases hm1:m < 0 ∨ 2 < m
 ·have HE:Hid (unM F m bs size = (1,[])):=by show _ = _;rw [unM,if_pos hm1]
  clear hb hl
  rcases hm1 with h | h
  ·have t1:decide (m < 0) = true:=decide_eq_true h
   clear h
   go_enter Tryz.func54,Tryz.ntmps54
   go_wp2
   refine bodyPost_ret (results_tmp2 rfl _ _ _) rfl ?_
   exact (UnQ.err HE.out (Below.refl _ _))
  ·have t1:decide (m < 0) = false:=decide_eq_false (by omega)
   have t2:decide (2 < m) = true:=decide_eq_true h
   clear h
   go_enter Tryz.func54,Tryz.ntmps54
   go_wp2
   refine bodyPost_ret (results_tmp2 rfl _ _ _) rfl ?_
   exact (UnQ.err HE.out (Below.refl _ _))
 have t1:decide (m < 0) = false:=decide_eq_false (by omega)
 have t2:decide (2 < m) = false:=decide_eq_false (by omega)
 by_cases hs1:size < 0 ∨ 65536 < size
 ·have HE:Hid (unM F m bs size = (5,[])):=by show _ = _;rw [unM,if_neg hm1,if_pos hs1]
  clear hb hl hm1
  rcases hs1 with h | h
  ·have t3:decide (size < 0) = true:=decide_eq_true h
   clear h
   go_enter Tryz.func54,Tryz.ntmps54
   go_wp2
   refine bodyPost_ret (results_tmp2 rfl _ _ _) rfl ?_
   exact (UnQ.err HE.out (Below.refl _ _))
  ·have t3:decide (size < 0) = false:=decide_eq_false (by omega)
   have t4:decide (65536 < size) = true:=decide_eq_true h
   clear h
   go_enter Tryz.func54,Tryz.ntmps54
   go_wp2
   refine bodyPost_ret (results_tmp2 rfl _ _ _) rfl ?_
   exact (UnQ.err HE.out (Below.refl _ _))
 have t3:decide (size < 0) = false:=decide_eq_false (by omega)
 have t4:decide (65536 < size) = false:=decide_eq_false (by omega)
 by_cases hone:m = 1
 ·have HE:Hid (unM F m bs size = unB F bs size):=by show _ = _;rw [unM,if_neg hm1,if_neg hs1,if_pos hone]
  have HU:=Lib.hid (cdunpack_any F hF A l c bs size w hl (hmb hone) (by omega) (by omega) hb)
  have t5:(m == 1) = true:=by simpa using hone
  rw [HE.out]
  obtain ⟨T,hT⟩:∃ T,unB F bs size = T:=⟨_,rfl⟩
  rw [hT] at HU ⊢
  clear hb hl hm1 hs1 hone hT HE
  go_enter Tryz.func54,Tryz.ntmps54
  go_wp2_with (go_at_call 98;refine HU.out.mono ?_;rintro e w2 ⟨A2,c2,rfl,hc2,hb2⟩;have HC2:=Lib.hid hc2;have HB2:=Lib.hid hb2;clear hc2 hb2)
  refine bodyPost_ret (results_tmp2 rfl _ _ _) rfl ?_
  exact ⟨A2,c2,rfl,HC2.out,HB2.out⟩
 have t5:(m == 1) = false:=by simpa using hone
 have HCL:=Lib.hid (clone_any A l c w.heap.size bs w hl (by omega) (Nat.le_refl _) hb)
 by_cases htwo:m = 2
 ·have t6:(m == 2) = true:=by simpa using htwo
  have HP:Hid (∀ W,Below w.heap.size w W→_):=fun W hW => piecesOf_any A l c W.heap.size bs W hl (by omega) hc ((hb.below hW (Nat.le_refl _)).more hW.size) (Nat.le_refl _)
  obtain ⟨⟨ps,er⟩,hT⟩:∃ T,pcA bs = T:=⟨_,rfl⟩
  have HU:Hid (unM F m bs size = if er ≠ 0 then (er,[]) else if (ps.flatten.length:Int) ≠ size then (5,[]) else (0,ps.flatten)):=by show _ = _;rw [unM,if_neg hm1,if_neg hs1,if_neg hone,if_pos htwo,hT]
  rw [hT] at HP
  dsimp only at HP
  by_cases her:er = 0
  rotate_left
  ·have HE:Hid (unM F m bs size = (er,[])):=by show _ = _;rw [HU.out,if_pos her]
   have v1:(er != 0) = true:=by simpa using her
   clear hb hl hm1 hs1 hone htwo hT her HU
   go_enter Tryz.func54,Tryz.ntmps54
   go_wp2_with (first
    | (go_at_call 68;refine HCL.out.mono ?_;rintro e w2 ⟨A2,c2,rfl,hown2,hb2⟩;have HO2:=Lib.hid hown2;have HB2:=Lib.hid hb2;clear hown2 hb2)
    | (go_at_call 80;refine (HP.out w2 HB2.out).mono ?_;rintro e w3 ⟨v3,n3,cp3,A3,rfl,rfl,_,_,hb3⟩;have HB3:=Lib.hid (HB2.out.trans (hb3.mono HB2.out.size));clear hb3))
   refine bodyPost_ret (results_tmp2 rfl _ _ _) rfl ?_
   exact (UnQ.err HE.out HB3.out)
  subst her
  rw [if_neg (by simp)] at HU
  obtain ⟨R,hR⟩:∃ R,ps.flatten = R:=⟨_,rfl⟩
  rw [hR] at HP HU
  obtain ⟨rl,hrl⟩:∃ rl,R.length = rl:=⟨_,rfl⟩
  have HRL:=Lib.hid hrl
  rw [hrl] at HU
  by_cases hsz:(rl:Int) = size
  ·have HE:Hid (unM F m bs size = (0,R)):=by show _ = _;rw [HU.out,if_neg (by omega)]
   have v2:((rl:Int) != size) = false:=by simpa using hsz
   clear hb hl hm1 hs1 hone htwo hT HU hR hrl hsz
   rw [HE.out]
   go_enter Tryz.func54,Tryz.ntmps54
   go_wp2_with (first
    | (go_at_call 68;refine HCL.out.mono ?_;rintro e w2 ⟨A2,c2,rfl,hown2,hb2⟩;have HO2:=Lib.hid hown2;have HB2:=Lib.hid hb2;clear hown2 hb2)
    | (go_at_call 80;refine (HP.out w2 HB2.out).mono ?_;rintro e w3 ⟨v3,n3,cp3,A3,rfl,rfl,hown,_,hb3⟩;have hown2:=hown (by first | rfl | trivial);obtain rfl:n3 = rl:=(own_len hown2).symm.trans HRL.out;have HO3:=Lib.hid hown2;have HB3:=Lib.hid (HB2.out.trans (hb3.mono HB2.out.size));clear hown hown2 hb3))
   refine bodyPost_ret (results_tmp2 rfl _ _ _) rfl ?_
   exact ⟨A3,cp3,by rw [HRL.out];rfl,Cells.of_own HO3.out,HB3.out⟩
  ·have HE:Hid (unM F m bs size = (5,[])):=by show _ = _;rw [HU.out,if_pos hsz]
   have v2:((rl:Int) != size) = true:=by simpa using hsz
   clear hb hl hm1 hs1 hone htwo hT HU hR hrl hsz
   go_enter Tryz.func54,Tryz.ntmps54
   go_wp2_with (first
    | (go_at_call 68;refine HCL.out.mono ?_;rintro e w2 ⟨A2,c2,rfl,hown2,hb2⟩;have HO2:=Lib.hid hown2;have HB2:=Lib.hid hb2;clear hown2 hb2)
    | (go_at_call 80;refine (HP.out w2 HB2.out).mono ?_;rintro e w3 ⟨v3,n3,cp3,A3,rfl,rfl,hown,_,hb3⟩;have hown2:=hown (by first | rfl | trivial);obtain rfl:n3 = rl:=(own_len hown2).symm.trans HRL.out;have HO3:=Lib.hid hown2;have HB3:=Lib.hid (HB2.out.trans (hb3.mono HB2.out.size));clear hown hown2 hb3))
   refine bodyPost_ret (results_tmp2 rfl _ _ _) rfl ?_
   exact (UnQ.err HE.out HB3.out)
 have t6:(m == 2) = false:=by simpa using htwo
 have HU:Hid (unM F m bs size = if (l:Int) ≠ size then (5,[]) else (0,bs)):=by show _ = _;rw [unM,if_neg hm1,if_neg hs1,if_neg hone,if_neg htwo,hl]
 have HLL:=Lib.hid hl
 by_cases hsz:(l:Int) = size
 ·have HE:Hid (unM F m bs size = (0,bs)):=by show _ = _;rw [HU.out,if_neg (by omega)]
  have v2:((l:Int) != size) = false:=by simpa using hsz
  clear hb hl hm1 hs1 hone htwo HU hsz
  rw [HE.out]
  go_enter Tryz.func54,Tryz.ntmps54
  go_wp2_with (first
    | (go_at_call 68;refine HCL.out.mono ?_;rintro e w2 ⟨A2,c2,rfl,hown2,hb2⟩;have HO2:=Lib.hid hown2;have HB2:=Lib.hid hb2;clear hown2 hb2))
  refine bodyPost_ret (results_tmp2 rfl _ _ _) rfl ?_
  exact ⟨A2,c2,by rw [HLL.out];rfl,Cells.of_own HO2.out,HB2.out⟩
 ·have HE:Hid (unM F m bs size = (5,[])):=by show _ = _;rw [HU.out,if_pos hsz]
  have v2:((l:Int) != size) = true:=by simpa using hsz
  clear hb hl hm1 hs1 hone htwo HU hsz
  go_enter Tryz.func54,Tryz.ntmps54
  go_wp2_with (first
    | (go_at_call 68;refine HCL.out.mono ?_;rintro e w2 ⟨A2,c2,rfl,hown2,hb2⟩;have HO2:=Lib.hid hown2;have HB2:=Lib.hid hb2;clear hown2 hb2))
  refine bodyPost_ret (results_tmp2 rfl _ _ _) rfl ?_
  exact (UnQ.err HE.out HB2.out)
end Go.Proofs.YtaknladkodibaaaGreatDoor
namespace Go.Proofs.YtaknladkodibaaaGreatDoor
open Go.RowKit CrcP FieldP BitsP SymP
attribute [local go_sem ↓] Go.wp_at_zero Go.wp_at_succ
def areaB (bs:List UInt8) (fr ar:Int):List UInt8:=(bs.drop fr.toNat).take ar.toNat
def datM (F:List Int→List Bool→Int × Int × Nat) (bs:List UInt8) (nm:ByteArray) (at_ fr ar sz su me:Int):Int × List UInt8 :=
 if memB nm at_ fr ar sz me = false then (1,[]) else if (bs.length:Int) < fr + ar then (2,[]) else if (CrcP.sumN (areaB bs fr ar):Int) = su then unM F me (areaB bs fr ar) sz else (4,[])
theorem memB_nums {nm:ByteArray} {at_ fr ar sz me:Int} (h:memB nm at_ fr ar sz me = true):0 ≤ me∧me ≤ 2∧1024 ≤ at_∧at_ ≤ 1073741824∧fr = at_ + (22 + (nm.size:Int))∧nm.size ≤ 64∧0 ≤ ar∧ar ≤ 262144∧0 ≤ sz∧sz ≤ 65536:=by
 simp only [memB,Bool.and_eq_true,beq_iff_eq] at h
 obtain ⟨⟨⟨⟨⟨h1,h2⟩,h3⟩,h4⟩,h5⟩,h6⟩:=h
 have:=rightB_size h1
 have:=inB_yes h2
 have:=inB_yes h3
 have:=inB_yes h5
 have:=inB_yes h6
 omega
theorem datM_no {F:List Int→List Bool→Int × Int × Nat} {bs:List UInt8} {nm:ByteArray} {at_ fr ar sz su me:Int} (h:memB nm at_ fr ar sz me = false):datM F bs nm at_ fr ar sz su me = (1,[]):=if_pos h
theorem datM_end {F:List Int→List Bool→Int × Int × Nat} {bs:List UInt8} {nm:ByteArray} {at_ fr ar sz su me:Int} (h:memB nm at_ fr ar sz me = true) (h2:(bs.length:Int) < fr + ar):datM F bs nm at_ fr ar sz su me = (2,[]):=by
 unfold datM
 rw [if_neg (by rw [h];decide),if_pos h2]
theorem datM_sum {F:List Int→List Bool→Int × Int × Nat} {bs:List UInt8} {nm:ByteArray} {at_ fr ar sz su me:Int} (h:memB nm at_ fr ar sz me = true) (h2:¬ (bs.length:Int) < fr + ar) (h3:¬ (CrcP.sumN (areaB bs fr ar):Int) = su):datM F bs nm at_ fr ar sz su me = (4,[]):=by
 unfold datM
 rw [if_neg (by rw [h];decide),if_neg h2,if_neg h3]
theorem datM_yes {F:List Int→List Bool→Int × Int × Nat} {bs:List UInt8} {nm:ByteArray} {at_ fr ar sz su me:Int} (h:memB nm at_ fr ar sz me = true) (h2:¬ (bs.length:Int) < fr + ar) (h3:(CrcP.sumN (areaB bs fr ar):Int) = su):datM F bs nm at_ fr ar sz su me = unM F me (areaB bs fr ar) sz:=by
 unfold datM
 rw [if_neg (by rw [h];decide),if_neg h2,if_pos h3]
set_option maxRecDepth 100000 in
set_option maxHeartbeats 1000000 in
theorem recData_any (F:List Int→List Bool→Int × Int × Nat) (hF:FunT F) (tg:Nat) (A:Option Addr) (l c:Nat) (bs:List UInt8) (nm:ByteArray) (at_ fr ar sz su me:Int) (w:World) (hT:Table w tg) (hm:nm.size ≤ maxLen) (hl:bs.length = l) (hl2:l ≤ 1000000) (hme:me = 1→ar ≤ 40000 ∨ l ≤ 40000) (hc:l ≤ c) (hb:Bytes w w.heap.size A bs) :
  Calls Tryz.prog 19 #[.pointer (some ⟨tg,0,none⟩),.slice A l c,.agg #[.string nm,.int .i64 at_,.int .i64 fr,.int .i64 ar,.int .i64 sz,.int .u32 su,.int .i64 me]] w fun e w' => UnQ w (datM F bs nm at_ fr ar sz su me) e w':=by
 obtain ⟨W0,hW0⟩:∃ W0,w.alloc (.cells #[.string nm,.int .i64 at_,.int .i64 fr,.int .i64 ar,.int .i64 sz,.int .u32 su,.int .i64 me] 39) = W0:=⟨_,rfl⟩
 have HX0:Hid (Box W0 w.heap.size #[.string nm,.int .i64 at_,.int .i64 fr,.int .i64 ar,.int .i64 sz,.int .u32 su,.int .i64 me] 39):=by show Box _ _ _ _;rw [← hW0];exact heap_alloc_new w _
 have HB0:Hid (Below w.heap.size w W0):=by show Below _ _ _;rw [← hW0];exact (Below.refl _ w).alloc (Nat.le_refl _) _
 have HZ0:Hid (W0.heap.size = w.heap.size + 1):=by show _ = _;rw [← hW0];simp
 have HRI:=Lib.hid (fun W => enRight_any nm at_ fr ar sz su me W hm)
 have HYS:Hid (∀ W,Below (w.heap.size + 1) W0 W→W.cell? ⟨w.heap.size,0,none⟩ = some (.string nm)∧W.cell? ⟨w.heap.size,1,none⟩ = some (.int .i64 at_)∧W.cell? ⟨w.heap.size,2,none⟩ = some (.int .i64 fr)∧W.cell? ⟨w.heap.size,3,none⟩ = some (.int .i64 ar)∧W.cell? ⟨w.heap.size,4,none⟩ = some (.int .i64 sz)∧W.cell? ⟨w.heap.size,5,none⟩ = some (.int .u32 su)∧W.cell? ⟨w.heap.size,6,none⟩ = some (.int .i64 me)):=fun W hW => by
  have h:=HX0.out.below hW (Nat.lt_succ_self _)
  exact ⟨h.cell 0,h.cell 1,h.cell 2,h.cell 3,h.cell 4,h.cell 5,h.cell 6⟩
 have HT:=Lib.hid hT
 have HBY:=Lib.hid hb
 have HL:=Lib.hid hl
 have htl:=hT.lt
 obtain ⟨y0,y1,y2,y3,y4,y5,y6⟩:=HYS.out W0 (Below.refl _ _)
 clear hT hb hl
 have HWW:=Lib.hid hW0
 clear hW0
 cases hM:memB nm at_ fr ar sz me with
 | false =>
  rw [datM_no hM]
  rw [hM] at HRI
  go_enter Tryz.func19,Tryz.ntmps19
  go_wp2_with fail
  rw [HWW.out]
  go_wp2_with (go_at_call 53;refine (HRI.out _).mono ?_;rintro e w1 ⟨rfl,hb1⟩;have HB1:=Lib.hid (HB0.out.trans (hb1.mono HB0.out.size));clear hb1)
  exact bodyPost_ret (results_tmp2 rfl _ _ _) rfl (UnQ.err rfl HB1.out)
 | true =>
  obtain ⟨m0,m1,a0,a1,f2,n64,r0,r1,s0,s1⟩:=memB_nums hM
  rw [hM] at HRI
  obtain ⟨f,hf⟩:∃ f:Nat,fr = f:=⟨fr.toNat,by omega⟩
  obtain ⟨a,ha⟩:∃ a:Nat,ar = a:=⟨ar.toNat,by omega⟩
  subst hf
  subst ha
  have hf2:1046 ≤ f∧f ≤ 1073741910:=by omega
  have ha2:a ≤ 262144:=by omega
  have HWI:=Lib.hid (fun W => rcWithin_any A l c nm at_ f a sz su me W (by omega) (by omega) (by omega))
  have hme2:me = 1→a ≤ 40000 ∨ l ≤ 40000:=fun h => by have:=hme h;omega
  clear m0 m1 a0 a1 f2 n64 r0 r1 s0 s1 hme
  by_cases h2:(l:Int) < f + a
  ·rw [datM_end hM (by rw [HL.out];omega)]
   rw [show decide ((a:Int) ≤ (l:Int) - (f:Int)) = false from decide_eq_false (by omega)] at HWI
   clear h2 hme2
   go_enter Tryz.func19,Tryz.ntmps19
   go_wp2_with fail
   rw [HWW.out]
   go_wp2_with (first
    | (go_at_call 53;refine (HRI.out _).mono ?_;rintro e w1 ⟨rfl,hb1⟩;have HC1:Hid (Below (w.heap.size + 1) W0 w1):=hb1.mono (by rw [HZ0.out];exact Nat.le_refl _);obtain ⟨y0,y1,y2,y3,y4,y5,y6⟩:=HYS.out w1 HC1.out;have HB1:=Lib.hid (HB0.out.trans (hb1.mono HB0.out.size));clear hb1)
    | (go_at_call 48;refine (HWI.out _).mono ?_;rintro e w2 ⟨rfl,hb2⟩;have HB2:=Lib.hid (HB1.out.trans (hb2.mono HB1.out.size));clear hb2))
   exact bodyPost_ret (results_tmp2 rfl _ _ _) rfl (UnQ.err rfl HB2.out)
  ·rw [show decide ((a:Int) ≤ (l:Int) - (f:Int)) = true from decide_eq_true (by omega)] at HWI
   obtain ⟨b,o,rfl,hbB,hcell⟩:=HBY.out (by rw [byteCells_length,HL.out];omega)
   have har:areaB bs f a = (bs.drop f).take a:=by unfold areaB;simp
   have hal:((bs.drop f).take a).length = a:=by rw [List.length_take,List.length_drop,HL.out];omega
   have hby:=bytes_partD hbB hcell f a
   have hDM:∀ er,(CrcP.sumN (areaB bs f a):Int) = su→er = datM F bs nm at_ f a sz su me→er = unM F me (areaB bs f a) sz:=fun er h3 h4 => by rw [h4,datM_yes hM (by rw [HL.out];omega) h3]
   have hDN:¬ (CrcP.sumN (areaB bs f a):Int) = su→datM F bs nm at_ f a sz su me = (4,[]):=fun h3 => datM_sum hM (by rw [HL.out];omega) h3
   obtain ⟨ab,hab⟩:∃ ab,areaB bs f a = ab:=⟨_,rfl⟩
   rw [hab] at hDM hDN
   rw [← har,hab] at hal hby
   have HAL:=Lib.hid hal
   have HABY:=Lib.hid (fun W (hW:Below w.heap.size w W) => hby.below hW (Nat.le_refl _))
   have HSU:=Lib.hid (fun A8 c8 W (hW:Below w.heap.size w W) (hB8:Bytes W w.heap.size A8 ab) => sum_any tg A8 a c8 ab w.heap.size W HAL.out (by omega) (HT.out.below hW htl) hB8)
   have HUN:=Lib.hid (fun A8 c8 W (h8:a ≤ c8) (hW:Below w.heap.size w W) (hB8:Bytes W w.heap.size A8 ab) => cdUnpack_any F hF A8 a c8 ab me sz W HAL.out (by omega) (fun h => by have:=hme2 h;omega) h8 (hB8.more hW.size))
   obtain ⟨s,hs⟩:∃ s,CrcP.sumN ab = s:=⟨_,rfl⟩
   rw [hs] at HSU hDM hDN
   have u1:f ≤ l:=by omega
   have u2:f + a ≤ l:=by omega
   clear hbB hcell har hal hby hab hs h2 hme2
   by_cases hcf:c = f
   ·subst hcf
    have HAZ:Hid (∀ W,Bytes W w.heap.size (some ⟨b,o,none⟩) ab):=fun W hp => by rw [byteCells_length,HAL.out] at hp;omega
    have HCF:Hid (a ≤ 0):=by show _ ≤ _;omega
    by_cases h3:(s:Int) = su
    ·have HE:=Lib.hid (hDM _ h3 rfl)
     rw [HE.out]
     have v1:((s:Int) != su) = false:=by simpa using h3
     obtain ⟨T,hT⟩:∃ T,unM F me ab sz = T:=⟨_,rfl⟩
     rw [hT] at HUN ⊢
     clear h3 hDM hDN hT HE
     go_enter Tryz.func19,Tryz.ntmps19
     go_wp2_with fail
     rw [HWW.out]
     go_wp2_with (first
      | (go_at_call 53;refine (HRI.out _).mono ?_;rintro e w1 ⟨rfl,hb1⟩;have HC1:Hid (Below (w.heap.size + 1) W0 w1):=hb1.mono (by rw [HZ0.out];exact Nat.le_refl _);obtain ⟨y0,y1,y2,y3,y4,y5,y6⟩:=HYS.out w1 HC1.out;have HB1:=Lib.hid (HB0.out.trans (hb1.mono HB0.out.size));have y5d:w1.drew.cell? ⟨w.heap.size,5,none⟩ = some (.int .u32 su):=y5;clear hb1)
      | (go_at_call 48;refine (HWI.out _).mono ?_;rintro e w2 ⟨rfl,hb2⟩;obtain ⟨y0,y1,y2,y3,y4,y5,y6⟩:=HYS.out w2 (HC1.out.trans (hb2.mono (by have:=HC1.out.size;have:=HZ0.out;omega)));have HB2:=Lib.hid (HB1.out.trans (hb2.mono HB1.out.size));have y5d:w2.drew.cell? ⟨w.heap.size,5,none⟩ = some (.int .u32 su):=y5;clear hb2))
     go_region_with (go_at_call 33;refine (HSU.out (some ⟨b,o,none⟩) 0 w2.drew HB2.out.drew (HAZ.out _)).mono ?_;rintro e w3 ⟨rfl,rfl⟩)
     all_goals
      go_wp2_with (go_at_call 54;refine (HUN.out (some ⟨b,o,none⟩) 0 _ HCF.out HB2.out.drew (HAZ.out _)).mono ?_;rintro e w4 ⟨A4,c4,rfl,hc4,hb4⟩;have HC4:=Lib.hid hc4;have HB4:=Lib.hid (HB2.out.drew.trans (hb4.mono HB2.out.drew.size));clear hc4 hb4)
      refine bodyPost_ret (results_tmp2 rfl _ _ _) rfl ?_
      exact ⟨A4,c4,rfl,HC4.out,HB4.out⟩
    ·have HE:=Lib.hid (hDN h3)
     rw [HE.out]
     have v1:((s:Int) != su) = true:=by simpa using h3
     clear h3 hDM hDN HE
     go_enter Tryz.func19,Tryz.ntmps19
     go_wp2_with fail
     rw [HWW.out]
     go_wp2_with (first
      | (go_at_call 53;refine (HRI.out _).mono ?_;rintro e w1 ⟨rfl,hb1⟩;have HC1:Hid (Below (w.heap.size + 1) W0 w1):=hb1.mono (by rw [HZ0.out];exact Nat.le_refl _);obtain ⟨y0,y1,y2,y3,y4,y5,y6⟩:=HYS.out w1 HC1.out;have HB1:=Lib.hid (HB0.out.trans (hb1.mono HB0.out.size));have y5d:w1.drew.cell? ⟨w.heap.size,5,none⟩ = some (.int .u32 su):=y5;clear hb1)
      | (go_at_call 48;refine (HWI.out _).mono ?_;rintro e w2 ⟨rfl,hb2⟩;obtain ⟨y0,y1,y2,y3,y4,y5,y6⟩:=HYS.out w2 (HC1.out.trans (hb2.mono (by have:=HC1.out.size;have:=HZ0.out;omega)));have HB2:=Lib.hid (HB1.out.trans (hb2.mono HB1.out.size));have y5d:w2.drew.cell? ⟨w.heap.size,5,none⟩ = some (.int .u32 su):=y5;clear hb2))
     go_region_with (go_at_call 33;refine (HSU.out (some ⟨b,o,none⟩) 0 w2.drew HB2.out.drew (HAZ.out _)).mono ?_;rintro e w3 ⟨rfl,rfl⟩)
     all_goals
      go_wp2
      refine bodyPost_ret (results_tmp2 rfl _ _ _) rfl ?_
      exact UnQ.err rfl HB2.out.drew
   ·have hcf2:¬ c - f = 0:=by omega
    have hcf3:¬ c ≤ f:=by omega
    have HCF:Hid (a ≤ c - f):=by show _ ≤ _;omega
    by_cases h3:(s:Int) = su
    ·have HE:=Lib.hid (hDM _ h3 rfl)
     rw [HE.out]
     have v1:((s:Int) != su) = false:=by simpa using h3
     obtain ⟨T,hT⟩:∃ T,unM F me ab sz = T:=⟨_,rfl⟩
     rw [hT] at HUN ⊢
     clear h3 hDM hDN hT HE
     go_enter Tryz.func19,Tryz.ntmps19
     go_wp2_with fail
     rw [HWW.out]
     go_wp2_with (first
      | (go_at_call 53;refine (HRI.out _).mono ?_;rintro e w1 ⟨rfl,hb1⟩;have HC1:Hid (Below (w.heap.size + 1) W0 w1):=hb1.mono (by rw [HZ0.out];exact Nat.le_refl _);obtain ⟨y0,y1,y2,y3,y4,y5,y6⟩:=HYS.out w1 HC1.out;have HB1:=Lib.hid (HB0.out.trans (hb1.mono HB0.out.size));have y5d:w1.drew.cell? ⟨w.heap.size,5,none⟩ = some (.int .u32 su):=y5;clear hb1)
      | (go_at_call 48;refine (HWI.out _).mono ?_;rintro e w2 ⟨rfl,hb2⟩;obtain ⟨y0,y1,y2,y3,y4,y5,y6⟩:=HYS.out w2 (HC1.out.trans (hb2.mono (by have:=HC1.out.size;have:=HZ0.out;omega)));have HB2:=Lib.hid (HB1.out.trans (hb2.mono HB1.out.size));have y5d:w2.drew.cell? ⟨w.heap.size,5,none⟩ = some (.int .u32 su):=y5;clear hb2))
     go_region_with (go_at_call 33;refine (HSU.out (some ⟨b,o + f,none⟩) (c - f) w2.drew HB2.out.drew (HABY.out _ HB2.out.drew)).mono ?_;rintro e w3 ⟨rfl,rfl⟩)
     all_goals
      go_wp2_with (go_at_call 54;refine (HUN.out (some ⟨b,o + f,none⟩) (c - f) _ HCF.out HB2.out.drew (HABY.out _ HB2.out.drew)).mono ?_;rintro e w4 ⟨A4,c4,rfl,hc4,hb4⟩;have HC4:=Lib.hid hc4;have HB4:=Lib.hid (HB2.out.drew.trans (hb4.mono HB2.out.drew.size));clear hc4 hb4)
      refine bodyPost_ret (results_tmp2 rfl _ _ _) rfl ?_
      exact ⟨A4,c4,rfl,HC4.out,HB4.out⟩
    ·have HE:=Lib.hid (hDN h3)
     rw [HE.out]
     have v1:((s:Int) != su) = true:=by simpa using h3
     clear h3 hDM hDN HE
     go_enter Tryz.func19,Tryz.ntmps19
     go_wp2_with fail
     rw [HWW.out]
     go_wp2_with (first
      | (go_at_call 53;refine (HRI.out _).mono ?_;rintro e w1 ⟨rfl,hb1⟩;have HC1:Hid (Below (w.heap.size + 1) W0 w1):=hb1.mono (by rw [HZ0.out];exact Nat.le_refl _);obtain ⟨y0,y1,y2,y3,y4,y5,y6⟩:=HYS.out w1 HC1.out;have HB1:=Lib.hid (HB0.out.trans (hb1.mono HB0.out.size));have y5d:w1.drew.cell? ⟨w.heap.size,5,none⟩ = some (.int .u32 su):=y5;clear hb1)
      | (go_at_call 48;refine (HWI.out _).mono ?_;rintro e w2 ⟨rfl,hb2⟩;obtain ⟨y0,y1,y2,y3,y4,y5,y6⟩:=HYS.out w2 (HC1.out.trans (hb2.mono (by have:=HC1.out.size;have:=HZ0.out;omega)));have HB2:=Lib.hid (HB1.out.trans (hb2.mono HB1.out.size));have y5d:w2.drew.cell? ⟨w.heap.size,5,none⟩ = some (.int .u32 su):=y5;clear hb2))
     go_region_with (go_at_call 33;refine (HSU.out (some ⟨b,o + f,none⟩) (c - f) w2.drew HB2.out.drew (HABY.out _ HB2.out.drew)).mono ?_;rintro e w3 ⟨rfl,rfl⟩)
     all_goals
      go_wp2
      refine bodyPost_ret (results_tmp2 rfl _ _ _) rfl ?_
      exact UnQ.err rfl HB2.out.drew
end Go.Proofs.YtaknladkodibaaaGreatDoor
namespace Go.Proofs.YtaknladkodibaaaGreatDoor
open Go.RowKit BitsP SymP
attribute [local go_sem ↓] Go.wp_at_zero Go.wp_at_succ
theorem toks_goodM (bs:List UInt8) (lv:Int) {most:Int} (hm:(bs.length:Int) ≤ most):∀ (k p:Nat),bs.length - p ≤ k→goodT most (toks bs lv p) p
 | 0,p,h => by rw [toks_end (by omega)];trivial
 | k + 1,p,h => by
  by_cases hp:p < bs.length
  ·have h1:=tsz_pos (tokAt bs lv p)
   obtain ⟨h2,h3⟩:=tokAt_fit (lv:=lv) hp
   rw [toks_step hp]
   exact ⟨tokAt_okT _ _ _,h3,by omega,toks_goodM bs lv hm k _ (by omega)⟩
  ·rw [toks_end (by omega)];trivial
theorem toks_tooM (bs:List UInt8) (lv:Int) {most:Int} (hm:most < (bs.length:Int)):∀ (k p:Nat),bs.length - p ≤ k→p < bs.length→tooT most (toks bs lv p) p
 | 0,p,h,hp => by omega
 | k + 1,p,h,hp => by
  have h1:=tsz_pos (tokAt bs lv p)
  obtain ⟨h2,h3⟩:=tokAt_fit (lv:=lv) hp
  rw [toks_step hp]
  refine ⟨h3,?_⟩
  by_cases hl:most < ((p + max (tokAt bs lv p).2.1 1:Nat):Int)
  ·exact .inl hl
  ·exact .inr ⟨by omega,toks_tooM bs lv hm k _ (by show bs.length - (p + max (tokAt bs lv p).2.1 1) ≤ k;omega) (by show p + max (tokAt bs lv p).2.1 1 < bs.length;omega)⟩
theorem szs_toks (bs:List UInt8) (lv:Int):∀ (k p:Nat),bs.length - p ≤ k→szs (toks bs lv p) = bs.length - p
 | 0,p,h => by rw [toks_end (by omega)];show 0 = _;omega
 | k + 1,p,h => by
  by_cases hp:p < bs.length
  ·have h1:=tsz_pos (tokAt bs lv p)
   obtain ⟨h2,h3⟩:=tokAt_fit (lv:=lv) hp
   have ih:=szs_toks bs lv k (p + tsz (tokAt bs lv p)) (by omega)
   rw [toks_step hp]
   show max (tokAt bs lv p).2.1 1 + szs (toks bs lv (p + tsz (tokAt bs lv p))) = _
   rw [ih]
   show max (tokAt bs lv p).2.1 1 + (bs.length - (p + max (tokAt bs lv p).2.1 1)) = _
   omega
  ·rw [toks_end (by omega)];show 0 = _;omega
theorem pkM_m (lv:Int) (bs:List UInt8):(pkM lv bs).1 = 0 ∨ (pkM lv bs).1 = 1:=by
 unfold pkM
 split
 ·exact .inl rfl
 ·split
  ·exact .inr rfl
  ·exact .inl rfl
theorem unB_pk {F:List Int→List Bool→Int × Int × Nat} (hF:FunT F) (bs:List UInt8) (lv:Int) (h0:bs ≠ []) (size:Int):unB F (pkB lv bs) size = if size = (bs.length:Int) then (0,bs) else (5,[]):=by
 have hok:=toks_okT bs lv bs.length 0 (by omega)
 have hpos:0 < bs.length:=List.length_pos_iff.2 h0
 have hun:(unpack (pkB lv bs)).drop 0 = blkB (toks bs lv 0)++zeros (lack (blkB (toks bs lv 0)).length):=by rw [List.drop_zero,pkB,pack_unpack]
 have hlen:=congrArg List.length hun
 rw [List.drop_zero,unpack_length,List.length_append,zeros,List.length_replicate] at hlen
 by_cases hlt:size < (bs.length:Int)
 ·have hb:=blkF_too hF hok (toks_tooM bs lv hlt bs.length 0 (by omega) hpos) hun
  rw [unB,hb,if_pos (by simp),if_neg (by omega)]
 ·have hb:=blkF_back hF hok (toks_goodM bs lv (by omega:(bs.length:Int) ≤ size) bs.length 0 (by omega)) hun
  have hsz:=szs_toks bs lv bs.length 0 (by omega)
  rw [unB,hb]
  dsimp only
  rw [if_neg (by simp),hsz,Nat.sub_zero]
  by_cases he:size = (bs.length:Int)
  ·rw [if_neg (by omega),if_pos he,if_neg ?_]
   ·have hx:=toks_exp bs lv size bs.length 0 (by omega) (by omega)
    rw [List.take_zero,if_pos (.inl (by omega))] at hx
    rw [hx]
   ·rintro (h | h)
    ·have:lack (blkB (toks bs lv 0)).length ≤ 7:=by unfold lack;omega
     omega
    ·apply h
     unfold numA
     rw [Nat.zero_add]
     have hd:=drop_more hun
     rw [Nat.zero_add] at hd
     rw [hd,zeros,List.take_replicate]
     exact num_zeros _
  ·rw [if_pos (by omega),if_neg he]
theorem unM_pk {F:List Int→List Bool→Int × Int × Nat} (hF:FunT F) (bs:List UInt8) (lv size:Int) (hl:bs.length ≤ 65536):unM F (pkM lv bs).1 (pkM lv bs).2 size = if size = (bs.length:Int) then (0,bs) else (5,[]):=by
 by_cases hs:size < 0 ∨ 65536 < size
 ·have h1:unM F (pkM lv bs).1 (pkM lv bs).2 size = (5,[]):=by
   unfold unM
   rw [if_neg (by have:=pkM_m lv bs;omega),if_pos hs]
  rw [h1,if_neg (by omega)]
 ·unfold unM
  rw [if_neg (by have:=pkM_m lv bs;omega),if_neg hs]
  unfold pkM
  split
  ·dsimp only
   rw [if_neg (by decide),if_neg (by decide)]
   by_cases he:size = (bs.length:Int)
   ·rw [if_neg (by omega),if_pos he]
   ·rw [if_pos (by omega),if_neg he]
  ·split
   ·rename_i h
    dsimp only
    rw [if_pos rfl]
    exact unB_pk hF bs lv (fun e => by rw [e] at h;simp at h) size
   ·dsimp only
    rw [if_neg (by decide),if_neg (by decide)]
    by_cases he:size = (bs.length:Int)
    ·rw [if_neg (by omega),if_pos he]
    ·rw [if_pos (by omega),if_neg he]
theorem pkM_len (lv:Int) (bs:List UInt8):(pkM lv bs).2.length ≤ bs.length:=by
 unfold pkM
 split
 ·exact Nat.le_refl _
 ·split
  ·rename_i h;exact Nat.le_of_lt h
  ·exact Nat.le_refl _
end Go.Proofs.YtaknladkodibaaaGreatDoor
namespace Go.Proofs.YtaknladkodibaaaGreatDoor
open Go.RowKit CrcP FieldP
theorem rec_at {lv:Int} {bs:List UInt8} (hl:bs.length ≤ 65536) (P T:List UInt8) (s:ByteArray) (hr:rightB s.data.toList = true) :
  ∃ m:Nat,(pkM lv bs).1 = (m:Int)∧m ≤ 1∧recV (P++(recB lv s bs++T)) P.length = recOk 1 s (P.length:Nat) ((P.length + 22 + s.size:Nat):Int) ((pkM lv bs).2.length:Nat) (bs.length:Nat) (CrcP.sumN (pkM lv bs).2:Nat) (m:Nat) ((P.length + (recB lv s bs).length:Nat):Int):=by
 obtain ⟨m,hpm,hpc⟩:=pkM_two lv bs
 have hss:s.data.toList.length = s.size:=by rw [Array.length_toList];rfl
 have hHL:(headB m s.data.toList bs.length (pkM lv bs).2.length (CrcP.sumN (pkM lv bs).2)).length = 22 + s.size:=by rw [headB_length,hss]
 have hRB:recB lv s bs = headB m s.data.toList bs.length (pkM lv bs).2.length (CrcP.sumN (pkM lv bs).2)++(pkM lv bs).2:=by unfold recB;rw [hpm];rfl
 have hhd:((P++(recB lv s bs++T)).drop P.length).take (22 + s.size) = headB m s.data.toList bs.length (pkM lv bs).2.length (CrcP.sumN (pkM lv bs).2):=by
  rw [List.drop_left,hRB,List.append_assoc,← hHL,List.take_left]
 obtain ⟨_,hi,ha⟩:=head_at (hdB_pk (su:=CrcP.sumN (pkM lv bs).2) hr hl hpc) (sumN_lt _) hhd
 have hlen:=recB_len lv s bs
 refine ⟨m,hpm,by omega,?_⟩
 rw [recV_lc hi ha,recLc2_ok (by omega) (by rw [List.length_append,List.length_append];omega)]
 congr 1
 omega
theorem tomb_at (P T:List UInt8) (s:ByteArray) (hr:rightB s.data.toList = true) :
  recV (P++(tombB s.data.toList++T)) P.length = recOk 2 s (P.length:Nat) 0 0 0 0 0 ((P.length:Int) + (9 + (s.size:Int))):=by
 obtain ⟨h1,_⟩:=back_ans s P T hr
 obtain ⟨_,hi,_⟩:=tomb_back (bs:=P++tombB s.data.toList++T) (p:=P.length) hr tomb_among
 rw [List.append_assoc] at h1 hi
 rw [recV_st hi h1]
 rfl
theorem areaB_at {P H X T:List UInt8} {f n:Nat} (hf:P.length + H.length = f) (hn:X.length = n):areaB (P++(H++(X++T))) (f:Int) (n:Int) = X:=by
 unfold areaB
 rw [Int.toNat_natCast,Int.toNat_natCast,← hf,← List.drop_drop,List.drop_left,List.drop_left,← hn,List.take_left]
theorem memB_at {s:ByteArray} {p ar sz me:Nat} (hr:rightB s.data.toList = true) (p0:1024 ≤ p) (p1:p ≤ 1073741824) (h1:ar ≤ 262144) (h2:sz ≤ 65536) (h3:me ≤ 2):memB s (p:Int) ((p + 22 + s.size:Nat):Int) (ar:Int) (sz:Int) (me:Int) = true:=by
 unfold memB
 rw [hr,inB_of (by omega) (by omega),inB_of (by omega) (by omega),inB_of (by omega) (by omega),inB_of (by omega) (by omega)]
 have:(((p + 22 + s.size:Nat):Int) == (p:Int) + (22 + (s.size:Int))) = true:=by simp;omega
 rw [this]
 rfl
theorem dat_rec {F:List Int→List Bool→Int × Int × Nat} (hF:FunT F) {lv:Int} {bs:List UInt8} {m:Nat} (hl:bs.length ≤ 20000) (hpm:(pkM lv bs).1 = (m:Int)) (hm1:m ≤ 1) (P T:List UInt8) (hP:1024 ≤ P.length) (hP2:P.length ≤ 100000) (s:ByteArray) (hr:rightB s.data.toList = true) :
  datM F (P++(recB lv s bs++T)) s (P.length:Nat) ((P.length + 22 + s.size:Nat):Int) ((pkM lv bs).2.length:Nat) (bs.length:Nat) (CrcP.sumN (pkM lv bs).2:Nat) (m:Nat) = (0,bs):=by
 obtain ⟨m',hpm',hpc⟩:=pkM_two lv bs
 have hss:s.data.toList.length = s.size:=by rw [Array.length_toList];rfl
 obtain rfl:m' = m:=by omega
 have hHL:(headB m' s.data.toList bs.length (pkM lv bs).2.length (CrcP.sumN (pkM lv bs).2)).length = 22 + s.size:=by rw [headB_length,hss]
 have e0:P++(recB lv s bs++T) = P++(headB m' s.data.toList bs.length (pkM lv bs).2.length (CrcP.sumN (pkM lv bs).2)++((pkM lv bs).2++T)):=by
  unfold recB
  rw [hpm]
  simp only [Int.toNat_natCast,List.append_assoc]
 have har:areaB (P++(recB lv s bs++T)) ((P.length + 22 + s.size:Nat):Int) ((pkM lv bs).2.length:Nat) = (pkM lv bs).2:=by
  rw [e0]
  exact areaB_at (by rw [hHL];omega) rfl
 have hlen:=recB_len lv s bs
 rw [datM_yes (memB_at hr hP (by omega) (by omega) (by omega) (by omega)) (by rw [List.length_append,List.length_append];omega) (by rw [har]),har,← hpm,unM_pk hF bs lv _ (by omega),if_pos rfl]
theorem unM_dat {F:List Int→List Bool→Int × Int × Nat} {ls:List PcV} (h:∀ x ∈ ls,x.1.length ≤ 65535) (hs:sumP ls ≤ 65535):unM F 2 (arP ls) (sumP ls:Nat) = (0,(ls.map (·.1)).flatten):=by
 unfold unM arP
 rw [if_neg (by decide),pcA_stream h,if_neg (by omega),if_neg (by decide),if_pos rfl]
 dsimp only
 rw [if_neg (by simp),flat_sum,if_neg (by simp),neR_flat]
theorem dat_str {F:List Int→List Bool→Int × Int × Nat} {ls:List PcV} (h:∀ x ∈ ls,x.1.length ≤ 65535) (h1:sumP ls ≤ 65535) (h2:ls.length ≤ 1000) (P T:List UInt8) (hP:1024 ≤ P.length) (hP2:P.length ≤ 100000) (s:ByteArray) (hr:rightB s.data.toList = true) :
  datM F (P++(strB s ls++T)) s (P.length:Nat) ((P.length + 22 + s.size:Nat):Int) ((arP ls).length:Nat) (sumP ls:Nat) (CrcP.sumN (arP ls):Nat) 2 = (0,(ls.map (·.1)).flatten):=by
 have hss:s.data.toList.length = s.size:=by rw [Array.length_toList];rfl
 have hHL:(headB 2 s.data.toList 0 0 0).length = 22 + s.size:=by rw [headB_length,hss]
 have e0:P++(strB s ls++T) = P++(headB 2 s.data.toList 0 0 0++(arP ls++(descB (sumP ls:Nat) ((arP ls).length:Nat) (CrcP.sumN (arP ls):Nat)++T))):=by
  unfold strB
  simp only [List.append_assoc]
 have har:areaB (P++(strB s ls++T)) ((P.length + 22 + s.size:Nat):Int) ((arP ls).length:Nat) = arP ls:=by
  rw [e0]
  exact areaB_at (by rw [hHL];omega) rfl
 have hpl:=pcsB_len ls
 have hal:(arP ls).length ≤ 70000:=by unfold arP;rw [List.length_append];simp;omega
 have hm:=memB_at (me:=2) hr hP (by omega:P.length ≤ 1073741824) (by omega:(arP ls).length ≤ 262144) (by omega:sumP ls ≤ 65536) (by omega)
 rw [show ((2:Nat):Int) = 2 from rfl] at hm
 rw [datM_yes hm (by rw [List.length_append,List.length_append,strB_len];omega) (by rw [har]),har]
 exact unM_dat h h1
end Go.Proofs.YtaknladkodibaaaGreatDoor
namespace Go.Proofs.YtaknladkodibaaaGreatDoor
open Go.RowKit CrcP FieldP
attribute [local go_sem ↓] Go.wp_at_zero Go.wp_at_succ
def PuQ (w:World) (t:Int × List UInt8) (e:Ending) (w':World):Prop:=∃ A' c',e = .returned (.tuple #[.slice A' t.2.length c',.int .i64 t.1])∧Bytes w' w'.heap.size A' t.2∧Below w.heap.size w w'
def putR (lv:Int) (s:ByteArray) (bs:List UInt8):Int × List UInt8:=if rightB s.data.toList = true then (0,recB lv s bs) else (6,[])
def strR (s:ByteArray) (ls:List PcV):Int × List UInt8:=if rightB s.data.toList = true then (0,strB s ls) else (6,[])
theorem PuQ.no {w w':World} {t:Int × List UInt8} (ht:t = (6,[])) (hb:Below w.heap.size w w'):PuQ w t (.returned (.tuple #[.slice none 0 0,.int .i64 6])) w':=by
 subst ht
 exact ⟨none,0,rfl,Cells.nil _ _ _,hb⟩
theorem putR_no {lv:Int} {s:ByteArray} {bs:List UInt8} (h:rightB s.data.toList = false):putR lv s bs = (6,[]):=if_neg (by rw [h];decide)
theorem strR_no {s:ByteArray} {ls:List PcV} (h:rightB s.data.toList = false):strR s ls = (6,[]):=if_neg (by rw [h];decide)
theorem recPut_all (tg:Nat) (A:Option Addr) (l c:Nat) (bs:List UInt8) (s:ByteArray) (lv:Int) (w:World) (hT:Table w tg) (hW:Wid w) (hs:s.size ≤ maxLen) (hl:bs.length = l) (hm:l ≤ 32000) (hcap:l ≤ c) (hb:Bytes w w.heap.size A bs) :
  Calls Tryz.prog 12 #[.pointer (some ⟨tg,0,none⟩),.string s,.slice A l c,.int .i64 lv] w (PuQ w (putR lv s bs)):=by
 cases hr:rightB s.data.toList with
 | false =>
  refine (recPut_no tg _ s lv w hs hr).mono ?_
  rintro e w' ⟨rfl,hb⟩
  exact PuQ.no (putR_no hr) hb
 | true =>
  refine (recPut_yes tg A l c bs s lv w hT hW hs hr hl hm hcap hb).mono ?_
  rintro e w' ⟨A',c',rfl,ho,hb⟩
  rw [show putR lv s bs = (0,recB lv s bs) from if_pos hr]
  exact ⟨A',c',rfl,ho.cells,hb⟩
theorem recStr_all (tg:Nat) (A:Option Addr) (l c:Nat) (ls:List PcV) (s:ByteArray) (w:World) (hT:Table w tg) (hW:Wid w) (hs:s.size ≤ maxLen) (hl:ls.length = l) (hm:l ≤ 1000) (hrw:RowsIn w A ls) (hall:∀ x ∈ ls,x.1.length ≤ 65535) (hsum:sumP ls ≤ 65535) :
  Calls Tryz.prog 14 #[.pointer (some ⟨tg,0,none⟩),.string s,.slice A l c] w (PuQ w (strR s ls)):=by
 cases hr:rightB s.data.toList with
 | false =>
  refine (recStr_no tg _ s w hs hr).mono ?_
  rintro e w' ⟨rfl,hb⟩
  exact PuQ.no (strR_no hr) hb
 | true =>
  refine (recStr_yes tg A l c ls s w hT hW hs hr hl hm hrw hall hsum).mono ?_
  rintro e w' ⟨A',c',rfl,ho,hb⟩
  rw [show strR s ls = (0,strB s ls) from if_pos hr]
  exact ⟨A',c',rfl,ho.cells,hb⟩
def fewR (ls:List PcV):Prop:=ls.length ≤ 20∧∀ x ∈ ls,x.1.length ≤ 1000
set_option maxRecDepth 100000 in
set_option maxHeartbeats 600000 in
theorem great22_any (A:Option Addr) (l c:Nat) (ls:List PcV) (w:World) (hl:ls.length = l) (hm:l ≤ 9223372036854775807) (hr:RowsIn w A ls) (hlen:∀ x ∈ ls,x.1.length ≤ 9223372036854775807) :
  Calls Tryz.prog 9 #[.slice A l c] w fun e w' => ∃ g,e = .returned (.bool g)∧w = w'∧(g = false ↔ fewR ls):=by
 have HL:=Lib.hid hl
 have HR:=Lib.hid hr
 have HLE:=Lib.hid hlen
 clear hl hr hlen
 go_enter Tryz.func9,Tryz.ntmps9
 go_wp2
 go_loopg [3] l (fun gk si wr => ∃ i:Nat,i + gk = l∧i ≤ 20∧si = .int .i64 (i:Int)∧w = wr∧∀ j x,j < i→ls[j]? = some x→x.1.length ≤ 1000)
 case atStart => exact ⟨0,by omega,by omega,rfl,rfl,fun j x h => by omega⟩
 case round =>
  obtain ⟨i,hi,hi20,rfl,rfl,hall⟩:=hrel
  have HA:=Lib.hid hall
  clear hall
  by_cases hil:i < l
  ·have t1:decide ((i:Int) < (l:Int)) = true:=decide_eq_true (by omega)
   by_cases h20:i < 20
   ·have t2:decide ((i:Int) < 20) = true:=decide_eq_true (by omega)
    obtain ⟨x,hx⟩:∃ x,ls[i]? = some x:=⟨_,List.getElem?_eq_getElem (by rw [HL.out];exact hil)⟩
    obtain ⟨b,o,rfl,hbB,hcc⟩:=HR.out.row (by rw [List.length_map,HL.out];omega)
    have ci:w.cell? ⟨b,o + i,none⟩ = some (pcC x):=hcc i _ (by rw [List.getElem?_map,hx];rfl)
    have hx63:=HLE.out x (List.mem_of_getElem? hx)
    have HX:=Lib.hid hx
    obtain ⟨r,A2,k2⟩:=x
    have ci2:w.cell? ⟨b,o + i,none⟩ = some (.slice A2 r.length k2):=ci
    have hx63':r.length ≤ 9223372036854775807:=hx63
    obtain ⟨rl,hrl⟩:∃ rl,r.length = rl:=⟨_,rfl⟩
    have HRL:=Lib.hid hrl
    rw [hrl] at ci2 hx63'
    clear hcc ci hx hbB hx63 hrl
    by_cases h3:1000 < rl
    ·have u1:(1000:Int) < (rl:Int):=by omega
     go_wp2
     go_ret
     exact ⟨true,rfl,rfl,⟨fun h => (by cases h),fun h => absurd (h.2 (r,A2,k2) (List.mem_of_getElem? HX.out)) (by show ¬ r.length ≤ 1000;rw [HRL.out];omega)⟩⟩
    ·have u1:¬ (1000:Int) < (rl:Int):=by omega
     go_wp2
     go_roundg (gk - 1)
     case measure => omega
     case rel =>
      refine ⟨i + 1,by omega,by omega,by go_num,rfl,fun j y hj hy => ?_⟩
      by_cases hji:j = i
      ·subst hji
       rw [HX.out] at hy
       cases hy
       show r.length ≤ 1000
       rw [HRL.out]
       omega
      ·exact HA.out j y (by omega) hy
   ·have t2:decide ((i:Int) < 20) = false:=decide_eq_false (by omega)
    have t3:decide ((20:Int) < (l:Int)) = true:=decide_eq_true (by omega)
    go_wp2
    go_ret
    exact ⟨true,rfl,rfl,⟨fun h => (by cases h),fun h => absurd h.1 (by rw [HL.out];omega)⟩⟩
  ·have t1:decide ((i:Int) < (l:Int)) = false:=decide_eq_false (by omega)
   have t3:decide ((20:Int) < (l:Int)) = false:=decide_eq_false (by omega)
   go_wp2
   go_ret
   refine ⟨false,rfl,rfl,fun _ => ⟨by rw [HL.out];omega,fun x hx => ?_⟩,fun _ => rfl⟩
   obtain ⟨j,hj,rfl⟩:=List.mem_iff_getElem.1 hx
   exact HA.out j _ (by rw [HL.out] at hj;omega) (List.getElem?_eq_getElem hj)
def datR (ls:List PcV):List UInt8:=(ls.map (·.1)).flatten
theorem datR_up {ls:List PcV} {i:Nat} {x:PcV} (h:ls[i]? = some x):datR (ls.take (i + 1)) = datR (ls.take i)++x.1:=by
 rw [datR,take_up h,List.map_append,List.flatten_append]
 simp [datR]
theorem sumP_few:∀ (ls:List PcV) (m:Nat),(∀ x ∈ ls,x.1.length ≤ m)→sumP ls ≤ m * ls.length
 | [],m,_ => by simp [sumP]
 | x :: l,m,h => by
  have h1:=sumP_few l m (fun y hy => h y (by simp [hy]))
  have h2:=h x (by simp)
  simp only [sumP,List.map_cons,List.sum_cons,List.length_cons] at h1 ⊢
  rw [Nat.mul_add]
  omega
set_option maxRecDepth 100000 in
set_option maxHeartbeats 2000000 in
theorem recback_great (s:ByteArray) (A1 A2 A:Option Addr) (l1 c1 l2 c2 l c:Nat) (lv:Int) (g:Bool) (w:World) (hW:Wid w) (hg:300 < s.size ∨ g = true ∨ 300 < l1 ∨ 300 < l2) (HG1:∀ W,Below w.heap.size w W→Calls Tryz.prog 9 #[.slice A l c] W fun e w' => e = .returned (.bool g)∧W = w') :
  Calls Tryz.prog 6 #[.agg #[.string s,.slice A1 l1 c1,.slice A2 l2 c2],.slice A l c,.int .i64 lv] w fun e w' => e = .returned (.bool true)∧Below w.heap.size w w':=by
 obtain ⟨W0,hW0⟩:∃ W0,w.alloc (.cells #[.string s,.slice A1 l1 c1,.slice A2 l2 c2] 53) = W0:=⟨_,rfl⟩
 have HX0:Hid (Box W0 w.heap.size #[.string s,.slice A1 l1 c1,.slice A2 l2 c2] 53):=by show Box _ _ _ _;rw [← hW0];exact heap_alloc_new w _
 have HB0:Hid (Below w.heap.size w W0):=by show Below _ _ _;rw [← hW0];exact (Below.refl _ w).alloc (Nat.le_refl _) _
 have HWW:=Lib.hid hW0
 have hw0:=hW.1
 have HLV:=Lib.hid (lives22_any W0 (hW.below HB0.out hw0 (by have:=HB0.out.size;omega)))
 have HGG:=Lib.hid (HG1 W0 HB0.out)
 have y0:W0.cell? ⟨w.heap.size,0,none⟩ = some (.string s):=HX0.out.cell 0
 have y1:W0.cell? ⟨w.heap.size,1,none⟩ = some (.slice A1 l1 c1):=HX0.out.cell 1
 have y2:W0.cell? ⟨w.heap.size,2,none⟩ = some (.slice A2 l2 c2):=HX0.out.cell 2
 clear hW0 hW HG1
 by_cases h1:300 < s.size
 ·have t1:decide ((300:Int) < (s.size:Int)) = true:=decide_eq_true (by omega)
  clear hg h1
  go_enter Tryz.func6,Tryz.ntmps6
  go_wp2_with fail
  rw [HWW.out]
  go_wp2_with (go_at_call 10;refine HLV.out.mono ?_;rintro e w4 ⟨rfl,hb4⟩;have HB4:=Lib.hid (HB0.out.trans (hb4.mono HB0.out.size));clear hb4)
  go_ret
  exact ⟨rfl,HB4.out⟩
 have t1:decide ((300:Int) < (s.size:Int)) = false:=decide_eq_false (by omega)
 cases g with
 | true =>
  clear hg h1
  go_enter Tryz.func6,Tryz.ntmps6
  go_wp2_with fail
  rw [HWW.out]
  go_wp2_with (first
   | (go_at_call 9;refine HGG.out.mono ?_;rintro e w3 ⟨rfl,rfl⟩)
   | (go_at_call 10;refine HLV.out.mono ?_;rintro e w4 ⟨rfl,hb4⟩;have HB4:=Lib.hid (HB0.out.trans (hb4.mono HB0.out.size));clear hb4))
  go_ret
  exact ⟨rfl,HB4.out⟩
 | false =>
 by_cases h2:300 < l1
 ·have t2:decide ((300:Int) < (l1:Int)) = true:=decide_eq_true (by omega)
  clear hg h1 h2
  go_enter Tryz.func6,Tryz.ntmps6
  go_wp2_with fail
  rw [HWW.out]
  go_wp2_with (first
   | (go_at_call 9;refine HGG.out.mono ?_;rintro e w3 ⟨rfl,rfl⟩)
   | (go_at_call 10;refine HLV.out.mono ?_;rintro e w4 ⟨rfl,hb4⟩;have HB4:=Lib.hid (HB0.out.trans (hb4.mono HB0.out.size));clear hb4))
  go_ret
  exact ⟨rfl,HB4.out⟩
 have t2:decide ((300:Int) < (l1:Int)) = false:=decide_eq_false (by omega)
 have h3:300 < l2:=by rcases hg with h | h | h | h <;> first | omega | cases h
 have t3:decide ((300:Int) < (l2:Int)) = true:=decide_eq_true (by omega)
 clear hg h1 h2 h3
 go_enter Tryz.func6,Tryz.ntmps6
 go_wp2_with fail
 rw [HWW.out]
 go_wp2_with (first
  | (go_at_call 9;refine HGG.out.mono ?_;rintro e w3 ⟨rfl,rfl⟩)
  | (go_at_call 10;refine HLV.out.mono ?_;rintro e w4 ⟨rfl,hb4⟩;have HB4:=Lib.hid (HB0.out.trans (hb4.mono HB0.out.size));clear hb4))
 go_ret
 exact ⟨rfl,HB4.out⟩
def tombR (s:ByteArray):Int × List UInt8:=if rightB s.data.toList = true then (0,tombB s.data.toList) else (6,[])
theorem stPut_all (tg:Nat) (s:ByteArray) (w:World) (hs:s.size ≤ maxLen) (hT:Table w tg) :
  Calls Tryz.prog 21 #[.pointer (some ⟨tg,0,none⟩),.string s] w (PuQ w (tombR s)):=by
 cases hr:rightB s.data.toList with
 | false =>
  refine (stPut_no tg s w hs hr).mono ?_
  rintro e w' ⟨rfl,hb⟩
  exact PuQ.no (if_neg (by rw [hr];decide)) hb
 | true =>
  refine (stPut_yes tg s w hs hr hT).mono ?_
  rintro e w' ⟨A',c',rfl,ho,hb⟩
  rw [show tombR s = (0,tombB s.data.toList) from if_pos hr]
  have hn:9 + s.size = (tombB s.data.toList).length:=(by rw [tombB_length,Array.length_toList];rfl)
  rw [hn]
  exact ⟨A',c',rfl,ho.cells,hb⟩
set_option maxRecDepth 100000 in
set_option maxHeartbeats 2000000 in
theorem recback_no (s:ByteArray) (A1 A2 A:Option Addr) (l1 c1 l2 c2 l c:Nat) (ls:List PcV) (lv:Int) (w:World) (hW:Wid w) (h1:s.size ≤ 300) (h2:l1 ≤ 300) (h3:l2 ≤ 300) (hl:ls.length = l) (hr:RowsIn w A ls) (hf:fewR ls) (hrn:rightB s.data.toList = false) (HG1:∀ W,Below w.heap.size w W→Calls Tryz.prog 9 #[.slice A l c] W fun e w' => e = .returned (.bool false)∧W = w') :
  Calls Tryz.prog 6 #[.agg #[.string s,.slice A1 l1 c1,.slice A2 l2 c2],.slice A l c,.int .i64 lv] w fun e w' => e = .returned (.bool true)∧Below w.heap.size w w':=by
 obtain ⟨W0,hW0⟩:∃ W0,w.alloc (.cells #[.string s,.slice A1 l1 c1,.slice A2 l2 c2] 53) = W0:=⟨_,rfl⟩
 have HX0:Hid (Box W0 w.heap.size #[.string s,.slice A1 l1 c1,.slice A2 l2 c2] 53):=by show Box _ _ _ _;rw [← hW0];exact heap_alloc_new w _
 have HB0:Hid (Below w.heap.size w W0):=by show Below _ _ _;rw [← hW0];exact (Below.refl _ w).alloc (Nat.le_refl _) _
 have HZ0:Hid (W0.heap.size = w.heap.size + 1):=by show _ = _;rw [← hW0];simp
 have HWW:=Lib.hid hW0
 have hw0:=hW.1
 have HWI:Hid (∀ W,Below w.heap.size w W→Wid W):=fun W hB => hW.below hB hw0 (by have:=hB.size;omega)
 have HGG:=Lib.hid (HG1 W0 HB0.out)
 have HYS:Hid (∀ W,Below W0.heap.size W0 W→W.cell? ⟨w.heap.size,0,none⟩ = some (.string s)∧W.cell? ⟨w.heap.size,1,none⟩ = some (.slice A1 l1 c1)∧W.cell? ⟨w.heap.size,2,none⟩ = some (.slice A2 l2 c2)):=fun W hW => by
  have h:=HX0.out.below hW (by rw [HZ0.out];exact Nat.lt_succ_self _)
  exact ⟨h.cell 0,h.cell 1,h.cell 2⟩
 obtain ⟨y0,y1,y2⟩:=HYS.out W0 (Below.refl _ _)
 have t1:decide ((300:Int) < (s.size:Int)) = false:=decide_eq_false (by omega)
 have t2:decide ((300:Int) < (l1:Int)) = false:=decide_eq_false (by omega)
 have t3:decide ((300:Int) < (l2:Int)) = false:=decide_eq_false (by omega)
 have hz:=(zero_of_info tableInfo).1
 have HSZ:=Lib.hid tableSize
 have HL:=Lib.hid hl
 have HR:=Lib.hid hr
 have hs3:s.size ≤ maxLen:=by unfold maxLen;omega
 obtain ⟨hf1,hf2⟩:=hf
 have hl20:l ≤ 20:=by omega
 have HF:=Lib.hid hf2
 have hsum:sumP ls ≤ 20000:=by
  have h1:=sumP_few ls 1000 hf2
  omega
 have HRN:=Lib.hid hrn
 clear hW0 hW HG1 hl hr hf1 hf2 h1 h2 h3 hrn
 go_enter Tryz.func6,Tryz.ntmps6
 go_wp2_with fail
 rw [HWW.out]
 go_wp2_with (go_at_call 9;refine HGG.out.mono ?_;rintro e w3 ⟨rfl,rfl⟩)
 go_loopg [7,8] l (fun gk sa si wr => ∃ (i m c':Nat) (A':Option Addr),i + gk = l∧si = .int .i64 (i:Int)∧sa = .slice A' m c'∧m ≤ 1000 * i∧OwnB wr W0.heap.size 5 (.slice A' m c') m (datR (ls.take i))∧Below W0.heap.size W0 wr)
 case atStart => exact ⟨0,0,0,none,by omega,rfl,rfl,by omega,World.ownsRow_nil _ _ _ _,Below.refl _ _⟩
 case round =>
  obtain ⟨i,m,c',A',hi,rfl,rfl,hm2,hown,hbel⟩:=hrel
  have HO:=Lib.hid hown
  have HB:=Lib.hid hbel
  clear hown hbel
  by_cases hil:i < l
  ·have t4:decide ((i:Int) < (l:Int)) = true:=decide_eq_true (by omega)
   obtain ⟨x,hx⟩:∃ x,ls[i]? = some x:=⟨_,List.getElem?_eq_getElem (by rw [HL.out];exact hil)⟩
   obtain ⟨b,o,rfl,hbB,hcc⟩:=HR.out.row (by rw [List.length_map,HL.out];omega)
   have HBW:=Lib.hid (HB0.out.trans (HB.out.mono HB0.out.size))
   have ci:wr.cell? ⟨b,o + i,none⟩ = some (pcC x):=(HBW.out.cell (p:=⟨b,o + i,none⟩) (by show b < _;omega)).trans (hcc i _ (by rw [List.getElem?_map,hx];rfl))
   have hex:=HR.out.each x (List.mem_of_getElem? hx)
   have hx3:=HF.out x (List.mem_of_getElem? hx)
   have HPU:=Lib.hid (datR_up hx)
   obtain ⟨r,A3,k3⟩:=x
   have ci2:wr.cell? ⟨b,o + i,none⟩ = some (.slice A3 r.length k3):=ci
   have HBR:Hid (Bytes wr W0.heap.size A3 r):=(hex.1.below HBW.out (Nat.le_refl _)).more HB0.out.size
   have hrl:r.length ≤ 1000:=hx3
   obtain ⟨rl,hrl2⟩:∃ rl,r.length = rl:=⟨_,rfl⟩
   have HRL:=Lib.hid hrl2
   rw [hrl2] at ci2 hrl
   clear hcc ci hx hex hx3 hrl2 hbB
   go_wp2_with (at_builtin;refine wpList_app _ byteElem rfl (.tmp 50) (.tmp 54) rfl W0.heap.size (.slice A' m c') m (byteCells (datR (ls.take i))) rfl HO.out W0.heap.size A3 rl k3 (byteCells r) rfl (by rw [byteCells_length,HRL.out,Nat.mul_one]) HBR.out (byteCells_one _) (by unfold maxLen;omega) (by omega) HB.out.size ?_;intro A6 c6 w6 hA;have HA:=Lib.hid hA;clear hA)
   go_roundg (gk - 1)
   case measure => omega
   case rel =>
    refine ⟨i + 1,m + rl,c6,A6,by omega,by go_num,rfl,by omega,?_,HA.out.below HB.out HB.out.size (own_base HO.out)⟩
    rw [HPU.out]
    have:=HA.out.own
    show World.ownsRow _ _ _ _ _ _ _
    rw [byteCells_append]
    exact this
  ·have t4:decide ((i:Int) < (l:Int)) = false:=decide_eq_false (by omega)
   obtain rfl:i = l:=by omega
   have HML:Hid ((datR (ls.take i)).length = m):=by have h1:=HO.out.1;rw [byteCells_length,Nat.mul_one] at h1;exact h1
   have HCP:Hid (m ≤ c'):=by
    rcases HO.out.2 with ⟨h1,h2⟩ | ⟨g,cap,cur,hv,_,_,hnc,_⟩
    ·simp only [Value.slice.injEq] at h1;show _ ≤ _;omega
    ·simp only [Value.slice.injEq] at hv;obtain ⟨_,_,rfl⟩:=hv;exact hnc
   have HCB:Hid (∀ W,Below wr.heap.size wr W→Bytes W W.heap.size A' (datR (ls.take i))):=fun W hW => ((Cells.of_own HO.out).below hW (Nat.le_refl _)).more hW.size
   obtain ⟨ds,hds⟩:∃ ds,datR (ls.take i) = ds:=⟨_,rfl⟩
   rw [hds] at HML HCB
   have HBW:=Lib.hid (HB0.out.trans (HB.out.mono HB0.out.size))
   have hsw:w.heap.size ≤ wr.heap.size:=HBW.out.size
   have HP1:Hid (∀ (tg:Nat) W,Table W tg→Below wr.heap.size wr W→_):=fun tg W hT hW => recPut_all tg A' m c' ds s lv W hT (HWI.out W (HBW.out.trans (hW.mono hsw))) hs3 HML.out (by omega) HCP.out (HCB.out W hW)
   have HP2:Hid (∀ (tg:Nat) W,Table W tg→Below wr.heap.size wr W→_):=fun tg W hT hW => recStr_all tg A i c ls s W hT (HWI.out W (HBW.out.trans (hW.mono hsw))) hs3 HL.out (by omega) (HR.out.belowS (HBW.out.trans (hW.mono hsw))) (fun x hx => Nat.le_trans (HF.out x hx) (by omega)) (by omega)
   have HP3:Hid (∀ (tg:Nat) W,Table W tg→_):=fun tg W hT => stPut_all tg s W hs3 hT
   rw [putR_no HRN.out] at HP1
   rw [strR_no HRN.out] at HP2
   rw [show tombR s = (6,[]) from if_neg (by rw [HRN.out];decide)] at HP3
   unfold PuQ at HP1 HP2 HP3
   dsimp only [List.length_nil] at HP1 HP2 HP3
   have t5:decide ((65536:Int) < (m:Int)) = false:=decide_eq_false (by omega)
   clear hds hsum
   obtain ⟨y0,y1,y2⟩:=HYS.out wr HB.out
   go_wp2_with fail
   refine (make_any _).mono ?_
   rintro e w1 ⟨rfl,hb⟩
   have HG:=Lib.hid (heap_alloc_last w1 (.cells (Array.replicate 256 (.int .u32 0)) 28))
   have HB1:=Lib.hid hb
   clear hb
   go_wp2_with (refine wpList_store_row rfl 28 _ _ rfl w1.heap.size tabCells rfl rfl 28 _ HG.out HSZ.out (by rw [Array.size_replicate,tabCells_size]) tabCells_one ?_;rw [World.setRow_alloc_new];have HTB:=Lib.hid (table_new w1);have HB2:=Lib.hid (HB1.out.alloc HB1.out.size (.cells tabCells 28));generalize w1.alloc (.cells tabCells 28) = w2 at *;obtain ⟨y0,y1,y2⟩:=HYS.out w2 (HB.out.trans (HB2.out.mono HB.out.size)))
   clear hz HG HSZ
   refine (HP1.out _ _ HTB.out HB2.out).mono ?_
   rintro e w3 ⟨A3,c3,rfl,hc3,hb3⟩
   have HT3:=Lib.hid (HTB.out.below hb3 HTB.out.lt)
   have HB3:=Lib.hid (HB2.out.trans (hb3.mono HB2.out.size))
   clear hc3 hb3
   obtain ⟨y0,y1,y2⟩:=HYS.out w3 (HB.out.trans (HB3.out.mono HB.out.size))
   go_wp2_with (first
    | (go_at_call 14;refine (HP2.out _ _ HT3.out HB3.out).mono ?_;rintro e w4 ⟨A4,c4,rfl,hc4,hb4⟩;have HT4:=Lib.hid (HT3.out.below hb4 HT3.out.lt);have HB4:=Lib.hid (HB3.out.trans (hb4.mono HB3.out.size));clear hc4 hb4;obtain ⟨y0,y1,y2⟩:=HYS.out w4 (HB.out.trans (HB4.out.mono HB.out.size)))
    | (go_at_call 21;refine (HP3.out _ _ HT4.out).mono ?_;rintro e w5 ⟨A5,c5,rfl,hc5,hb5⟩;have HB5:=Lib.hid (HB4.out.trans (hb5.mono HB4.out.size));clear hc5 hb5;have HB5':=Lib.hid (HBW.out.trans (HB5.out.mono hsw)))
    | (go_at_call 10;refine (lives22_any _ (HWI.out _ HB5'.out)).mono ?_;rintro e w6 ⟨rfl,hb6⟩;have HB6:=Lib.hid (HB5'.out.trans (hb6.mono HB5'.out.size));clear hb6))
   go_ret
   exact ⟨rfl,HB6.out⟩
end Go.Proofs.YtaknladkodibaaaGreatDoor
namespace Go.Proofs.YtaknladkodibaaaGreatDoor
open Go.RowKit CrcP FieldP
def plB (N n1 n2 n3:Nat):Nat→Nat
 | 0 => N
 | 1 => N + n1
 | 2 => N + n1 + n2
 | _ => N + n1 + n2 + n3
theorem back_round {F:List Int→List Bool→Int × Int × Nat} (hF:FunT F) (lv:Int) {ls:List PcV} (s:ByteArray) (hr:rightB s.data.toList = true) (hs:s.size ≤ 300) (hall:∀ x ∈ ls,x.1.length ≤ 65535) (hsum:sumP ls ≤ 20000) (hlen:ls.length ≤ 20) (P T:List UInt8) (hP:1024 ≤ P.length) (hP2:P.length ≤ 1400) (ds R1 R2 R3:List UInt8) (hds:datR ls = ds) (h1:recB lv s ds = R1) (h2:strB s ls = R2) (h3:tombB s.data.toList = R3) (i:Nat) (hi:i < 3) :
  ∃ (K fr ar sz su me:Int),recV (P++(R1++(R2++(R3++T)))) (plB P.length R1.length R2.length R3.length i:Nat) = recOk K s (plB P.length R1.length R2.length R3.length i:Nat) fr ar sz su me (plB P.length R1.length R2.length R3.length (i + 1):Nat)∧decide (K = 2) = decide (i = 2)∧(me = 1→ar ≤ 40000)∧(i ≠ 2→K = 1∧sz = (ds.length:Nat)∧datM F (P++(R1++(R2++(R3++T)))) s (plB P.length R1.length R2.length R3.length i:Nat) fr ar sz su me = (0,ds)):=by
 have hdl:ds.length = sumP ls:=by rw [← hds,datR,← neR_flat];exact flat_sum ls
 have hpk:=pkM_len lv ds
 have hl1:R1.length = 22 + s.size + (pkM lv ds).2.length:=by rw [← h1,recB_len]
 match i,hi with
 | 0,_ =>
  obtain ⟨m,hpm,hm1,hv⟩:=rec_at (lv:=lv) (bs:=ds) (by omega) P (R2++(R3++T)) s hr
  have hd:=dat_rec hF (by omega:ds.length ≤ 20000) hpm hm1 P (R2++(R3++T)) hP (by omega) s hr
  rw [h1] at hv hd
  exact ⟨_,_,_,_,_,_,hv,rfl,fun _ => by omega,fun _ => ⟨rfl,rfl,hd⟩⟩
 | 1,_ =>
  have e:P++(R1++(R2++(R3++T))) = (P++R1)++(R2++(R3++T)):=by simp only [List.append_assoc]
  have eL:(P++R1).length = P.length + R1.length:=List.length_append
  have hv:=str_at hall (by omega:sumP ls ≤ 65535) (by omega) (P++R1) (R3++T) s hr
  have hd:=dat_str (F:=F) hall (by omega:sumP ls ≤ 65535) (by omega) (P++R1) (R3++T) (by omega) (by omega) s hr
  rw [h2,eL,← e] at hv hd
  refine ⟨_,_,_,_,_,_,hv,rfl,fun h => by omega,fun _ => ⟨rfl,by rw [hdl],?_⟩⟩
  rw [← hds]
  exact hd
 | 2,_ =>
  have e:P++(R1++(R2++(R3++T))) = (P++R1++R2)++(R3++T):=by simp only [List.append_assoc]
  have eL:(P++R1++R2).length = P.length + R1.length + R2.length:=by rw [List.length_append,List.length_append]
  have hv:=tomb_at (P++R1++R2) T s hr
  have hl3:R3.length = 9 + s.size:=by rw [← h3,tombB_length,Array.length_toList];rfl
  rw [h3,eL,← e] at hv
  refine ⟨2,0,0,0,0,0,?_,rfl,fun h => by omega,fun h => absurd rfl h⟩
  show recV _ ((P.length + R1.length + R2.length:Nat):Int) = recOk 2 s ((P.length + R1.length + R2.length:Nat):Int) 0 0 0 0 0 ((P.length + R1.length + R2.length + R3.length:Nat):Int)
  rw [hv,hl3]
  congr 1
end Go.Proofs.YtaknladkodibaaaGreatDoor
namespace Go.Proofs.YtaknladkodibaaaGreatDoor
open Go.RowKit CrcP FieldP
attribute [local go_sem ↓] Go.wp_at_zero Go.wp_at_succ
set_option linter.unusedSimpArgs false in
set_option maxRecDepth 100000 in
set_option maxHeartbeats 2000000 in
theorem recback_yes (s:ByteArray) (A1 A2 A:Option Addr) (l1 c1 l2 c2 l c:Nat) (ls:List PcV) (lv:Int) (w:World) (H1 T1:List UInt8) (hW:Wid w) (hn1:H1.length = l1) (hn2:T1.length = l2) (hb1:Bytes w w.heap.size A1 H1) (hb2:Bytes w w.heap.size A2 T1) (h1:s.size ≤ 300) (h2:l1 ≤ 300) (h3:l2 ≤ 300) (hl:ls.length = l) (hr:RowsIn w A ls) (hf:fewR ls) (hrn:rightB s.data.toList = true) (HG1:∀ W,Below w.heap.size w W→Calls Tryz.prog 9 #[.slice A l c] W fun e w' => e = .returned (.bool false)∧W = w') :
  Calls Tryz.prog 6 #[.agg #[.string s,.slice A1 l1 c1,.slice A2 l2 c2],.slice A l c,.int .i64 lv] w fun e w' => e = .returned (.bool true)∧Below w.heap.size w w':=by
 obtain ⟨W0,hW0⟩:∃ W0,w.alloc (.cells #[.string s,.slice A1 l1 c1,.slice A2 l2 c2] 53) = W0:=⟨_,rfl⟩
 have HX0:Hid (Box W0 w.heap.size #[.string s,.slice A1 l1 c1,.slice A2 l2 c2] 53):=by show Box _ _ _ _;rw [← hW0];exact heap_alloc_new w _
 have HB0:Hid (Below w.heap.size w W0):=by show Below _ _ _;rw [← hW0];exact (Below.refl _ w).alloc (Nat.le_refl _) _
 have HZ0:Hid (W0.heap.size = w.heap.size + 1):=by show _ = _;rw [← hW0];simp
 have HWW:=Lib.hid hW0
 have hw0:=hW.1
 have HWI:Hid (∀ W,Below w.heap.size w W→Wid W):=fun W hB => hW.below hB hw0 (by have:=hB.size;omega)
 have HGG:=Lib.hid (HG1 W0 HB0.out)
 have HYS:Hid (∀ W,Below W0.heap.size W0 W→W.cell? ⟨w.heap.size,0,none⟩ = some (.string s)∧W.cell? ⟨w.heap.size,1,none⟩ = some (.slice A1 l1 c1)∧W.cell? ⟨w.heap.size,2,none⟩ = some (.slice A2 l2 c2)):=fun W hW => by
  have h:=HX0.out.below hW (by rw [HZ0.out];exact Nat.lt_succ_self _)
  exact ⟨h.cell 0,h.cell 1,h.cell 2⟩
 obtain ⟨y0,y1,y2⟩:=HYS.out W0 (Below.refl _ _)
 have t1:decide ((300:Int) < (s.size:Int)) = false:=decide_eq_false (by omega)
 have t2:decide ((300:Int) < (l1:Int)) = false:=decide_eq_false (by omega)
 have t3:decide ((300:Int) < (l2:Int)) = false:=decide_eq_false (by omega)
 have hz:=(zero_of_info tableInfo).1
 have HSZ:=Lib.hid tableSize
 have HL:=Lib.hid hl
 have HR:=Lib.hid hr
 have hs3:s.size ≤ maxLen:=by unfold maxLen;omega
 obtain ⟨hf1,hf2⟩:=hf
 have hl20:l ≤ 20:=by omega
 have HF:=Lib.hid hf2
 have hsum:sumP ls ≤ 20000:=by
  have h1:=sumP_few ls 1000 hf2
  omega
 have HRN:=Lib.hid hrn
 have HN1:=Lib.hid hn1
 have HN2:=Lib.hid hn2
 have HA1:=Lib.hid hb1
 have HA2:=Lib.hid hb2
 have h301:=h2
 have h302:=h3
 have h300:=h1
 have mk:∀ W,(Instr.makeSlice 25 (.int .i64 1024) (.int .i64 1024)).run Tryz.prog W = .ok (.slice (some ⟨W.heap.size,0,none⟩) 1024 1024) (W.alloc (.cells (madeCells #[.int .u8 0] 1024) 5)):=fun W => make_bytes 1024 (by omega) W
 clear hW0 hW HG1 hl hr hf1 hf2 h1 h2 h3 hrn hn1 hn2 hb1 hb2
 go_enter Tryz.func6,Tryz.ntmps6
 go_wp2_with fail
 rw [HWW.out]
 go_wp2_with (go_at_call 9;refine HGG.out.mono ?_;rintro e w3 ⟨rfl,rfl⟩)
 go_loopg [7,8] l (fun gk sa si wr => ∃ (i m c':Nat) (A':Option Addr),i + gk = l∧si = .int .i64 (i:Int)∧sa = .slice A' m c'∧m ≤ 1000 * i∧OwnB wr W0.heap.size 5 (.slice A' m c') m (datR (ls.take i))∧Below W0.heap.size W0 wr)
 case atStart => exact ⟨0,0,0,none,by omega,rfl,rfl,by omega,World.ownsRow_nil _ _ _ _,Below.refl _ _⟩
 case round =>
  obtain ⟨i,m,c',A',hi,rfl,rfl,hm2,hown,hbel⟩:=hrel
  have HO:=Lib.hid hown
  have HB:=Lib.hid hbel
  clear hown hbel
  by_cases hil:i < l
  ·have t4:decide ((i:Int) < (l:Int)) = true:=decide_eq_true (by omega)
   obtain ⟨x,hx⟩:∃ x,ls[i]? = some x:=⟨_,List.getElem?_eq_getElem (by rw [HL.out];exact hil)⟩
   obtain ⟨b,o,rfl,hbB,hcc⟩:=HR.out.row (by rw [List.length_map,HL.out];omega)
   have HBW:=Lib.hid (HB0.out.trans (HB.out.mono HB0.out.size))
   have ci:wr.cell? ⟨b,o + i,none⟩ = some (pcC x):=(HBW.out.cell (p:=⟨b,o + i,none⟩) (by show b < _;omega)).trans (hcc i _ (by rw [List.getElem?_map,hx];rfl))
   have hex:=HR.out.each x (List.mem_of_getElem? hx)
   have hx3:=HF.out x (List.mem_of_getElem? hx)
   have HPU:=Lib.hid (datR_up hx)
   obtain ⟨r,A3,k3⟩:=x
   have ci2:wr.cell? ⟨b,o + i,none⟩ = some (.slice A3 r.length k3):=ci
   have HBR:Hid (Bytes wr W0.heap.size A3 r):=(hex.1.below HBW.out (Nat.le_refl _)).more HB0.out.size
   have hrl:r.length ≤ 1000:=hx3
   obtain ⟨rl,hrl2⟩:∃ rl,r.length = rl:=⟨_,rfl⟩
   have HRL:=Lib.hid hrl2
   rw [hrl2] at ci2 hrl
   clear hcc ci hx hex hx3 hrl2 hbB
   go_wp2_with (at_builtin;refine wpList_app _ byteElem rfl (.tmp 50) (.tmp 54) rfl W0.heap.size (.slice A' m c') m (byteCells (datR (ls.take i))) rfl HO.out W0.heap.size A3 rl k3 (byteCells r) rfl (by rw [byteCells_length,HRL.out,Nat.mul_one]) HBR.out (byteCells_one _) (by unfold maxLen;omega) (by omega) HB.out.size ?_;intro A6 c6 w6 hA;have HA:=Lib.hid hA;clear hA)
   go_roundg (gk - 1)
   case measure => omega
   case rel =>
    refine ⟨i + 1,m + rl,c6,A6,by omega,by go_num,rfl,by omega,?_,HA.out.below HB.out HB.out.size (own_base HO.out)⟩
    rw [HPU.out]
    have:=HA.out.own
    show World.ownsRow _ _ _ _ _ _ _
    rw [byteCells_append]
    exact this
  ·have t4:decide ((i:Int) < (l:Int)) = false:=decide_eq_false (by omega)
   obtain rfl:i = l:=by omega
   have HML:Hid ((datR (ls.take i)).length = m):=by have h1:=HO.out.1;rw [byteCells_length,Nat.mul_one] at h1;exact h1
   have HCP:Hid (m ≤ c'):=by
    rcases HO.out.2 with ⟨h1,h2⟩ | ⟨g,cap,cur,hv,_,_,hnc,_⟩
    ·simp only [Value.slice.injEq] at h1;show _ ≤ _;omega
    ·simp only [Value.slice.injEq] at hv;obtain ⟨_,_,rfl⟩:=hv;exact hnc
   have HCB:Hid (∀ W,Below wr.heap.size wr W→Bytes W W.heap.size A' (datR (ls.take i))):=fun W hW => ((Cells.of_own HO.out).below hW (Nat.le_refl _)).more hW.size
   obtain ⟨ds,hds⟩:∃ ds,datR (ls.take i) = ds:=⟨_,rfl⟩
   rw [hds] at HML HCB
   have hdsR:datR ls = ds:=by rw [← hds,← HL.out,List.take_length]
   have HBW:=Lib.hid (HB0.out.trans (HB.out.mono HB0.out.size))
   have hsw:w.heap.size ≤ wr.heap.size:=HBW.out.size
   have HP1:Hid (∀ (tg:Nat) W,Table W tg→Below wr.heap.size wr W→_):=fun tg W hT hW => recPut_all tg A' m c' ds s lv W hT (HWI.out W (HBW.out.trans (hW.mono hsw))) hs3 HML.out (by omega) HCP.out (HCB.out W hW)
   have HP2:Hid (∀ (tg:Nat) W,Table W tg→Below wr.heap.size wr W→_):=fun tg W hT hW => recStr_all tg A i c ls s W hT (HWI.out W (HBW.out.trans (hW.mono hsw))) hs3 HL.out (by omega) (HR.out.belowS (HBW.out.trans (hW.mono hsw))) (fun x hx => Nat.le_trans (HF.out x hx) (by omega)) (by omega)
   have HP3:Hid (∀ (tg:Nat) W,Table W tg→_):=fun tg W hT => stPut_all tg s W hs3 hT
   rw [show putR lv s ds = (0,recB lv s ds) from if_pos HRN.out] at HP1
   rw [show strR s ls = (0,strB s ls) from if_pos HRN.out] at HP2
   rw [show tombR s = (0,tombB s.data.toList) from if_pos HRN.out] at HP3
   unfold PuQ at HP1 HP2 HP3
   dsimp only at HP1 HP2 HP3
   obtain ⟨R1,hR1⟩:∃ R,recB lv s ds = R:=⟨_,rfl⟩
   obtain ⟨R2,hR2⟩:∃ R,strB s ls = R:=⟨_,rfl⟩
   obtain ⟨R3,hR3⟩:∃ R,tombB s.data.toList = R:=⟨_,rfl⟩
   have hm1:R1.length ≤ 70000:=by have h4:=recB_len lv s ds;have h5:=pkM_len lv ds;have h6:=HML.out;rw [hR1] at h4;omega
   have hm2:R2.length ≤ 70000:=by have h4:=strB_len s ls;have h5:=pcsB_len ls;have h6:(arP ls).length = (pcsB ls).length + 2:=(by unfold arP;rw [List.length_append];rfl);have h7:=HL.out;rw [hR2] at h4;omega
   have hm3:R3.length = 9 + s.size:=by rw [← hR3,tombB_length,Array.length_toList];rfl
   rw [hR1] at HP1
   rw [hR2] at HP2
   rw [hR3] at HP3
   obtain ⟨n1,hn1⟩:∃ n,R1.length = n:=⟨_,rfl⟩
   obtain ⟨n2,hn2⟩:∃ n,R2.length = n:=⟨_,rfl⟩
   obtain ⟨n3,hn3⟩:∃ n,R3.length = n:=⟨_,rfl⟩
   have HM1:=Lib.hid hn1
   have HM2:=Lib.hid hn2
   have HM3:=Lib.hid hn3
   have HR1:=Lib.hid hR1
   have HR2:=Lib.hid hR2
   have HR3:=Lib.hid hR3
   rw [hn1] at HP1 hm1
   rw [hn2] at HP2 hm2
   rw [hn3] at HP3 hm3
   have HS3:=Lib.hid hm3
   replace hm3:n3 ≤ 309:=by omega
   clear hR1 hR2 hR3 hn1 hn2 hn3
   have t5:decide ((65536:Int) < (m:Int)) = false:=decide_eq_false (by omega)
   clear hds
   obtain ⟨y0,y1,y2⟩:=HYS.out wr HB.out
   go_wp2_with fail
   refine (make_any _).mono ?_
   rintro e w1 ⟨rfl,hb⟩
   have HG:=Lib.hid (heap_alloc_last w1 (.cells (Array.replicate 256 (.int .u32 0)) 28))
   have HB1:=Lib.hid hb
   clear hb
   go_wp2_with (refine wpList_store_row rfl 28 _ _ rfl w1.heap.size tabCells rfl rfl 28 _ HG.out HSZ.out (by rw [Array.size_replicate,tabCells_size]) tabCells_one ?_;rw [World.setRow_alloc_new];have HTB:=Lib.hid (table_new w1);have HB2:=Lib.hid (HB1.out.alloc HB1.out.size (.cells tabCells 28));generalize w1.alloc (.cells tabCells 28) = w2 at *;obtain ⟨y0,y1,y2⟩:=HYS.out w2 (HB.out.trans (HB2.out.mono HB.out.size)))
   clear hz HG HSZ
   refine (HP1.out _ _ HTB.out HB2.out).mono ?_
   rintro e w3 ⟨A3,c3,rfl,hc3,hb3⟩
   have HC3:=Lib.hid hc3
   have HT3:=Lib.hid (HTB.out.below hb3 HTB.out.lt)
   have HB3:=Lib.hid (HB2.out.trans (hb3.mono HB2.out.size))
   clear hc3 hb3
   obtain ⟨y0,y1,y2⟩:=HYS.out w3 (HB.out.trans (HB3.out.mono HB.out.size))
   go_upto_region 14 with (first
    | (go_at_call 14;refine (HP2.out _ _ HT3.out HB3.out).mono ?_;rintro e w4 ⟨A4,c4,rfl,hc4,hb4⟩;have HC4:=Lib.hid hc4;have HC34:=Lib.hid ((HC3.out.below hb4 (Nat.le_refl _)).more hb4.size);have HT4:=Lib.hid (HT3.out.below hb4 HT3.out.lt);have HB4:=Lib.hid (HB3.out.trans (hb4.mono HB3.out.size));clear hc4 hb4;obtain ⟨y0,y1,y2⟩:=HYS.out w4 (HB.out.trans (HB4.out.mono HB.out.size)))
    | (go_at_call 21;refine (HP3.out _ _ HT4.out).mono ?_;rintro e w5 ⟨A5,c5,rfl,hc5,hb5⟩;have HC5:=Lib.hid hc5;have HC35:=Lib.hid ((HC34.out.below hb5 (Nat.le_refl _)).more hb5.size);have HC45:=Lib.hid ((HC4.out.below hb5 (Nat.le_refl _)).more hb5.size);have HT5:=Lib.hid (HT4.out.below hb5 HT4.out.lt);have HB5:=Lib.hid (HB4.out.trans (hb5.mono HB4.out.size));clear hc5 hb5))
   have HB5':=Lib.hid (HBW.out.trans (HB5.out.mono hsw))
   have hs5:w.heap.size ≤ w5.heap.size:=HB5'.out.size
   have hs05:W0.heap.size ≤ w5.heap.size:=Nat.le_trans HB.out.size HB5.out.size
   have HYV:Hid (∀ V,Below w5.heap.size w5 V→V.cell? ⟨w.heap.size,0,none⟩ = some (.string s)∧V.cell? ⟨w.heap.size,1,none⟩ = some (.slice A1 l1 c1)∧V.cell? ⟨w.heap.size,2,none⟩ = some (.slice A2 l2 c2)):=fun V hV => HYS.out V ((HB.out.trans (HB5.out.mono HB.out.size)).trans (hV.mono hs05))
   have HK1:Hid (∀ V,Below w5.heap.size w5 V→Bytes V w5.heap.size A1 H1):=fun V hV => (HA1.out.below (HB5'.out.trans (hV.mono hs5)) (Nat.le_refl _)).more hs5
   have HK2:Hid (∀ V,Below w5.heap.size w5 V→Bytes V w5.heap.size A2 T1):=fun V hV => (HA2.out.below (HB5'.out.trans (hV.mono hs5)) (Nat.le_refl _)).more hs5
   have HK3:Hid (∀ V,Below w5.heap.size w5 V→Bytes V w5.heap.size A3 R1):=fun V hV => HC35.out.below hV (Nat.le_refl _)
   have HK4:Hid (∀ V,Below w5.heap.size w5 V→Bytes V w5.heap.size A4 R2):=fun V hV => HC45.out.below hV (Nat.le_refl _)
   have HK5:Hid (∀ V,Below w5.heap.size w5 V→Bytes V w5.heap.size A5 R3):=fun V hV => HC5.out.below hV (Nat.le_refl _)
   have y15:w5.drew.cell? ⟨w.heap.size,1,none⟩ = some (.slice A1 l1 c1):=(HYV.out w5 (Below.refl _ _)).2.1
   refine wp_region_noPanic (wp_region_held_drew (S:=(fun V:World => V.cell? ⟨w.heap.size,1,none⟩ = some (.slice A1 l1 c1))) (by kernel_rfl) y15 (fun hHeld => ?_))
   (try simp only [Act.put,List.setIfInBounds_toArray,List.set_cons_zero,List.set_cons_succ])
   refine wpAnyH_take (i:=1) (v:=?_) (by simp only [List.getElem?_toArray,List.getElem?_cons_succ,List.getElem?_cons_zero];rfl) (by kernel_rfl) (by kernel_rfl) (by kernel_rfl) (fun _ _ _ h => h) (Or.inl ⟨by rfl,?_⟩) (by assumption) ?_
   rotate_left
   ·intro w hSw;(try dsimp only at hSw);go_split_ands;go_simp;(try with_reducible rfl)
   (try simp only [Act.put,List.setIfInBounds_toArray,List.set_cons_zero,List.set_cons_succ])
   refine wpAnyH_take (i:=2) (v:=?_) (by simp only [List.getElem?_toArray,List.getElem?_cons_succ,List.getElem?_cons_zero];rfl) (by kernel_rfl) (by kernel_rfl) (by kernel_rfl) (fun _ _ _ h => h) (Or.inl ⟨by rfl,?_⟩) (by assumption) ?_
   rotate_left
   ·intro w hSw;(try dsimp only at hSw);go_split_ands;go_simp;(try with_reducible rfl)
   (try simp only [Act.put,List.setIfInBounds_toArray,List.set_cons_zero,List.set_cons_succ])
   refine wpAnyH_ready (rs:=[0]) (by kernel_rfl) (by simp) ?_
   refine AllReadyH.cons rfl (fun K hK => ?_) AllReadyH.nil
   go_simp
   obtain ⟨W6,hW6⟩:∃ W6,(w5.alloc (.cells (madeCells #[.int .u8 0] 1024) 5)).drew = W6:=⟨_,rfl⟩
   have HO6:Hid (OwnB W6 w5.heap.size 5 (.slice (some ⟨w5.heap.size,0,none⟩) 1024 1024) 1024 (List.replicate 1024 0)):=by show OwnB _ _ _ _ _ _;rw [← hW6];exact own_made w5 w5.heap.size 1024 (Nat.le_refl _) (by unfold maxLen;omega)
   have HB6:Hid (Below w5.heap.size w5 W6):=by show Below _ _ _;rw [← hW6];exact ((Below.refl _ w5).alloc (Nat.le_refl _) _).drew
   have y16:=(HYV.out W6 HB6.out).2.1
   rw [hW6]
   clear hW6
   refine hK.out _ _ y16 (fun hHeld => ?_)
   clear hK K
   (try simp only [Act.put,List.setIfInBounds_toArray,List.set_cons_zero,List.set_cons_succ])
   refine wpAnyH_ready (rs:=[3]) (by kernel_rfl) (by simp) ?_
   refine AllReadyH.cons rfl (fun K hK => ?_) AllReadyH.nil
   refine step_appG W6 byteElem (by rfl) (.tmp 106) (.tmp 108) (some 109) rfl rfl w5.heap.size (.slice (some ⟨w5.heap.size,0,none⟩) (1024) 1024) (1024) (byteCells (List.replicate 1024 0)) rfl HO6.out w5.heap.size A1 l1 c1 (byteCells H1) rfl (by rw [byteCells_length,HN1.out,Nat.mul_one]) (HK1.out W6 HB6.out) (byteCells_one _) (by unfold maxLen;omega) (by omega) HB6.out.size ?_
   intro A7 c7 v7 hA
   have HOv7:=Lib.hid hA.own
   have HBv7:=Lib.hid (hA.below HB6.out HB6.out.size (own_base HO6.out))
   have yv7:=(HYV.out v7 HBv7.out).2.1
   clear hA
   refine hK.out _ _ yv7 (fun hHeld => ?_)
   clear hK K
   (try simp only [Act.put,List.setIfInBounds_toArray,List.set_cons_zero,List.set_cons_succ])
   refine wpAnyH_take (i:=4) (v:=?_) (by simp only [List.getElem?_toArray,List.getElem?_cons_succ,List.getElem?_cons_zero];rfl) (by kernel_rfl) (by kernel_rfl) (by kernel_rfl) (fun _ _ _ h => h) (Or.inl ⟨by rfl,?_⟩) (by assumption) ?_
   rotate_left
   ·intro w hSw;(try dsimp only at hSw);go_split_ands;go_simp;(try with_reducible rfl)
   (try simp only [Act.put,List.setIfInBounds_toArray,List.set_cons_zero,List.set_cons_succ])
   refine wpAnyH_done (by kernel_rfl) (NoPanic.normal ?_) _
   obtain ⟨N,hN⟩:∃ N,1024 + l1 = N:=⟨_,rfl⟩
   rw [hN] at HOv7 ⊢
   have HNN:=Lib.hid hN
   have hN2:N ≤ 1324:=by omega
   clear hN
   have y25:v7.drew.cell? ⟨w.heap.size,2,none⟩ = some (.slice A2 l2 c2):=(HYV.out v7 HBv7.out).2.2
   go_wp2_with fail
   refine wp_region_noPanic (wp_region_held_drew (S:=(fun V:World => V.cell? ⟨w.heap.size,2,none⟩ = some (.slice A2 l2 c2))) (by kernel_rfl) y25 (fun hHeld => ?_))
   (try simp only [Act.put,List.setIfInBounds_toArray,List.set_cons_zero,List.set_cons_succ])
   obtain ⟨u7,hu7⟩:∃ u,v7.drew = u:=⟨_,rfl⟩
   have HOu7:Hid (OwnB u7 w5.heap.size 5 (.slice A7 N c7) N (List.replicate 1024 0++H1)):=by show OwnB _ _ _ _ _ _;have h:=HOv7.out;rw [← byteCells_append] at h;rw [← hu7];exact h
   have HBu7:Hid (Below w5.heap.size w5 u7):=by show Below _ _ _;rw [← hu7];exact HBv7.out.drew
   rw [hu7]
   clear hu7
   have y27:=(HYV.out u7 HBu7.out).2.2
   refine wpAnyH_take (i:=0) (v:=?_) (by simp only [List.getElem?_toArray,List.getElem?_cons_succ,List.getElem?_cons_zero];rfl) (by kernel_rfl) (by kernel_rfl) (by kernel_rfl) (fun _ _ _ h => h) (Or.inl ⟨by rfl,?_⟩) (by assumption) ?_
   rotate_left
   ·intro w hSw;(try dsimp only at hSw);go_split_ands;go_simp;(try with_reducible rfl)
   (try simp only [Act.put,List.setIfInBounds_toArray,List.set_cons_zero,List.set_cons_succ])
   refine wpAnyH_take (i:=1) (v:=?_) (by simp only [List.getElem?_toArray,List.getElem?_cons_succ,List.getElem?_cons_zero];rfl) (by kernel_rfl) (by kernel_rfl) (by kernel_rfl) (fun _ _ _ h => h) (Or.inl ⟨by rfl,?_⟩) (by assumption) ?_
   rotate_left
   ·intro w hSw;(try dsimp only at hSw);go_split_ands;go_simp;(try with_reducible rfl)
   (try simp only [Act.put,List.setIfInBounds_toArray,List.set_cons_zero,List.set_cons_succ])
   refine wpAnyH_take (i:=3) (v:=?_) (by simp only [List.getElem?_toArray,List.getElem?_cons_succ,List.getElem?_cons_zero];rfl) (by kernel_rfl) (by kernel_rfl) (by kernel_rfl) (fun _ _ _ h => h) (Or.inl ⟨by rfl,?_⟩) (by assumption) ?_
   rotate_left
   ·intro w hSw;(try dsimp only at hSw);go_split_ands;go_simp;(try with_reducible rfl)
   (try simp only [Act.put,List.setIfInBounds_toArray,List.set_cons_zero,List.set_cons_succ])
   refine wpAnyH_take (i:=5) (v:=?_) (by simp only [List.getElem?_toArray,List.getElem?_cons_succ,List.getElem?_cons_zero];rfl) (by kernel_rfl) (by kernel_rfl) (by kernel_rfl) (fun _ _ _ h => h) (Or.inl ⟨by rfl,?_⟩) (by assumption) ?_
   rotate_left
   ·intro w hSw;(try dsimp only at hSw);go_split_ands;go_simp;(try with_reducible rfl)
   (try simp only [Act.put,List.setIfInBounds_toArray,List.set_cons_zero,List.set_cons_succ])
   refine wpAnyH_take (i:=7) (v:=?_) (by simp only [List.getElem?_toArray,List.getElem?_cons_succ,List.getElem?_cons_zero];rfl) (by kernel_rfl) (by kernel_rfl) (by kernel_rfl) (fun _ _ _ h => h) (Or.inl ⟨by rfl,?_⟩) (by assumption) ?_
   rotate_left
   ·intro w hSw;(try dsimp only at hSw);go_split_ands;go_simp;(try with_reducible rfl)
   (try simp only [Act.put,List.setIfInBounds_toArray,List.set_cons_zero,List.set_cons_succ])
   refine wpAnyH_take (i:=8) (v:=?_) (by simp only [List.getElem?_toArray,List.getElem?_cons_succ,List.getElem?_cons_zero];rfl) (by kernel_rfl) (by kernel_rfl) (by kernel_rfl) (fun _ _ _ h => h) (Or.inl ⟨by rfl,?_⟩) (by assumption) ?_
   rotate_left
   ·intro w hSw;(try dsimp only at hSw);go_split_ands;go_simp;(try with_reducible rfl)
   (try simp only [Act.put,List.setIfInBounds_toArray,List.set_cons_zero,List.set_cons_succ])
   refine wpAnyH_ready (rs:=[2]) (by kernel_rfl) (by simp) ?_
   refine AllReadyH.cons rfl (fun K hK => ?_) AllReadyH.nil
   refine step_appG u7 byteElem (by rfl) (.tmp 112) (.tmp 113) (some 114) rfl rfl w5.heap.size (.slice A7 (N) c7) (N) (byteCells (List.replicate 1024 0++H1)) rfl HOu7.out w5.heap.size A3 n1 c3 (byteCells R1) rfl (by rw [byteCells_length,HM1.out,Nat.mul_one]) (HK3.out u7 HBu7.out) (byteCells_one _) (by unfold maxLen;omega) (by omega) HBu7.out.size ?_
   intro Bv8 kv8 v8 hA
   have HOv8:=Lib.hid hA.own
   have HBv8:=Lib.hid (hA.below HBu7.out HBu7.out.size (own_base HOu7.out))
   have yv8:=(HYV.out v8 HBv8.out).2.2
   clear hA
   refine hK.out _ _ yv8 (fun hHeld => ?_)
   clear hK K
   (try simp only [Act.put,List.setIfInBounds_toArray,List.set_cons_zero,List.set_cons_succ])
   refine wpAnyH_ready (rs:=[4]) (by kernel_rfl) (by simp) ?_
   refine AllReadyH.cons rfl (fun K hK => ?_) AllReadyH.nil
   refine step_appG v8 byteElem (by rfl) (.tmp 114) (.tmp 115) (some 116) rfl rfl w5.heap.size (.slice Bv8 (N + n1) kv8) (N + n1) (byteCells (List.replicate 1024 0++H1)++byteCells R1) rfl HOv8.out w5.heap.size A4 n2 c4 (byteCells R2) rfl (by rw [byteCells_length,HM2.out,Nat.mul_one]) (HK4.out v8 HBv8.out) (byteCells_one _) (by unfold maxLen;omega) (by omega) HBv8.out.size ?_
   intro Bv9 kv9 v9 hA
   have HOv9:=Lib.hid hA.own
   have HBv9:=Lib.hid (hA.below HBv8.out HBv8.out.size (own_base HOv8.out))
   have yv9:=(HYV.out v9 HBv9.out).2.2
   clear hA
   refine hK.out _ _ yv9 (fun hHeld => ?_)
   clear hK K
   (try simp only [Act.put,List.setIfInBounds_toArray,List.set_cons_zero,List.set_cons_succ])
   refine wpAnyH_ready (rs:=[6]) (by kernel_rfl) (by simp) ?_
   refine AllReadyH.cons rfl (fun K hK => ?_) AllReadyH.nil
   refine step_appG v9 byteElem (by rfl) (.tmp 116) (.tmp 117) (some 118) rfl rfl w5.heap.size (.slice Bv9 (N + n1 + n2) kv9) (N + n1 + n2) (byteCells (List.replicate 1024 0++H1)++byteCells R1++byteCells R2) rfl HOv9.out w5.heap.size A5 n3 c5 (byteCells R3) rfl (by rw [byteCells_length,HM3.out,Nat.mul_one]) (HK5.out v9 HBv9.out) (byteCells_one _) (by unfold maxLen;omega) (by omega) HBv9.out.size ?_
   intro Bv10 kv10 v10 hA
   have HOv10:=Lib.hid hA.own
   have HBv10:=Lib.hid (hA.below HBv9.out HBv9.out.size (own_base HOv9.out))
   have yv10:=(HYV.out v10 HBv10.out).2.2
   clear hA
   refine hK.out _ _ yv10 (fun hHeld => ?_)
   clear hK K
   (try simp only [Act.put,List.setIfInBounds_toArray,List.set_cons_zero,List.set_cons_succ])
   refine wpAnyH_ready (rs:=[9]) (by kernel_rfl) (by simp) ?_
   refine AllReadyH.cons rfl (fun K hK => ?_) AllReadyH.nil
   refine step_appG v10 byteElem (by rfl) (.tmp 118) (.tmp 120) (some 121) rfl rfl w5.heap.size (.slice Bv10 (N + n1 + n2 + n3) kv10) (N + n1 + n2 + n3) (byteCells (List.replicate 1024 0++H1)++byteCells R1++byteCells R2++byteCells R3) rfl HOv10.out w5.heap.size A2 l2 c2 (byteCells T1) rfl (by rw [byteCells_length,HN2.out,Nat.mul_one]) (HK2.out v10 HBv10.out) (byteCells_one _) (by unfold maxLen;omega) (by omega) HBv10.out.size ?_
   intro Bv11 kv11 v11 hA
   have HOv11:=Lib.hid hA.own
   have HBv11:=Lib.hid (hA.below HBv10.out HBv10.out.size (own_base HOv10.out))
   have yv11:=(HYV.out v11 HBv11.out).2.2
   clear hA
   refine hK.out _ _ yv11 (fun hHeld => ?_)
   clear hK K
   (try simp only [Act.put,List.setIfInBounds_toArray,List.set_cons_zero,List.set_cons_succ])
   refine wpAnyH_take (i:=10) (v:=?_) (by simp only [List.getElem?_toArray,List.getElem?_cons_succ,List.getElem?_cons_zero];rfl) (by kernel_rfl) (by kernel_rfl) (by kernel_rfl) (fun _ _ _ h => h) (Or.inl ⟨by rfl,?_⟩) (by assumption) ?_
   rotate_left
   ·intro w hSw;(try dsimp only at hSw);go_split_ands;go_simp;(try with_reducible rfl)
   (try simp only [Act.put,List.setIfInBounds_toArray,List.set_cons_zero,List.set_cons_succ])
   refine wpAnyH_done (by kernel_rfl) (NoPanic.normal ?_) _
   obtain ⟨M,hM⟩:∃ M,N + n1 + n2 + n3 + l2 = M:=⟨_,rfl⟩
   rw [hM] at HOv11 ⊢
   have hM2:M ≤ 200000:=by omega
   obtain ⟨P,hP⟩:∃ P,List.replicate 1024 (0:UInt8)++H1 = P:=⟨_,rfl⟩
   have hPN:P.length = N:=by rw [← hP,List.length_append,List.length_replicate,HN1.out];exact HNN.out
   obtain ⟨al,hal⟩:∃ al,P++(R1++(R2++(R3++T1))) = al:=⟨_,rfl⟩
   have hlen:al.length = M:=by rw [← hal,List.length_append,List.length_append,List.length_append,List.length_append,hPN,HM1.out,HM2.out,HM3.out,HN2.out];omega
   have hown:=HOv11.out
   rw [hP,← byteCells_append,← byteCells_append,← byteCells_append,← byteCells_append,List.append_assoc,List.append_assoc,List.append_assoc,hal] at hown
   have hcap:M ≤ kv11:=capS (OwnT.of hown)
   have HS11:Hid (w5.heap.size ≤ v11.heap.size):=HBv11.out.size
   have HALL:Hid (∀ W,Below v11.heap.size v11 W→Bytes W W.heap.size Bv11 al):=fun W hW => ((Cells.of_own hown).below hW (Nat.le_refl _)).more hW.size
   clear hown
   have HT11:Hid (Table v11 w1.heap.size):=HT5.out.below HBv11.out HT5.out.lt
   have HB11:Hid (Below w.heap.size w v11):=HB5'.out.trans (HBv11.out.mono hs5)
   have HS0:Hid (w.heap.size ≤ v11.heap.size):=HB11.out.size
   have HYZ:Hid (∀ V,Below v11.heap.size v11 V→V.cell? ⟨w.heap.size,0,none⟩ = some (.string s)∧V.cell? ⟨w.heap.size,1,none⟩ = some (.slice A1 l1 c1)∧V.cell? ⟨w.heap.size,2,none⟩ = some (.slice A2 l2 c2)):=fun V hV => HYV.out V (HBv11.out.trans (hV.mono HS11.out))
   have HDS:Hid (∀ V,Below v11.heap.size v11 V→Bytes V V.heap.size A' ds):=fun V hV => HCB.out V (HB5.out.trans ((HBv11.out.mono (HB5.out.size)).trans (hV.mono (Nat.le_trans HB5.out.size HS11.out))))
   have hN1024:1024 ≤ N:=by have:=HNN.out;omega
   obtain ⟨F,hF⟩:=funT_ex
   have HBR:Hid (∀ i,i < 3→_):=fun i hi => back_round hF lv s HRN.out (by omega) (fun x hx => Nat.le_trans (HF.out x hx) (by omega)) (by omega) (by rw [HL.out];omega) P T1 (by omega) (by omega) ds R1 R2 R3 hdsR HR1.out HR2.out HR3.out i hi
   rw [hal,hPN,HM1.out,HM2.out,HM3.out] at HBR
   have HTK:Hid (∀ (p:Nat) W,Table W w1.heap.size→Below v11.heap.size v11 W→p ≤ 1000000→_):=fun p W hT hW hp => recTake_any w1.heap.size Bv11 M kv11 al (p:Int) W hT (HWI.out W (HB11.out.trans (hW.mono HS0.out))) hlen (by omega) hcap (by omega) (by omega) (HALL.out W hW)
   have HDT:Hid (∀ (at_ fr ar sz su me:Int) W,Table W w1.heap.size→Below v11.heap.size v11 W→(me = 1→ar ≤ 40000)→_):=fun at_ fr ar sz su me W hT hW hme => recData_any F hF w1.heap.size Bv11 M kv11 al s at_ fr ar sz su me W hT hs3 hlen (by omega) (fun h => .inl (hme h)) hcap (HALL.out W hW)
   have HMM:=Lib.hid hM
   have hn0:N ≤ 1324:=hN2
   obtain ⟨q3,hq3⟩:∃ q,plB N n1 n2 n3 3 = q:=⟨_,rfl⟩
   have hq4:q3 + l2 = M:=by rw [← hq3,← hM];rfl
   have w9:IntKind.i64.wrap ((M:Int) - (l2:Int)) = (q3:Int):=by rw [IntWalk.i64_in _ (by omega)];omega
   have w8:wrap64 ((M:Int) - (l2:Int)) = (q3:Int):=by unfold wrap64;omega
   have HPB:Hid (∀ i,plB N n1 n2 n3 i ≤ 1000000):=fun i => by
    match i with
    | 0 => show N ≤ _;omega
    | 1 => show N + n1 ≤ _;omega
    | 2 => show N + n1 + n2 ≤ _;omega
    | k + 3 => show N + n1 + n2 + n3 ≤ _;omega
   have HQ3:=Lib.hid hq3
   have HPL0:Hid (plB N n1 n2 n3 0 = N):=by show _ = _;rfl
   clear hM hP hPN hal hlen hF hq3
   go_wp2_with fail
   go_loopg [17,18] 3 (fun gk sp si wr => ∃ i p:Nat,i + gk = 3∧sp = .int .i64 (p:Int)∧si = .int .i64 (i:Int)∧plB N n1 n2 n3 i = p∧Below v11.heap.size v11 wr)
   case atStart => exact ⟨0,N,by omega,rfl,rfl,rfl,Below.refl _ _⟩
   case round =>
    obtain ⟨j,p,hj,rfl,rfl,hp,hbz⟩:=hrel
    have HBZ:=Lib.hid hbz
    clear hbz
    by_cases hj3:j < 3
    ·obtain ⟨K,fr,ar,sz,su,me,hv,hk,hme,hd⟩:=HBR.out j hj3
     rw [hp] at hv
     have HTZ:Hid (Table wr w1.heap.size):=HT11.out.below HBZ.out HT11.out.lt
     have HTKp:=HTK.out p wr HTZ.out HBZ.out (by rw [← hp];exact HPB.out j)
     rw [hv] at HTKp
     unfold recOk at HTKp
     have HTKZ:=Lib.hid HTKp
     have HD:=Lib.hid hd
     have HME:=Lib.hid hme
     have HP:=Lib.hid hp
     obtain ⟨nx,hnx⟩:∃ nx,plB N n1 n2 n3 (j + 1) = nx:=⟨_,rfl⟩
     rw [hnx] at HTKZ
     have HNX:=Lib.hid hnx
     have t6:decide ((j:Int) < 3) = true:=decide_eq_true (by omega)
     clear hv HTKp hd hme hp hnx
     obtain ⟨y0,y1,y2⟩:=HYZ.out wr HBZ.out
     go_wp2_with fail
     refine HTKZ.out.mono ?_
     rintro e x6 ⟨rfl,hb6⟩
     have HB6:=Lib.hid (HBZ.out.trans (hb6.mono HBZ.out.size))
     clear hb6
     obtain ⟨X7,hX7⟩:∃ X7,x6.alloc (.cells #[.int .i64 K,.string s,.int .i64 (p:Int),.int .i64 fr,.int .i64 ar,.int .i64 sz,.int .u32 su,.int .i64 me,.int .i64 (nx:Int)] 41) = X7:=⟨_,rfl⟩
     have HX7:Hid (Box X7 x6.heap.size #[.int .i64 K,.string s,.int .i64 (p:Int),.int .i64 fr,.int .i64 ar,.int .i64 sz,.int .u32 su,.int .i64 me,.int .i64 (nx:Int)] 41):=by show Box _ _ _ _;rw [← hX7];exact heap_alloc_new x6 _
     have hb67:Below x6.heap.size x6 X7:=by rw [← hX7];exact (Below.refl _ x6).alloc (Nat.le_refl _) _
     have HB7:=Lib.hid (HB6.out.trans (hb67.mono HB6.out.size))
     clear hb67
     obtain ⟨y0,y1,y2⟩:=HYZ.out X7 HB7.out
     have r0:X7.cell? ⟨x6.heap.size,0,none⟩ = some (.int .i64 K):=HX7.out.cell 0
     have r1:X7.cell? ⟨x6.heap.size,1,none⟩ = some (.string s):=HX7.out.cell 1
     have r2:X7.cell? ⟨x6.heap.size,2,none⟩ = some (.int .i64 (p:Int)):=HX7.out.cell 2
     have r3:X7.cell? ⟨x6.heap.size,3,none⟩ = some (.int .i64 fr):=HX7.out.cell 3
     have r4:X7.cell? ⟨x6.heap.size,4,none⟩ = some (.int .i64 ar):=HX7.out.cell 4
     have r5:X7.cell? ⟨x6.heap.size,5,none⟩ = some (.int .i64 sz):=HX7.out.cell 5
     have r6:X7.cell? ⟨x6.heap.size,6,none⟩ = some (.int .u32 su):=HX7.out.cell 6
     have r7:X7.cell? ⟨x6.heap.size,7,none⟩ = some (.int .i64 me):=HX7.out.cell 7
     have r8:X7.cell? ⟨x6.heap.size,8,none⟩ = some (.int .i64 (nx:Int)):=HX7.out.cell 8
     by_cases hj2:j = 2
     ·have t7:decide ((j:Int) = 2) = true:=decide_eq_true (by omega)
      have t8:decide (K = 2) = true:=by rw [hk];exact decide_eq_true hj2
      have t9:K = 2:=of_decide_eq_true t8
      subst t9
      clear hk
      go_wp2
      go_roundg (gk - 1)
      case measure => omega
      case rel => exact ⟨j + 1,nx,by omega,rfl,by go_num,HNX.out,HB7.out⟩
     ·have t7:decide ((j:Int) = 2) = false:=decide_eq_false (by omega)
      have t9:¬ (j:Int) = 2:=by omega
      obtain ⟨hK1,hsz,hdt⟩:=HD.out hj2
      subst hK1
      have hsz2:sz = (m:Int):=by rw [hsz,HML.out]
      subst hsz2
      have HDTp:=HDT.out (p:Int) fr ar (m:Int) su me X7 (HT11.out.below HB7.out HT11.out.lt) HB7.out HME.out
      rw [HP.out] at hdt
      rw [hdt] at HDTp
      unfold UnQ at HDTp
      dsimp only at HDTp
      rw [HML.out] at HDTp
      have HDTZ:=Lib.hid HDTp
      obtain ⟨sd,hsd⟩:∃ str:ByteArray,(⟨ds.toArray⟩:ByteArray) = str:=⟨_,rfl⟩
      have HSD:=Lib.hid hsd
      clear hk hsz hdt HDTp hsd
      go_wp2_with (go_at_call 19;refine HDTZ.out.mono ?_;rintro e x8 ⟨A8,c8,rfl,hc8,hb8⟩;have HX8:=Lib.hid (HX7.out.below hb8 HX7.out.lt);have r5:x8.cell? ⟨x6.heap.size,5,none⟩ = some (.int .i64 (m:Int)):=HX8.out.cell 5;have HB8:=Lib.hid (HB7.out.trans (hb8.mono HB7.out.size));have k1:=str_any x8 A8 m c8 _ ds hc8 HML.out;have k2:=str_any x8 A' m c' _ ds (HDS.out x8 HB8.out) HML.out;rw [HSD.out] at k1 k2;clear hc8 hb8)
      go_roundg (gk - 1)
      case measure => omega
      case rel => exact ⟨j + 1,nx,by omega,rfl,by go_num,HNX.out,HB8.out⟩
    ·obtain rfl:j = 3:=by omega
     have t6:decide (((3:Nat):Int) < 3) = false:=by decide
     obtain rfl:p = q3:=by rw [← hp];exact HQ3.out
     obtain ⟨y0,y1,y2⟩:=HYZ.out wr HBZ.out
     have HBF:=Lib.hid (HB11.out.trans (HBZ.out.mono HS0.out))
     clear hp hj3
     go_wp2_with (go_at_call 10;refine (lives22_any _ (HWI.out _ HBF.out)).mono ?_;rintro e w16 ⟨rfl,hb16⟩;have HB16:=Lib.hid (HBF.out.trans (hb16.mono HBF.out.size));clear hb16)
     go_ret
     exact ⟨rfl,HB16.out⟩
end Go.Proofs.YtaknladkodibaaaGreatDoor
namespace Go.Proofs.YtaknladkodibaaaGreatDoor
open Go.RowKit CrcP FieldP
theorem recback_law (s:ByteArray) (A1 A2 A:Option Addr) (l1 c1 l2 c2 l c:Nat) (ls:List PcV) (H1 T1:List UInt8) (lv:Int) (w:World) (hW:Wid w) (hn1:H1.length = l1) (hn2:T1.length = l2) (hb1:Bytes w w.heap.size A1 H1) (hb2:Bytes w w.heap.size A2 T1) (hl:ls.length = l) (hm:l ≤ 9223372036854775807) (hr:RowsIn w A ls) (hlen:∀ x ∈ ls,x.1.length ≤ 9223372036854775807) :
  Calls Tryz.prog 6 #[.agg #[.string s,.slice A1 l1 c1,.slice A2 l2 c2],.slice A l c,.int .i64 lv] w fun e w' => e = .returned (.bool true)∧Below w.heap.size w w':=by
 have HGR:∀ W,Below w.heap.size w W→∀ g:Bool,(g = false ↔ fewR ls)→Calls Tryz.prog 9 #[.slice A l c] W fun e w' => e = .returned (.bool g)∧W = w':=fun W hB g hg => by
  refine (great22_any A l c ls W hl hm (hr.belowS hB) hlen).mono ?_
  rintro e w' ⟨g2,rfl,rfl,h⟩
  refine ⟨?_,rfl⟩
  have:g2 = g:=by
   cases g with
   | false => exact h.2 (hg.1 rfl)
   | true =>
    cases g2 with
    | true => rfl
    | false => exact absurd (hg.2 (h.1 rfl)) (by decide)
  rw [this]
 by_cases hf:fewR ls
 ·have HG1:=fun W hB => HGR W hB false ⟨fun _ => hf,fun _ => rfl⟩
  by_cases hg:300 < s.size ∨ 300 < l1 ∨ 300 < l2
  ·exact recback_great s A1 A2 A l1 c1 l2 c2 l c lv false w hW (hg.imp id .inr) HG1
  ·cases hrt:rightB s.data.toList with
   | false => exact recback_no s A1 A2 A l1 c1 l2 c2 l c ls lv w hW (by omega) (by omega) (by omega) hl hr hf hrt HG1
   | true => exact recback_yes s A1 A2 A l1 c1 l2 c2 l c ls lv w H1 T1 hW hn1 hn2 hb1 hb2 (by omega) (by omega) (by omega) hl hr hf hrt HG1
 ·exact recback_great s A1 A2 A l1 c1 l2 c2 l c lv true w hW (.inr (.inl rfl)) (fun W hB => HGR W hB true ⟨fun h => (by cases h),fun h => absurd h hf⟩)
end Go.Proofs.YtaknladkodibaaaGreatDoor
