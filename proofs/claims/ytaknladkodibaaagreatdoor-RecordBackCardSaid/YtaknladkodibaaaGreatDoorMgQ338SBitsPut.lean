/- The contract of layer 3's Put. -/
import Derived.Test.YtaknladkodibaaaGreatDoorMgQ33816
import Derived.Test.YtaknladkodibaaaGreatDoorMgQ33809
import Derived.Deep.RegionHeld3
import Derived.Deep.DrawnRows
import Derived.Deep.LoopGhost
import Derived.StillTailTactics
import Derived.Deep.RegionLaw
namespace Go.Proofs.YtaknladkodibaaaGreatDoor
open Go.RowKit BitsP
attribute [local go_sem ↓] Go.wp_at_zero Go.wp_at_succ
theorem byteElem3:Elem Tryz.prog 25 5 (.int .u8 0) 1 1:=Elem.of Tryz.underlying25 (by kernel_rfl) rfl (by omega)
def WrB (w:World) (g:Nat) (A:Option Addr) (l c:Nat) (part more:Int):Prop:=w.heap[g]? = some (.cells #[.slice A l c,.int .u64 part,.int .i64 more] 114 (0,0))
theorem WrB.cells {w:World} {g:Nat} {A:Option Addr} {l c:Nat} {p m:Int} (h:WrB w g A l c p m) :
  w.cell? ⟨g,0,none⟩ = some (.slice A l c)∧w.cell? ⟨g,1,none⟩ = some (.int .u64 p)∧w.cell? ⟨g,2,none⟩ = some (.int .i64 m)∧w.frozen? ⟨g,0,none⟩ = false∧w.frozen? ⟨g,1,none⟩ = false∧w.frozen? ⟨g,2,none⟩ = false :=
 ⟨cell_of_row w g 0 _ _ _ h,cell_of_row w g 1 _ _ _ h,cell_of_row w g 2 _ _ _ h,frozen_of_row w g 0 _ _ h,frozen_of_row w g 1 _ _ h,frozen_of_row w g 2 _ _ h⟩
theorem WrB.set0 {w:World} {g:Nat} {A A':Option Addr} {l c l' c':Nat} {p m:Int} (h:WrB w g A l c p m):WrB (w.setCell ⟨g,0,none⟩ (.slice A' l' c')) g A' l' c' p m:=heap_setCell_same w g 0 _ _ _ h
theorem WrB.set1 {w:World} {g:Nat} {A:Option Addr} {l c:Nat} {p m q:Int} (h:WrB w g A l c p m):WrB (w.setCell ⟨g,1,none⟩ (.int .u64 q)) g A l c q m:=heap_setCell_same w g 1 _ _ _ h
theorem WrB.set2 {w:World} {g:Nat} {A:Option Addr} {l c:Nat} {p m q:Int} (h:WrB w g A l c p m):WrB (w.setCell ⟨g,2,none⟩ (.int .i64 q)) g A l c p q:=heap_setCell_same w g 2 _ _ _ h
theorem WrB.lt {w:World} {g:Nat} {A:Option Addr} {l c:Nat} {p m:Int} (h:WrB w g A l c p m):g < w.heap.size:=(Array.getElem?_eq_some_iff.1 h).1
def WrL (w:World) (g base:Nat) (S:Nat→Prop) (whole:List UInt8) (R:List Bool):Prop :=
 ∃ A c,WrB w g A whole.length c (num R:Nat) (R.length:Nat)∧OwnB w base 5 (.slice A whole.length c) whole.length whole∧S = orS (oneB g) (ownS (.slice A whole.length c))
def WrS (w:World) (g base:Nat) (S:Nat→Prop) (L:List Bool):Prop:=∃ whole R,Split L whole R∧WrL w g base S whole R
theorem put_shl {x more:Nat} (hx:x < 4294967296) (hm:more < 8):IntKind.u64.wrap ((x:Int) * 2 ^ more) = ((p2 more * x:Nat):Int):=by
 have h1:=p2_le (show more ≤ 7 by omega)
 have h2:p2 7 = 128:=rfl
 have h3:p2 more * x ≤ 128 * 4294967295:=Nat.mul_le_mul (by omega) (by omega)
 have e:(x:Int) * 2 ^ more = ((p2 more * x:Nat):Int):=by rw [pow_int,Nat.mul_comm];simp
 rw [e]
 exact IntWalk.u64_in _ (by omega)
theorem put_or {r x more:Nat} (hr:r < p2 more) (hx:x < 4294967296) (hm:more < 8):bits .or .u64 (r:Int) ((p2 more * x:Nat):Int) = ((r + p2 more * x:Nat):Int):=by
 have h1:=p2_le (show more ≤ 7 by omega)
 have h2:p2 7 = 128:=rfl
 have h3:p2 more * x ≤ 128 * 4294967295:=Nat.mul_le_mul (by omega) (by omega)
 rw [u64_or_nat _ _ (by omega) (by omega),Nat.or_comm]
 rw [p2_pow] at hr h3 ⊢
 rw [← Nat.two_pow_add_eq_or_of_lt hr,Nat.add_comm]
theorem own_sets {w:World} {g base:Nat} {A:Option Addr} {l c n:Nat} {xs:List UInt8} (h:OwnB w base 5 (.slice A l c) n xs) (hg:¬ ownS (.slice A l c) g) (u v x:Value) :
  OwnB (((w.setCell ⟨g,0,none⟩ u).setCell ⟨g,1,none⟩ v).setCell ⟨g,2,none⟩ x) base 5 (.slice A l c) n xs :=
 own_keep h (S:=oneB g) ((((Mod.refl (oneB g) w).set ⟨g,0,none⟩ u (.inl rfl)).set ⟨g,1,none⟩ v (.inl rfl)).set ⟨g,2,none⟩ x (.inl rfl)) (fun j hj (he:j = g) => hg (he ▸ hj))
theorem put_round {w wr w7:World} {g base:Nat} {S0:Nat→Prop} {wh:List UInt8} {R1:List Bool} {A1 A2:Option Addr} {c1 c2 r1:Nat}
  (hA:App wr base 5 1 (.slice A1 wh.length c1) (wh.length + 1) (byteCells wh++[Value.int .u8 (IntKind.u8.wrap (r1:Int))]) w7 (.slice A2 (wh.length + 1) c2))
  (hb:WrB wr g A1 wh.length c1 r1 R1.length) (hne:¬ ownS (.slice A1 wh.length c1) g) (hm:Mod S0 w wr) (hS:∀ j,orS (oneB g) (ownS (.slice A1 wh.length c1)) j→S0 j ∨ w.heap.size ≤ j)
  (hT:num (R1.take 8) = r1 % p2 8) (hD:num (R1.drop 8) = r1 / p2 8) (h8:8 ≤ R1.length) :
  ∃ (whole':List UInt8) (R':List Bool) (S':Nat→Prop),unpack whole'++R' = unpack wh++R1∧R'.length = R1.length - 8 ∧
   WrL (((w7.setCell ⟨g,0,none⟩ (.slice A2 (wh.length + 1) c2)).setCell ⟨g,1,none⟩ (.int .u64 ((r1:Int) / 256))).setCell ⟨g,2,none⟩ (.int .i64 ((R1.length:Int) - 8))) g base S' whole' R' ∧
   Mod S0 w (((w7.setCell ⟨g,0,none⟩ (.slice A2 (wh.length + 1) c2)).setCell ⟨g,1,none⟩ (.int .u64 ((r1:Int) / 256))).setCell ⟨g,2,none⟩ (.int .i64 ((R1.length:Int) - 8))) ∧
   ∀ j,S' j→S0 j ∨ w.heap.size ≤ j:=by
 have hlt8:(R1.take 8).length = 8:=by rw [List.length_take];omega
 have hl:(wh++[UInt8.ofNat (num (R1.take 8))]).length = wh.length + 1:=by simp
 have hb7:WrB w7 g A1 wh.length c1 r1 R1.length:=(Mod.of_app hA).keep hb hne
 have hne2:¬ ownS (.slice A2 (wh.length + 1) c2) g:=own_ne hA.own hb7 (by decide)
 have hm7:Mod S0 w w7:=hm.trans (Mod.of_app hA) (fun k hk => hS k (.inr hk))
 have hg:S0 g ∨ w.heap.size ≤ g:=hS g (.inl rfl)
 refine ⟨wh++[UInt8.ofNat (num (R1.take 8))],R1.drop 8,orS (oneB g) (ownS (.slice A2 (wh.length + 1) c2)),?_,by rw [List.length_drop],⟨A2,c2,?_,?_,by rw [hl]⟩,?_,?_⟩
 ·rw [unpack_append,unpack_one hlt8,List.append_assoc,List.take_append_drop]
 ·have:=((hb7.set0 (A':=A2) (l':=wh.length + 1) (c':=c2)).set1 (q:=(r1:Int) / 256)).set2 (q:=(R1.length:Int) - 8)
  rw [hl,hD,List.length_drop]
  have e1:((r1 / p2 8:Nat):Int) = (r1:Int) / 256:=by show ((r1 / 256:Nat):Int) = _;omega
  have e2:((R1.length - 8:Nat):Int) = (R1.length:Int) - 8:=by omega
  rw [e1,e2]
  exact this
 ·rw [hl]
  have e:byteCells wh++[Value.int .u8 (IntKind.u8.wrap (r1:Int))] = byteCells (wh++[UInt8.ofNat (num (R1.take 8))]):=by
   rw [byteCells_append]
   congr 1
   show _ = [Value.int .u8 (((UInt8.ofNat (num (R1.take 8))).toNat:Nat):Int)]
   have h2:p2 8 = 256:=rfl
   rw [hT,h2]
   congr 2
   rw [IntKind.wrap_u8]
   simp [UInt8.toNat_ofNat']
  have h:=own_sets (by have:=hA.own;rwa [e] at this) hne2 (.slice A2 (wh.length + 1) c2) (.int .u64 ((r1:Int) / 256)) (.int .i64 ((R1.length:Int) - 8))
  exact h
 ·exact ((hm7.set _ _ hg).set _ _ hg).set _ _ hg
 ·intro j hj
  rcases hj with rfl | hj
  ·exact hg
  ·rcases hA.place j hj with h | h
   ·exact hS j (.inr h)
   ·exact .inr (Nat.le_trans hm.size h)
set_option maxRecDepth 100000 in
set_option maxHeartbeats 1000000 in
theorem wput_any (g base:Nat) (S:Nat→Prop) (L:List Bool) (n b:Int) (w:World) (h:WrS w g base S L) (hL:L.length ≤ 1099511627776) (hbase:base ≤ w.heap.size)
  (n0:0 ≤ n) (n1:n < 4294967296) (b0:-9223372036854775808 ≤ b) (b1:b ≤ 9223372036854775807) :
  Calls Tryz.prog 155 #[.pointer (some ⟨g,0,none⟩),.int .u32 n,.int .i64 b] w fun e w' => e = .returned (.tuple #[])∧∃ S',WrS w' g base S' (L++bitsOf n.toNat (cnt b))∧Mod S w w'∧∀ k,S' k→S k ∨ w.heap.size ≤ k:=by
 obtain ⟨m,rfl⟩:=Int.eq_ofNat_of_zero_le n0
 rw [Int.toNat_natCast]
 have hm:m < 4294967296:=by omega
 obtain ⟨whole,R,hsp,A,c,hb,hown,rfl⟩:=h
 have HCNT:=Lib.hid (fun W => count3_any b W b0 b1)
 have hc32:=cnt_le b
 clear n0 n1 b0 b1
 generalize cnt b = q at *
 have HLOW:=Lib.hid (fun W => low_any (m:Int) q W (by omega) (by omega) hc32)
 rw [Int.toNat_natCast] at HLOW
 have HB:=Lib.hid hb
 obtain ⟨c0,c1,c2,f0,f1,f2⟩:=hb.cells
 have hR:=hsp.2
 have HOWN:=Lib.hid hown
 have HSP:=Lib.hid hsp
 have hnum:=num_lt R
 have hlen:=hsp.length
 have hxq:m % p2 q < 4294967296:=Nat.lt_of_le_of_lt (Nat.mod_le _ _) hm
 have HX:=Lib.hid (num_bitsOf m q)
 have HXL:=Lib.hid (num_append R (bitsOf m q))
 rw [HX.out] at HXL
 clear hb hown hsp
 generalize num R = r at *
 generalize hrl:R.length = k at *
 have HRL:=Lib.hid hrl
 clear hrl
 have HV:=Lib.hid (put_or hnum hxq hR)
 rw [HXL.out.symm] at HV
 have hsh:=put_shl hxq hR
 generalize m % p2 q = x at *
 generalize p2 k * x = y at *
 have hw:IntKind.i64.wrap ((k:Int) + (q:Int)) = (k:Int) + q:=IntWalk.i64_in _ (by omega)
 have hw64:IntKind.u64.wrap (m:Int) = (m:Int):=IntWalk.u64_in _ (by omega)
 go_enter Tryz.func155,Tryz.ntmps155
 go_wp2
 have hc0:=c0
 go_still_tail 17,(by kernel_rfl)
 still_call (still_of (HCNT.out _))
 repeat still_step
 still_call (still_of (HLOW.out _))
 repeat still_step
 refine wpStill_nil ?_
 change wpList _ _ _ _ _ w.drew
 have HB1:Hid (WrB w.drew g A whole.length c r k):=HB.out
 have HMOD:=Lib.hid ((Mod.refl (orS (oneB g) (ownS (.slice A whole.length c))) w).drew)
 have HOWN1:=Lib.hid HOWN.out.drew
 clear HB HOWN c0 c1 c2 f0 f1 f2
 generalize w.drew = w1 at *
 obtain ⟨c0,c1,c2,f0,f1,f2⟩:=HB1.out.cells
 go_wp2
 have HB2:Hid (WrB (w1.setCell ⟨g,1,none⟩ (.int .u64 (bits .or .u64 (r:Int) (y:Int)))) g A whole.length c (num (R++bitsOf m q):Nat) k):=by
  have:=HB1.out.set1 (q:=bits .or .u64 (r:Int) (y:Int))
  rw [HV.out] at this
  rw [HV.out]
  exact this
 have HMOD2:=Lib.hid (HMOD.out.set ⟨g,1,none⟩ (.int .u64 (bits .or .u64 (r:Int) (y:Int))) (.inl (.inl rfl)))
 have HOWN2:Hid (OwnB (w1.setCell ⟨g,1,none⟩ (.int .u64 (bits .or .u64 (r:Int) (y:Int)))) base 5 (.slice A whole.length c) whole.length whole) :=
  own_keep HOWN1.out (S:=oneB g) ((Mod.refl _ _).set _ _ (.inl rfl)) (fun j hj (he:j = g) => own_ne HOWN1.out HB1.out (by decide) (he ▸ hj))
 clear HB1 HMOD HOWN1 c0 c1 c2 f0 f1 f2
 generalize w1.setCell ⟨g,1,none⟩ (.int .u64 (bits .or .u64 (r:Int) (y:Int))) = w2 at *
 obtain ⟨c0,c1,c2,f0,f1,f2⟩:=HB2.out.cells
 clear c0 c1 f0 f1
 go_still_tail 9,(by kernel_rfl)
 still_call (still_of (HCNT.out _))
 repeat still_step
 refine wpStill_nil ?_
 change wpList _ _ _ _ _ w2.drew
 have HB3:Hid (WrB w2.drew g A whole.length c (num (R++bitsOf m q):Nat) k):=HB2.out
 have HMOD3:=Lib.hid HMOD2.out.drew
 have HOWN3:=Lib.hid HOWN2.out.drew
 clear HB2 HMOD2 HOWN2 c2 f2
 generalize w2.drew = w3 at *
 obtain ⟨c0,c1,c2,f0,f1,f2⟩:=HB3.out.cells
 clear c0 c1 f0 f1
 go_wp2
 have HB4:=Lib.hid (HB3.out.set2 (q:=(k:Int) + (q:Int)))
 have HMOD4:=Lib.hid (HMOD3.out.set ⟨g,2,none⟩ (.int .i64 ((k:Int) + (q:Int))) (.inl (.inl rfl)))
 have HOWN4:Hid (OwnB (w3.setCell ⟨g,2,none⟩ (.int .i64 ((k:Int) + (q:Int)))) base 5 (.slice A whole.length c) whole.length whole) :=
  own_keep HOWN3.out (S:=oneB g) ((Mod.refl _ _).set _ _ (.inl rfl)) (fun j hj (he:j = g) => own_ne HOWN3.out HB3.out (by decide) (he ▸ hj))
 clear HB3 HMOD3 HOWN3 c2 f2
 generalize w3.setCell ⟨g,2,none⟩ (.int .i64 ((k:Int) + (q:Int))) = w4 at *
 have HJ:Hid (unpack whole++(R++bitsOf m q) = L++bitsOf m q):=by
  show _ = _
  rw [← List.append_assoc,← HSP.out.1]
 have HRQ:Hid ((R++bitsOf m q).length = k + q):=by show _ = _;rw [List.length_append,bitsOf_length,HRL.out]
 have hl9:L.length + q ≤ 1099511627808:=by omega
 clear hw hw64 hsh hxq hnum hlen hR HV HXL HX HLOW HCNT HSP HRL
 go_loopg [34] (k + q) (fun gk _ wr => ∃ (whole':List UInt8) (R':List Bool) (S':Nat→Prop),unpack whole'++R' = L++bitsOf m q∧R'.length = gk∧WrL wr g base S' whole' R'∧Mod (orS (oneB g) (ownS (.slice A whole.length c))) w wr∧(∀ j,S' j→orS (oneB g) (ownS (.slice A whole.length c)) j ∨ w.heap.size ≤ j))
 case atStart => exact ⟨whole,_,_,HJ.out,HRQ.out,⟨A,c,by rw [HRQ.out];exact HB4.out,HOWN4.out,rfl⟩,HMOD4.out,fun j hj => .inl hj⟩
 case round =>
  obtain ⟨wh,R1,S1,hj,hrl,⟨A1,c1,hb1,hown1,rfl⟩,hmod,hS⟩:=hrel
  subst hrl
  have HJ1:=Lib.hid hj
  have HB5:=Lib.hid hb1
  have HOWN5:=Lib.hid hown1
  have HMOD5:=Lib.hid hmod
  have HS:=Lib.hid hS
  have hlj:8 * wh.length + R1.length ≤ 1099511627808:=by
   have:=congrArg List.length hj
   rw [List.length_append,List.length_append,unpack_length,bitsOf_length] at this
   omega
  clear hj hb1 hown1 hmod hS HB4 HOWN4 HMOD4 HJ HRQ
  obtain ⟨c0,c1',c2,f0,f1,f2⟩:=HB5.out.cells
  by_cases h8:8 ≤ R1.length
  ·have HT:=Lib.hid (num_take R1 8)
   have HD:=Lib.hid (num_drop R1 8)
   have hge:decide ((8:Int) ≤ (R1.length:Int)) = true:=by simp;omega
   generalize num R1 = r1 at *
   have HRL1:Hid (R1 = R1.take 8++R1.drop 8):=(List.take_append_drop 8 R1).symm
   have hlt8:(R1.take 8).length = 8:=by rw [List.length_take];omega
   have hld8:(R1.drop 8).length = R1.length - 8:=by rw [List.length_drop]
   have HL8:=Lib.hid hlt8
   have HD8:=Lib.hid hld8
   clear hlt8 hld8
   go_wp2
   have HNE:Hid (¬ ownS (.slice A1 wh.length c1) g):=own_ne HOWN5.out HB5.out (by decide)
   have hbase6:base ≤ wr.heap.size:=Nat.le_trans hbase HMOD5.out.size
   have ca0:∀ o,(wr.alloc o).cell? ⟨g,0,none⟩ = some (.slice A1 wh.length c1):=fun o => (World.cell?_alloc_lt wr o _ HB5.out.lt).trans c0
   go_region_law (refine step_app1 wr byteElem3 (by rfl) (.tmp 43) (.tmp 49) (by rfl) base (.slice A1 wh.length c1) wh.length (byteCells wh) (by rfl) HOWN5.out _ (by rfl) (by rfl) (by simp [Value.oneCell']) (by unfold maxLen;omega) (by omega) hbase6 ?_;intro A2 c2 w7 hA;have HA:=Lib.hid hA;clear hA;have HB7:Hid (WrB w7 g A1 wh.length c1 r1 R1.length):=(Mod.of_app HA.out).keep HB5.out HNE.out;obtain ⟨c0,c1',c3,f0,f1,f2⟩:=HB7.out.cells)
   all_goals
    have HB8:=Lib.hid ((((HB7.set0 (A':=A2) (l':=wh.length + 1) (c':=c2)).set1 (q:=(r1:Int) / 256)).set2 (q:=(R1.length:Int) - 8)))
    clear HB7
    go_wp2
    go_roundg (R1.length - 8)
    case measure => omega
    case rel =>
     obtain ⟨wh',R',S',e1,e2⟩:=put_round HA.out HB5.out HNE.out HMOD5.out HS.out HT.out HD.out h8
     exact ⟨wh',R',S',e1.trans HJ1.out,e2⟩
  ·have hge:decide ((8:Int) ≤ (R1.length:Int)) = false:=by simp;omega
   go_wp2
   go_end0
   exact ⟨rfl,_,⟨wh,R1,⟨HJ1.out.symm,by omega⟩,A1,c1,HB5.out,HOWN5.out,rfl⟩,HMOD5.out,HS.out⟩
end Go.Proofs.YtaknladkodibaaaGreatDoor
