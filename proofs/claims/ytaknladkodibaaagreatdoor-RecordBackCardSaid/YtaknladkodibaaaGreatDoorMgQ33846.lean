/- Layer 9: the parts, as their iterator tells them. -/
import Derived.Test.YtaknladkodibaaaGreatDoorMgQ33840
import Derived.Test.YtaknladkodibaaaGreatDoorMgQ338SKpB
import Derived.Maps.AppendAt
import Derived.Deep.Cut
import Derived.Deep.CutBlock
import Derived.Deep.DeepCutAuto
import Derived.Deep.RegionLaw
namespace Go.Proofs.YtaknladkodibaaaGreatDoor
open Go.RowKit Go.Shelf
attribute [local go_sem] Oper.semAt_some
def ptV (t:Nat × Nat):Value:=.agg #[.int .i64 (t.1:Int),.int .i64 (t.2:Int)]
theorem partsP_len (ls:List Nat):∀ k p,ls.length - p ≤ k→(partsP ls p).length ≤ ls.length - p
 | 0,p,h => by rw [partsP_end (by omega)];exact Nat.zero_le _
 | k + 1,p,h => by
  by_cases hp:p < ls.length
  ·have h1:=manyP_pos hp
   have ih:=partsP_len ls k (p + manyP ls p) (by omega)
   have h2:=many_le hp
   rw [partsP_step hp,List.length_cons]
   omega
  ·rw [partsP_end hp]
   exact Nat.zero_le _
theorem cells_kpb {W W':World} {n B:Nat} {A:Option Addr} {xs:List Value} (h:Cells W W.heap.size A xs) (hk:KpB n B W W') (hA:∀ a,A = some a→a.block ≠ B∧ownOf B W ≠ some a.block):Cells W' W'.heap.size A xs:=fun hp => by
 obtain ⟨b,o,rfl,hb,hc⟩:=h hp
 obtain ⟨h1,h2⟩:=hA _ rfl
 refine ⟨b,o,rfl,Nat.lt_of_lt_of_le hb hk.size,fun j u hu => ?_⟩
 have h3:=hc j u hu
 obtain ⟨ob,hob⟩:∃ ob,W.heap[b]? = some ob:=⟨_,Array.getElem?_eq_getElem hb⟩
 have h4:ob.isCells = true:=by
  unfold World.cell? at h3
  rw [hob] at h3
  cases ob <;> first | rfl | cases h3
 rw [← h3]
 exact World.cell?_of_block (a:=⟨b,o + j,none⟩) ((hk.cells b ob hob h4 h1 h2).trans hob.symm)
abbrev PtIn (ls:List Nat):={ t:Nat × Nat // t ∈ partsP ls 0 }
set_option maxRecDepth 100000 in
set_option maxHeartbeats 2000000 in
theorem parts_seqS (n B bx:Nat) (A:Option Addr) (l c:Nat) (ls:List Nat) (w0:World) (hl:ls.length = l) (hm:l ≤ 320) (hv:∀ x ∈ ls,x ≤ 15) (hb:Cells w0 w0.heap.size A (nCs ls)) (hn:n ≤ w0.heap.size) (hB:B < w0.heap.size) (hBx:bx ≠ B)
  (hA:∀ a,A = some a→a.block ≠ B) (hown:∀ k,ownOf B w0 = some k→k ≠ bx∧k < w0.heap.size∧∀ a,A = some a→a.block ≠ k) (h1:Boxed w0 bx 156 (.slice A l c)) :
  SeqStopsK Fence.wide 5 Tryz.prog 220 #[.pointer (some ⟨bx,0,none⟩)] (fun t:PtIn ls => #[ptV t.1]) (KpB n B) (fun xs => xs.map (·.1) = partsP ls 0) (fun pre => pre.map (·.1) <+: partsP ls 0) 321 w0:=by
 intro gy J Jx W hbl hJ hJx hY h0
 have HL:=Lib.hid hl
 have h1W:Boxed W bx 156 (.slice A l c):=(hbl.block bx h1.lt).trans h1
 have hbW:=(hb.below hbl (Nat.le_refl _)).more hbl.size
 have hoW:∀ k,ownOf B W = some k→k ≠ bx∧k < W.heap.size∧∀ a,A = some a→a.block ≠ k:=fun k hk => by
  rw [ownOf_block (hbl.block B hB)] at hk
  have h1:=hown k hk
  have h2:=hbl.size
  exact ⟨h1.1,by omega,h1.2.2⟩
 have c1:W.cell? ⟨bx,0,none⟩ = some (.slice A l c):=h1W.cell
 have HBW:Hid (B < W.heap.size∧n ≤ W.heap.size∧bx < W.heap.size):=⟨Nat.lt_of_lt_of_le hB hbl.size,Nat.le_trans hn hbl.size,h1W.lt⟩
 have HY:=Lib.hid hY
 have H1:=Lib.hid h1W
 have HBY:=Lib.hid hbW
 have HOW:=Lib.hid hoW
 have HV:=Lib.hid hv
 clear h1 hb hown hl hY h1W hbW hoW hbl hn hB hv
 refine callsIn_of_wp Tryz.func220 rfl trivial ?_ rfl
 simp only [Tryz.ntmps220,List.size_toArray,List.length_cons,List.length_nil,Nat.reduceAdd,Nat.reduceSub,Array.replicate_succ,Array.replicate_zero,List.push_toArray,List.append_toArray,List.nil_append,List.cons_append]
 gi_wp2
 gi_loopw [3] (fun i wr => ∃ (p:Nat) (pre:List (PtIn ls)),i = .int .i64 (p:Int)∧partsP ls 0 = pre.map (·.1)++partsP ls p∧p ≤ l∧Boxed wr bx 156 (.slice A l c)∧Cells wr wr.heap.size A (nCs ls) ∧
  (∀ k,ownOf B wr = some k→k ≠ bx∧k < wr.heap.size∧∀ a,A = some a→a.block ≠ k)∧B < wr.heap.size∧n ≤ wr.heap.size∧J pre wr) (fun i _ => l - (intOf i).toNat)
 case atStart => exact ⟨0,[],rfl,rfl,Nat.zero_le _,H1.out,HBY.out,HOW.out,HBW.out.1,HBW.out.2.1,h0⟩
 case round =>
  obtain ⟨p,pre,rfl,htk,hpl,g1,hby,hown,hB,hnz,hJs⟩:=hrel
  have d1:wr.cell? ⟨bx,0,none⟩ = some (.slice A l c):=g1.cell
  have HT:=Lib.hid htk
  clear htk c1
  by_cases hp:p < l
  ·have HTS:=Lib.hid (partsP_step (ls:=ls) (p:=p) (by rw [HL.out];exact hp))
   have hm1:=manyP_pos (ls:=ls) (p:=p) (by rw [HL.out];exact hp)
   have hm2:=many_le (ls:=ls) (p:=p) (by rw [HL.out];exact hp)
   rw [HL.out] at hm2
   have HPT:=Lib.hid (part_any A l c p ls wr.heap.size wr HL.out (by omega) hp hby (Nat.le_refl _) HV.out)
   obtain ⟨tn,htn⟩:∃ tn,numP ls p = tn:=⟨_,rfl⟩
   obtain ⟨td,htd⟩:∃ td,manyP ls p = td:=⟨_,rfl⟩
   rw [htn,htd] at HTS HPT
   rw [htd] at hm1 hm2
   have G1:=Lib.hid g1
   have GB:=Lib.hid hby
   have GO:=Lib.hid hown
   clear htn htd g1 hby hown
   have u1:decide ((p:Int) < (l:Int)) = true:=by simp;omega
   gi_wp2_with (refine ⟨trivial,?_⟩;gi_at_call 221;refine (callsIn_wide.2 HPT.out).mono ?_;rintro e w5 ⟨rfl,hb5⟩;have HB5:=Lib.hid hb5;clear hb5)
   obtain ⟨W6,hW6⟩:∃ W6,w5.alloc (.cells #[.int .i64 (tn:Int),.int .i64 (td:Int)] 277) = W6:=⟨_,rfl⟩
   have HB6:Hid (Below wr.heap.size wr W6):=by show Below _ _ _;rw [← hW6];exact HB5.out.alloc HB5.out.size _
   have HZ6:Hid (W6.heap.size = w5.heap.size + 1):=by show _ = _;rw [← hW6];simp
   have HX6:Hid (W6.heap[w5.heap.size]? = some (.cells #[.int .i64 (tn:Int),.int .i64 (td:Int)] 277)):=by show _ = _;rw [← hW6];exact heap_alloc_new w5 _
   have hJ6:J pre W6:=abidesBelow hJ hJs HB6.out
   have hmem:(tn,td) ∈ partsP ls 0:=by
    rw [HT.out,HTS.out]
    simp
   have HPE:Hid (partsP ls 0 = (pre++[(⟨(tn,td),hmem⟩:PtIn ls)]).map (·.1)++partsP ls (p + td)):=by
    show _ = _
    refine HT.out.trans ?_
    rw [HTS.out]
    simp
   have hlen:pre.length < 321:=by
    have h:=partsP_len ls ls.length 0 (by omega)
    have:=HL.out
    rw [HT.out,List.length_append,List.length_map] at h
    omega
   obtain ⟨fn,tmps,assign,body,hy,hR⟩:=HY.out pre ⟨(tn,td),hmem⟩ W6 hJ6 hlen
   simp only [ptV] at hy
   have HR:=Lib.hid hR
   have HOB:Hid (ownOf B W6 = ownOf B wr):=ownOf_block (HB6.out.block B hB)
   have HBS:Hid (bx < wr.heap.size):=G1.out.lt
   clear hR hJ6
   rw [hW6,hy]
   clear hW6
   first | gi_upon | gi_wp2
   refine HR.out.mono ?_
   rintro ee W3 (⟨rfl,hJ3,hk3⟩ | ⟨rfl,hJx3⟩)
   ·have hbs:=HBS.out
    have m1:=hk3.cells bx _ ((HB6.out.block _ hbs).trans G1.out) rfl hBx (fun e => by rw [HOB.out] at e;exact (GO.out bx e).1 rfl)
    have hx5:=HB5.out.size
    have m5:=hk3.cells w5.heap.size _ HX6.out rfl (by omega) (fun e => by rw [HOB.out] at e;have:=(GO.out _ e).2.1;omega)
    have MB:=Lib.hid (cells_kpb ((GB.out.below HB6.out (Nat.le_refl _)).more HB6.out.size) hk3 (fun a ha => ⟨hA a ha,fun e => by rw [HOB.out] at e;exact (GO.out _ e).2.2 a ha rfl⟩))
    have MO:Hid (∀ k,ownOf B W3 = some k→k ≠ bx∧k < W3.heap.size∧∀ a,A = some a→a.block ≠ k):=fun k hk => by
     have hz6:=HZ6.out
     have hs3:=hk3.size
     obtain ⟨o1,o2⟩:=hk3.own k hk
     rw [HOB.out] at o1 o2
     rcases o1 with o1 | o1
     ·have h1:=GO.out k o1
      exact ⟨h1.1,by omega,h1.2.2⟩
     ·rcases o2 with o2 | o2
      ·have h1:=GO.out k o2
       exact ⟨h1.1,by omega,h1.2.2⟩
      ·refine ⟨by omega,by omega,fun a ha => ?_⟩
       obtain ⟨b,o,hab,hbl2,_⟩:=GB.out (by rw [nCs_len,HL.out];omega)
       rw [ha] at hab
       cases hab
       show b ≠ k
       have:=HB5.out.size
       omega
    have MZ:Hid (B < W3.heap.size∧n ≤ W3.heap.size∧bx < W3.heap.size):=by
     have hz6:=HZ6.out
     have hs3:=hk3.size
     show _∧_∧_
     omega
    have k1':W3.cell? ⟨w5.heap.size,1,none⟩ = some (.int .i64 (td:Int)):=cell_of_row W3 _ 1 _ _ _ m5
    have M1:=Lib.hid m1
    have HJ3:=Lib.hid hJ3
    clear m1 m5 hJ3 hk3
    gi_wp2
    refine ⟨⟨p + td,pre++[⟨(tn,td),hmem⟩],by go_num,HPE.out,hm2,M1.out,MB.out,MO.out,MZ.out.1,MZ.out.2.1,HJ3.out⟩,?_⟩
    simp [intOf]
    omega
   ·gi_wp2
    refine bodyPost_ret (results_none rfl _ _ _) rfl ?_
    exact ⟨⟨_,rfl⟩,.inr ⟨pre++[⟨(tn,td),hmem⟩],⟨_,HPE.out.symm⟩,hJx3⟩⟩
  ·have HE:=Lib.hid (partsP_end (ls:=ls) (p:=p) (by rw [HL.out];omega))
   have t0:decide ((p:Int) < (l:Int)) = false:=decide_eq_false (by omega)
   clear g1 hby hown
   gi_wp2
   go_end0
   exact ⟨⟨_,rfl⟩,.inl ⟨pre,by refine Eq.symm (HT.out.trans ?_);rw [HE.out,List.append_nil],hJs⟩⟩
end Go.Proofs.YtaknladkodibaaaGreatDoor
namespace Go.Proofs.YtaknladkodibaaaGreatDoor
open Go.RowKit Go.Shelf
theorem parts_few (ls:List Nat):(partsP ls 0).length ≤ ls.length:=by
 have:=partsP_len ls ls.length 0 (by omega)
 omega
theorem nCs_ic (ls:List Nat):(ls.map (fun n:Nat => (n:Int))).map ic = nCs ls:=by
 rw [List.map_map]
 rfl
theorem all_right {ls:List Nat} (hv:∀ x ∈ ls,x ≤ 15):(ls.map (fun n:Nat => (n:Int))).all lenB = true:=by
 rw [List.all_eq_true]
 intro x hx
 obtain ⟨n,hn,rfl⟩:=List.mem_map.1 hx
 have:=hv n hn
 simp [lenB]
 omega
end Go.Proofs.YtaknladkodibaaaGreatDoor
namespace Go.Proofs.YtaknladkodibaaaGreatDoor
open Go.RowKit
end Go.Proofs.YtaknladkodibaaaGreatDoor
namespace Go.Proofs.YtaknladkodibaaaGreatDoor
open Go.RowKit Go.Shelf
def PB (W:World) (g:Nat) (t:Nat × Nat):Prop:=W.heap[g]? = some (.cells #[.int .i64 (t.1:Int),.int .i64 (t.2:Int)] 242 (0,0))
section
variable {W:World} {g:Nat} {t:Nat × Nat}
theorem PB.c0 (h:PB W g t):W.cell? ⟨g,0,none⟩ = some (.int .i64 (t.1:Int)):=cell_of_row W g 0 _ _ _ h
theorem PB.c1 (h:PB W g t):W.cell? ⟨g,1,none⟩ = some (.int .i64 (t.2:Int)):=cell_of_row W g 1 _ _ _ h
theorem PB.f0 (h:PB W g t) (i:Nat):W.frozen? ⟨g,i,none⟩ = false:=frozen_of_row W g i _ _ h
theorem PB.set (h:PB W g t) (a b:Nat):PB ((W.setCell ⟨g,0,none⟩ (.int .i64 (a:Int))).setCell ⟨g,1,none⟩ (.int .i64 (b:Int))) g (a,b):=by
 have h1:=heap_setCell_same _ g 1 _ _ (.int .i64 (b:Int)) (heap_setCell_same W g 0 _ _ (.int .i64 (a:Int)) h)
 exact h1
theorem PB.set1 (h:PB W g t) (b:Nat):PB (W.setCell ⟨g,1,none⟩ (.int .i64 (b:Int))) g (t.1,b):=by
 have h1:=heap_setCell_same W g 1 _ _ (.int .i64 (b:Int)) h
 exact h1
end
end Go.Proofs.YtaknladkodibaaaGreatDoor
