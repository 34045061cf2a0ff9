/- Layer 14: codec.Pieces of the bytes 0 0: no piece, and the end. -/
import Derived.Test.YtaknladkodibaaaGreatDoorMgQ33821
import Derived.Test.YtaknladkodibaaaGreatDoorMgQ33819
import Derived.Test.YtaknladkodibaaaGreatDoorMgQ33824
import Derived.Lib.OthersKept
import Derived.Laws.RangeAny
import Derived.Test.YtaknladkodibaaaGreatDoorMgQ338SKpB
import Derived.Maps.AppendAt
namespace Go.Proofs.YtaknladkodibaaaGreatDoor
open Go.RowKit Go.Shelf CrcP FieldP
set_option maxHeartbeats 1000000 in
theorem pieces_any (g:Nat) (w:World) :
  Calls Tryz.prog 127 #[.pointer (some ⟨g,0,none⟩)] w fun e w' => e = .returned (.func (.func 171) #[] #[.pointer (some ⟨w.heap.size,0,none⟩)]) ∧
   w.alloc (.cells #[.pointer (some ⟨g,0,none⟩)] 137) = w':=by
 go_enter Tryz.func127,Tryz.ntmps127
 go_wp2
 go_ret
 exact ⟨rfl,rfl⟩
theorem only_undrew {g:Nat} {w w':World} (h:Only g w.drew w'):Only g w w':=⟨h.os,h.tape,h.output,h.size,h.block⟩
theorem only_trans' {g:Nat} {w w1 w2:World} (h:Only g w w1) (h':Only g w1 w2):Only g w w2:=⟨h'.os.trans h.os,h'.tape.trans h.tape,h'.output.trans h.output,Nat.le_trans h.size h'.size,fun k hk hne => (h'.block k (Nat.lt_of_lt_of_le hk h.size) hne).trans (h.block k hk hne)⟩
theorem bytes_only {g:Nat} {w w':World} {A:Option Addr} {B:Nat} {bs:List UInt8} (hb:Bytes w B A bs) (h:Only g w w') (hB:B ≤ w.heap.size) (hg:B ≤ g):Bytes w' B A bs :=
 Cells.below (B':=B) hb ⟨h.os,h.tape,h.output,h.size,fun k hk => h.block k (by omega) (by simp;omega)⟩ (Nat.le_refl _)
end Go.Proofs.YtaknladkodibaaaGreatDoor
namespace Go.Proofs.YtaknladkodibaaaGreatDoor
open Go.RowKit CrcP FieldP
attribute [local go_sem ↓] Go.wp_at_zero Go.wp_at_succ
end Go.Proofs.YtaknladkodibaaaGreatDoor
namespace Go.Proofs.YtaknladkodibaaaGreatDoor
open Go.RowKit Go.Shelf CrcP FieldP
attribute [local go_sem] Oper.semAt_some
theorem abidesOnly {α:Type} {B g:Nat} {J:List α→World→Prop} (h:AbidesS B (fun k => k = g) J) {s:List α} {W W':World} (hj:J s W) (hb:Only g W W'):J s W' :=
 h s W W' (some g) hj ⟨hb.os,hb.tape,hb.output,hb.size,fun k hk hn => hb.block k hk hn⟩ (fun r e => by cases e;exact .inl rfl)
abbrev PcV:=List UInt8 × Option Addr × Nat
def pcE (x:PcV):Array Value:=#[.slice x.2.1 x.1.length x.2.2]
def pcX (x:PcV) (W:World):Prop:=Bytes W W.heap.size x.2.1 x.1∧x.1.length ≤ 1000000
def pAt (g:Nat) (W:World):Nat:=match W.cell? ⟨g,1,none⟩ with
 | some (.int _ p) => p.toNat
 | _ => 0
theorem pAt_of {w:World} {g:Nat} {A:Option Addr} {l c:Nat} {st:RSt} (h:RdK w g A l c st):pAt g w = st.p:=by
 obtain ⟨_,c1,_⟩:=Rd.cells h
 unfold pAt
 rw [c1]
 simp
theorem only_block {g k:Nat} {w w':World} {o:Obj} (h:Only g w w') (hk:w.heap[k]? = some o) (hne:k ≠ g):w'.heap[k]? = some o:=(h.block k (Array.getElem?_eq_some_iff.1 hk).1 (by simpa using hne)).trans hk
set_option maxRecDepth 100000 in
set_option maxHeartbeats 800000 in
theorem pieces_seq (n B g bx:Nat) (A:Option Addr) (l c:Nat) (bs:List UInt8) (w0:World) (hl:bs.length = l) (hm:l ≤ 1000000) (hcap:l ≤ c) (hb:Bytes w0 n A bs) (hn:n ≤ g) (hgB:g ≠ B) (hxB:bx ≠ B) (hgx:g ≠ bx) (hBl:B < w0.heap.size) (hown:ownOf B w0 = none)
  (hx:Box w0 bx #[.pointer (some ⟨g,0,none⟩)] 137) (hr:RdK w0 g A l c ⟨0,false⟩) :
  SeqR Fence.wide 5 Tryz.prog 171 #[.pointer (some ⟨bx,0,none⟩)] pcE (KpB n B) (fun k => k = g) (fun xs => xs.map (·.1) = (pcA bs).1) (fun _ => True) pcX
   (fun _ W => ∃ st,RdK W g A l c st∧FinP l st (pcA bs).2) (l + 1) w0:=by
 intro gy J Jx W hbl hJ hJx hY h0
 have HL:=Lib.hid hl
 have HXW:Hid (Box W bx #[.pointer (some ⟨g,0,none⟩)] 137):=(hbl.block bx hx.lt).trans hx
 have HRW:Hid (RdK W g A l c ⟨0,false⟩):=(hbl.block g hr.lt).trans hr
 have hnz:n ≤ w0.heap.size:=by have:=hr.lt;omega
 have HBY:=Lib.hid (hb.below (hbl.mono hnz) (Nat.le_refl _))
 have HOW:Hid (ownOf B W = none):=(ownOf_block (hbl.block B hBl)).trans hown
 have HSZ:Hid (bx < W.heap.size∧g < W.heap.size∧B < W.heap.size∧n ≤ W.heap.size):=⟨HXW.out.lt,HRW.out.lt,by have:=hbl.size;omega,by have:=hbl.size;omega⟩
 have HY:=Lib.hid hY
 have HJ:=Lib.hid hJ
 have HCAP:=Lib.hid hcap
 clear hx hr hb hbl hown hBl hnz hY hJ hcap
 refine callsIn_of_wp Tryz.func171 rfl trivial ?_ rfl
 simp only [Tryz.ntmps171,List.size_toArray,List.length_cons,List.length_nil,Nat.reduceAdd,Nat.reduceSub,Array.replicate_succ,Array.replicate_zero,List.push_toArray,List.append_toArray,List.nil_append,List.cons_append]
 gi_wp2
 gi_loopw [3] (fun _ wr => ∃ (st:RSt) (pre:List PcV) (k:Nat),RdK wr g A l c st∧st.bad = false∧st.p ≤ l∧l - st.p < k∧pcA bs = (pre.map (·.1)++(pcL k (bs.drop st.p)).1,(pcL k (bs.drop st.p)).2) ∧
  Box wr bx #[.pointer (some ⟨g,0,none⟩)] 137∧Bytes wr n A bs∧W.heap.size ≤ wr.heap.size∧(∀ k,ownOf B wr = some k→W.heap.size ≤ k∧k < wr.heap.size)∧pre.length ≤ st.p∧J pre wr) (fun _ wr => l - pAt g wr)
 case atStart =>
  exact ⟨⟨0,false⟩,[],l + 1,HRW.out,rfl,Nat.zero_le _,by dsimp only;omega,by unfold pcA;rw [HL.out];rfl,HXW.out,HBY.out,Nat.le_refl _,(fun k hk => by rw [HOW.out] at hk;cases hk),Nat.le_refl _,h0⟩
 case round =>
  obtain ⟨st,pre,k,hr5,hbad,hp,hk,hpc,hx5,hb5,hs5,ho5,hpre,hJ5⟩:=hrel
  obtain ⟨k,rfl⟩:∃ k',k = k' + 1:=⟨k - 1,by omega⟩
  obtain ⟨⟨n1,s1⟩,h1⟩:∃ q,st.num bs 2 = q:=⟨_,rfl⟩
  obtain ⟨⟨r,s2⟩,h2⟩:∃ q,s1.row bs n1 = q:=⟨_,rfl⟩
  have hn1:n1 < 4294967296:=by have:=num_lt (bs:=bs) (s:=st) (k:=2) (by omega);rw [h1] at this;exact this
  have hs1:s1.p ≤ l:=by have:=num_le (bs:=bs) (s:=st) (k:=2) (by rw [hl];exact hp);rw [h1,hl] at this;exact this
  have hrd:=pc_round (bs:=bs) (st:=st) (k:=k) hbad (by rw [hl];exact hp) h1 h2
  have x0:wr.drew.cell? ⟨bx,0,none⟩ = some (.pointer (some ⟨g,0,none⟩)):=hx5.cell 0
  have HN:Hid (Calls Tryz.prog 88 #[.pointer (some ⟨g,0,none⟩),.int .i64 2] wr.drew fun e w' => e = .returned (.int .u32 (n1:Int))∧RdK w' g A l c s1∧Only g wr.drew w'):=by
   have:=number_st g A l c bs n st 2 2 wr.drew hr5 hl (by omega) hp (by omega) (by omega) rfl hb5
   rw [h1] at this
   exact this
  have HYB:Hid (∀ V,RdK V g A l c s1→Bytes V n A bs→n ≤ V.heap.size→Calls Tryz.prog 89 #[.pointer (some ⟨g,0,none⟩),.int .i64 (n1:Int)] V fun e w' => ∃ A' k,e = .returned (.slice A' r.length k)∧OwnB w' V.heap.size 5 (.slice A' r.length k) r.length r∧RdK w' g A l c s2∧Only g V w'):=fun V hv1 hv2 hv3 => by
   have:=bytes_st g A l c bs n s1 n1 V hv1 hl (by omega) HCAP.out hs1 hv2 hv3
   rw [h2] at this
   refine this.mono ?_
   rintro e w' ⟨A',m,k,rfl,ho,hr',hn'⟩
   obtain rfl:m = r.length:=by have:=ho.1;simpa [byteCells] using this.symm
   exact ⟨A',k,rfl,ho,hr',hn'⟩
  have HXB:Hid (∀ V,Only g wr V→V.cell? ⟨bx,0,none⟩ = some (.pointer (some ⟨g,0,none⟩))):=fun V hV => Box.cell (only_block hV hx5 (fun e => hgx e.symm)) 0
  have HBB:Hid (∀ V,Only g wr V→Bytes V n A bs∧n ≤ V.heap.size):=fun V hV => ⟨bytes_only hb5 hV (by have:=HSZ.out;omega) hn,by have:=hV.size;have:=HSZ.out;omega⟩
  have HX5:=Lib.hid hx5
  have HRD:=Lib.hid hrd
  have HPC:=Lib.hid hpc
  have HO5:=Lib.hid ho5
  have HJ5:=Lib.hid hJ5
  have HS5:=Lib.hid hs5
  have HR5:=Lib.hid hr5
  have HP:=Lib.hid (show st.p ≤ l∧l - st.p < k + 1∧pre.length ≤ st.p from ⟨hp,hk,hpre⟩)
  clear hr5 hpc hx5 hb5 hs5 ho5 hJ5 h1 h2 hrd hp hk hpre hs1 hbad
  have hw1:IntKind.i64.wrap (n1:Int) = (n1:Int):=IntWalk.i64_in _ (by omega)
  gi_wp2_with fail
  gi_region_with (first
   | (refine ⟨trivial,?_⟩;gi_at_call 88;refine (callsIn_wide.2 HN.out).mono ?_;rintro e w1 ⟨rfl,hr1,hq1⟩;have HR1:=Lib.hid hr1;have HN1:=Lib.hid (only_undrew hq1);have k1:=HXB.out _ HN1.out;clear hr1 hq1)
   | (refine ⟨trivial,?_⟩;gi_at_call 89;refine (callsIn_wide.2 (HYB.out _ HR1.out (HBB.out _ HN1.out).1 (HBB.out _ HN1.out).2)).mono ?_;rintro e w2 ⟨A2,k2,rfl,ho2,hr2,hn2⟩;have HO2:=Lib.hid ho2;have HR2:=Lib.hid hr2;have HN2:=Lib.hid (only_trans' HN1.out hn2);clear ho2 hr2 hn2))
  all_goals
   rcases HRD.out with ⟨hr0,hnil,hfin⟩ | ⟨hne,hb2,hq2,hl2,hpc2⟩
   ·have HFIN:=Lib.hid hfin
    have HNIL:=Lib.hid hnil
    have hrb:((r.length:Int) == 0) = true:=by rw [hr0];rfl
    have hrb':(r.length == 0) = true:=by rw [hr0];rfl
    clear hfin hnil hr0
    gi_wp2
    all_goals
     refine ⟨(fun f h => by cases h),?_⟩
     gi_wp2
     refine bodyPost_ret (results_none rfl _ _ _) rfl ?_
     refine ⟨⟨_,rfl⟩,.inl ⟨pre,?_,abidesOnly HJ.out HJ5.out HN2.out,s2,HR2.out,?_⟩⟩
     ·rw [HPC.out,HNIL.out];simp
     ·rw [HPC.out,← HL.out];exact HFIN.out
   ·have hrl:1 ≤ r.length:=by cases r with | nil => exact absurd rfl hne | cons => simp
    have hrb:((r.length:Int) == 0) = false:=by simp;omega
    have hrb':(r.length == 0) = false:=by simp;omega
    have HPC2:=Lib.hid hpc2
    have HB2:=Lib.hid hb2
    have HQ2:=Lib.hid (show st.p + 2 + r.length = s2.p∧s2.p ≤ bs.length from ⟨hq2,hl2⟩)
    obtain ⟨fn,tmps,assign,body,hy,hR⟩:=HY.out pre (r,A2,k2) w2 (abidesOnly HJ.out HJ5.out HN2.out) ⟨Cells.of_own HO2.out,by have:=HQ2.out;have:=HL.out;dsimp only;omega⟩ (by have:=HP.out;omega)
    simp only [pcE] at hy
    have HR:=Lib.hid hR
    clear hR hne hb2 hq2 hl2 hpc2
    gi_wp2_with fail
    refine HR.out.mono ?_
    rintro ee W3 (⟨rfl,hJ3,hk3⟩ | ⟨rfl,hJx3⟩)
    ·have hsz:=HSZ.out
     have hs5:=HS5.out
     have hs2:=HN2.out.size
     have hs3:=hk3.size
     have hob:ownOf B w2 = ownOf B wr:=ownOf_block (HN2.out.block B (by omega) (by simpa using fun e => hgB e.symm))
     have hno:∀ j,j < W.heap.size→ownOf B w2 ≠ some j:=fun j hj e => by
      rw [hob] at e
      have:=(HO5.out j e).1
      omega
     have m1:RdK W3 g A l c s2:=hk3.cells g _ HR2.out rfl hgB (hno g hsz.2.1)
     have m2:Box W3 bx #[.pointer (some ⟨g,0,none⟩)] 137:=hk3.cells bx _ (only_block HN2.out HX5.out (fun e => hgx e.symm)) rfl hxB (hno bx hsz.1)
     have m3:Bytes W3 n A bs:=Cells.below (HBB.out _ HN2.out).1 hk3.low (Nat.le_refl _)
     have m4:∀ j,ownOf B W3 = some j→W.heap.size ≤ j∧j < W3.heap.size:=fun j hj => by
      obtain ⟨o1,o2⟩:=hk3.own j hj
      rw [hob] at o1 o2
      constructor
      ·rcases o1 with o1 | o1
       ·exact (HO5.out j o1).1
       ·omega
      ·rcases o2 with o2 | o2
       ·have:=(HO5.out j o2).2;omega
       ·exact o2
     have M1:=Lib.hid m1
     have M2:=Lib.hid m2
     have M3:=Lib.hid m3
     have M4:=Lib.hid m4
     have HJ3:=Lib.hid hJ3
     have MS:Hid (W.heap.size ≤ W3.heap.size):=by show _ ≤ _;omega
     have MP:Hid (l - pAt g W3 < l - pAt g wr):=by
      show _ < _
      rw [pAt_of m1,pAt_of HR5.out]
      have:=HQ2.out
      have:=HL.out
      omega
     clear m1 m2 m3 m4 hJ3 hk3 hob hno
     gi_wp2
     refine ⟨⟨s2,pre++[(r,A2,k2)],k,M1.out,HB2.out,?_,?_,?_,M2.out,M3.out,MS.out,M4.out,?_,HJ3.out⟩,MP.out⟩
     ·have:=HQ2.out;have:=HL.out;omega
     ·have:=HQ2.out;have:=HL.out;have:=HP.out;omega
     ·rw [HPC.out,HPC2.out];simp
     ·have:=HQ2.out;have:=HP.out;simp;omega
    ·gi_wp2
     refine bodyPost_ret (results_none rfl _ _ _) rfl ?_
     exact ⟨⟨_,rfl⟩,.inr ⟨pre++[(r,A2,k2)],trivial,hJx3⟩⟩
theorem kpb_append0 {W w1:World} {n B:Nat} {v v':Value} {k m:Nat} {xs ys:List Value} (hv:Boxed W B 25 v) (hrow:W.ownsRow n 5 1 v k xs) (hn:n ≤ W.heap.size) (hB:n ≤ B) (hap:App W n 5 1 v m ys w1 v') :
  Boxed w1 B 25 v∧Boxed (w1.setCell ⟨B,0,none⟩ v') B 25 v'∧(w1.setCell ⟨B,0,none⟩ v').ownsRow n 5 1 v' m ys∧KeepsOthers W (w1.setCell ⟨B,0,none⟩ v')∧KpB n B W (w1.setCell ⟨B,0,none⟩ v'):=by
 have hv1:Boxed w1 B 25 v:=hv.kept hap.grow (hv.not_row (by decide) hrow)
 have p2:Boxed (w1.setCell ⟨B,0,none⟩ v') B 25 v':=hv1.set v'
 have p3:(w1.setCell ⟨B,0,none⟩ v').ownsRow n 5 1 v' m ys:=hap.own.kept (grownBy_setCell' w1 B v') (.inr (hv1.not_row (by decide) hap.own).symm)
 have p4:KeepsOthers W (w1.setCell ⟨B,0,none⟩ v'):=by
  refine (KeepsOthers.of_grownBy hap.grow fun j o ej hj => ?_).trans (KeepsOthers.setCell _ _ _)
  rcases hrow.2 with ⟨rfl,_⟩ | ⟨g,cap,cur,rfl,_,hgb,_⟩
  ·simp [Value.ownBlock] at ej
  ·obtain rfl:g = j:=by simpa [Value.ownBlock] using ej
   rw [hgb] at hj;cases hj;rfl
 have p5:Below n W (w1.setCell ⟨B,0,none⟩ v'):=by
  refine ((Below.refl n W).grown hap.grow hn fun j ej => ?_).setCell (p:=⟨B,0,none⟩) hB v'
  rcases hrow.2 with ⟨rfl,_⟩ | ⟨g,cap,cur,rfl,hb,_,_⟩
  ·simp [Value.ownBlock] at ej
  ·obtain rfl:g = j:=by simpa [Value.ownBlock] using ej
   exact hb
 have hs1:=hap.grow.size
 refine ⟨hv1,p2,p3,p4,p5,fun j o hj ho hjB hno => ?_,fun j hj => ?_,p4.size⟩
 ·have hlt:=(Array.getElem?_eq_some_iff.1 hj).1
  rw [ownOf_box hv] at hno
  exact (Below.heap_setCell w1 ⟨B,0,none⟩ v' j hjB).trans ((hap.grow.block j hlt (fun e => hno e.symm)).trans hj)
 ·rw [ownOf_box p2] at hj
  rw [ownOf_box hv]
  rcases hap.loc with h | ⟨g,h,hg⟩
  ·rw [h] at hj;exact ⟨.inl hj,.inl hj⟩
  ·rw [h] at hj
   cases hj
   have hlt:=own_lt p3 j h
   exact ⟨.inr hg,.inr hlt⟩
theorem own_low {w:World} {b b' size n:Nat} {e:TypeId} {v:Value} {xs:List Value} (hb:b' ≤ b) (h:w.ownsRow b e size v n xs):w.ownsRow b' e size v n xs:=by
 obtain ⟨h1,h2⟩:=h
 refine ⟨h1,?_⟩
 rcases h2 with h2 | ⟨g,cap,cur,hv,hg,rest⟩
 ·exact .inl h2
 ·exact .inr ⟨g,cap,cur,hv,Nat.le_trans hb hg,rest⟩
def flatP (pre:List PcV):List UInt8:=(pre.map (·.1)).flatten
theorem flatP_snoc (pre:List PcV) (x:PcV):flatP (pre++[x]) = flatP pre++x.1:=by simp [flatP]
def pcI (N:Nat) (w:World) (pre:List PcV) (W:World):Prop :=
 (∃ v,Boxed W (N + 1) 25 v∧W.ownsRow (N + 1) 5 1 v (flatP pre).length (byteCells (flatP pre)))∧(flatP pre).length ≤ pre.length * 1000000∧Below N w W
theorem pcI_own (N M:Nat) (w:World) (hN:N ≤ w.heap.size) (hM:N ≤ M):OwnS M (fun k => k = N) (pcI N w):=by
 rintro s X Y row ⟨⟨v,hv,hr⟩,hs,hb⟩ hg hrow
 have hne:some (N + 1) ≠ row:=fun e => by
  rcases hrow _ e.symm with h | ⟨_,o,ho,hc⟩
  ·omega
  ·rw [show X.heap[N + 1]? = _ from hv] at ho;cases ho;cases hc
 refine ⟨⟨v,hv.kept hg hne,hr.kept hg ?_⟩,hs,hb.grown hg (Nat.le_trans hN hb.size) (fun k e => (hrow k e).elim (fun h => by omega) (fun h => Nat.le_trans hM h.1))⟩
 rcases hr.2 with ⟨rfl,_⟩ | ⟨g,cap,cur,rfl,hgN,hgb,_⟩
 ·exact .inl rfl
 ·refine .inr fun e' => ?_
  rcases hrow g (by simpa [Value.ownBlock] using e'.symm) with h | ⟨_,o,ho,hc⟩
  ·omega
  ·rw [hgb] at ho;cases ho;cases hc
theorem pcX_put (x:PcV) (W:World) (l:Nat) (o o':Obj) (ho:W.heap[l]? = some o) (hc:o.isCells = false) (h:pcX x W):pcX x (W.putObj l o'):=by
 refine ⟨fun hp => ?_,h.2⟩
 obtain ⟨b,q,e,hb,hcc⟩:=h.1 hp
 exact ⟨b,q,e,by simp [World.putObj];exact hb,fun j u hu => cell_kept (hcc j u hu) (grownBy_putObj' W l o') (fun r e => by cases e;exact ⟨o,ho,hc⟩)⟩
set_option maxRecDepth 100000 in
set_option maxHeartbeats 2000000 in
theorem piecesOf_any (A:Option Addr) (l c B:Nat) (bs:List UInt8) (w:World) (hl:bs.length = l) (hm:l ≤ 1000000) (hc:l ≤ c) (hb:Bytes w B A bs) (hB:B ≤ w.heap.size) :
  Calls Tryz.prog 80 #[.slice A l c] w fun e w' => ∃ (v:Value) (n cp:Nat) (A':Option Addr),e = .returned (.tuple #[v,.int .i64 (pcA bs).2])∧v = .slice A' n cp∧((pcA bs).2 = 0→OwnB w' w.heap.size 5 v n (pcA bs).1.flatten)∧((pcA bs).2 ≠ 0→v = .slice none 0 0)∧Below w.heap.size w w':=by
 have HB0:=Lib.hid hb
 have HBZ:=Lib.hid hB
 have HC0:=Lib.hid hc
 have HL0:=Lib.hid hl
 clear hb hB hc hl
 refine (callsIn_wide (n:=6)).1 ?_
 refine callsIn_of_wp_marks Tryz.func80 rfl trivial ?_ rfl
 simp only [Tryz.ntmps80,List.size_toArray,List.length_cons,List.length_nil,Nat.reduceAdd,Nat.reduceSub,Array.replicate_succ,Array.replicate_zero,List.push_toArray,List.append_toArray,List.nil_append,List.cons_append]
 gi_wp2_with (first
  | (refine ⟨trivial,?_⟩;gi_at_call 126;refine (callsIn_wide.2 (newK_any A l c w)).mono ?_;rintro e w1 ⟨rfl,hw1⟩;have HW1:=Lib.hid hw1;clear hw1)
  | (refine ⟨trivial,?_⟩;gi_at_call 127;refine (callsIn_wide.2 (pieces_any _ _)).mono ?_;rintro e w3 ⟨rfl,hw3⟩;have HW3:=Lib.hid hw3;clear hw3))
 have hz1:w1.heap.size = w.heap.size + 1:=by rw [← HW1.out];simp
 have hz3:w3.heap.size = w.heap.size + 3:=by rw [← HW3.out];simp [hz1]
 have hr1:RdK w1 w.heap.size A l c ⟨0,false⟩:=by rw [← HW1.out];exact rd_new A l c w
 have hb1:Below w.heap.size w w1:=by rw [← HW1.out];exact (Below.refl _ w).alloc (Nat.le_refl _) _
 have hb13:Below w1.heap.size w1 w3:=by rw [← HW3.out];exact ((Below.refl _ w1).alloc (Nat.le_refl _) _).alloc (by simp) _
 have HR3:Hid (RdK w3 w.heap.size A l c ⟨0,false⟩):=Rd.below hr1 hb13 (by omega)
 have HC3:Hid (Boxed w3 w1.heap.size 25 (.slice none 0 0)):=by rw [← HW3.out];exact (Boxed.new w1 _ _).alloc _
 have HX3:Hid (Box w3 (w1.heap.size + 1) #[.pointer (some ⟨w.heap.size,0,none⟩)] 137):=by
  rw [← HW3.out]
  have h:=heap_alloc_new (w1.alloc (.cells #[.slice none 0 0] 25)) (.cells #[.pointer (some ⟨w.heap.size,0,none⟩)] 137)
  rw [World.size_alloc] at h
  exact h
 have HL3:Hid (Below w.heap.size w w3):=hb1.trans (hb13.mono (by omega))
 have HZ3:=Lib.hid hz3
 rw [hz1] at HC3 HX3 ⊢
 obtain ⟨N,hN⟩:∃ N,w.heap.size = N:=⟨_,rfl⟩
 have HNN:=Lib.hid hN
 rw [hN] at HR3 HC3 HX3 HZ3 HL3 HBZ ⊢
 have HSEQ:=Lib.hid (pieces_seq N (N + 1) N (N + 2) A l c bs w3 HL0.out hm HC0.out (Cells.below (HB0.out.more HBZ.out) HL3.out (Nat.le_refl _)) (Nat.le_refl _) (by omega) (by omega) (by omega) HC3.out.lt (by rw [ownOf_box HC3.out];rfl) HX3.out HR3.out)
 clear hz1 hz3 hr1 hb1 hb13 HW1 HW3 hN
 rw [show N + 1 + 1 = N + 2 from rfl]
 refine wpIn_rangeFunc_R rfl (by omega) (gf:=171) (lb:=#[.pointer (some ⟨N + 2,0,none⟩)]) rfl trivial (enters_of Tryz.func171 (by kernel_rfl) rfl) HSEQ.out
  (fun x W l o o' _ ho hc hx => pcX_put x W l o o' ho hc hx)
  (fun xs W l o o' hl ho hc hR => by
   obtain ⟨st,h1,h2⟩:=hR
   exact ⟨st,(World.putObj_heap_other (by have:=HZ3.out;omega)).trans h1,h2⟩)
  (fun r hr => by rw [hr];have:=HZ3.out;omega) (fun h k => h.trans k) (fun W l o o' hl ho hc _ => KpB.putObj W l o o' (by have:=HZ3.out;omega) (by have:=HZ3.out;omega) ho hc) (Below.refl _ _) (fun _ => rfl)
  (pcI N w) (fun _ _ _ => False) (pcI_own N _ w (by rw [HNN.out];exact Nat.le_refl _) (by have:=HZ3.out;omega)) (fun _ _ _ _ _ h _ _ => h)
  ⟨⟨_,HC3.out,World.ownsRow_nil _ _ _ _⟩,Nat.le_refl _,HL3.out⟩
  (fun x => { tmps:=#[.slice A l c,undef,.slice none 0 0,.int .i64 0,.pointer (some ⟨N,0,none⟩),.pointer (some ⟨N + 1,0,none⟩),.slice x.2.1 x.1.length x.2.2,.slice A l c,.pointer (some ⟨N,0,none⟩),.pointer (some ⟨N,0,none⟩),.func (.func 171) #[] #[.pointer (some ⟨N + 2,0,none⟩)],.slice x.2.1 x.1.length x.2.2,undef,undef,undef,undef,undef,undef,undef,undef,undef,undef],defers:=[] }) ?assign ?body ?done ?stop
 case assign =>
  rintro gy ⟨r,A2,k2⟩ W K hK
  simp only [pcE]
  gi_wp2
  exact hK
 case body =>
  rintro gy pre ⟨r,A2,k2⟩ W ⟨⟨v,hv,hr⟩,hs,hb⟩ hx hlen
  have hc:=hv.cell
  have hvl:=hv.lt
  have hx2:r.length ≤ 1000000:=hx.2
  have hcr:Cells W W.heap.size A2 (byteCells r):=hx.1
  have hfl:(flatP pre).length ≤ 1000001 * 1000000:=Nat.le_trans hs (Nat.mul_le_mul_right _ (by omega))
  clear hx
  gi_wp2_with (gi_at_builtin;refine wpListIn_app _ byteElem rfl _ _ rfl (N + 1) v (flatP pre).length _ rfl hr W.heap.size A2 r.length k2 (byteCells r) rfl (by simp [byteCells]) hcr (byteCells_one _) (by unfold maxLen;omega) (by omega) (by omega) ?_;intro A' c' w1 hap;obtain ⟨hv1,hv2,hr2,hk2,hkp⟩:=kpb_append0 hv hr (by omega) (Nat.le_refl _) hap;have hc1:=hv1.cell;have hf1:=hv1.frozen)
  refine ⟨hk2,⟨hkp.low.mono (by omega),hkp.cells,hkp.own,hkp.size⟩,⟨_,hv2,?_⟩,?_,hb.trans (hkp.low.mono (by omega))⟩
  ·rw [flatP_snoc,List.length_append,byteCells_append];exact hr2
  ·have hpl:(pre++[((r,A2,k2):PcV)]).length = pre.length + 1:=by simp
   rw [flatP_snoc,List.length_append,hpl]
   show (flatP pre).length + r.length ≤ _
   omega
 case done =>
  rintro D ys W hD hS ⟨⟨v,hv,hr⟩,hs,hb⟩ ⟨st,hst,hfin⟩ hK
  have hys:flatP ys = (pcA bs).1.flatten:=by unfold flatP;rw [hS]
  rw [hys] at hr
  have HOK:=Lib.hid (ok_any N A l c (st.p:Int) st.bad W hst)
  obtain ⟨A4,c4,rfl⟩:=own_form hr
  obtain ⟨n4,hn4⟩:∃ n4,(pcA bs).1.flatten.length = n4:=⟨_,rfl⟩
  rw [hn4] at hr hv
  have hx5:∀ n,(W.drewN n).cell? ⟨N + 1,0,none⟩ = some (.slice A4 n4 c4):=fun n => hv.cell
  have HR:=Lib.hid hr
  have HK:=Lib.hid hK
  have HB5:=Lib.hid hb
  have HD:=Lib.hid hD
  clear hr hK hs hb hS hys hn4
  have hlow:∀ W',Below N w W'→W'.heap[D]? = some (.deferred (some []))→Below w.heap.size w (W'.putObj D (.deferred none)):=fun W' h1 h2 => by
   rw [HNN.out]
   exact h1.trans ((Below.refl N W').grown (grownBy_putObj' W' D _) (by have:=(Array.getElem?_eq_some_iff.1 h2).1;have:=HD.out;have:=HZ3.out;omega) (fun k e => by cases e;have:=HD.out;have:=HZ3.out;omega))
  have HLOW:=Lib.hid hlow
  clear hlow
  rcases hfin with ⟨h1,h2⟩ | ⟨h1,h2,h3⟩ | ⟨h1,h2,h3⟩
  ·rw [h1] at HOK
   have HE:=Lib.hid h2
   clear h1 h2 hst hv
   gi_wp2_with (first
    | (refine ⟨trivial,?_⟩;gi_at_call 128;refine (callsIn_wide.2 HOK.out).mono ?_;rintro e w5 ⟨rfl,rfl⟩))
   refine ⟨by simp,.inl ⟨_,_,rfl,run_takeDeferred HK.out,?_⟩⟩
   exact ⟨.tuple #[.slice none 0 0,.int .i64 2],by simp [results,Tryz.f80,go_sem],_,0,0,none,by rw [HE.out],rfl,fun h => (by rw [HE.out] at h;cases h),fun _ => rfl,HLOW.out W HB5.out HK.out⟩
  ·have hst':Rd W N A l c (st.p:Int) st.bad:=hst
   rw [h1] at HOK hst'
   rw [h2] at hst'
   have HLF:=Lib.hid (left_any N A l c (l:Int) false W hst' (by omega) (by omega) (by omega))
   have hsub:(l:Int) - (l:Int) = 0:=by omega
   rw [hsub] at HLF
   have HE:=Lib.hid h3
   clear h1 h2 h3 hst hst' hv
   gi_wp2_with (first
    | (refine ⟨trivial,?_⟩;gi_at_call 128;refine (callsIn_wide.2 HOK.out).mono ?_;rintro e w5 ⟨rfl,rfl⟩)
    | (refine ⟨trivial,?_⟩;gi_at_call 129;refine (callsIn_wide.2 HLF.out).mono ?_;rintro e w6 ⟨rfl,nq,rfl⟩;have hx6:=hx5 nq))
   refine ⟨by simp,.inl ⟨_,_,rfl,run_takeDeferred (show (W.drewN nq).heap[D]? = _ from HK.out),?_⟩⟩
   refine ⟨.tuple #[.slice A4 n4 c4,.int .i64 0],by simp [results,Tryz.f80,go_sem],_,n4,c4,A4,by rw [HE.out],rfl,fun _ => ?_,fun h => absurd HE.out h,HLOW.out (W.drewN nq) (below_drewN HB5.out nq) HK.out⟩
   have h5:(W.drewN nq).ownsRow (N + 1) 5 1 (.slice A4 n4 c4) n4 (byteCells (pcA bs).1.flatten):=HR.out
   have h6:=ownsRow_putObj h5 (.deferred none) (show (W.drewN nq).heap[D]? = _ from HK.out) rfl
   rw [HNN.out]
   exact own_low (by omega) h6
  ·have hst':Rd W N A l c (st.p:Int) st.bad:=hst
   rw [h1] at HOK hst'
   have HLF:=Lib.hid (left_any N A l c (st.p:Int) false W hst' (by omega) (by omega) (by omega))
   have hpos:0 < (l:Int) - (st.p:Int):=by omega
   obtain ⟨lf,hlf⟩:∃ lf,(l:Int) - (st.p:Int) = lf:=⟨_,rfl⟩
   rw [hlf] at HLF hpos
   have HE:=Lib.hid h3
   clear h1 h2 h3 hst hst' hv hlf
   gi_wp2_with (first
    | (refine ⟨trivial,?_⟩;gi_at_call 128;refine (callsIn_wide.2 HOK.out).mono ?_;rintro e w5 ⟨rfl,rfl⟩)
    | (refine ⟨trivial,?_⟩;gi_at_call 129;refine (callsIn_wide.2 HLF.out).mono ?_;rintro e w6 ⟨rfl,nq,rfl⟩;have hx6:=hx5 nq))
   refine ⟨by simp,.inl ⟨_,_,rfl,run_takeDeferred (show (W.drewN nq).heap[D]? = _ from HK.out),?_⟩⟩
   exact ⟨.tuple #[.slice none 0 0,.int .i64 3],by simp [results,Tryz.f80,go_sem],_,0,0,none,by rw [HE.out],rfl,fun h => (by rw [HE.out] at h;cases h),fun _ => rfl,HLOW.out (W.drewN nq) (below_drewN HB5.out nq) HK.out⟩
 case stop =>
  rintro D c pre W _ _ h _
  exact h.elim
set_option maxHeartbeats 400000 in
theorem chunk_any (A:Option Addr) (l c:Nat) (w:World) :
  Calls Tryz.prog 125 #[.slice A l c,.int .i64 65535] w fun e w' => e = .returned (.func (.func 170) #[] #[.pointer (some ⟨w.heap.size,0,none⟩),.pointer (some ⟨w.heap.size + 1,0,none⟩)]) ∧
   (w.alloc (.cells #[.slice A l c] 25)).alloc (.cells #[.int .i64 65535] 3) = w':=by
 go_enter Tryz.func125,Tryz.ntmps125
 go_wp2
 go_ret
 exact ⟨rfl,rfl⟩
def ckS (bs:List UInt8):List (List UInt8):=if bs = [] then [] else [bs]
set_option maxRecDepth 100000 in
set_option maxHeartbeats 1000000 in
theorem chunk_seq (n B b1 b2:Nat) (A:Option Addr) (l c:Nat) (bs:List UInt8) (w0:World) (hl:bs.length = l) (hm:l ≤ 65535) (hcap:l ≤ c) (hb:Bytes w0 n A bs) (hn:n ≤ w0.heap.size) (hB:B < w0.heap.size) (hB1:b1 ≠ B) (hB2:b2 ≠ B) (hown:ownOf B w0 = none)
  (h1:w0.heap[b1]? = some (.cells #[.slice A l c] 25 (0,0))) (h2:w0.heap[b2]? = some (.cells #[.int .i64 65535] 3 (0,0))) :
  SeqR Fence.wide 5 Tryz.prog 170 #[.pointer (some ⟨b1,0,none⟩),.pointer (some ⟨b2,0,none⟩)] pcE (KpB n B) (fun _ => False) (fun xs => xs.map (·.1) = ckS bs) (fun _ => True) pcX (fun _ _ => True) 1 w0:=by
 intro gy J Jx W hbl hJ hJx hY h0
 have HL:=Lib.hid hl
 have h1W:=(hbl.block b1 (Array.getElem?_eq_some_iff.1 h1).1).trans h1
 have h2W:=(hbl.block b2 (Array.getElem?_eq_some_iff.1 h2).1).trans h2
 have hbW:=hb.below (hbl.mono hn) (Nat.le_refl _)
 have hoW:ownOf B W = none:=(ownOf_block (hbl.block B hB)).trans hown
 have c1:W.cell? ⟨b1,0,none⟩ = some (.slice A l c):=cell_of_row W b1 0 _ _ _ h1W
 have c2:W.cell? ⟨b2,0,none⟩ = some (.int .i64 65535):=cell_of_row W b2 0 _ _ _ h2W
 have hnW:n ≤ W.heap.size:=Nat.le_trans hn hbl.size
 have HB:=Lib.hid hbW
 have HO:=Lib.hid hoW
 have H1:=Lib.hid h1W
 have H2:=Lib.hid h2W
 have HY:=Lib.hid hY
 have HJ:=Lib.hid hJ
 clear h1 h2 hb hown hl hbl hn hB h1W h2W hbW hoW hY hJ
 refine callsIn_of_wp Tryz.func170 rfl trivial ?_ rfl
 simp only [Tryz.ntmps170,List.size_toArray,List.length_cons,List.length_nil,Nat.reduceAdd,Nat.reduceSub,Array.replicate_succ,Array.replicate_zero,List.push_toArray,List.append_toArray,List.nil_append,List.cons_append]
 gi_wp2
 gi_loopw [4] (fun i wr => (i = .int .i64 0∧wr = W) ∨ (∃ x:PcV,i = .int .i64 65535∧1 ≤ l∧x.1 = bs∧wr.cell? ⟨b1,0,none⟩ = some (.slice A l c)∧J [x] wr)) (fun i _ => 65535 - (intOf i).toNat)
 case atStart => exact .inl ⟨rfl,rfl⟩
 case round =>
  rcases hrel with ⟨rfl,rfl⟩ | ⟨x,rfl,hl1,hx,c1',hJx'⟩
  ·by_cases hl0:l = 0
   ·have HS:Hid (ckS bs = []):=by show _ = _;unfold ckS;rw [if_pos (List.eq_nil_of_length_eq_zero (by rw [HL.out];exact hl0))]
    have t0:¬ (0:Int) < (l:Int):=by omega
    have t0':decide (0 < l) = false:=by simp;omega
    gi_wp2
    go_end0
    exact ⟨⟨_,rfl⟩,.inl ⟨[],by rw [HS.out];rfl,h0⟩⟩
   ·have HS:Hid (ckS bs = [bs]):=by show _ = _;unfold ckS;rw [if_neg (fun e => by have:=HL.out;rw [e] at this;exact hl0 this.symm)]
    have t0:(0:Int) < (l:Int):=by omega
    have t0':decide (0 < l) = true:=by simp;omega
    have hmin:(if (l:Int) < 65535 then (l:Int) else 65535) = (l:Int):=by split <;> omega
    obtain ⟨b,o,rfl,hbB,hcc⟩:=HB.out (by rw [byteCells_length,HL.out];omega)
    have hbx:Bytes wr.drew wr.drew.heap.size (some ⟨b,o,none⟩) bs:=(show Bytes wr wr.heap.size _ _ from HB.out.more hnW)
    obtain ⟨fn,tmps,assign,body,hy,hR⟩:=HY.out [] (bs,some ⟨b,o,none⟩,l) wr.drew (HJ.out _ wr _ none h0 ⟨rfl,rfl,rfl,Nat.le_refl _,fun _ _ _ => rfl⟩ (fun r e => by cases e)) ⟨hbx,by have:=HL.out;dsimp only;omega⟩ (by simp)
    simp only [pcE] at hy
    rw [HL.out] at hy
    have HR:=Lib.hid hR
    have hlc:¬ c = 0:=by omega
    clear hR hcc hbx
    gi_wp2
    gi_region
    all_goals
     gi_wp2_with fail
     refine HR.out.mono ?_
     rintro ee W3 (⟨rfl,hJ3,hk3⟩ | ⟨rfl,hJx3⟩)
     ·have hno:∀ j,ownOf B wr.drew ≠ some j:=fun j e => by
       have:ownOf B wr.drew = none:=HO.out
       rw [this] at e
       cases e
      have m1:=hk3.cells b1 _ (show wr.drew.heap[b1]? = _ from H1.out) rfl hB1 (hno b1)
      have m2:=hk3.cells b2 _ (show wr.drew.heap[b2]? = _ from H2.out) rfl hB2 (hno b2)
      have c1':W3.cell? ⟨b1,0,none⟩ = some (.slice (some ⟨b,o,none⟩) l c):=cell_of_row W3 b1 0 _ _ _ m1
      have c2':W3.cell? ⟨b2,0,none⟩ = some (.int .i64 65535):=cell_of_row W3 b2 0 _ _ _ m2
      have HJ3:=Lib.hid hJ3
      clear hno m1 m2 hk3 hJ3
      gi_wp2
      refine ⟨.inr ⟨_,by go_num,by omega,rfl,c1',HJ3.out⟩,?_⟩
      simp [intOf]
     ·gi_wp2
      refine bodyPost_ret (results_none rfl _ _ _) rfl ?_
      exact ⟨⟨_,rfl⟩,.inr ⟨_,trivial,hJx3⟩⟩
  ·have t0:¬ (65535:Int) < (l:Int):=by omega
   have HS:Hid (ckS bs = [bs]):=by show _ = _;unfold ckS;rw [if_neg (fun e => by have:=HL.out;rw [e] at this;have h0:l = 0:=this.symm;omega)]
   gi_wp2
   go_end0
   exact ⟨⟨_,rfl⟩,.inl ⟨[x],by rw [HS.out];simp [hx],hJx'⟩⟩
theorem wpListIn_appT {F:Fence} {n:Nat} {P:Program} (w:World) {ops:Array Oper} {rest:List Oper} {o:Oper} {a:Act} {Q:Exit→Act→World→Prop} {t e:TypeId} {z:Value} {bytes:Nat} (E:Elem P t e z 1 bytes) (hgd:o.guard = none) (s x:Operand)
  (ho:o.op = .call { callee:=.builtin .append,args:=#[s,x],argTypes:=#[t,t] }) (base:Nat)
  (v:Value) (k:Nat) (xs:List Value) (hs:a.eval s = v) (hown:OwnT w base e v k xs)
  (B:Nat) (A:Option Addr) (m c:Nat) (news:List Value) (hx:a.eval x = .slice A m c) (hl:news.length = m) (hr:Cells w B A news) (h1:∀ u ∈ news,u.oneCell' = true)
  (h63:k + m ≤ maxLen) (hbytes:(k + m) * bytes ≤ 140737488355328) (hbase:base ≤ w.heap.size)
  (h:∀ A' c' w',AppT w base e v (k + m) (xs++news) w' (.slice A' (k + m) c')→wpListIn F n P ops Q rest (a.put o.dst (.slice A' (k + m) c')) w'):wpListIn F n P ops Q (o :: rest) a w:=by
 refine wpListIn_plain hgd fun K hK' => ?_
 obtain ⟨A',c',w',hrun,h2⟩:=run_appT (P:=P) w E base o.type v k xs hown B A m c news hl hr h1 h63 hbytes hbase
 unfold Oper.wpIn
 refine ⟨?_,?_⟩
 ·simp [Oper.about,ho,resolve,Target.leads,Sem.run_pure]
 ·rw [Oper.semAt_plain F _ _ (by rw [ho];intro c hc';cases hc')]
  simp [execOp,ho,resolve,invoke,builtin,hs,hx,hrun,Result.andThen]
  exact hK' _ _ (h A' c' w' h2)
set_option maxHeartbeats 400000 in
theorem cput_any (v:Value) (l:Nat) (bs:List UInt8) (n base:Nat) (w:World) (hl:l ≤ 1099511627776) (hn:n < 4294967296) (hown:OwnY w base v l bs) (hbase:base ≤ w.heap.size) :
  Calls Tryz.prog 79 #[v,.int .i64 (n:Int)] w fun e w' => ∃ A c,e = .returned (.slice A (l + 2) c)∧AppB w base v (l + 2) (bs++putN n 2) w' (.slice A (l + 2) c):=by
 have HP:=Lib.hid (put_any v l bs (n:Int) 2 base w hl (by omega) (by omega) (by omega) (by omega) hown hbase)
 have hw1:IntKind.u32.wrap (n:Int) = (n:Int):=IntWalk.u32_in _ (by omega)
 clear hown
 go_enter Tryz.func79,Tryz.ntmps79
 go_wp2_with fail
 refine HP.out.mono ?_
 rintro e w1 ⟨A,c,rfl,hap⟩
 go_wp2
 go_ret
 exact ⟨A,c,rfl,hap⟩
def pieceB (bs:List UInt8):List UInt8:=if bs = [] then [] else putN bs.length 2++bs
def pcJ (N:Nat) (w:World) (pre:List PcV) (W:World):Prop :=
 ((pre = []∧Boxed W N 25 (.slice none 0 0)) ∨ ∃ (x:PcV) (v:Value),pre = [x]∧Boxed W N 25 v∧OwnY W (N + 1) v (2 + x.1.length) (putN x.1.length 2++x.1))∧Below N w W
theorem pcJ_own (N M:Nat) (w:World) (hN:N ≤ w.heap.size) (hM:N ≤ M):OwnS M (fun _ => False) (pcJ N w):=by
 rintro s X Y row ⟨hj,hb⟩ hg hrow
 have cells_ne:∀ (k:Nat) (o:Obj),X.heap[k]? = some o→o.isCells = true→some k ≠ row:=fun k o ho hc e => by
  rcases hrow _ e.symm with h | ⟨_,o',ho',hc'⟩
  ·exact h
  ·rw [ho] at ho';cases ho';rw [hc] at hc';cases hc'
 refine ⟨?_,hb.grown hg (Nat.le_trans hN hb.size) (fun k e => (hrow k e).elim (fun h => h.elim) (fun h => Nat.le_trans hM h.1))⟩
 rcases hj with ⟨h1,hv⟩ | ⟨x,v,h1,hv,ho⟩
 ·exact .inl ⟨h1,hv.kept hg (cells_ne N _ hv rfl)⟩
 ·refine .inr ⟨x,v,h1,hv.kept hg (cells_ne N _ hv rfl),?_⟩
  refine OwnT.keep (S:=fun k => row = some k) ho ⟨hg.os,hg.tape,hg.output,hg.size,fun k hk hn => hg.block k hk (fun e => hn e.symm)⟩ (fun k hk e => ?_)
  rcases ho.2 with ⟨rfl,_⟩ | ⟨g,cap,cur,fz,rfl,_,hgb,_⟩
  ·cases hk
  ·obtain rfl:g = k:=by unfold ownS at hk;simpa [Value.ownBlock] using hk
   exact cells_ne g _ hgb rfl e.symm
set_option maxRecDepth 100000 in
set_option maxHeartbeats 2000000 in
theorem piece_any (A:Option Addr) (l c B:Nat) (bs:List UInt8) (w:World) (hl:bs.length = l) (hm:l ≤ 65535) (hc:l ≤ c) (hb:Bytes w B A bs) (hB:B ≤ w.heap.size) :
  Calls Tryz.prog 78 #[.slice A l c] w fun e w' => ∃ A' n c',e = .returned (.slice A' n c')∧OwnY w' w.heap.size (.slice A' n c') n (pieceB bs)∧Below w.heap.size w w':=by
 have HB0:=Lib.hid hb
 have HBZ:=Lib.hid hB
 have HC0:=Lib.hid hc
 have HL0:=Lib.hid hl
 clear hb hB hc hl
 refine (callsIn_wide (n:=6)).1 ?_
 refine callsIn_of_wp_marks Tryz.func78 rfl trivial ?_ rfl
 simp only [Tryz.ntmps78,List.size_toArray,List.length_cons,List.length_nil,Nat.reduceAdd,Nat.reduceSub,Array.replicate_succ,Array.replicate_zero,List.push_toArray,List.append_toArray,List.nil_append,List.cons_append]
 obtain ⟨W1,hW1⟩:∃ W1,w.alloc (.cells #[.slice none 0 0] 25) = W1:=⟨_,rfl⟩
 have HV1:Hid (Boxed W1 w.heap.size 25 (.slice none 0 0)):=by show Boxed _ _ _ _;rw [← hW1];exact Boxed.new w _ _
 have HZ1:Hid (W1.heap.size = w.heap.size + 1):=by show _ = _;rw [← hW1];simp
 have HB1:Hid (Below w.heap.size w W1):=by show Below _ _ _;rw [← hW1];exact (Below.refl _ w).alloc (Nat.le_refl _) _
 gi_wp2_with (first
  | (refine ⟨trivial,?_⟩;gi_at_call 125;refine (callsIn_wide.2 (chunk_any A l c _)).mono ?_;rintro e w3 ⟨rfl,hw3⟩;have HW3:=Lib.hid hw3;clear hw3))
 obtain ⟨N,hN⟩:∃ N,w.heap.size = N:=⟨_,rfl⟩
 have HNN:=Lib.hid hN
 have hz1:=HZ1.out
 rw [hN] at HV1 HZ1 HB1 HBZ hz1 ⊢
 have hz3:w3.heap.size = N + 3:=by rw [← HW3.out];simp [hz1]
 have hb13:Below W1.heap.size W1 w3:=by rw [← HW3.out];exact ((Below.refl _ W1).alloc (Nat.le_refl _) _).alloc (by simp) _
 have HV3:Hid (Boxed w3 N 25 (.slice none 0 0)):=by show Boxed _ _ _ _;rw [← HW3.out];exact (HV1.out.alloc _).alloc _
 have HL3:Hid (Below N w w3):=HB1.out.trans (hb13.mono (by omega))
 have hx1:w3.heap[N + 1]? = some (.cells #[.slice A l c] 25 (0,0)):=by
  rw [← HW3.out,← hz1]
  exact (Below.heap_alloc _ _ _ (by simp)).trans (heap_alloc_new W1 _)
 have hx2:w3.heap[N + 2]? = some (.cells #[.int .i64 65535] 3 (0,0)):=by
  rw [← HW3.out]
  have h:=heap_alloc_new (W1.alloc (.cells #[.slice A l c] 25)) (.cells #[.int .i64 65535] 3)
  rw [World.size_alloc,hz1] at h
  exact h
 have HSEQ:=Lib.hid (chunk_seq N N (N + 1) (N + 2) A l c bs w3 HL0.out hm HC0.out (Cells.below (HB0.out.more HBZ.out) HL3.out (Nat.le_refl _)) (by omega) (by omega) (by omega) (by omega) (by rw [ownOf_box HV3.out];rfl) hx1 hx2)
 have HZ3:=Lib.hid hz3
 rw [hz1,show N + 1 + 1 = N + 2 from rfl]
 clear hz1 hz3 hb13 hx1 hx2 HW3 hN hW1 HV1 HB1 HZ1
 refine wpIn_rangeFunc_R rfl (by omega) (gf:=170) (lb:=#[.pointer (some ⟨N + 1,0,none⟩),.pointer (some ⟨N + 2,0,none⟩)]) rfl trivial (enters_of Tryz.func170 (by kernel_rfl) rfl) HSEQ.out
  (fun x W l o o' _ ho hc hx => pcX_put x W l o o' ho hc hx) (fun _ _ _ _ _ _ _ _ _ => trivial)
  (fun r hr => hr.elim) (fun h k => h.trans k) (fun W l o o' hl ho hc _ => KpB.putObj W l o o' (by have:=HZ3.out;omega) (by have:=HZ3.out;omega) ho hc) (Below.refl _ _) (fun _ => rfl)
  (pcJ N w) (fun _ _ _ => False) (pcJ_own N _ w (by rw [HNN.out];exact Nat.le_refl _) (by have:=HZ3.out;omega)) (fun _ _ _ _ _ h _ _ => h)
  ⟨.inl ⟨rfl,HV3.out⟩,HL3.out⟩
  (fun x => { tmps:=#[.slice A l c,undef,.slice none 0 0,.pointer (some ⟨N,0,none⟩),.slice x.2.1 x.1.length x.2.2,.slice A l c,.func (.func 170) #[] #[.pointer (some ⟨N + 1,0,none⟩),.pointer (some ⟨N + 2,0,none⟩)],.slice x.2.1 x.1.length x.2.2,undef,undef,undef,undef,undef,undef,undef],defers:=[] }) ?assign ?body ?done ?stop
 case assign =>
  rintro gy ⟨r,A2,k2⟩ W K hK
  simp only [pcE]
  gi_wp2
  exact hK
 case body =>
  rintro gy pre ⟨r,A2,k2⟩ W ⟨hj,hb⟩ hx hlen
  obtain rfl:pre = []:=List.eq_nil_of_length_eq_zero (by omega)
  have hv:Boxed W N 25 (.slice none 0 0):=by
   rcases hj with ⟨_,hv⟩ | ⟨_,_,h,_⟩
   ·exact hv
   ·cases h
  have hc:=hv.cell
  have hvl:=hv.lt
  have hx2:r.length ≤ 1000000:=hx.2
  have hcr:Cells W W.heap.size A2 (byteCells r):=hx.1
  have HCP:=Lib.hid (cput_any (.slice none 0 0) 0 [] r.length (N + 1) W (by omega) (by omega) (OwnT.nil _ _ _) (by omega))
  have HV:=Lib.hid hv
  have HB:=Lib.hid hb
  clear hj hx hb
  gi_wp2_with (first
   | (refine ⟨trivial,?_⟩;gi_at_call 79;refine (CallsIn.inRound gy (callsIn_wide.2 HCP.out)).mono ?_;rintro e w1 ⟨A1,c1,rfl,hap1⟩;have HAP1:=Lib.hid hap1;have hs1:=hap1.grow.size;have hcr1:Cells w1 W.heap.size A2 (byteCells r):=Cells.below hcr ⟨hap1.grow.os,hap1.grow.tape,hap1.grow.output,hap1.grow.size,fun k hk => hap1.grow.block k hk (by simp [Value.ownBlock])⟩ (Nat.le_refl _);clear hap1)
   | (gi_at_builtin;refine wpListIn_appT _ byteElem rfl _ _ rfl (N + 1) (.slice A1 (0 + 2) c1) (0 + 2) (byteCells ([]++putN r.length 2)) rfl HAP1.out.own W.heap.size A2 r.length k2 (byteCells r) rfl (by simp [byteCells]) hcr1 (byteCells_one _) (by unfold maxLen;omega) (by omega) (by omega) ?_;intro A3 c3 w2 hap2;have HAP:=Lib.hid (HAP1.out.trans hap2);have hv2:Boxed w2 N 25 (.slice none 0 0):=HV.out.kept HAP.out.grow (by simp [Value.ownBlock]);have hc2:=hv2.cell;have hf2:=hv2.frozen;clear hap2))
  have hap:=HAP.out
  have hnil:(Value.slice none 0 0).ownBlock = none:=rfl
  have hlow:Below N W (w2.setCell ⟨N,0,none⟩ (.slice A3 (2 + r.length) c3)):=((Below.refl N W).grown hap.grow (by omega) (fun k e => by rw [hnil] at e;cases e)).setCell (p:=⟨N,0,none⟩) (Nat.le_refl _) _
  have p2:Boxed (w2.setCell ⟨N,0,none⟩ (.slice A3 (2 + r.length) c3)) N 25 (.slice A3 (2 + r.length) c3):=hv2.set _
  have hown:OwnY w2 (N + 1) (.slice A3 (2 + r.length) c3) (2 + r.length) (putN r.length 2++r):=by
   have h:=hap.own
   rw [List.nil_append,← byteCells_append,Nat.zero_add] at h
   exact h
  have hown2:OwnY (w2.setCell ⟨N,0,none⟩ (.slice A3 (2 + r.length) c3)) (N + 1) (.slice A3 (2 + r.length) c3) (2 + r.length) (putN r.length 2++r) :=
   hown.keep ((Mod.refl (oneB N) w2).set ⟨N,0,none⟩ _ (.inl rfl)) (fun k hk e => by have:=(hown.lt k hk).1;have e2:k = N:=e;omega)
  have p4:KeepsOthers W (w2.setCell ⟨N,0,none⟩ (.slice A3 (2 + r.length) c3)):=(KeepsOthers.of_grownBy hap.grow (fun j o ej _ => by rw [hnil] at ej;cases ej)).trans (KeepsOthers.setCell _ _ _)
  refine ⟨p4,⟨hlow,fun j o hj ho hjB _ => ?_,fun j hj => ?_,p4.size⟩,.inr ⟨(r,A2,k2),_,rfl,p2,hown2⟩,HB.out.trans hlow⟩
  ·have hlt:=(Array.getElem?_eq_some_iff.1 hj).1
   exact (Below.heap_setCell w2 ⟨N,0,none⟩ _ j hjB).trans ((hap.grow.block j hlt (by rw [hnil];simp)).trans hj)
  ·rw [ownOf_box p2] at hj
   have hlt:=(hown2.lt j hj).2
   rcases hap.loc with h | ⟨g,h,hg⟩
   ·rw [hnil,Nat.zero_add] at h
    rw [h] at hj
    cases hj
   ·rw [Nat.zero_add] at h
    rw [h] at hj
    cases hj
    exact ⟨.inr hg,.inr hlt⟩
 case done =>
  rintro D ys W hD hS ⟨hj,hb⟩ _ hK
  have HLOW:Hid (Below w.heap.size w (W.putObj D (.deferred none))):=by
   show Below _ _ _
   rw [HNN.out]
   exact hb.trans ((Below.refl N W).grown (grownBy_putObj' W D _) (by have:=(Array.getElem?_eq_some_iff.1 hK).1;have:=HZ3.out;omega) (fun k e => by cases e;have:=HZ3.out;omega))
  rcases hj with ⟨rfl,hv⟩ | ⟨x,v,rfl,hv,ho⟩
  ·have hbs:bs = []:=by
    unfold ckS at hS
    split at hS
    ·assumption
    ·cases hS
   have hpb:pieceB bs = []:=by unfold pieceB;rw [if_pos hbs]
   have hc:=hv.cell
   clear hv hS hbs hb
   gi_wp2
   refine ⟨by simp,.inl ⟨_,_,rfl,run_takeDeferred hK,?_⟩⟩
   exact ⟨_,results_tmp rfl _ _ _,none,0,0,rfl,by rw [hpb];exact OwnT.nil _ _ _,HLOW.out⟩
  ·have hbs:x.1 = bs∧bs ≠ []:=by
    unfold ckS at hS
    split at hS
    ·cases hS
    ·rename_i h
     have:=List.cons.inj hS
     exact ⟨this.1,h⟩
   have hpb:pieceB bs = putN x.1.length 2++x.1:=by unfold pieceB;rw [if_neg hbs.2,hbs.1]
   obtain ⟨A4,c4,rfl⟩:=ho.form
   have hc:=hv.cell
   have HO:=Lib.hid ho
   clear hv hS hbs hb ho
   gi_wp2
   refine ⟨by simp,.inl ⟨_,_,rfl,run_takeDeferred hK,?_⟩⟩
   refine ⟨_,results_tmp rfl _ _ _,A4,2 + x.1.length,c4,rfl,?_,HLOW.out⟩
   rw [hpb,HNN.out]
   refine (HO.out.le (Nat.le_succ N)).keep (S:=fun k => k = D) ⟨rfl,rfl,rfl,by simp [World.putObj],fun k _ hn => World.putObj_heap_other hn⟩ (fun k hk e => ?_)
   rcases HO.out.2 with ⟨h,_⟩ | ⟨g,cap,cur,fz,h,_,hgb,_⟩
   ·rw [h] at hk;cases hk
   ·rw [h] at hk
    obtain rfl:g = k:=by unfold ownS at hk;simpa [Value.ownBlock] using hk
    rw [e,hK] at hgb
    cases hgb
 case stop =>
  rintro D c pre W _ _ h _
  exact h.elim
end Go.Proofs.YtaknladkodibaaaGreatDoor
