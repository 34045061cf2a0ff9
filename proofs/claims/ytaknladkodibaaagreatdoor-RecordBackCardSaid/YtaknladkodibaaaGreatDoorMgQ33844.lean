/- Layer 7: the rows, as their iterator tells them. -/
import Derived.Test.YtaknladkodibaaaGreatDoorMgQ33836
import Derived.Test.YtaknladkodibaaaGreatDoorMgQ33821
import Derived.RangeFuncBox
import Derived.Test.YtaknladkodibaaaGreatDoorMgQ33805
namespace Go.Proofs.YtaknladkodibaaaGreatDoor
open Go.RowKit Go.Shelf
attribute [local go_sem] Oper.semAt_some
def SlB (W:World) (B:Nat):Prop:=∃ A n c,Boxed W B 265 (.slice A n c)
structure KpO (n B:Nat) (W W':World):Prop where
 low:Below n W W'
 cells:∀ k o,W.heap[k]? = some o→o.isCells = true→k ≠ B→W'.heap[k]? = some o
 box:SlB W B→SlB W' B
 size:W.heap.size ≤ W'.heap.size
theorem KpO.trans {n B:Nat} {X Y Z:World} (h:KpO n B X Y) (k:KpO n B Y Z):KpO n B X Z :=
 ⟨h.low.trans k.low,fun j o hj ho hB => k.cells j o (h.cells j o hj ho hB) ho hB,fun hb => k.box (h.box hb),Nat.le_trans h.size k.size⟩
theorem KpO.putObj {n B:Nat} (W:World) (l:Nat) (o o':Obj) (hn:n ≤ l) (hB:B < l) (ho:W.heap[l]? = some o) (hc:o.isCells = false):KpO n B W (W.putObj l o'):=by
 refine ⟨(Below.refl n W).grown (grownBy_putObj' W l o') (by have:=(Array.getElem?_eq_some_iff.1 ho).1;omega) (fun k e => by cases e;omega),fun k p hk hp _ => ?_,fun ⟨A,m,c,hb⟩ => ⟨A,m,c,(World.putObj_heap_other (by omega)).trans hb⟩,(grownBy_putObj' W l o').size⟩
 by_cases h:k = l
 ·rw [h,ho] at hk;cases hk;rw [hc] at hp;cases hp
 ·exact (World.putObj_heap_other h).trans hk
theorem at_apart {W:World} {B b o wt s:Nat} {p q:Option Addr} (h:SlB W B) (ha:At W b o (elC wt s p q)):b ≠ B:=by
 rintro rfl
 obtain ⟨A,n,c,hb⟩:=h
 have h0:=ha 0 _ rfl
 rw [Nat.add_zero,cell_of_row W b o _ _ _ hb] at h0
 cases o with
 | zero => simp at h0
 | succ o => simp at h0
theorem at_cells {W:World} {b o wt s:Nat} {p q:Option Addr} (ha:At W b o (elC wt s p q)):∃ ob,W.heap[b]? = some ob∧ob.isCells = true:=by
 obtain ⟨c,e,fr,h,_⟩:=Go.Sort.cells_of_cell? (ha 0 _ rfl)
 exact ⟨_,h,rfl⟩
theorem RowL.kpo {n B:Nat} {W W':World} {k m c:Nat} {A:Option Addr} {xs:List WE} {cs:List Value} (h:RowL W k A m c xs cs) (hk:KpO n B W W') (hb:SlB W B):RowL W' k A m c xs cs :=
 h.keep hk.size fun b o wt s p q ha => by
  obtain ⟨ob,h1,h2⟩:=at_cells ha
  rw [h1]
  exact hk.cells b ob h1 h2 (at_apart hb ha)
theorem abidesNone {α:Type} {B:Nat} {J:List α→World→Prop} (h:AbidesS B (fun _ => False) J) {s:List α} {W W':World} (hj:J s W) (hb:Below W.heap.size W W'):J s W' :=
 h s W W' none hj ⟨hb.os,hb.tape,hb.output,hb.size,fun k hk _ => hb.block k hk⟩ (fun r e => by cases e)
structure RwV where
 k:Nat
 A:Option Addr
 n:Nat
 c:Nat
 cs:List Value
def rwE (x:RwV):Array Value:=#[.slice x.A x.n x.c]
def rwX (first:List WE) (x:RwV) (W:World):Prop:=RowL W x.k x.A x.n x.c (rowW first x.k) x.cs
theorem rows_any (A:Option Addr) (l c:Nat) (w:World) :
  Calls Tryz.prog 187 #[.slice A l c] w fun e w' => e = .returned (.func (.func 217) #[] #[.pointer (some ⟨w.heap.size,0,none⟩)])∧w.alloc (.cells #[.slice A l c] 265) = w':=by
 go_enter Tryz.func187,Tryz.ntmps187
 go_wp2
 go_ret
 exact ⟨rfl,rfl⟩
set_option maxRecDepth 100000 in
set_option maxHeartbeats 1000000 in
theorem rows_seq (n B bx:Nat) (A:Option Addr) (l c:Nat) (first:List WE) (cs:List Value) (w0:World) (hm:l ≤ 320) (hbd:∀ x ∈ first,x.1 ≤ 1073741824) (hr:RowL w0 0 A l c first cs) (hn:n ≤ w0.heap.size) (hxB:bx ≠ B)
  (hx:Boxed w0 bx 265 (.slice A l c)) (hB:SlB w0 B) :
  SeqR Fence.wide 5 Tryz.prog 217 #[.pointer (some ⟨bx,0,none⟩)] rwE (KpO n B) (fun _ => False) (fun xs => xs.map (·.k) = List.range 15) (fun _ => True) (rwX first) (fun _ _ => True) 16 w0:=by
 intro gy J Jx W hbl hJ hJx hY h0
 have HRW:Hid (RowL W 0 A l c first cs):=hr.below hbl
 have HXW:Hid (Boxed W bx 265 (.slice A l c)):=(hbl.block bx hx.lt).trans hx
 have HBW:Hid (SlB W B):=by obtain ⟨A',n',c',hb⟩:=hB;exact ⟨A',n',c',(hbl.block B hb.lt).trans hb⟩
 have HNZ:Hid (n ≤ W.heap.size):=Nat.le_trans hn hbl.size
 have HY:=Lib.hid hY
 have HJ:=Lib.hid hJ
 have HBD:=Lib.hid hbd
 have hx0:W.cell? ⟨bx,0,none⟩ = some (.slice A l c):=HXW.out.cell
 clear hx hr hB hn hbl hY hJ hbd
 refine callsIn_of_wp Tryz.func217 rfl trivial ?_ rfl
 simp only [Tryz.ntmps217,List.size_toArray,List.length_cons,List.length_nil,Nat.reduceAdd,Nat.reduceSub,Array.replicate_succ,Array.replicate_zero,List.push_toArray,List.append_toArray,List.nil_append,List.cons_append]
 gi_wp2
 gi_loopw [3,5] (fun row i wr => ∃ (k:Nat) (pre:List RwV) (A1:Option Addr) (n1 c1:Nat) (cs1:List Value),i = .int .i64 (k:Int)∧k ≤ 14∧row = .slice A1 n1 c1∧RowL wr k A1 n1 c1 (rowW first k) cs1∧RowL wr 0 A l c first cs ∧
  Boxed wr bx 265 (.slice A l c)∧SlB wr B∧n ≤ wr.heap.size∧pre.map (·.k) = List.range k∧J pre wr) (fun _ i _ => 14 - (intOf i).toNat)
 case atStart => exact ⟨0,[],A,l,c,cs,rfl,by omega,rfl,HRW.out,HRW.out,HXW.out,HBW.out,HNZ.out,rfl,h0⟩
 case round =>
  obtain ⟨k,pre,A1,n1,c1,cs1,rfl,hk,rfl,hrow,hfst,hbx,hslb,hnz,hpre,hj⟩:=hrel
  have hpl:pre.length = k:=by have:=congrArg List.length hpre;simpa using this
  obtain ⟨fn,tmps,assign,body,hy,hR⟩:=HY.out pre ⟨k,A1,n1,c1,cs1⟩ wr hj hrow (by omega)
  simp only [rwE] at hy
  have HR:=Lib.hid hR
  have HROW:=Lib.hid hrow
  have HFST:=Lib.hid hfst
  have HBX:=Lib.hid hbx
  have HSLB:=Lib.hid hslb
  have HNW:=Lib.hid hnz
  have HPRE:=Lib.hid hpre
  have HLEN:Hid (n1 ≤ 640):=by
   show _ ≤ _
   rw [← hrow.len]
   have:=rowW_len first k
   have:=hfst.len
   omega
  have HWT:Hid (∀ x ∈ rowW first k,x.1 ≤ 1125899906842624):=fun x hx => by
   have h1:=rowW_bd HBD.out k x hx
   have h2:2 ^ k ≤ 2 ^ 14:=Nat.pow_le_pow_right (by omega) hk
   have h3:=Nat.mul_le_mul_right 1073741824 h2
   omega
  clear hR hrow hfst hbx hslb hnz hpre hj hx0
  by_cases hk14:k < 14
  ·gi_wp2_with fail
   refine HR.out.mono ?_
   rintro ee W3 (⟨rfl,hJ3,hk3⟩ | ⟨rfl,hJx3⟩)
   ·have HR3:=Lib.hid (HROW.out.kpo hk3 HSLB.out)
    have HF3:=Lib.hid (HFST.out.kpo hk3 HSLB.out)
    have HX3:Hid (Boxed W3 bx 265 (.slice A l c)):=hk3.cells bx _ HBX.out rfl hxB
    have HS3:=Lib.hid (hk3.box HSLB.out)
    have HN3:Hid (n ≤ W3.heap.size):=Nat.le_trans HNW.out hk3.size
    have HJ3:=Lib.hid hJ3
    have x3:W3.drew.cell? ⟨bx,0,none⟩ = some (.slice A l c):=HX3.out.cell
    have HPA:=Lib.hid (pairs_row A1 n1 c1 (rowW first k) cs1 k W3.drew (HR3.out.below ((Below.refl W3.heap.size W3).drew)) (by have:=HLEN.out;omega) HWT.out)
    clear hJ3 hk3
    gi_wp2_with fail
    gi_region_with (first
     | (refine ⟨trivial,?_⟩;gi_at_call 219;refine (callsIn_wide.2 HPA.out).mono ?_;rintro e w4 ⟨A4,n4,c4,cs4,rfl,hn4,hr4,hb4⟩;have HN4:=Lib.hid hn4;have HR4:=Lib.hid hr4;have HB4:Hid (Below W3.heap.size W3 w4):=(((Below.refl W3.heap.size W3).drew).trans hb4);have x4:w4.cell? ⟨bx,0,none⟩ = some (.slice A l c):=(HB4.out.cell (p:=⟨bx,0,none⟩) HX3.out.lt).trans HX3.out.cell;clear hn4 hr4 hb4)
     | (refine ⟨trivial,?_⟩;gi_at_call 218;refine (callsIn_wide.2 (merge_row A A4 l c n4 c4 first (prW (rowW first k)) cs cs4 (k + 1) w4 ((HF3.out.below HB4.out).ups _) HR4.out (by omega) HN4.out)).mono ?_;rintro e w5 ⟨A5,n5,c5,cs5,rfl,hr5,hb5⟩;have HR5:=Lib.hid hr5;have HB5:Hid (Below W3.heap.size W3 w5):=HB4.out.trans (hb5.mono HB4.out.size);clear hr5 hb5))
    all_goals
     gi_wp2_with fail
     have hb5:=HB5.out
     refine ⟨⟨k + 1,pre++[⟨k,A1,n1,c1,cs1⟩],A5,n5,c5,cs5,by go_num,by omega,rfl,HR5.out,HF3.out.below hb5,(hb5.block bx HX3.out.lt).trans HX3.out,?_,Nat.le_trans HN3.out hb5.size,?_,abidesNone HJ.out HJ3.out hb5⟩,?_⟩
     ·obtain ⟨A',n',c',hb⟩:=HS3.out
      exact ⟨A',n',c',(hb5.block B hb.lt).trans hb⟩
     ·rw [List.map_append,HPRE.out,List.range_succ]
      rfl
     ·simp [intOf]
      omega
   ·gi_wp2
    refine bodyPost_ret (results_none rfl _ _ _) rfl ?_
    exact ⟨⟨_,rfl⟩,.inr ⟨_,trivial,hJx3⟩⟩
  ·obtain rfl:k = 14:=by omega
   gi_wp2_with fail
   refine HR.out.mono ?_
   rintro ee W3 (⟨rfl,hJ3,hk3⟩ | ⟨rfl,hJx3⟩)
   ·gi_wp2
    refine bodyPost_end (results_none rfl _ _ _) rfl ?_
    exact ⟨⟨_,rfl⟩,.inl ⟨_,by rw [List.map_append,HPRE.out];rfl,hJ3,trivial⟩⟩
   ·gi_wp2
    refine bodyPost_end (results_none rfl _ _ _) rfl ?_
    exact ⟨⟨_,rfl⟩,.inr ⟨_,trivial,hJx3⟩⟩
def wB (n:Int):Bool:=decide (0 ≤ n) && decide (n ≤ 1073741824)
set_option maxHeartbeats 400000 in
theorem rweight_any (n:Int) (w:World):Calls Tryz.prog 185 #[.int .i64 n] w fun e w' => e = .returned (.bool (wB n))∧w = w':=by
 by_cases h1:0 ≤ n
 ·by_cases h2:n ≤ 1073741824
  ·have HD:Hid (wB n = true):=by show _ = _;simp [wB,h1,h2]
   go_enter Tryz.func185,Tryz.ntmps185
   go_wp2
   go_ret
   exact ⟨by rw [HD.out];rfl,rfl⟩
  ·have HD:Hid (wB n = false):=by show _ = _;simp [wB,h2]
   have h2':decide (n ≤ 1073741824) = false:=by simpa using h2
   clear h2
   go_enter Tryz.func185,Tryz.ntmps185
   go_wp2
   go_ret
   exact ⟨by rw [HD.out];rfl,rfl⟩
 ·have HD:Hid (wB n = false):=by show _ = _;simp [wB,h1]
  go_enter Tryz.func185,Tryz.ntmps185
  go_wp2
  go_ret
  exact ⟨by rw [HD.out];rfl,rfl⟩
end Go.Proofs.YtaknladkodibaaaGreatDoor
namespace Go.Proofs.YtaknladkodibaaaGreatDoor
open Go.RowKit Go.Shelf
def lensW (ns:List Nat):List Nat:=match itemsW ns with
 | [] => List.replicate ns.length 0
 | [x] => (List.replicate ns.length 0).set x.2 1
 | its => incW (List.replicate ns.length 0) (symsW its)
theorem lensW_none {ns:List Nat} (h:itemsW ns = []):lensW ns = List.replicate ns.length 0:=by rw [lensW,h]
theorem lensW_one {ns:List Nat} {x:Nat × Nat} (h:itemsW ns = [x]):lensW ns = (List.replicate ns.length 0).set x.2 1:=by rw [lensW,h]
theorem lensW_many {ns:List Nat} (h:2 ≤ (itemsW ns).length):lensW ns = incW (List.replicate ns.length 0) (symsW (itemsW ns)):=by
 rw [lensW]
 split
 ·rename_i e;rw [e] at h;simp at h
 ·rename_i e;rw [e] at h;simp at h
 ·rfl
theorem lensW_len (ns:List Nat):(lensW ns).length = ns.length:=by
 rw [lensW]
 split
 ·simp
 ·simp
 ·rw [incW_len];simp
theorem itP_mem {ns:List Nat}:∀ {k:Nat} {x:Nat × Nat},x ∈ itP ns k→ns[x.2]? = some x.1∧0 < x.1∧x.2 < k
 | 0,x,h => by simp [itP] at h
 | k + 1,x,h => by
  rw [itP] at h
  split at h
  ·rename_i y hy
   split at h
   ·rename_i hp
    rcases List.mem_append.1 h with h | h
    ·obtain ⟨h1,h2,h3⟩:=itP_mem h
     exact ⟨h1,h2,by omega⟩
    ·rw [List.mem_singleton.1 h]
     exact ⟨hy,hp,by show k < _;omega⟩
   ·obtain ⟨h1,h2,h3⟩:=itP_mem h
    exact ⟨h1,h2,by omega⟩
  ·obtain ⟨h1,h2,h3⟩:=itP_mem h
   exact ⟨h1,h2,by omega⟩
theorem itemsW_mem {ns:List Nat} {x:Nat × Nat} (h:x ∈ itemsW ns):ns[x.2]? = some x.1∧0 < x.1∧x.2 < ns.length:=itP_mem ((sortW_perm _).mem_iff.1 h)
theorem itemsW_len (ns:List Nat):(itemsW ns).length ≤ ns.length:=by
 rw [itemsW,(sortW_perm _).length_eq]
 exact itP_len _ _
set_option maxRecDepth 100000 in
set_option maxHeartbeats 1000000 in
theorem lengths_none (A:Option Addr) (l c:Nat) (ns:List Nat) (B:Nat) (w:World) (hz:ns.length = l) (hl:l ≤ 320) (hb:Cells w B A (nCs ns)) (hB:B ≤ w.heap.size) (hok:∀ n ∈ ns,n ≤ 1073741824) (hn:itemsW ns = []) :
  Calls Tryz.prog 150 #[.slice A l c] w fun e w' => ∃ A' c',e = .returned (.tuple #[.slice A' l c',.int .i64 0])∧w'.ownsRow w.heap.size 3 1 (.slice A' l c') l (nCs (lensW ns))∧Below w.heap.size w w':=by
 have HC:=Lib.hid hb
 have HL:=Lib.hid hz
 have HOK:=Lib.hid hok
 have HB:=Lib.hid hB
 have HN:=Lib.hid hn
 have hd:decide ((320:Int) < (l:Int)) = false:=by simp;omega
 clear hb hz hok hB hn
 go_enter Tryz.func150,Tryz.ntmps150
 go_wp2
 go_loopg [17] l (fun gk i wr => ∃ k:Nat,k + gk = l∧i = .int .i64 k∧wr = w)
 case atStart => exact ⟨0,by omega,rfl,rfl⟩
 case round =>
  obtain ⟨k,hk,rfl,rfl⟩:=hrel
  by_cases h:k < l
  ·obtain ⟨x,hx⟩:∃ x,ns[k]? = some x:=⟨_,List.getElem?_eq_getElem (by have:=HL.out;omega)⟩
   obtain ⟨b,o,rfl,hbB,hc⟩:=HC.out (by rw [nCs_len,HL.out];omega)
   have c0:wr.cell? ⟨b,o + k,none⟩ = some (.int .i64 (x:Int)):=hc k _ (nCs_at hx)
   have hxo:=HOK.out x (List.mem_of_getElem? hx)
   have hq:wB (x:Int) = true:=by simp [wB];omega
   have HR:=Lib.hid (rweight_any (x:Int) wr)
   rw [hq] at HR
   clear hc hx hq
   go_wp2_with (go_at_call 185;refine HR.out.mono ?_;rintro e w' ⟨rfl,rfl⟩)
   go_roundg (gk - 1)
   case measure => omega
   case rel => exact ⟨k + 1,by omega,by go_num,rfl⟩
  ·obtain rfl:k = l:=by omega
   have HI:=Lib.hid (fun W (hW:Below wr.heap.size wr W) => items_any A k c ns B W HL.out (by omega) (Nat.le_trans HB.out hW.size) (HC.out.below hW HB.out))
   obtain ⟨w1,hw1⟩:∃ w1,wr.alloc (.cells (madeCells #[.int .i64 0] k) 3) = w1:=⟨_,rfl⟩
   have hmk:(Instr.makeSlice 156 (.int .i64 (k:Int)) (.int .i64 (k:Int))).run Tryz.prog wr = .ok (.slice (some ⟨wr.heap.size,0,none⟩) k k) w1:=by rw [← hw1];exact wei_make k (by omega) wr
   have HN1:Hid (NB w1 wr.heap.size (List.replicate k 0)):=by show NB _ _ _;rw [← hw1];exact wei_made wr k
   have HB1:Hid (Below wr.heap.size wr w1):=by show Below _ _ _;rw [← hw1];exact (Below.refl _ _).alloc (Nat.le_refl _) _
   have HZ1:Hid (w1.heap.size = wr.heap.size + 1):=by show _ = _;rw [← hw1];simp
   clear hw1
   go_wp2_with (go_at_call 186;refine (HI.out w1 HB1.out).mono ?_;rintro e w2 ⟨A7,n7,c7,rfl,hn7,ho7,hb7⟩;(obtain rfl:n7 = 0:=by rw [hn7,HN.out];rfl);have HB7:=Lib.hid hb7;clear hn7 ho7 hb7)
   go_ret2
   have h2:NB w2 wr.heap.size (List.replicate k 0):=HN1.out.below HB7.out (by rw [HZ1.out];omega)
   have h3:=h2.own (Nat.le_refl _) (by unfold maxLen;simp;omega)
   simp only [List.length_replicate] at h3
   exact ⟨_,k,rfl,by rw [lensW_none HN.out,HL.out];exact h3,HB1.out.trans (HB7.out.mono (by rw [HZ1.out];omega))⟩
set_option maxRecDepth 100000 in
set_option maxHeartbeats 1000000 in
theorem lengths_one (A:Option Addr) (l c:Nat) (ns:List Nat) (B:Nat) (w:World) (x0 s0:Nat) (hz:ns.length = l) (hl:l ≤ 320) (hb:Cells w B A (nCs ns)) (hB:B ≤ w.heap.size) (hok:∀ n ∈ ns,n ≤ 1073741824) (hn:itemsW ns = [(x0,s0)]) :
  Calls Tryz.prog 150 #[.slice A l c] w fun e w' => ∃ A' c',e = .returned (.tuple #[.slice A' l c',.int .i64 0])∧w'.ownsRow w.heap.size 3 1 (.slice A' l c') l (nCs (lensW ns))∧Below w.heap.size w w':=by
 have HC:=Lib.hid hb
 have HL:=Lib.hid hz
 have HOK:=Lib.hid hok
 have HB:=Lib.hid hB
 have HN:=Lib.hid hn
 have hs0:s0 < l:=by
  have:=(itemsW_mem (ns:=ns) (x:=(x0,s0)) (by rw [hn];simp)).2.2
  rw [hz] at this
  exact this
 have hd:decide ((320:Int) < (l:Int)) = false:=by simp;omega
 clear hb hz hok hB hn
 go_enter Tryz.func150,Tryz.ntmps150
 go_wp2
 go_loopg [17] l (fun gk i wr => ∃ k:Nat,k + gk = l∧i = .int .i64 k∧wr = w)
 case atStart => exact ⟨0,by omega,rfl,rfl⟩
 case round =>
  obtain ⟨k,hk,rfl,rfl⟩:=hrel
  by_cases h:k < l
  ·obtain ⟨x,hx⟩:∃ x,ns[k]? = some x:=⟨_,List.getElem?_eq_getElem (by have:=HL.out;omega)⟩
   obtain ⟨b,o,rfl,hbB,hc⟩:=HC.out (by rw [nCs_len,HL.out];omega)
   have c0:wr.cell? ⟨b,o + k,none⟩ = some (.int .i64 (x:Int)):=hc k _ (nCs_at hx)
   have hxo:=HOK.out x (List.mem_of_getElem? hx)
   have hq:wB (x:Int) = true:=by simp [wB];omega
   have HR:=Lib.hid (rweight_any (x:Int) wr)
   rw [hq] at HR
   clear hc hx hq
   go_wp2_with (go_at_call 185;refine HR.out.mono ?_;rintro e w' ⟨rfl,rfl⟩)
   go_roundg (gk - 1)
   case measure => omega
   case rel => exact ⟨k + 1,by omega,by go_num,rfl⟩
  ·obtain rfl:k = l:=by omega
   have HI:=Lib.hid (fun W (hW:Below wr.heap.size wr W) => items_any A k c ns B W HL.out (by omega) (Nat.le_trans HB.out hW.size) (HC.out.below hW HB.out))
   obtain ⟨w1,hw1⟩:∃ w1,wr.alloc (.cells (madeCells #[.int .i64 0] k) 3) = w1:=⟨_,rfl⟩
   have hmk:(Instr.makeSlice 156 (.int .i64 (k:Int)) (.int .i64 (k:Int))).run Tryz.prog wr = .ok (.slice (some ⟨wr.heap.size,0,none⟩) k k) w1:=by rw [← hw1];exact wei_make k (by omega) wr
   have HN1:Hid (NB w1 wr.heap.size (List.replicate k 0)):=by show NB _ _ _;rw [← hw1];exact wei_made wr k
   have HB1:Hid (Below wr.heap.size wr w1):=by show Below _ _ _;rw [← hw1];exact (Below.refl _ _).alloc (Nat.le_refl _) _
   have HZ1:Hid (w1.heap.size = wr.heap.size + 1):=by show _ = _;rw [← hw1];simp
   clear hw1
   obtain ⟨g,hg⟩:∃ g,wr.heap.size = g:=⟨_,rfl⟩
   have HG:=Lib.hid hg
   rw [hg] at hmk HN1 HZ1
   clear hg
   go_wp2_with (go_at_call 186;refine (HI.out w1 HB1.out).mono ?_;rintro e w2 ⟨A7,n7,c7,rfl,hn7,ho7,hb7⟩;(obtain rfl:n7 = 1:=by rw [hn7,HN.out];rfl);have HB7:=Lib.hid hb7;(have hcc:=(cells_of_ownK ho7).2 (by rw [HN.out];simp [itEn,elC]));obtain ⟨b7,o7,rfl,_,hcell⟩:=hcc;(have f1:w2.cell? ⟨b7,o7 + 1,none⟩ = some (.int .i64 (s0:Int)):=hcell 1 _ (by rw [HN.out];rfl));(have HN2:=Lib.hid (HN1.out.below HB7.out (by rw [HZ1.out];omega)));(have d0:w2.cell? ⟨g,s0,none⟩ = some (.int .i64 0):=by (have:=HN2.out.cell (k:=s0) (n:=0) (by simp [hs0]));simpa using this);(have d1:w2.frozen? ⟨g,s0,none⟩ = false:=HN2.out.free);clear hn7 ho7 hb7 hcell)
   go_ret2
   have h2:=HN2.out.set s0 1
   have h3:=h2.own (base:=g) (Nat.le_refl _) (by unfold maxLen;simp;omega)
   simp only [List.length_replicate,List.length_set] at h3
   have hg:=HG.out
   have hb:Below g wr w2:=by
    rw [← hg]
    exact HB1.out.trans (HB7.out.mono (by rw [HZ1.out];omega))
   rw [hg]
   exact ⟨_,k,rfl,by rw [lensW_one HN.out,HL.out];exact h3,hb.setCell (p:=⟨g,s0,none⟩) (Nat.le_refl _) _⟩
end Go.Proofs.YtaknladkodibaaaGreatDoor
namespace Go.Proofs.YtaknladkodibaaaGreatDoor
theorem itP_nodup {ns:List Nat}:∀ k,((itP ns k).map (·.2)).Nodup
 | 0 => by simp [itP]
 | k + 1 => by
  have ih:=itP_nodup (ns:=ns) k
  rw [itP]
  split
  ·split
   ·rw [List.map_append,List.nodup_append]
    refine ⟨ih,by simp,fun a ha b hb => ?_⟩
    obtain ⟨x,hx,rfl⟩:=List.mem_map.1 ha
    have h3:=(itP_mem hx).2.2
    have:b = k:=by simpa using hb
    omega
   ·exact ih
  ·exact ih
theorem itemsW_good {ns:List Nat} (h2:2 ≤ (itemsW ns).length) (hl:ns.length ≤ 16384):Good (itemsW ns) where
 rise:=by
  rw [RiseW,firstW,List.pairwise_map]
  exact (sortW_le _).imp fun {a b} h => by dsimp only;omega
 nodup:=((sortW_perm (itP ns ns.length)).map (·.2)).nodup_iff.2 (itP_nodup _)
 two:=h2
 few:=Nat.le_trans (itemsW_len ns) hl
theorem prW_all {P:Nat→Prop}:∀ l:List WE,(∀ x ∈ l,∀ s ∈ x.2,P s)→∀ x ∈ prW l,∀ s ∈ x.2,P s
 | [],_,x,h => by simp [prW] at h
 | [_],_,x,h => by simp [prW] at h
 | a :: b :: r,hl,x,h => by
  rw [prW] at h
  rcases List.mem_cons.1 h with rfl | h
  ·intro s hs
   rcases List.mem_append.1 hs with hs | hs
   ·exact hl a (by simp) s hs
   ·exact hl b (by simp) s hs
  ·exact prW_all r (fun y hy => hl y (by simp [hy])) x h
theorem rowW_all {P:Nat→Prop} {first:List WE} (h:∀ x ∈ first,∀ s ∈ x.2,P s):∀ k,∀ x ∈ rowW first k,∀ s ∈ x.2,P s
 | 0,x,hx => h x hx
 | k + 1,x,hx => by
  rw [rowW] at hx
  rcases mgW_mem _ _ x hx with hx | hx
  ·exact h x hx
  ·exact prW_all _ (rowW_all h k) x hx
theorem firstW_all {ns:List Nat}:∀ x ∈ firstW (itemsW ns),∀ s ∈ x.2,s < ns.length:=by
 intro x hx s hs
 obtain ⟨y,hy,rfl⟩:=List.mem_map.1 hx
 have h1:s = y.2:=by simpa using hs
 rw [h1]
 exact (itemsW_mem hy).2.2
theorem lnW_le {ns:List Nat} (hg:Good (itemsW ns)) (s:Nat):lnW (itemsW ns) s ≤ 15:=by
 by_cases h:s ∈ (itemsW ns).map (·.2)
 ·obtain ⟨x,hx,rfl⟩:=List.mem_map.1 h
  exact ln_le hg hx
 ·rw [ln_none hg h]
  exact Nat.zero_le _
theorem count_flat_le {l:List WE} (s j m:Nat) (h:j ≤ m):((l.take j).flatMap (·.2)).count s ≤ ((l.take m).flatMap (·.2)).count s:=by
 obtain ⟨d,rfl⟩:=Nat.exists_eq_add_of_le h
 rw [List.take_add,List.flatMap_append,List.count_append]
 omega
end Go.Proofs.YtaknladkodibaaaGreatDoor
namespace Go.Proofs.YtaknladkodibaaaGreatDoor
open Go.RowKit Go.Shelf
attribute [local go_sem] Oper.semAt_some
def lnI (N:Nat) (w:World) (first:List WE) (pre:List RwV) (W:World):Prop :=
 (∃ A n c,Boxed W N 265 (.slice A n c)∧∀ x,pre.getLast? = some x→x.A = A∧x.n = n∧x.c = c∧rwX first x W)∧Below N w W
theorem rwX_grown {first:List WE} {x:RwV} {W W':World} {row:Option Nat} (h:rwX first x W) (hg:W.grownBy W' row) (hr:∀ r,row = some r→∃ o:Obj,W.heap[r]? = some o∧o.isCells = false):rwX first x W' :=
 RowL.keep h hg.size fun b o wt s p q ha => by
  obtain ⟨ob,h1,h2⟩:=at_cells ha
  refine hg.block b (Array.getElem?_eq_some_iff.1 h1).1 fun e => ?_
  obtain ⟨o',h3,h4⟩:=hr b e.symm
  rw [h1] at h3
  cases h3
  rw [h2] at h4
  cases h4
theorem lnI_own (N M:Nat) (w:World) (first:List WE) (hN:N ≤ w.heap.size) (hM:N ≤ M):OwnS M (fun _ => False) (lnI N w first):=by
 rintro s X Y row ⟨⟨A,n,c,hv,hx⟩,hb⟩ hg hrow
 have hr:∀ r,row = some r→∃ o:Obj,X.heap[r]? = some o∧o.isCells = false:=fun r e => by
  rcases hrow r e with h | ⟨_,h⟩
  ·exact h.elim
  ·exact h
 refine ⟨⟨A,n,c,hv.kept hg fun e => ?_,fun x h => ?_⟩,hb.grown hg (Nat.le_trans hN hb.size) (fun k e => (hrow k e).elim (fun h => h.elim) (fun h => Nat.le_trans hM h.1))⟩
 ·obtain ⟨o,ho,hc⟩:=hr _ e.symm
  rw [show X.heap[N]? = _ from hv] at ho
  cases ho
  cases hc
 ·obtain ⟨h1,h2,h3,h4⟩:=hx x h
  exact ⟨h1,h2,h3,rwX_grown h4 hg hr⟩
theorem lnI_set {N:Nat} {w W:World} {first:List WE} {pre:List RwV} {x:RwV} (h:lnI N w first pre W) (hx:rwX first x W) :
  KeepsOthers W (W.setCell ⟨N,0,none⟩ (.slice x.A x.n x.c))∧KpO N N W (W.setCell ⟨N,0,none⟩ (.slice x.A x.n x.c))∧lnI N w first (pre++[x]) (W.setCell ⟨N,0,none⟩ (.slice x.A x.n x.c)):=by
 obtain ⟨⟨A,n,c,hv,_⟩,hb⟩:=h
 have hk:KpO N N W (W.setCell ⟨N,0,none⟩ (.slice x.A x.n x.c)) :=
  ⟨(Below.refl _ _).setCell (p:=⟨N,0,none⟩) (Nat.le_refl _) _,fun k o hk _ hne => (Below.heap_setCell W ⟨N,0,none⟩ _ k hne).trans hk,fun _ => ⟨_,_,_,hv.set _⟩,by simp [World.setCell]⟩
 refine ⟨KeepsOthers.setCell _ _ _,hk,⟨_,_,_,hv.set _,fun y hy => ?_⟩,hb.setCell (p:=⟨N,0,none⟩) (Nat.le_refl _) _⟩
 obtain rfl:x = y:=by simpa using hy
 exact ⟨rfl,rfl,rfl,RowL.kpo hx hk ⟨_,_,_,hv⟩⟩
theorem row_items (w:World) (B:Nat):∀ its:List (Nat × Nat),(∀ x ∈ its,x.2 ≤ 1000)→RowE w B 0 (firstW its) (its.flatMap itEn)
 | [],_ => RowE.nil _ _ _
 | x :: its,h => by
  have h1:RowE w B 0 [(x.1,[x.2])] (itEn x):=by
   have:=(RowE.nil w B 0).snoc (x:=(x.1,[x.2])) (c:=itEn x) ⟨x.2,rfl,h x (by simp),rfl⟩
   simpa using this
  exact h1.append (row_items w B its fun y hy => h y (by simp [hy]))
theorem RowL.mod {w w':World} {g k n c:Nat} {A:Option Addr} {xs:List WE} {cs:List Value} {ns:List Nat} (h:RowL w k A n c xs cs) (hn:NB w g ns) (hm:Mod (oneB g) w w'):RowL w' k A n c xs cs :=
 h.keep hm.size fun b o wt s p q ha => by
  obtain ⟨ob,h1,_⟩:=at_cells ha
  exact hm.block b (Array.getElem?_eq_some_iff.1 h1).1 fun e => hn.apart ha e
theorem last14 {ys:List RwV} (h:ys.map (·.k) = List.range 15):∃ x,ys.getLast? = some x∧x.k = 14:=by
 have h1:=congrArg List.getLast? h
 rw [List.getLast?_map] at h1
 cases hy:ys.getLast? with
 | none => rw [hy] at h1;cases h1
 | some x =>
  rw [hy] at h1
  have h2:(List.range 15).getLast? = some 14:=by decide
  rw [h2] at h1
  exact ⟨x,rfl,by simpa using h1⟩
set_option maxRecDepth 100000 in
set_option maxHeartbeats 2000000 in
theorem lengths_many (A:Option Addr) (l c:Nat) (ns:List Nat) (B:Nat) (w:World) (hz:ns.length = l) (hl:l ≤ 320) (hb:Cells w B A (nCs ns)) (hB:B ≤ w.heap.size) (hok:∀ n ∈ ns,n ≤ 1073741824) (h2:2 ≤ (itemsW ns).length) :
  Calls Tryz.prog 150 #[.slice A l c] w fun e w' => ∃ A' c',e = .returned (.tuple #[.slice A' l c',.int .i64 0])∧w'.ownsRow w.heap.size 3 1 (.slice A' l c') l (nCs (lensW ns))∧Below w.heap.size w w':=by
 have HC:=Lib.hid hb
 have HL:=Lib.hid hz
 have HOK:=Lib.hid hok
 have HB:=Lib.hid hB
 obtain ⟨n,hn⟩:∃ n,(itemsW ns).length = n:=⟨_,rfl⟩
 have hnl:n ≤ l:=by rw [← hn,← hz];exact itemsW_len ns
 rw [hn] at h2
 have HN:=Lib.hid hn
 have hd:decide ((320:Int) < (l:Int)) = false:=by simp;omega
 clear hb hz hok hB hn
 refine (callsIn_wide (n:=6)).1 ?_
 refine callsIn_of_wp_marks Tryz.func150 rfl trivial ?_ rfl
 simp only [Tryz.ntmps150,List.size_toArray,List.length_cons,List.length_nil,Nat.reduceAdd,Nat.reduceSub,Array.replicate_succ,Array.replicate_zero,List.push_toArray,List.append_toArray,List.nil_append,List.cons_append]
 gi_wp2_with fail
 gi_loopw [17] (fun i wr => ∃ k:Nat,k ≤ l∧i = .int .i64 (k:Int)∧wr = w) (fun i _ => l - (intOf i).toNat)
 case atStart => exact ⟨0,by omega,rfl,rfl⟩
 case round =>
  obtain ⟨k,hk,rfl,rfl⟩:=hrel
  by_cases h:k < l
  ·obtain ⟨x,hx⟩:∃ x,ns[k]? = some x:=⟨_,List.getElem?_eq_getElem (by have:=HL.out;omega)⟩
   obtain ⟨b,o,rfl,hbB,hc⟩:=HC.out (by rw [nCs_len,HL.out];omega)
   have c0:wr.cell? ⟨b,o + k,none⟩ = some (.int .i64 (x:Int)):=hc k _ (nCs_at hx)
   have hxo:=HOK.out x (List.mem_of_getElem? hx)
   have hq:wB (x:Int) = true:=by simp [wB];omega
   have HR:=Lib.hid (rweight_any (x:Int) wr)
   rw [hq] at HR
   clear hc hx hq
   gi_wp2_with (refine ⟨trivial,?_⟩;gi_at_call 185;refine (callsIn_wide.2 HR.out).mono ?_;rintro e w' ⟨rfl,rfl⟩)
   exact ⟨⟨k + 1,by omega,by go_num,trivial⟩,by simp [intOf];omega⟩
  ·obtain rfl:k = l:=by omega
   obtain ⟨w0,hw0⟩:∃ w0,w0 = wr:=⟨_,rfl⟩
   subst hw0
   have HI:=Lib.hid (fun W (hW:Below w0.heap.size w0 W) => items_any A k c ns B W HL.out (by omega) (Nat.le_trans HB.out hW.size) (HC.out.below hW HB.out))
   obtain ⟨w1,hw1⟩:∃ w1,w0.alloc (.cells (madeCells #[.int .i64 0] k) 3) = w1:=⟨_,rfl⟩
   have hmk:(Instr.makeSlice 156 (.int .i64 (k:Int)) (.int .i64 (k:Int))).run Tryz.prog w0 = .ok (.slice (some ⟨w0.heap.size,0,none⟩) k k) w1:=by rw [← hw1];exact wei_make k (by omega) w0
   have HN1:Hid (NB w1 w0.heap.size (List.replicate k 0)):=by show NB _ _ _;rw [← hw1];exact wei_made w0 k
   have HB1:Hid (Below w0.heap.size w0 w1):=by show Below _ _ _;rw [← hw1];exact (Below.refl _ _).alloc (Nat.le_refl _) _
   have HZ1:Hid (w1.heap.size = w0.heap.size + 1):=by show _ = _;rw [← hw1];simp
   clear hw1
   obtain ⟨g,hg⟩:∃ g,w0.heap.size = g:=⟨_,rfl⟩
   have HG:=Lib.hid hg
   rw [hg] at hmk HN1 HZ1
   clear hg
   have t1:((n:Int) == 1) = false:=by simp;omega
   have t2:decide ((n:Int) < 2) = false:=by simp;omega
   gi_wp2_with (first
    | (refine ⟨trivial,?_⟩;gi_at_call 186;refine (callsIn_wide.2 (HI.out w1 HB1.out)).mono ?_;rintro e w2 ⟨A7,n7,c7,rfl,hn7,ho7,hb7⟩;(obtain rfl:n7 = n:=hn7.trans HN.out);have HO7:=Lib.hid ho7;have HB7:=Lib.hid hb7;clear hn7 ho7 hb7)
    | (refine ⟨trivial,?_⟩;gi_at_call 187;refine (callsIn_wide.2 (rows_any _ _ _ _)).mono ?_;rintro e w4 ⟨rfl,hw4⟩;have HW4:=Lib.hid hw4;clear hw4))
   obtain ⟨N,hN⟩:∃ N,w2.heap.size = N:=⟨_,rfl⟩
   have hz4:w4.heap.size = N + 2:=by rw [← HW4.out,← hN];simp
   have hb24:Below N w2 w4:=by rw [← HW4.out,← hN];exact ((Below.refl _ w2).alloc (Nat.le_refl _) _).alloc (by simp) _
   have HX4:Hid (Boxed w4 (N + 1) 265 (.slice A7 n7 c7)):=by
    rw [← HW4.out,← hN]
    have h:=heap_alloc_new (w2.alloc (.cells #[.slice none 0 0] 265)) (.cells #[.slice A7 n7 c7] 265)
    rw [World.size_alloc] at h
    exact h
   have HV4:Hid (Boxed w4 N 265 (.slice none 0 0)):=by
    rw [← HW4.out,← hN]
    exact (Boxed.new w2 _ _).alloc _
   have hgN:g < N:=by rw [← hN];have:=HB7.out.size;have:=HZ1.out;omega
   have HN4:Hid (NB w4 g (List.replicate k 0)):=by
    have h1:=HN1.out.below HB7.out (by rw [HZ1.out];omega)
    exact h1.below hb24 hgN
   obtain ⟨first,hfi⟩:∃ first,firstW (itemsW ns) = first:=⟨_,rfl⟩
   have HFI:=Lib.hid hfi
   have HSY:Hid (∀ x ∈ itemsW ns,x.2 ≤ 1000):=fun x hx => by have:=(itemsW_mem hx).2.2;have:=HL.out;omega
   have HR2:Hid (RowL w2 0 A7 n7 c7 first ((itemsW ns).flatMap itEn)):=by
    obtain ⟨c1,c2⟩:=cells_of_ownK HO7.out
    have h1:=row_items w2 w2.heap.size (itemsW ns) HSY.out
    rw [HFI.out] at h1
    exact ⟨by rw [← HFI.out,firstW_len,HN.out],c1,c2,h1⟩
   have HR4:Hid (RowL w4 0 A7 n7 c7 first ((itemsW ns).flatMap itEn)):=HR2.out.below (by rw [hN];exact hb24)
   have HBW4:Hid (Below g w0 w4):=by
    have h1:=HB1.out
    rw [HG.out] at h1
    exact h1.trans ((HB7.out.mono (by rw [HZ1.out];omega)).trans (hb24.mono (by omega)))
   have HFB:Hid (∀ x ∈ first,x.1 ≤ 1073741824):=fun x hx => by
    rw [← HFI.out] at hx
    obtain ⟨y,hy,rfl⟩:=List.mem_map.1 hx
    exact HOK.out y.1 (List.mem_of_getElem? (itemsW_mem hy).1)
   have HFL:Hid (first.length = n7):=by show _ = _;rw [← HFI.out,firstW_len,HN.out]
   have HSEQ:=Lib.hid (rows_seq N N (N + 1) A7 n7 c7 first _ w4 (by omega) HFB.out HR4.out (by omega) (by omega) HX4.out ⟨_,_,_,HV4.out⟩)
   have HZ4:=Lib.hid hz4
   have HGN:=Lib.hid hgN
   rw [hN]
   clear hfi hb24 HW4 hN hz4 hgN HO7 HX4
   refine wpIn_rangeFunc_R rfl (by omega) (gf:=217) (lb:=#[.pointer (some ⟨N + 1,0,none⟩)]) rfl trivial (enters_of Tryz.func217 (by kernel_rfl) rfl) HSEQ.out
    (fun x W l o o' _ ho hc hx => rwX_grown hx (grownBy_putObj' W l o') (fun r e => by cases e;exact ⟨o,ho,hc⟩))
    (fun _ _ _ _ _ _ _ _ _ => trivial)
    (fun _ hr => hr.elim) (fun h k => h.trans k) (fun W l o o' hl ho hc _ => KpO.putObj W l o o' (by have:=HZ4.out;omega) (by have:=HZ4.out;omega) ho hc) (Below.refl _ _) (fun _ => rfl)
    (lnI N w4 first) (fun _ _ _ => False) (lnI_own N _ w4 first (by have:=HZ4.out;omega) (by have:=HZ4.out;omega)) (fun _ _ _ _ _ h _ _ => h)
    ⟨⟨_,_,_,HV4.out,fun _ h => by cases h⟩,Below.refl _ _⟩
    (fun x => { tmps:=#[.slice A k c,undef,u2,u3,undef,u5,.slice (some ⟨g,0,none⟩) k k,.slice A7 n7 c7,.pointer (some ⟨N,0,none⟩),.slice x.A x.n x.c,undef,undef,.slice A k c,.int .i64 k,.bool false,.slice A k c,.int .i64 k,.int .i64 k,.bool false,u19,u20,u21,u22,u23,u24,.slice A k c,.int .i64 k,.slice (some ⟨g,0,none⟩) k k,.slice A k c,.slice A7 n7 c7,.slice A7 n7 c7,.int .i64 n7,.bool false,undef,undef,undef,undef,undef,undef,.slice A7 n7 c7,.int .i64 n7,.bool false,undef,.slice A7 n7 c7,.func (.func 217) #[] #[.pointer (some ⟨N + 1,0,none⟩)],.slice x.A x.n x.c,undef,undef,undef,undef,undef,undef,undef,undef,undef,undef,undef,undef,undef,undef,undef,undef],defers:=[] }) ?assign ?body ?done ?stop
   case assign =>
    rintro gy ⟨k9,A9,n9,c9,cs9⟩ W K hK
    simp only [rwE]
    gi_wp2
    exact hK
   case body =>
    rintro gy pre ⟨k9,A9,n9,c9,cs9⟩ W hi hx hlen
    have hs:=lnI_set hi hx
    obtain ⟨⟨A0,n0,c0,hv,_⟩,_⟩:=hi
    have hc:=hv.cell
    have hf:=hv.frozen
    have HS:=Lib.hid hs
    clear hs hv hx
    gi_wp2
    exact HS.out
   case stop =>
    rintro D c pre W _ _ h _
    exact h.elim
   case done =>
    rintro D ys W hD hS ⟨⟨A9,n9,c9,hv,hlast⟩,hbw⟩ _ hK
    obtain ⟨x,hx,hk14⟩:=last14 hS
    obtain ⟨rfl,rfl,rfl,hrow⟩:=hlast x hx
    obtain ⟨k9,A9,n9,c9,cs9⟩:=x
    dsimp only at hv hk14
    subst hk14
    replace hrow:RowL W 14 A9 n9 c9 (rowW first 14) cs9:=hrow
    have HROW:=Lib.hid hrow
    have hc:=hv.cell
    have HK:=Lib.hid hK
    have HDD:=Lib.hid hD
    obtain ⟨tt,htt⟩:∃ tt,2 * n7 - 2 = tt:=⟨_,rfl⟩
    have hr14:tt ≤ n9:=by
     have h1:=row14 (first:=first) (by rw [HFL.out];omega)
     have h2:=hrow.len
     rw [HFL.out] at h1
     omega
    have htc:tt ≤ c9:=Nat.le_trans hr14 hrow.cap
    obtain ⟨b9,o9,rfl,hb9,hm9⟩:=hrow.mem (by rw [hrow.row.len,hrow.len];omega)
    have htt0:tt ≤ 640:=by omega
    have e1:IntKind.i64.wrap (2 * (n7:Int) - 2) = (tt:Int):=by rw [show 2 * (n7:Int) - 2 = (tt:Int) by omega];exact IntWalk.i64_in _ (by omega)
    have e2:2 * (n7:Int) - 2 = (tt:Int):=by omega
    have HTT:=Lib.hid htt
    have HR14:=Lib.hid hr14
    have HBW:=Lib.hid hbw
    have HNW:Hid (NB W g (List.replicate k 0)):=HN4.out.below hbw HGN.out
    have HGD:Hid (Good (itemsW ns)):=itemsW_good (by rw [HN.out];omega) (by rw [HL.out];omega)
    clear hrow hm9 hb9 hv hlast hx hS hK hD htt hr14 hbw
    gi_wp2_with fail
    gi_loopw [54] (fun i wq => ∃ j:Nat,j ≤ tt∧i = .int .i64 (j:Int)∧NB wq g (incW (List.replicate k 0) (((rowW first 14).take j).flatMap (·.2)))∧Mod (oneB g) W wq) (fun i _ => tt - (intOf i).toNat)
    case atStart => exact ⟨0,by omega,rfl,HNW.out,Mod.refl _ _⟩
    case round =>
     obtain ⟨j,hj,rfl,hnb,hmd⟩:=hrel
     have HNB:=Lib.hid hnb
     have HMD:=Lib.hid hmd
     have HRW:=Lib.hid (HROW.out.mod HNW.out hmd)
     clear hnb hmd hc
     by_cases hjt:j < tt
     ·obtain ⟨x,hx⟩:∃ x,(rowW first 14)[j]? = some x:=⟨_,List.getElem?_eq_getElem (by rw [HROW.out.len];exact Nat.lt_of_lt_of_le hjt HR14.out)⟩
      obtain ⟨bb,oo,hbo,hbb,hcc⟩:=HRW.out.mem (by rw [HRW.out.row.len,HRW.out.len];have:=HR14.out;omega)
      simp only [Option.some.injEq,Addr.mk.injEq,and_true] at hbo
      obtain ⟨rfl,rfl⟩:=hbo
      obtain ⟨cx,hex,hax⟩:=row_at HRW.out.row hcc hx
      obtain ⟨sx,px,qx,hcx⟩:=hex.len
      subst hcx
      have d0:wr.cell? ⟨b9,o9 + j * 4,none⟩ = some (.int .i64 (x.1:Int)):=hax 0 _ rfl
      have d1:wr.cell? ⟨b9,o9 + j * 4 + 1,none⟩ = some (.int .i64 (sx:Int)):=hax 1 _ rfl
      have d2:wr.cell? ⟨b9,o9 + j * 4 + 2,none⟩ = some (.pointer px):=hax 2 _ rfl
      have d3:wr.cell? ⟨b9,o9 + j * 4 + 3,none⟩ = some (.pointer qx):=hax 3 _ rfl
      have HTK:Hid (((rowW first 14).take (j + 1)).flatMap (·.2) = ((rowW first 14).take j).flatMap (·.2)++x.2):=by
       show _ = _
       rw [List.take_add_one,hx,List.flatMap_append]
       simp
      have HSB:Hid (∀ s ∈ x.2,s < k):=fun s hs => by
       have h1:=rowW_all (firstW_all (ns:=ns)) 14 x (by rw [HFI.out];exact List.mem_of_getElem? hx) s hs
       rwa [HL.out] at h1
      have HCT:Hid (∀ s,(((rowW first 14).take (j + 1)).flatMap (·.2)).count s ≤ 15):=fun s => by
       have h1:=lnW_le HGD.out s
       have h2:=count_flat_le (l:=rowW first 14) s (j + 1) tt (by omega)
       rw [lnW,symsW,HFI.out,HN.out,HTT.out] at h1
       omega
      obtain ⟨V,hV⟩:∃ V,wr.alloc (.cells #[.int .i64 (x.1:Int),.int .i64 (sx:Int),.pointer px,.pointer qx] 269) = V:=⟨_,rfl⟩
      have hbV:Below wr.heap.size wr V:=by rw [← hV];exact (Below.refl _ wr).alloc (Nat.le_refl _) _
      have haV:At V wr.heap.size 0 (elC x.1 sx px qx):=fun r u hu => by
       rw [← hV,cell_of_row _ _ _ _ _ _ (heap_alloc_new wr _),Nat.zero_add]
       simpa [elC] using hu
      have hnV:NB V g (incW (List.replicate k 0) (((rowW first 14).take j).flatMap (·.2))):=HNB.out.below hbV HNB.out.lt
      have hadd:=add_any g k wr.heap.size 14 x _ wr.heap.size 0 _ V (hex.below hbV (Nat.le_refl _) (Nat.le_refl _)) haV hnV (fun s hs => by rw [incW_len,List.length_replicate];exact HSB.out s hs) (fun s => by
       by_cases hsk:s < k
       ·rw [incW_getD _ _ _ (by simpa using hsk)]
        have h1:=HCT.out s
        rw [HTK.out,List.count_append] at h1
        have h2:(List.replicate k 0).getD s 0 = 0:=by simp [List.getD,hsk]
        omega
       ·have h1:(incW (List.replicate k 0) (((rowW first 14).take j).flatMap (·.2))).getD s 0 = 0:=by rw [List.getD,List.getElem?_eq_none (by rw [incW_len];simp;omega)];rfl
        have h2:=HCT.out s
        rw [HTK.out,List.count_append] at h2
        omega)
      rw [incW_len,List.length_replicate,← incW_append,← HTK.out] at hadd
      have HADD:=Lib.hid hadd
      have HMV:Hid (Mod (oneB g) W V):=HMD.out.trans (Mod.of_below hbV) (fun _ h => h.elim)
      clear hx hcc hex hax hbV haV hnV hadd hbb
      gi_wp2_with (refine ⟨trivial,?_⟩;gi_at_call 188;refine (callsIn_wide.2 HADD.out).mono ?_;rintro e w8 ⟨rfl,hn8,hm8⟩;have HN8:=Lib.hid hn8;have HM8:=Lib.hid hm8;clear hn8 hm8)
      exact ⟨⟨j + 1,by omega,by go_num,HN8.out,HMV.out.then_ HM8.out⟩,by simp [intOf];omega⟩
     ·obtain rfl:j = tt:=by omega
      have HD5:Hid (wr.heap[D]? = some (.deferred (some []))):=(HMD.out.block D (Array.getElem?_eq_some_iff.1 HK.out).1 (fun e => by have:=HDD.out;have:=HZ4.out;have:=HGN.out;have:D = g:=e;omega)).trans HK.out
      clear HK
      gi_wp2_with fail
      refine ⟨by simp,.inl ⟨_,_,rfl,run_takeDeferred HD5.out,?_⟩⟩
      have HRR:=Lib.hid (lensW_many (ns:=ns) (by rw [HN.out];omega))
      have hnb:=HNB.out
      have hsy:((rowW first 14).take j).flatMap (·.2) = symsW (itemsW ns):=by rw [symsW,HFI.out,HN.out,HTT.out]
      rw [hsy] at hnb
      have e0:incW (List.replicate k 0) (symsW (itemsW ns)) = lensW ns:=by rw [HRR.out,HL.out]
      rw [e0] at hnb
      have hnb2:NB (wr.putObj D (.deferred none)) g (lensW ns):=(World.putObj_heap_other (by have:=HDD.out;have:=HZ4.out;have:=HGN.out;omega)).trans hnb
      have hown:=hnb2.own (base:=g) (Nat.le_refl _) (by unfold maxLen;rw [lensW_len,HL.out];omega)
      rw [lensW_len,HL.out] at hown
      have hbl:Below g w0 (wr.putObj D (.deferred none)):=by
       have h1:Below g w0 wr:=HBW4.out.trans ((HBW.out.mono (by have:=HGN.out;omega)).trans (HMD.out.below (Below.refl g W) (by have:=HNW.out.lt;omega) (fun r hr => by have:r = g:=hr;omega)))
       exact h1.trans ((Below.refl g wr).grown (grownBy_putObj' wr D _) (by have:=hnb.lt;omega) (fun r e => by cases e;have:=HDD.out;have:=HZ4.out;have:=HGN.out;omega))
      refine ⟨.tuple #[.slice (some ⟨g,0,none⟩) k k,.int .i64 0],by simp [results,Tryz.f150,go_sem],_,_,rfl,?_,?_⟩
      ·rw [HG.out];exact hown
      ·rw [HG.out];exact hbl
theorem lengths_ok (A:Option Addr) (l c:Nat) (ns:List Nat) (B:Nat) (w:World) (hz:ns.length = l) (hl:l ≤ 320) (hb:Cells w B A (nCs ns)) (hB:B ≤ w.heap.size) (hok:∀ n ∈ ns,n ≤ 1073741824) :
  Calls Tryz.prog 150 #[.slice A l c] w fun e w' => ∃ A' c',e = .returned (.tuple #[.slice A' l c',.int .i64 0])∧w'.ownsRow w.heap.size 3 1 (.slice A' l c') l (nCs (lensW ns))∧Below w.heap.size w w':=by
 match h:itemsW ns with
 | [] => exact lengths_none A l c ns B w hz hl hb hB hok h
 | [(x,s)] => exact lengths_one A l c ns B w x s hz hl hb hB hok h
 | a :: b :: r => exact lengths_many A l c ns B w hz hl hb hB hok (by rw [h];simp)
end Go.Proofs.YtaknladkodibaaaGreatDoor
