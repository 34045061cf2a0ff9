/- Layer 9: Put. -/
import Derived.Test.YtaknladkodibaaaGreatDoorMgQ33847
import Derived.Test.YtaknladkodibaaaGreatDoorMgQ33846
import Derived.Test.YtaknladkodibaaaGreatDoorMgQ33825
import Derived.Test.YtaknladkodibaaaGreatDoorMgQ33836
import Derived.Test.YtaknladkodibaaaGreatDoorMgQ33821
import Derived.Test.YtaknladkodibaaaGreatDoorMgQ33831
import Derived.Test.YtaknladkodibaaaGreatDoorMgQ33817
import Derived.Test.YtaknladkodibaaaGreatDoorMgQ33829
import Derived.Deep.RegionWith
import Derived.Test.YtaknladkodibaaaGreatDoorMgQ33812
import Derived.Test.YtaknladkodibaaaGreatDoorMgQ33827
namespace Go.Proofs.YtaknladkodibaaaGreatDoor
open Go.RowKit Go.Shelf BitsP
attribute [local go_sem] Oper.semAt_some
theorem wr_own {W:World} {q base:Nat} {S:Nat→Prop} {L:List Bool} (h:WrS W q base S L) :
  ∃ v,W.cell? ⟨q,0,none⟩ = some v∧S = orS (oneB q) (ownS v)∧¬ ownS v q∧(∀ k,ownS v k→base ≤ k)∧∀ k,S k→∃ o,W.heap[k]? = some o∧o.isCells = true:=by
 obtain ⟨whole,R,hsp,A,c,hb,hown,rfl⟩:=h
 refine ⟨_,hb.cells.1,rfl,own_ne hown hb (by decide),own_base hown,fun k hk => ?_⟩
 rcases hk with rfl | hk
 ·exact ⟨_,hb,rfl⟩
 ·rcases hown.2 with ⟨h1,_⟩ | ⟨g,cap,cur,h1,_,hh,_⟩
  ·rw [h1] at hk;cases hk
  ·rw [h1] at hk
   cases hk
   exact ⟨_,hh,rfl⟩
theorem wr_kept {W W':World} {q base:Nat} {S:Nat→Prop} {L:List Bool} (h:WrS W q base S L) (hm:Mod S W W'):KeepsOthers W W':=by
 obtain ⟨v,_,_,_,_,hc⟩:=wr_own h
 exact ⟨hm.size,fun k o hk ho => hm.keep hk (fun hs => by
  obtain ⟨o',h1,h2⟩:=hc k hs
  rw [hk] at h1
  cases h1
  rw [ho] at h2
  cases h2)⟩
theorem kpb_wr {W W':World} {n q base:Nat} {S S':Nat→Prop} {L L':List Bool} (h:WrS W q base S L) (h':WrS W' q base S' L') (hm:Mod S W W') (hs:∀ k,S' k→S k ∨ W.heap.size ≤ k) (hn:n ≤ W.heap.size) (hq:n ≤ q) (hb:n ≤ base):KpB n q W W':=by
 obtain ⟨v,h1,h2,h3,h4,_⟩:=wr_own h
 obtain ⟨v',k1,k2,k3,_,_⟩:=wr_own h'
 have e1:ownOf q W = v.ownBlock:=by unfold ownOf;rw [h1];rfl
 have e2:ownOf q W' = v'.ownBlock:=by unfold ownOf;rw [k1];rfl
 refine ⟨hm.below (Below.refl n W) hn (fun k hk => ?_),fun k o hk _ hkq hno => hm.keep hk (fun hsk => ?_),fun k hk => ?_,hm.size⟩
 ·rw [h2] at hk
  rcases hk with hk | hk
  ·have:k = q:=hk;omega
  ·have:=h4 k hk;omega
 ·rw [h2] at hsk
  rcases hsk with hsk | hsk
  ·exact hkq hsk
  ·exact hno (e1.trans hsk)
 ·rw [e2] at hk
  have hlt:=h'.lt k (by rw [k2];exact .inr hk)
  refine ⟨?_,.inr hlt⟩
  rcases hs k (by rw [k2];exact .inr hk) with hsk | hsk
  ·rw [h2] at hsk
   rcases hsk with hsk | hsk
   ·have:k = q:=hsk
    subst this
    exact absurd hk k3
   ·exact .inl (e1.trans hsk)
  ·exact .inr hsk
def ofI (N:Nat) (W1:World) (pre:List (Nat × Nat)) (W:World):Prop:=NB W (N + 1) (oftP pre)∧Boxed W (N + 2) 156 (.slice (some ⟨N + 1,0,none⟩) 19 19)∧Below (N + 1) W1 W
theorem ofI_own (N M:Nat) (W1:World) (h1:N + 1 ≤ W1.heap.size) (h2:N + 1 ≤ M):OwnFrom M (ofI N W1):=by
 have h:OwnS M (fun _ => False) (ofI N W1):=(ownS_cells (cs:=fun pre => (nCs (oftP pre)).toArray) (fun h => h)).and ((ownS_cells (cs:=fun _ => #[.slice (some ⟨N + 1,0,none⟩) 19 19]) (fun h => h)).and (ownS_below h1 h2 (fun _ h => h.elim)))
 exact h.from
theorem ofI.alloc' {N:Nat} {W1 W:World} {pre:List (Nat × Nat)} (h:ofI N W1 pre W) (o:Obj):ofI N W1 pre (W.alloc o) :=
 ⟨(Below.heap_alloc _ _ _ (Array.getElem?_eq_some_iff.1 h.1).1).trans h.1,h.2.1.alloc _,h.2.2.alloc (by have:=h.2.1.lt;omega) o⟩
theorem ofI_step {N:Nat} {W1 W:World} {pre:List (Nat × Nat)} {t:Nat × Nat} {x:Nat} (h:ofI N W1 pre W) (hx:(oftP pre)[t.1]? = some x) :
  KeepsOthers W (W.setCell ⟨N + 1,t.1,none⟩ (.int .i64 ((x:Int) + 1)))∧KpB N (N + 2) W (W.setCell ⟨N + 1,t.1,none⟩ (.int .i64 ((x:Int) + 1)))∧ofI N W1 (pre++[t]) (W.setCell ⟨N + 1,t.1,none⟩ (.int .i64 ((x:Int) + 1))):=by
 have hg:(oftP pre).getD t.1 0 = x:=by rw [List.getD,hx];rfl
 have hs:(W.setCell ⟨N + 1,t.1,none⟩ (.int .i64 ((x:Int) + 1))).heap[N + 2]? = W.heap[N + 2]?:=Below.heap_setCell _ _ _ _ (by show N + 2 ≠ N + 1;omega)
 refine ⟨KeepsOthers.setCell _ _ _,⟨(Below.refl N W).setCell (p:=⟨N + 1,t.1,none⟩) (Nat.le_succ N) _,fun k o hk _ hkb hno => ?_,fun k hk => ?_,by simp [World.setCell]⟩,?_,hs.trans h.2.1,h.2.2.setCell (p:=⟨N + 1,t.1,none⟩) (Nat.le_refl _) _⟩
 ·refine (Below.heap_setCell _ _ _ k (fun e => hno ?_)).trans hk
  have e2:k = N + 1:=e
  rw [ownOf_box h.2.1,e2]
  rfl
 ·rw [ownOf_block hs] at hk
  exact ⟨.inl hk,.inl hk⟩
 ·rw [oftP_snoc,hg]
  exact h.1.set _ _
theorem part_lt {ls:List Nat} (hv:∀ x ∈ ls,x ≤ 15) {t:Nat × Nat} (h:t ∈ partsP ls 0):t.1 < 19:=partsP_all hv t h
structure PutI (S:Nat→Prop) (W6:World) (q base:Nat) (S':Nat→Prop) (M:List Bool) (X:World):Prop where
 wr:WrS X q base S' M
 mod:Mod S W6 X
 own:∀ k,S' k→S k ∨ W6.heap.size ≤ k
section
variable {S S' S2:Nat→Prop} {W6 X Y:World} {q base:Nat} {M M2:List Bool}
theorem PutI.next (h:PutI S W6 q base S' M X) (hw:WrS Y q base S2 M2) (hm:Mod S' X Y) (hs:∀ k,S2 k→S' k ∨ X.heap.size ≤ k):PutI S W6 q base S2 M2 Y :=
 ⟨hw,h.mod.trans hm h.own,fun k hk => by
  rcases hs k hk with h1 | h1
  ·exact h.own k h1
  ·exact .inr (Nat.le_trans h.mod.size h1)⟩
theorem PutI.below (h:PutI S W6 q base S' M X) (hb:Below X.heap.size X Y):PutI S W6 q base S' M Y :=
 ⟨h.wr.keep (Mod.of_below hb) (fun _ _ h => h),h.mod.trans (Mod.of_below hb) (fun _ h => h.elim),h.own⟩
theorem PutI.grown (h:PutI S W6 q base S' M X) {row:Option Nat} (hg:X.grownBy Y row) (hr:∀ r,row = some r→W6.heap.size ≤ r∧∃ o:Obj,X.heap[r]? = some o∧o.isCells = false):PutI S W6 q base S' M Y:=by
 have hm:Mod (fun k => row = some k) X Y:=⟨hg.os,hg.tape,hg.output,hg.size,fun k hk hn => hg.block k hk (fun e => hn e.symm)⟩
 obtain ⟨v,_,_,_,_,hc⟩:=wr_own h.wr
 refine ⟨h.wr.keep hm (fun k hk e => ?_),h.mod.trans hm (fun k e => .inr (hr k e).1),h.own⟩
 obtain ⟨o,h1,h2⟩:=hc k hk
 obtain ⟨_,o',h3,h4⟩:=hr k e
 rw [h1] at h3
 cases h3
 rw [h2] at h4
 cases h4
end
theorem PutI.base_ {S S':Nat→Prop} {w W6 X:World} {q base:Nat} {M:List Bool} (h:PutI S W6 q base S' M X) (hb:Below w.heap.size w W6):PutI S w q base S' M X :=
 ⟨h.wr,((Mod.of_below hb).mono (fun _ h => h.elim)).then_ h.mod,fun k hk => (h.own k hk).imp id (fun h1 => Nat.le_trans hb.size h1)⟩
theorem wr_ownOf {X:World} {q base k:Nat} {S:Nat→Prop} {M:List Bool} (h:WrS X q base S M) (hk:ownOf q X = some k):S k:=by
 obtain ⟨v,h1,h2,_⟩:=wr_own h
 unfold ownOf at hk
 rw [h1] at hk
 rw [h2]
 exact .inr hk
theorem wr_not {X:World} {q base k:Nat} {S:Nat→Prop} {M:List Bool} {cs:Array Value} {t:TypeId} (h:WrS X q base S M) (hk:X.heap[k]? = some (.cells cs t (0,0))) (h1:114 ≠ t) (h2:5 ≠ t):¬ S k:=by
 obtain ⟨whole,R,hsp,A,c,hb,hown,rfl⟩:=h
 rintro (hs | hs)
 ·have e:k = q:=hs
  subst e
  rw [show X.heap[k]? = _ from hb] at hk
  injection hk with hk
  injection hk with _ e2 _
  exact h1 e2
 ·exact own_ne hown hk h2 hs
theorem cells_mod {W X:World} {S:Nat→Prop} {A:Option Addr} {xs:List Value} (h:Cells W W.heap.size A xs) (hm:Mod S W X) (hA:∀ a,A = some a→¬ S a.block):Cells X X.heap.size A xs:=fun hp => by
 obtain ⟨b,o,e,hb,hc⟩:=h hp
 exact ⟨b,o,e,Nat.lt_of_lt_of_le hb hm.size,fun j u hj => (World.cell?_of_block (a:=⟨b,o + j,none⟩) (hm.block b hb (hA _ e))).trans (hc j u hj)⟩
def prI (S:Nat→Prop) (W6:World) (q base:Nat) (M:List Bool) (zs:List Int) (pre:List (Nat × Nat)) (X:World):Prop:=∃ S',PutI S W6 q base S' (M++partsB zs pre) X
theorem prI_own (B:Nat) (S:Nat→Prop) (W6:World) (q base:Nat) (M:List Bool) (zs:List Int) (hB:W6.heap.size ≤ B):OwnFrom B (prI S W6 q base M zs):=fun _ _ _ _ ⟨S',h⟩ hg hr =>
 ⟨S',h.grown hg (fun r e => ⟨Nat.le_trans hB (hr r e).1,(hr r e).2⟩)⟩
theorem lnP_le {ps:List (Nat × Nat)} {k n:Nat} (h:(lnP ps)[k]? = some n):n ≤ 15:=by
 have h1:=lensW_right (ns:=oftP ps) (by rw [oftP_len];omega) (n:Int) (List.mem_of_getElem? (zN_at h))
 have:=(lenB_yes h1).2
 omega
theorem rnput_start {w W6:World} {S:Nat→Prop} {q base:Nat} {L:List Bool} (h:WrS w q base S L) (hb:Below w.heap.size w W6):PutI S W6 q base S L W6 :=
 ⟨h.keep (Mod.of_below hb) (fun _ _ h => h),Mod.refl _ _,fun _ h => .inl h⟩
theorem LCa.keep {w w':World} {n g:Nat} {zs:List Int} {S:Nat→Prop} (h:LCa w n g zs) (hm:Mod S w w') (hS:∀ k,S k→k < n):LCa w' n g zs:=by
 obtain ⟨A1,A2,A3,c1,c2,c3,m,hcb,hmx,h1,h2,h3,hg,ha⟩:=h
 have hgl:=cb_lt hcb
 have key:∀ {A:Option Addr} {xs:List Value},(∀ a,A = some a→n ≤ a.block)→Cells w g A xs→Cells w' g A xs:=fun hA hc hp => by
  obtain ⟨b,o,e,hb,hcc⟩:=hc hp
  have hnb:=hA _ e
  exact ⟨b,o,e,hb,fun j u hj => (World.cell?_of_block (a:=⟨b,o + j,none⟩) (hm.block b (by omega) (fun hs => by have:=hS b hs;dsimp only at hnb;omega))).trans (hcc j u hj)⟩
 exact ⟨A1,A2,A3,c1,c2,c3,m,hm.keep hcb (fun hs => by have:=hS g hs;omega),hmx,key (fun a e => ha a (.inl e)) h1,key (fun a e => ha a (.inr (.inl e))) h2,key (fun a e => ha a (.inr (.inr e))) h3,hg,ha⟩
theorem parts_mem {ls:List Nat}:∀ k p,ls.length - p ≤ k→∀ t ∈ partsP ls p,∃ j,j < ls.length∧t = (numP ls j,manyP ls j)
 | 0,p,h,t,ht => by rw [partsP_end (by omega)] at ht;cases ht
 | k + 1,p,h,t,ht => by
  by_cases hp:p < ls.length
  ·have h1:=manyP_pos hp
   rw [partsP_step hp] at ht
   rcases List.mem_cons.1 ht with rfl | ht
   ·exact ⟨p,hp,rfl⟩
   ·exact parts_mem k _ (by omega) t ht
  ·rw [partsP_end hp] at ht
   cases ht
theorem part_bd {ls:List Nat} (hv:∀ x ∈ ls,x ≤ 15) {t:Nat × Nat} (h:t ∈ partsP ls 0):t.1 < 19∧(spanP t.1).1 ≤ t.2∧t.2 ≤ ls.length∧t.2 - (spanP t.1).1 < 2 ^ (spanP t.1).2:=by
 obtain ⟨j,hj,rfl⟩:=parts_mem ls.length 0 (by omega) t h
 have h1:=numP_le hv j
 have h2:=many_le hj
 refine ⟨?_,span_le_many hv hj,?_,more_lt hv hj⟩
 ·show numP ls j < 19
  omega
 ·show manyP ls j ≤ ls.length
  omega
set_option maxRecDepth 100000 in
set_option maxHeartbeats 4000000 in
theorem rnput_any (A:Option Addr) (l c:Nat) (ls:List Nat) (q base:Nat) (S:Nat→Prop) (L:List Bool) (w:World) (hl:ls.length = l) (h1l:1 ≤ l) (hm:l ≤ 320) (hv:∀ x ∈ ls,x ≤ 15) (hb:Cells w w.heap.size A (nCs ls))
  (hA:∀ a,A = some a→¬ S a.block) (hw:WrS w q base S L) (hL:L.length ≤ 100000000) (hbase:base ≤ w.heap.size) :
  Calls Tryz.prog 151 #[.pointer (some ⟨q,0,none⟩),.slice A l c] w fun e w' => e = .returned (.int .i64 0)∧∃ S',WrS w' q base S' (L++tabP ls)∧Mod S w w'∧∀ k,S' k→S k ∨ w.heap.size ≤ k:=by
 have HR:=Lib.hid (rightL_any A l c (ls.map (fun n:Nat => (n:Int))) w.heap.size)
 have HL:=Lib.hid hl
 have HC:=Lib.hid hb
 have HV:=Lib.hid hv
 have HW:=Lib.hid hw
 have HA:=Lib.hid hA
 have t1:decide ((320:Int) < (l:Int)) = false:=decide_eq_false (by omega)
 have t2:((l:Int) == 0) = false:=by simp;omega
 have HRW:Hid (∀ W,Below w.heap.size w W→_):=fun W (hW:Below w.heap.size w W) => HR.out W (by rw [List.length_map];exact hl) (by omega) (by rw [nCs_ic];exact (hb.below hW (Nat.le_refl _)))
 rw [all_right hv] at HRW
 clear hb hl hv hw hA HR
 refine (callsIn_wide (n:=6)).1 ?_
 refine callsIn_of_wp_marks Tryz.func151 rfl trivial ?_ rfl
 simp only [Tryz.ntmps151,List.size_toArray,List.length_cons,List.length_nil,Nat.reduceAdd,Nat.reduceSub,Array.replicate_succ,Array.replicate_zero,List.push_toArray,List.append_toArray,List.nil_append,List.cons_append]
 obtain ⟨W1,hW1⟩:∃ W1,w.alloc (.cells #[.pointer (some ⟨q,0,none⟩)] 116) = W1:=⟨_,rfl⟩
 have HB1:Hid (Below w.heap.size w W1):=by show Below _ _ _;rw [← hW1];exact (Below.refl _ w).alloc (Nat.le_refl _) _
 have HX1:Hid (Boxed W1 w.heap.size 116 (.pointer (some ⟨q,0,none⟩))):=by show Boxed _ _ _ _;rw [← hW1];exact Boxed.new w _ _
 have HZ1:Hid (W1.heap.size = w.heap.size + 1):=by show _ = _;rw [← hW1];simp
 have c1:=HX1.out.cell
 obtain ⟨W2,hW2⟩:∃ W2,W1.alloc (.cells (madeCells #[.int .i64 0] 19) 3) = W2:=⟨_,rfl⟩
 have hmk:(Instr.makeSlice 156 (.int .i64 19) (.int .i64 19)).run Tryz.prog W1 = .ok (.slice (some ⟨W1.heap.size,0,none⟩) 19 19) W2:=by rw [← hW2];exact wei_make 19 (by omega) W1
 have HN2:Hid (NB W2 W1.heap.size (List.replicate 19 0)):=by show NB _ _ _;rw [← hW2];exact wei_made W1 19
 have HB2:Hid (Below W1.heap.size W1 W2):=by show Below _ _ _;rw [← hW2];exact (Below.refl _ _).alloc (Nat.le_refl _) _
 have HZ2:Hid (W2.heap.size = W1.heap.size + 1):=by show _ = _;rw [← hW2];simp
 clear hW2
 gi_wp2_with (first
  | (refine ⟨trivial,?_⟩;gi_at_call 189;refine (callsIn_wide.2 (HRW.out _ HB1.out)).mono ?_;rintro e w' ⟨rfl,rfl⟩)
  | (refine ⟨trivial,?_⟩;gi_at_call 190;refine (callsIn_wide.2 (parts_any _ _ _ _)).mono ?_;rintro e w3 ⟨rfl,hw3⟩;have HW3:=Lib.hid hw3;clear hw3))
 obtain ⟨N,hN⟩:∃ N,w.heap.size = N:=⟨_,rfl⟩
 have HNN:=Lib.hid hN
 have hz1:W1.heap.size = N + 1:=by rw [HZ1.out,hN]
 have hz2:W2.heap.size = N + 2:=by rw [HZ2.out,hz1]
 have hz3:w3.heap.size = N + 4:=by rw [← HW3.out];simp [hz2]
 have hb23:Below (N + 2) W2 w3:=by rw [← HW3.out,← hz2];exact ((Below.refl _ W2).alloc (Nat.le_refl _) _).alloc (by simp) _
 have HB13:Hid (Below (N + 1) W1 w3):=by
  have h:=HB2.out
  rw [hz1] at h
  exact h.trans (hb23.mono (by omega))
 have HV3:Hid (Boxed w3 (N + 2) 156 (.slice (some ⟨N + 1,0,none⟩) 19 19)):=by
  show Boxed _ _ _ _
  rw [← HW3.out,← hz2,← hz1]
  exact (Boxed.new W2 _ _).alloc _
 have HC3:Hid (Boxed w3 (N + 3) 156 (.slice A l c)):=by
  show Boxed _ _ _ _
  rw [← HW3.out]
  have h:=Boxed.new (W2.alloc (.cells #[.slice (some ⟨W1.heap.size,0,none⟩) 19 19] 156)) 156 (.slice A l c)
  rw [World.size_alloc,hz2] at h
  exact h
 have HN3:Hid (NB w3 (N + 1) (List.replicate 19 0)):=by
  have h:=HN2.out
  rw [hz1] at h
  exact h.below hb23 (by omega)
 have hAN:∀ a,A = some a→a.block < N:=fun a ha => by
  obtain ⟨b,o,hab,hbl,_⟩:=HC.out (by rw [nCs_len,HL.out];omega)
  rw [ha] at hab
  cases hab
  rw [← hN]
  exact hbl
 have hb1:=HB1.out
 have HCW:Hid (∀ W,Below N w W→Cells W N A (nCs ls)):=fun W hW => by
  have h:=HC.out
  rw [hN] at h
  exact h.below hW (Nat.le_refl _)
 have HBN:Hid (Below N w W1):=by rw [← hN];exact hb1
 have HSEQ:=Lib.hid (parts_seqS N (N + 2) (N + 3) A l c ls w3 HL.out hm HV.out ((HCW.out w3 (HBN.out.trans (HB13.out.mono (by omega)))).more (by omega)) (by omega) (by omega) (by omega) (fun a ha => by have:=hAN a ha;omega)
  (fun k hk => by
   have e:N + 1 = k:=by rw [ownOf_box HV3.out] at hk;simpa [Value.ownBlock] using hk
   exact ⟨by omega,by omega,fun a ha => by have:=hAN a ha;omega⟩) HC3.out)
 have HAN:=Lib.hid hAN
 have HZ3:=Lib.hid hz3
 have HX1N:Hid (Boxed W1 N 116 (.pointer (some ⟨q,0,none⟩))):=by have h:=HX1.out;rw [hN] at h;exact h
 have HS1:=Lib.hid hz1
 rw [hz2,hz1,hN,show N + 2 + 1 = N + 3 from rfl]
 clear hz1 hz2 hz3 hN hb1 hb23 hAN HW3 HB1 HB2 HX1 HZ1 HZ2 HN2 c1 HRW hmk hW1 HC
 refine wpIn_rangeFunc_ownH rfl (by omega) (gf:=220) (lb:=#[.pointer (some ⟨N + 3,0,none⟩)]) rfl trivial (enters_of Tryz.func220 (by kernel_rfl) rfl) HSEQ.out
  (fun h k => h.trans k) (fun W l o o' hl ho hc _ => KpB.putObj W l o o' (by have:=HZ3.out;omega) (by have:=HZ3.out;omega) ho hc) (Below.refl _ _) (fun _ => rfl)
  (fun (pre:List (PtIn ls)) W => ofI N W1 (pre.map (·.1)) W) (fun _ _ _ => False) (fun s => ofI_own N _ W1 (by rw [HS1.out];exact Nat.le_refl _) (by have:=HZ3.out;omega) _) (fun _ _ _ _ _ h _ _ => h)
  ⟨HN3.out,HV3.out,HB13.out⟩
  (fun (t:PtIn ls) a' W => ∃ Bx,W.heap[Bx]? = some (.cells #[.int .i64 (t.1.1:Int),.int .i64 (t.1.2:Int)] 277)∧a' = { tmps:=(.pointer (some ⟨q,0,none⟩) :: .slice A l c :: .pointer (some ⟨N,0,none⟩) :: undef :: .int .i64 0 :: .pointer (some ⟨N + 2,0,none⟩) :: .pointer (some ⟨Bx,0,none⟩) :: undef :: undef :: undef :: undef :: undef :: undef :: undef :: undef :: undef :: .slice A l c :: .int .i64 (l:Int) :: .bool false :: .bool false :: .slice A l c :: .int .i64 (l:Int) :: .bool false :: .bool false :: .slice A l c :: .bool true :: .bool false :: .bool false :: .pointer (some ⟨q,0,none⟩) :: .bool false :: .bool false :: .slice (some ⟨N + 1,0,none⟩) 19 19 :: .slice A l c :: .func (.func 220) #[] #[.pointer (some ⟨N + 3,0,none⟩)] :: ptV t.1 :: undef :: undef :: undef :: undef :: undef :: undef :: undef :: undef :: undef :: undef :: undef :: undef :: undef :: undef :: undef :: undef :: undef :: undef :: undef :: undef :: undef :: undef :: undef :: undef :: undef :: undef :: undef :: undef :: undef :: undef :: undef :: undef :: undef :: undef :: undef :: undef :: undef :: undef :: undef :: undef :: undef :: undef :: undef :: undef :: undef :: undef :: undef :: undef :: undef :: undef :: undef :: undef :: undef :: undef :: undef :: []).toArray,defers:=[] })
  (fun t a' _ X Y row hs hg hr => by
   obtain ⟨Bx,h1,h2⟩:=hs
   refine ⟨Bx,(hg.block Bx (Array.getElem?_eq_some_iff.1 h1).1 (fun e => ?_)).trans h1,h2⟩
   obtain ⟨_,o,ho,hc⟩:=hr Bx e.symm
   rw [h1] at ho;cases ho;cases hc)
  ?assign ?body ?done ?stop
 case assign =>
  rintro gy pre ⟨⟨tn,td⟩,hmem⟩ W K hi hK
  simp only [ptV]
  gi_wp2
  exact hK _ _ ((KeepsOthers.alloc _ _).from _) (kpb_alloc _ (by have:=hi.2.1.lt;omega) hi.2.1.lt) (hi.alloc' _) ⟨W.heap.size,heap_alloc_new W _,rfl⟩
 case body =>
  rintro gy pre ⟨⟨tn,td⟩,hmem⟩ a' W hlb ⟨r,hr⟩ hi ⟨Bx,hx,rfl⟩ hlt
  have hv:=hi.2.1
  have c5:=hv.cell
  have k0:W.cell? ⟨Bx,0,none⟩ = some (.int .i64 (tn:Int)):=cell_of_row W _ 0 _ _ _ hx
  have hk:=part_lt HV.out hmem
  obtain ⟨x,hx2⟩:∃ x,(oftP (pre.map (·.1)))[tn]? = some x:=⟨_,List.getElem?_eq_getElem (by rw [oftP_len];exact hk)⟩
  have k1:W.cell? ⟨N + 1,tn,none⟩ = some (.int .i64 (x:Int)):=NB.cell hi.1 hx2
  have hf:W.frozen? ⟨N + 1,tn,none⟩ = false:=NB.free hi.1
  have hxb:x ≤ 320:=by
   have h1:=oftP_le _ x (List.mem_of_getElem? hx2)
   rw [List.length_map] at h1
   omega
  have HI:=Lib.hid (ofI_step (t:=(tn,td)) hi hx2)
  clear hi hx hv hx2
  simp only [ptV]
  gi_wp2
  obtain ⟨h1,h2,h3⟩:=HI.out
  refine ⟨h1.from _,h2,?_⟩
  show ofI N W1 ((pre++[(⟨(tn,td),hmem⟩:PtIn ls)]).map (·.1)) _
  rw [List.map_append]
  exact h3
 case done =>
  rintro D ys W hD hS hi hK
  rw [hS] at hi
  have HI:=Lib.hid hi
  have HK:=Lib.hid hK
  have c5:=hi.2.1.cell
  clear hi hK hS HSEQ HN3 HV3 HC3 HB13
  obtain ⟨ps,hps⟩:∃ ps,partsP ls 0 = ps:=⟨_,rfl⟩
  have HPS:=Lib.hid hps
  rw [hps] at HI
  have HRT:Hid (caR (zN (lnP ps)) = true):=by
   show _ = _
   obtain ⟨t,ht⟩:=partsP_ne (ls:=ls) (by rw [HL.out];omega)
   have h19:=part_lt HV.out ht
   rw [hps] at ht
   exact lnP_right ht h19
  have hpl:ps.length ≤ 320:=by
   rw [← hps]
   have:=partsP_len ls ls.length 0 (by omega)
   have:=HL.out
   omega
  clear hps
  have HIT:=HI.out
  have hln:=lengths_ok (some ⟨N + 1,0,none⟩) 19 19 (oftP ps) W.heap.size W (oftP_len ps) (by omega) (by
   have h:=Cells.of_own (HIT.1.own (base:=N + 1) (Nat.le_refl _) (by rw [oftP_len];decide))
   exact h) (Nat.le_refl _) (fun n hn => by have:=oftP_le ps n hn;omega)
  have HLN:=Lib.hid hln
  have hwl:IntKind.u32.wrap (l:Int) = (l:Int):=IntWalk.u32_in _ (by omega)
  have hln2:=HNN.out
  have hwN:N + 2 < W.heap.size:=HIT.2.1.lt
  have HBW:Hid (Below N w W):=HBN.out.trans (HIT.2.2.mono (Nat.le_succ N))
  have HXW:Hid (Boxed W N 116 (.pointer (some ⟨q,0,none⟩))):=(HIT.2.2.block N (by omega)).trans HX1N.out
  clear HIT hln HX1N HI
  gi_wp2_with (first
   | (refine ⟨trivial,?_⟩;gi_at_call 150;refine (callsIn_wide.2 HLN.out).mono ?_;rintro e w4 ⟨A4,k4,rfl,hown4,hb4⟩;have HO4:=Lib.hid hown4;have HB4:=Lib.hid hb4;clear hown4 hb4)
   | (refine ⟨trivial,?_⟩;gi_at_call 152;refine (callsIn_wide.2 (new_low A4 19 k4 (zN (lnP ps)) w4.heap.size w4 (by rw [zN_len,lnP_len]) (by omega) (by rw [show (zN (lnP ps)).map ic = nCs (lnP ps) from nCs_ic _];exact Cells.of_own HO4.out) (Nat.le_refl _) HRT.out)).mono ?_;rintro e w5 ⟨g,rfl,hlc,hb5⟩;have HLC:=Lib.hid hlc;have HB5:=Lib.hid hb5;clear hlc hb5;obtain ⟨W6,hW6⟩:∃ W6,w5.alloc (.cells #[.pointer (some ⟨g,0,none⟩)] 161) = W6:=⟨_,rfl⟩;have hB56:Below w5.heap.size w5 W6:=(by rw [← hW6];exact (Below.refl _ _).alloc (Nat.le_refl _) _);have HX9:Hid (Boxed W6 w5.heap.size 161 (.pointer (some ⟨g,0,none⟩))):=(by show Boxed _ _ _ _;rw [← hW6];exact Boxed.new w5 _ _);have HZ6:Hid (W6.heap.size = w5.heap.size + 1):=(by show _ = _;rw [← hW6];simp);have HS45:Hid (W.heap.size ≤ w4.heap.size∧w4.heap.size ≤ w5.heap.size):=⟨HB4.out.size,HB5.out.size⟩;have HBX:Hid (Below W.heap.size W W6):=(HB4.out.trans (HB5.out.mono HB4.out.size)).trans (hB56.mono (Nat.le_trans HB4.out.size HB5.out.size));have HX6:Hid (Boxed W6 N 116 (.pointer (some ⟨q,0,none⟩))):=(HBX.out.block N (by omega)).trans HXW.out;have HLC6:=Lib.hid (HLC.out.keep (Mod.of_below hB56) (fun _ h => h.elim));have HO6:=Lib.hid (own_keep (own_keep HO4.out (Mod.of_below HB5.out) (fun _ _ h => h)) (Mod.of_below hB56) (fun _ _ h => h));have HK6:=Lib.hid ((HBX.out.block D (Array.getElem?_eq_some_iff.1 HK.out).1).trans HK.out);have HBW6:Hid (Below N w W6):=HBW.out.trans (HBX.out.mono (by omega));have HPI:=Lib.hid (rnput_start HW.out (by rw [HNN.out];exact HBW6.out));have c2:=HX6.out.cell;have HP6:=Lib.hid (wput_any q base S L (l:Int) 9 W6 HPI.out.wr (by omega) (by have:=HBW6.out.size;omega) (by omega) (by omega) (by omega) (by omega));clear hB56 HLC HB4 HB5 HO4 c5)
   | (refine ⟨trivial,?_⟩;gi_at_call 155;refine (callsIn_wide.2 HP6.out).mono ?_;rintro e w7 ⟨rfl,S7,hw7,hm7,hs7⟩;rw [show cnt 9 = 9 from rfl,Int.toNat_natCast] at hw7;have HP7:=Lib.hid (HPI.out.next hw7 hm7 hs7);clear hw7 hm7 hs7 HP6 c2))
  obtain ⟨L1,hL1⟩:∃ L1,L++bitsOf l 9 = L1:=⟨_,rfl⟩
  have HL1:=Lib.hid hL1
  have hl1:L1.length ≤ 100000009:=by rw [← hL1,List.length_append,bitsOf_length];omega
  rw [hL1] at HP7
  obtain ⟨zs,hzs⟩:∃ zs,zN (lnP ps) = zs:=⟨_,rfl⟩
  have HZS:=Lib.hid hzs
  rw [hzs] at HRT HLC6
  clear hL1 hzs
  have HSN:Hid (∀ k,S k→k < N):=fun k hk => by have:=HW.out.lt k hk;omega
  have hz6:=HZ6.out
  have hs45:=HS45.out
  gi_loopw [59] (fun i wr => ∃ (k:Nat) (S':Nat→Prop),k ≤ 19∧i = .int .i64 (k:Int)∧PutI S W6 q base S' (L1++lensB ((lnP ps).take k)) wr) (fun i _ => 19 - (intOf i).toNat)
  case atStart => exact ⟨0,S7,by omega,rfl,by simpa [lensB] using HP7.out⟩
  case round =>
   obtain ⟨k,S8,hk,rfl,hpi⟩:=hrel
   have HPI8:=Lib.hid hpi
   clear hpi HP7 HPI
   have c2:wr.cell? ⟨N,0,none⟩ = some (.pointer (some ⟨q,0,none⟩)):=Boxed.cell (HPI8.out.mod.keep HX6.out (fun h => by have:=HSN.out N h;omega))
   by_cases hk19:k < 19
   ·obtain ⟨n,hn⟩:∃ n,(lnP ps)[k]? = some n:=⟨_,List.getElem?_eq_getElem (by rw [lnP_len];exact hk19)⟩
    have hn15:n ≤ 15:=lnP_le hn
    have hO:=Cells.of_own (own_keep HO6.out HPI8.out.mod (fun j hj hs => by have:=HSN.out j hs;have:=own_base HO6.out j hj;omega))
    obtain ⟨b,o,rfl,hbB,hc⟩:=hO (by rw [nCs_len];show 0 < (lnP ps).length;rw [lnP_len];omega)
    have c0:wr.cell? ⟨b,o + k,none⟩ = some (.int .i64 (n:Int)):=hc k _ (nCs_at hn)
    have hwn:IntKind.u32.wrap (n:Int) = (n:Int):=IntWalk.u32_in _ (by omega)
    have hlb:(lensB ((lnP ps).take k)).length ≤ 76:=by rw [lensB_len,List.length_take];omega
    have HP8:=Lib.hid (wput_any q base S8 (L1++lensB ((lnP ps).take k)) (n:Int) 4 wr HPI8.out.wr (by rw [List.length_append];omega) (by have:=HPI8.out.mod.size;have:=HBW6.out.size;omega) (by omega) (by omega) (by omega) (by omega))
    rw [show cnt 4 = 4 from rfl,Int.toNat_natCast,List.append_assoc,← lensB_up hn] at HP8
    clear hc hn hO
    gi_wp2_with (refine ⟨trivial,?_⟩;gi_at_call 155;refine (callsIn_wide.2 HP8.out).mono ?_;rintro e w9 ⟨rfl,S9,hw9,hm9,hs9⟩;have HP9:=Lib.hid (HPI8.out.next hw9 hm9 hs9);clear hw9 hm9 hs9)
    exact ⟨⟨k + 1,S9,by omega,by go_num,HP9.out⟩,by simp [intOf];omega⟩
   ·obtain rfl:k = 19:=by omega
    rw [show (lnP ps).take 19 = lnP ps from List.take_of_length_le (by rw [lnP_len];exact Nat.le_refl _)] at HPI8
    obtain ⟨wq,hwq⟩:∃ wq,wq = wr:=⟨_,rfl⟩
    subst hwq
    gi_wp2_with (refine ⟨trivial,?_⟩;gi_at_call 190;refine (callsIn_wide.2 (parts_any _ _ _ _)).mono ?_;rintro e w8 ⟨rfl,hw8⟩;have HW8:=Lib.hid hw8;clear hw8)
    obtain ⟨bx,hbx⟩:∃ bx,wq.heap.size = bx:=⟨_,rfl⟩
    have hz8:w8.heap.size = bx + 1:=by rw [← HW8.out,← hbx];simp
    have hb8:Below wq.heap.size wq w8:=by rw [← HW8.out];exact (Below.refl _ _).alloc (Nat.le_refl _) _
    have HX8:Hid (Boxed w8 bx 156 (.slice A l c)):=by show Boxed _ _ _ _;rw [← HW8.out,← hbx];exact Boxed.new wq _ _
    have HP8:=Lib.hid (HPI8.out.below hb8)
    obtain ⟨M2,hM2⟩:∃ M2,L1++lensB (lnP ps) = M2:=⟨_,rfl⟩
    have HM2:=Lib.hid hM2
    have hm2:M2.length ≤ 100000085:=by rw [← hM2,List.length_append,lensB_len,lnP_len];omega
    rw [hM2] at HP8
    have hq8:q < bx:=by rw [← hbx];exact HPI8.out.wr.lt q (by obtain ⟨v,_,h2,_⟩:=wr_own HPI8.out.wr;rw [h2];exact .inl rfl)
    have hsq:S q:=by obtain ⟨v,_,h2,_⟩:=wr_own HW.out;rw [h2];exact .inl rfl
    have h68:W6.heap.size ≤ bx:=by rw [← hbx];exact HPI8.out.mod.size
    have hSEQ:=parts_seqS 0 q bx A l c ls w8 HL.out hm HV.out (cells_mod ((HCW.out W6 HBW6.out).more (by have:=HBW6.out.size;omega)) HP8.out.mod HA.out) (Nat.zero_le _) (by omega) (by omega)
     (fun a ha e => HA.out a ha (e ▸ hsq)) (fun k hk => by
      have h1:=wr_ownOf HP8.out.wr hk
      have h2:=HPI8.out.wr.lt k h1
      refine ⟨by omega,by omega,fun a ha e => ?_⟩
      rcases HPI8.out.own k h1 with h3 | h3
      ·exact HA.out a ha (e ▸ h3)
      ·have:=HAN.out a ha
       have:=HBW6.out.size
       omega) HX8.out
    have HSEQ:=Lib.hid hSEQ
    have HZ8:=Lib.hid hz8
    rw [hbx]
    clear hSEQ hz8 hb8 hM2 hbx HW8 HPI8 HX8 hq8
    refine wpIn_rangeFunc_ownH rfl (by omega) (gf:=220) (lb:=#[.pointer (some ⟨bx,0,none⟩)]) rfl trivial (enters_of Tryz.func220 (by kernel_rfl) rfl) HSEQ.out
     (fun h k => h.trans k) (fun W l o o' hl ho hc _ => KpB.putObj W l o o' (Nat.zero_le _) (by have:=HZ8.out;have:=HSN.out q hsq;omega) ho hc) (Below.refl _ _) (fun _ => rfl)
     (fun (pre:List (PtIn ls)) X => prI S W6 q base M2 zs (pre.map (·.1)) X) (fun _ _ _ => False) (fun s => prI_own _ S W6 q base M2 zs (by have:=HZ8.out;omega) _) (fun _ _ _ _ _ h _ _ => h)
     ⟨S8,by simpa [partsB] using HP8.out⟩
     (fun (t:PtIn ls) a' W => ∃ Bx,W.heap[Bx]? = some (.cells #[.int .i64 (t.1.1:Int),.int .i64 (t.1.2:Int)] 277)∧a' = { tmps:=(.pointer (some ⟨q,0,none⟩) :: .slice A l c :: .pointer (some ⟨N,0,none⟩) :: undef :: .int .i64 0 :: .pointer (some ⟨N + 2,0,none⟩) :: undef :: .slice A4 19 k4 :: .int .i64 0 :: .pointer (some ⟨w5.heap.size,0,none⟩) :: .int .i64 0 :: undef :: u12 :: .pointer (some ⟨Bx,0,none⟩) :: undef :: undef :: .slice A l c :: .int .i64 (l:Int) :: .bool false :: .bool false :: .slice A l c :: .int .i64 (l:Int) :: .bool false :: .bool false :: .slice A l c :: .bool true :: .bool false :: .bool false :: .pointer (some ⟨q,0,none⟩) :: .bool false :: .bool false :: .slice (some ⟨N + 1,0,none⟩) 19 19 :: .slice A l c :: .func (.func 220) #[] #[.pointer (some ⟨N + 3,0,none⟩)] :: undef :: undef :: undef :: undef :: undef :: undef :: undef :: undef :: .tuple #[.slice A4 19 k4,.int .i64 0] :: .slice (some ⟨N + 1,0,none⟩) 19 19 :: .tuple #[.slice A4 19 k4,.int .i64 0] :: .slice A4 19 k4 :: .int .i64 0 :: .tuple #[.pointer (some ⟨g,0,none⟩),.int .i64 0] :: .slice A4 19 k4 :: .tuple #[.pointer (some ⟨g,0,none⟩),.int .i64 0] :: .pointer (some ⟨g,0,none⟩) :: .int .i64 0 :: .pointer (some ⟨q,0,none⟩) :: .slice A l c :: .int .i64 (l:Int) :: .int .u32 (l:Int) :: .tuple #[] :: .slice A4 19 k4 :: .int .i64 19 :: .int .i64 19 :: .bool false :: u61 :: u62 :: u63 :: u64 :: u65 :: u66 :: u67 :: .slice A l c :: .func (.func 220) #[] #[.pointer (some ⟨bx,0,none⟩)] :: ptV t.1 :: undef :: undef :: undef :: undef :: undef :: undef :: undef :: undef :: undef :: undef :: undef :: undef :: undef :: undef :: undef :: undef :: undef :: undef :: undef :: []).toArray,defers:=[] })
     (fun t a' _ X Y row hs hg hr => by
      obtain ⟨Bx,h1,h2⟩:=hs
      refine ⟨Bx,(hg.block Bx (Array.getElem?_eq_some_iff.1 h1).1 (fun e => ?_)).trans h1,h2⟩
      obtain ⟨_,o,ho,hc⟩:=hr Bx e.symm
      rw [h1] at ho;cases ho;cases hc)
     ?assign2 ?body2 ?done2 ?stop2
    case assign2 =>
     rintro gy pre ⟨⟨tn,td⟩,hmem⟩ W K ⟨S9,h9⟩ hK
     have hqW:q < W.heap.size:=h9.wr.lt q (by obtain ⟨v,_,h2,_⟩:=wr_own h9.wr;rw [h2];exact .inl rfl)
     simp only [ptV]
     gi_wp2
     exact hK _ _ ((KeepsOthers.alloc _ _).from _) (kpb_alloc _ (Nat.zero_le _) hqW) ⟨S9,h9.below ((Below.refl _ _).alloc (Nat.le_refl _) _)⟩ ⟨W.heap.size,heap_alloc_new W _,rfl⟩
    case body2 =>
     rintro gy pre ⟨⟨tn,td⟩,hmem⟩ a' W hlb ⟨r,hr⟩ ⟨S9,h9⟩ ⟨Bx,hx,rfl⟩ hlt
     obtain ⟨ha19,ha1,ha2,ha3⟩:=part_bd HV.out hmem
     have hsp:=spanP_le tn
     have HSP:=Lib.hid (fun V => span_any tn V)
     have HBT:Hid (partB zs (tn,td) = symB zs (tn:Int)++bitsOf (td - (spanP tn).1) (spanP tn).2):=rfl
     dsimp only at ha19 ha1 ha2 ha3
     obtain ⟨⟨sa,sb⟩,hab⟩:∃ ab,spanP tn = ab:=⟨_,rfl⟩
     rw [hab] at ha1 ha3 hsp HSP HBT
     dsimp only at ha1 ha3 hsp HSP HBT
     obtain ⟨dm,hdm⟩:∃ dm,td - sa = dm:=⟨_,rfl⟩
     have hdm2:(td:Int) - (sa:Int) = (dm:Int):=by omega
     rw [hdm] at HBT
     have hdl:dm ≤ 320:=by have:=HL.out;omega
     have hwd:IntKind.u32.wrap (dm:Int) = (dm:Int):=IntWalk.u32_in _ (by omega)
     have c9:W.cell? ⟨w5.heap.size,0,none⟩ = some (.pointer (some ⟨g,0,none⟩)):=Boxed.cell (h9.mod.keep HX9.out (fun h => by have:=HSN.out _ h;omega))
     have c2:W.cell? ⟨N,0,none⟩ = some (.pointer (some ⟨q,0,none⟩)):=Boxed.cell (h9.mod.keep HX6.out (fun h => by have:=HSN.out N h;omega))
     have k0:W.cell? ⟨Bx,0,none⟩ = some (.int .i64 (tn:Int)):=cell_of_row W _ 0 _ _ _ hx
     have hml:(M2++partsB zs (pre.map (·.1))).length ≤ 100010000:=by
      have h1:=partsB_len HRT.out (pre.map (·.1))
      rw [List.length_map] at h1
      rw [List.length_append]
      omega
     have hbW:base ≤ W.heap.size:=by have:=h9.mod.size;have:=HBW6.out.size;omega
     have HP8:=Lib.hid (put8_any g q base zs S9 _ (tn:Int) W HRT.out (HLC6.out.keep h9.mod (fun k hk => by have:=HSN.out k hk;omega)).lc h9.wr (by omega) hbW)
     have HSL:=symB_len HRT.out (tn:Int)
     have H9:=Lib.hid h9
     have HX:=Lib.hid hx
     clear h9 hx hab hdm ha1 ha3
     simp only [ptV]
     gi_wp2_with (first
      | (refine ⟨trivial,?_⟩;gi_at_call 111;refine (CallsIn.inRound gy (callsIn_wide.2 HP8.out)).mono ?_;rintro e X2 ⟨rfl,S2,hw2,hm2,hs2⟩;have hp2:=H9.out.next hw2 hm2 hs2;have hx2:=hm2.keep HX.out (wr_not H9.out.wr HX.out (by decide) (by decide));have HK2:=Lib.hid (kpb_wr H9.out.wr hw2 hm2 hs2 (Nat.zero_le _) (Nat.zero_le _) (Nat.zero_le _));have HO2:=Lib.hid (wr_kept H9.out.wr hm2);have k0':X2.cell? ⟨Bx,0,none⟩ = some (.int .i64 (tn:Int)):=cell_of_row X2 _ 0 _ _ _ hx2;have k1':X2.cell? ⟨Bx,1,none⟩ = some (.int .i64 (td:Int)):=cell_of_row X2 _ 1 _ _ _ hx2;have c2':X2.cell? ⟨N,0,none⟩ = some (.pointer (some ⟨q,0,none⟩)):=Boxed.cell (hp2.mod.keep HX6.out (fun h => by have:=HSN.out N h;omega));have HWP:=Lib.hid (wput_any q base S2 _ (dm:Int) (sb:Int) X2 hw2 (by rw [List.length_append];omega) (by have:=hm2.size;omega) (by omega) (by omega) (by omega) (by omega));rw [cnt_nat (k:=sb) (by omega),Int.toNat_natCast,List.append_assoc,← HBT.out,List.append_assoc] at HWP;have HP2:=Lib.hid hp2;clear hw2 hm2 hs2 hp2 hx2 c2 c9 k0)
      | (refine ⟨trivial,?_⟩;gi_at_call 191;refine (CallsIn.inRound gy (callsIn_wide.2 (HSP.out _))).mono ?_;rintro e w' ⟨rfl,rfl⟩)
      | (refine ⟨trivial,?_⟩;gi_at_call 155;refine (CallsIn.inRound gy (callsIn_wide.2 HWP.out)).mono ?_;rintro e X3 ⟨rfl,S3,hw3,hm3,hs3⟩;have HP3:=Lib.hid (HP2.out.next hw3 hm3 hs3);have HK3:=Lib.hid (HK2.out.trans (kpb_wr HP2.out.wr hw3 hm3 hs3 (Nat.zero_le _) (Nat.zero_le _) (Nat.zero_le _)));have HO3:=Lib.hid (HO2.out.trans (wr_kept HP2.out.wr hm3));clear hw3 hm3 hs3))
     refine ⟨HO3.out.from _,HK3.out,S3,?_⟩
     rw [List.map_append,List.map_cons,List.map_nil,partsB_snoc]
     exact HP3.out
    case stop2 =>
     rintro D c pre W _ _ h _
     exact h.elim
    case done2 =>
     rintro D2 ys2 X hD2 hS2 ⟨S9,h9⟩ hK2
     rw [hS2,HPS.out] at h9
     have H9:=Lib.hid h9
     have HK2:=Lib.hid hK2
     have HKD:=Lib.hid (h9.mod.keep HK6.out (fun h => by have:=HSN.out _ h;have:=HZ3.out;omega))
     clear h9 hS2 hK2
     have hd6:=(Array.getElem?_eq_some_iff.1 HK6.out).1
     have hne:D ≠ D2:=by have:=HZ8.out;omega
     gi_wp2
     refine ⟨by simp,.inl ⟨_,_,rfl,run_takeDeferred HK2.out,⟨by simp,.inl ⟨_,_,rfl,run_takeDeferred ((World.putObj_heap_other hne).trans HKD.out),?_⟩⟩⟩⟩
     refine ⟨_,results_tmp rfl _ _ _,rfl,S9,?_⟩
     have hb0:Below w.heap.size w W6:=by rw [HNN.out];exact HBW6.out
     have h1:=H9.out.base_ hb0
     have h2:=h1.grown (grownBy_putObj' X D2 (.deferred none)) (fun r e => by cases e;exact ⟨by have:=HZ8.out;have:=HBW6.out.size;omega,_,HK2.out,rfl⟩)
     have h3:=h2.grown (grownBy_putObj' _ D (.deferred none)) (fun r e => by cases e;exact ⟨by have:=HZ3.out;omega,_,(World.putObj_heap_other hne).trans HKD.out,rfl⟩)
     refine ⟨?_,h3.mod,fun k hk => by rw [← HNN.out];exact h3.own k hk⟩
     have h4:=h3.wr
     rw [← HM2.out,← HL1.out] at h4
     rw [tabP,HL.out,HPS.out,HZS.out,← List.append_assoc,← List.append_assoc]
     exact h4
 case stop =>
  rintro D c pre W _ _ h _
  exact h.elim
end Go.Proofs.YtaknladkodibaaaGreatDoor
namespace Go.Proofs.YtaknladkodibaaaGreatDoor
open BitsP
theorem numA_bits {L R:List Bool} {p n x:Nat} (h:L.drop p = bitsOf x n++R) (hx:x < 2 ^ n):numA L p n = x:=by
 unfold numA
 rw [h,List.take_append_of_le_length (by rw [bitsOf_length];exact Nat.le_refl _),List.take_of_length_le (by rw [bitsOf_length];exact Nat.le_refl _),num_bitsOf]
 rw [p2_pow]
 exact Nat.mod_eq_of_lt hx
theorem drop_more {L A R:List Bool} {p:Nat} (h:L.drop p = A++R):L.drop (p + A.length) = R:=by
 rw [← List.drop_drop,h,List.drop_left']
 rfl
theorem lensA_bits {L R:List Bool}:∀ (ns:List Nat) {p:Nat},(∀ n ∈ ns,n < 16)→L.drop p = lensB ns++R→lensA L p ns.length = ns
 | [],p,_,_ => rfl
 | n :: ns,p,hn,h => by
  have e:lensB (n :: ns) = bitsOf n 4++lensB ns:=rfl
  rw [e,List.append_assoc] at h
  have h1:=numA_bits h (hn n List.mem_cons_self)
  have h2:=drop_more h
  rw [bitsOf_length] at h2
  have h3:=lensA_bits ns (fun x hx => hn x (List.mem_cons_of_mem _ hx)) h2
  have h4:lensA L p (ns.length + 1) = numA L p 4 :: lensA L (p + 4) ns.length:=by
   unfold lensA
   rw [List.range_succ_eq_map,List.map_cons,List.map_map]
   congr 1
   apply List.map_congr_left
   intro i _
   show numA L (p + 4 * (i + 1)) 4 = numA L (p + 4 + 4 * i) 4
   rw [show p + 4 * (i + 1) = p + 4 + 4 * i by omega]
  rw [List.length_cons,h4,h1,h3]
theorem partF_back {F:List Int→List Bool→Int × Int × Nat} (hF:FunT F) {ls:List Nat} {t:Nat × Nat} (ht:t ∈ partsP ls 0) (hv:∀ x ∈ ls,x ≤ 15) {U R:List Bool} (hU:U = partB (zN (lnP (partsP ls 0))) t++R) :
  partF F (zN (lnP (partsP ls 0))) U = (0,t.1,t.2,(partB (zN (lnP (partsP ls 0))) t).length):=by
 obtain ⟨h19,h1,h2,h3⟩:=part_bd hv ht
 obtain ⟨n,v,k,hy,_,hs,hv32,hn15⟩:=lnP_sym ht h19
 have hr:=lnP_right ht h19
 obtain ⟨m,hm⟩:∃ m:Nat,isMax (zN (lnP (partsP ls 0))) (m:Int):=caR_max hr
 have hB:partB (zN (lnP (partsP ls 0))) t = codeB v n++bitsOf (t.2 - (spanP t.1).1) (spanP t.1).2:=by unfold partB;rw [hs]
 have hl:(codeB v n).length = n:=codeB_len v n
 rw [hB,List.append_assoc] at hU
 have ht1:U.take n = codeB v n:=by rw [hU,List.take_append_of_le_length (by rw [hl];exact Nat.le_refl _),List.take_of_length_le (by rw [hl];exact Nat.le_refl _)]
 have hd:U.drop n = bitsOf (t.2 - (spanP t.1).1) (spanP t.1).2++R:=by
  have:=drop_more (L:=U) (p:=0) (A:=codeB v n) (R:=bitsOf (t.2 - (spanP t.1).1) (spanP t.1).2++R) (by rw [List.drop_zero];exact hU)
  rw [hl,Nat.zero_add] at this
  exact this
 have hUl:n + (spanP t.1).2 ≤ U.length:=by rw [hU,List.length_append,List.length_append,hl,bitsOf_length];omega
 have hf:F (zN (lnP (partsP ls 0))) U = ((t.1:Int),0,n):=hF _ _ _ _ _ m hm (.inl ⟨t.1,v,k,hy,by omega,by rw [ht1,hiN_code (hy.lt hr)],rfl,rfl⟩)
 have hx:num ((U.drop n).take (spanP t.1).2) = t.2 - (spanP t.1).1:=by
  have:=numA_bits hd h3
  exact this
 unfold partF
 rw [hf]
 dsimp only
 rw [if_neg (by simp),if_neg (by rw [Int.toNat_natCast];omega),Int.toNat_natCast,hx,hB,List.length_append,hl,bitsOf_length,show (spanP t.1).1 + (t.2 - (spanP t.1).1) = t.2 by omega]
theorem lensF_back {F:List Int→List Bool→Int × Int × Nat} (hF:FunT F) {ls:List Nat} (hv:∀ x ∈ ls,x ≤ 15) {L R:List Bool}:∀ (k p q:Nat),ls.length ≤ p + k→p ≤ ls.length→(∀ t ∈ partsP ls p,t ∈ partsP ls 0)→L.drop q = partsB (zN (lnP (partsP ls 0))) (partsP ls p)++R →
  lensF F (zN (lnP (partsP ls 0))) ls.length L k (ls.take p) q = (0,ls,q + (partsB (zN (lnP (partsP ls 0))) (partsP ls p)).length)
 | 0,p,q,h,hp,hin,hd => by
  obtain rfl:p = ls.length:=by omega
  rw [lensF,List.take_length,partsP_end (ls:=ls) (p:=ls.length) (by omega)]
  rfl
 | k + 1,p,q,h,hp,hin,hd => by
  rw [lensF,List.length_take,Nat.min_eq_left hp]
  by_cases hlt:p < ls.length
  ·rw [if_neg (by omega)]
   have hst:=partsP_step hlt
   have ht:(numP ls p,manyP ls p) ∈ partsP ls 0:=hin _ (by rw [hst];exact List.mem_cons_self)
   have e:partsB (zN (lnP (partsP ls 0))) (partsP ls p) = partB (zN (lnP (partsP ls 0))) (numP ls p,manyP ls p)++partsB (zN (lnP (partsP ls 0))) (partsP ls (p + manyP ls p)):=by rw [hst];rfl
   rw [e,List.append_assoc] at hd
   have hpf:=partF_back hF ht hv hd
   have h1:=manyP_pos hlt
   have h2:=many_le hlt
   obtain ⟨hs1,hs2⟩:=says_here hv hlt
   rw [hpf]
   dsimp only
   rw [if_neg (by simp),if_neg (by
    rintro ⟨h16,hnil⟩
    have:=hs2 h16
    have h5:=congrArg List.length hnil
    rw [List.length_take,List.length_nil] at h5
    omega),if_neg (by omega),hs1,← take_many,lensF_back hF hv k (p + manyP ls p) _ (by omega) h2 (fun t htt => hin t (by rw [hst];exact List.mem_cons_of_mem _ htt)) (drop_more hd),e,List.length_append,Nat.add_assoc]
  ·obtain rfl:p = ls.length:=by omega
   rw [if_pos (Nat.le_refl _),List.take_length,partsP_end (ls:=ls) (p:=ls.length) (by omega)]
   rfl
theorem tkF_back {F:List Int→List Bool→Int × Int × Nat} (hF:FunT F) {ls:List Nat} (h1:1 ≤ ls.length) (hm:ls.length ≤ 320) (hv:∀ x ∈ ls,x ≤ 15) {L R:List Bool} {p:Nat} (hd:L.drop p = tabP ls++R):tkF F L p = (0,ls,p + (tabP ls).length):=by
 have hp:p + (tabP ls++R).length ≤ L.length ∨ L.length ≤ p:=by
  rw [← hd,List.length_drop];omega
 obtain ⟨t,ht⟩:=partsP_ne (ls:=ls) h1
 have hr:=lnP_right ht (partsP_all hv t ht)
 have hT:tabP ls = bitsOf ls.length 9++(lensB (lnP (partsP ls 0))++partsB (zN (lnP (partsP ls 0))) (partsP ls 0)):=by rw [tabP,List.append_assoc]
 have hTl:(tabP ls).length = 85 + (partsB (zN (lnP (partsP ls 0))) (partsP ls 0)).length:=by
  rw [hT,List.length_append,List.length_append,bitsOf_length,lensB_len,lnP_len];omega
 have hlen:p + (tabP ls).length ≤ L.length:=by
  rcases hp with h | h
  ·rw [List.length_append] at h;omega
  ·rw [List.drop_of_length_le h] at hd
   have:=congrArg List.length hd
   rw [List.length_append,hTl,List.length_nil] at this
   omega
 rw [hT,List.append_assoc] at hd
 have h9:=numA_bits hd (Nat.lt_of_le_of_lt hm (by decide))
 have hd2:=drop_more hd
 rw [bitsOf_length,List.append_assoc] at hd2
 have hls:=lensA_bits (lnP (partsP ls 0)) (fun n hn => by
  obtain ⟨k,hk⟩:=List.mem_iff_getElem?.1 hn
  exact Nat.lt_succ_of_le (lnP_le hk)) hd2
 have hd3:=drop_more hd2
 rw [lensB_len,lnP_len] at hd3
 rw [lnP_len] at hls
 have hz:((lnP (partsP ls 0)).map fun n:Nat => (n:Int)) = zN (lnP (partsP ls 0)):=rfl
 have hb:=lensF_back hF hv (L:=L) (R:=R) ls.length 0 (p + 85) (by omega) (Nat.zero_le _) (fun _ h => h) hd3
 unfold tkF
 rw [if_neg (by omega),h9,if_neg (by omega),if_neg (by omega),hls,hz,if_neg (by rw [hr];simp),List.take_zero.symm,hb,hTl]
 congr 2
 omega
end Go.Proofs.YtaknladkodibaaaGreatDoor
namespace Go.Proofs.YtaknladkodibaaaGreatDoor
open BitsP SymP
theorem clsF_back {F:List Int→List Bool→Int × Int × Nat} (hF:FunT F) {ws:List Nat} (hl:ws.length ≤ 320) {c:Nat × Nat × Nat} {x zr:Nat} (hx:ws[c.1]? = some x) (h0:0 < x) (hw:c.2.1 = wdF zr c.1) (hc:c.2.2 < 2 ^ c.2.1) {L R:List Bool} {p:Nat} (hd:L.drop p = clsB (zN (lensW ws)) c++R) :
  clsF F (zN (lensW ws)) zr L p = (0,c,(clsB (zN (lensW ws)) c).length):=by
 obtain ⟨s,nb,ex⟩:=c
 dsimp only at hx hw hc
 obtain ⟨n,v,k,hy,_,hs,_,_⟩:=lensW_sym hl hx h0
 have hr:=lensW_caR hl hx h0
 obtain ⟨m,hm⟩:=caR_max hr
 have hB:clsB (zN (lensW ws)) (s,nb,ex) = codeB v n++bitsOf ex nb:=by unfold clsB;rw [hs]
 have hcl:(codeB v n).length = n:=codeB_len v n
 rw [hB,List.append_assoc] at hd
 have ht1:(L.drop p).take n = codeB v n:=by rw [hd,List.take_append_of_le_length (by rw [hcl];exact Nat.le_refl _),List.take_of_length_le (by rw [hcl];exact Nat.le_refl _)]
 have hd2:=drop_more hd
 rw [hcl] at hd2
 have hUl:n + nb ≤ (L.drop p).length:=by rw [hd,List.length_append,List.length_append,hcl,bitsOf_length];omega
 have hf:F (zN (lensW ws)) (L.drop p) = ((s:Int),0,n):=hF _ _ _ _ _ m hm (.inl ⟨s,v,k,hy,by omega,by rw [ht1,hiN_code (hy.lt hr)],rfl,rfl⟩)
 rw [List.length_drop] at hUl
 have hn1:=hy.one
 have hxx:=numA_bits hd2 hc
 unfold clsF
 rw [hf]
 dsimp only
 rw [if_neg (by simp),Int.toNat_natCast,← hw,if_neg (by omega),hxx,hB,List.length_append,hcl,bitsOf_length]
def goodT (most:Int):List Tk→Nat→Prop
 | [],_ => True
 | t :: ts,size => okT t∧t.2.2 ≤ size∧((size + max t.2.1 1:Nat):Int) ≤ most∧goodT most ts (size + max t.2.1 1)
theorem wd1 {t:Tk} (h:okT t):(cls1 t).2.1 = wdF 257 (cls1 t).1:=by
 unfold cls1
 rcases h with ⟨h1,h2⟩ | ⟨h1,h2,h3,h4,_⟩
 ·rw [if_pos h1]
  have:=t.1.toNat_lt
  dsimp only
  rw [wdF,if_neg (by omega)]
 ·rw [if_neg (by omega)]
  have hc:=(class_is (t.2.1 - 3) (by omega)).1
  dsimp only
  rw [wdF,if_pos (by omega),Nat.add_sub_cancel]
theorem wd2 {t:Tk} (h:okT t) (hm:isM t = true):(cls2 t).2.1 = wdF 0 (cls2 t).1:=by
 unfold isM at hm
 have hne:t.2.1 ≠ 0:=of_decide_eq_true hm
 unfold cls2
 rcases h with ⟨h1,h2⟩ | ⟨h1,h2,h3,h4,_⟩
 ·exact absurd h1 hne
 ·rw [if_neg hne]
  have hc:=(class_is (t.2.2 - 1) (by omega)).1
  dsimp only
  rw [wdF,if_pos ⟨Nat.zero_le _,by omega⟩,Nat.sub_zero]
theorem joinR_back {t:Tk} (h:okT t):(if 256 < (cls1 t).1 then joinR ((cls1 t).1:Nat) ((cls1 t).2.1:Nat) (cls1 t).2.2 ((cls2 t).1:Nat) ((cls2 t).2.1:Nat) (cls2 t).2.2 true else joinR ((cls1 t).1:Nat) ((cls1 t).2.1:Nat) (cls1 t).2.2 0 0 0 false) = some (t.1.toNat,t.2.1,t.2.2)∧(256 < (cls1 t).1 ↔ isM t = true)∧(cls1 t).1 ≠ 256:=by
 obtain ⟨y,l,d⟩:=t
 rcases h with ⟨h1,h2⟩ | ⟨h1,h2,h3,h4,h5⟩
 ·dsimp only at h1 h2
  subst h1 h2
  have e1:cls1 (y,0,0) = (y.toNat,0,0):=by unfold cls1;rw [if_pos rfl]
  have hy:=y.toNat_lt
  rw [e1]
  dsimp only
  refine ⟨?_,?_,by omega⟩
  ·rw [if_neg (by omega)]
   unfold joinR
   rw [if_pos rfl,if_pos ⟨by omega,by omega,rfl,rfl,rfl,rfl,rfl⟩,Int.toNat_natCast]
  ·unfold isM
   simp
   omega
 ·dsimp only at h1 h2 h3 h4 h5
  subst h5
  obtain ⟨l',rfl⟩:∃ l',l = l' + 3:=⟨l - 3,by omega⟩
  obtain ⟨d',rfl⟩:∃ d',d = d' + 1:=⟨d - 1,by omega⟩
  have e1:cls1 (0,l' + 3,d' + 1) = (classC l' + 257,bitsC (classC l'),l' % 2 ^ bitsC (classC l')):=by unfold cls1;rw [if_neg (by dsimp only;omega)];rfl
  have e2:cls2 (0,l' + 3,d' + 1) = (classC d',bitsC (classC d'),d' % 2 ^ bitsC (classC d')):=by unfold cls2;rw [if_neg (by dsimp only;omega)];rfl
  have hc:=(class_is l' (by omega)).1
  have hm:=class_mono (v:=l') (w:=255) (by omega) (by omega)
  have h255:classC 255 = 15:=by decide
  rw [e1,e2]
  dsimp only
  refine ⟨?_,?_,by omega⟩
  ·rw [if_pos (by omega)]
   have v1:=valC_class (v:=l') (by omega)
   have v2:=valC_class (v:=d') (by omega)
   have e3:((classC l' + 257:Nat):Int) - 257 = (classC l':Nat):=by omega
   unfold joinR
   rw [if_neg (by simp),e3,if_pos ⟨by omega,by omega,by rw [v1];rfl,by rw [v2];rfl⟩]
   unfold vN
   rw [v1,v2]
   rfl
  ·unfold isM
   simp
theorem tokB_parts {z1 z2:List Int} {t:Tk} {ts:List Tk}:toksB z1 z2 (t :: ts) = clsB z1 (cls1 t)++((if isM t then clsB z2 (cls2 t) else [])++toksB z1 z2 ts):=by
 show tokB z1 z2 t++toksB z1 z2 ts = _
 unfold tokB
 rw [List.append_assoc]
theorem blkL_back {F:List Int→List Bool→Int × Int × Nat} (hF:FunT F) {al:List Tk} {most:Int} {L R:List Bool}:∀ (k:Nat) (pre ts:List Tk) (size p:Nat),al = pre++ts→ts.length < k→(∀ t ∈ ts,okT t)→goodT most ts size →
  L.drop p = toksB (zN (lensW (wt1 al))) (zN (lensW (wt2 al))) ts++(symB (zN (lensW (wt1 al))) 256++R) →
  blkL F (zN (lensW (wt1 al))) (zN (lensW (wt2 al))) L most k pre size p = (0,al,p + (toksB (zN (lensW (wt1 al))) (zN (lensW (wt2 al))) ts).length + (symB (zN (lensW (wt1 al))) 256).length)
 | 0,pre,ts,size,p,_,hk,_,_,_ => by omega
 | k + 1,pre,[],size,p,ha,_,_,_,hd => by
  rw [List.append_nil] at ha
  subst ha
  obtain ⟨x,hx,h0⟩:=wt1_end al
  have e:clsB (zN (lensW (wt1 al))) (256,0,0) = symB (zN (lensW (wt1 al))) 256:=by unfold clsB;simp [bitsOf]
  have hd2:L.drop p = clsB (zN (lensW (wt1 al))) (256,0,0)++R:=by rw [hd,e];rfl
  have hc:=clsF_back hF (by rw [wt1_len];omega) (c:=(256,0,0)) (zr:=257) hx h0 (by rw [wdF,if_neg (by omega)]) (by decide) hd2
  rw [blkL,hc]
  dsimp only
  rw [if_neg (by simp),if_pos rfl,e]
  rfl
 | k + 1,pre,t :: ts,size,p,ha,hk,hok,hg,hd => by
  have h1:=hok t List.mem_cons_self
  have hin:t ∈ al:=by rw [ha];simp
  obtain ⟨_,hdist,hmost,hg2⟩:=hg
  obtain ⟨hj,hiff,hne⟩:=joinR_back h1
  obtain ⟨x,hx,h0⟩:=wt1_has hin h1
  rw [tokB_parts,List.append_assoc] at hd
  have hc:=clsF_back hF (by rw [wt1_len];omega) (c:=cls1 t) (zr:=257) hx h0 (wd1 h1) (cls1_lt h1).2.2 hd
  have hd2:=drop_more hd
  have hy:UInt8.ofNat t.1.toNat = t.1:=by simp
  have ih:=fun p' hd' => blkL_back hF (al:=al) (most:=most) (L:=L) (R:=R) k (pre++[t]) ts (size + max t.2.1 1) p' (by rw [ha];simp) (by simp at hk;omega) (fun x hx => hok x (List.mem_cons_of_mem _ hx)) hg2 hd'
  by_cases hm:isM t = true
  ·have h256:=hiff.2 hm
   obtain ⟨x2,hx2,h02⟩:=wt2_has hin h1 hm
   rw [if_pos hm,List.append_assoc] at hd2
   have hc2:=clsF_back hF (by rw [wt2_len];omega) (c:=cls2 t) (zr:=0) hx2 h02 (wd2 h1 hm) (cls2_lt h1).2.2 hd2
   have hd3:=drop_more hd2
   rw [if_pos h256] at hj
   rw [blkL,hc]
   dsimp only
   rw [if_neg (by simp),if_neg hne,hc2]
   dsimp only
   rw [if_neg (by simp),if_pos h256,if_pos h256,hj]
   dsimp only
   rw [if_neg (by omega),if_neg (by omega),hy,ih _ hd3,tokB_parts,if_pos hm,List.length_append,List.length_append]
   congr 2
   omega
  ·have h256:¬ 256 < (cls1 t).1:=fun h => hm (hiff.1 h)
   rw [if_neg hm,List.nil_append] at hd2
   rw [if_neg h256] at hj
   rw [blkL,hc]
   dsimp only
   rw [if_neg (by simp),if_neg hne,if_neg (fun h => h256 h.1),if_neg h256,if_neg h256,hj,Nat.add_zero]
   dsimp only
   rw [if_neg (by omega),if_neg (by omega),hy,ih _ hd2,tokB_parts,if_neg hm,List.length_append,List.nil_append]
   congr 2
   omega
theorem lensW_le {ws:List Nat} (hl:ws.length ≤ 320):∀ y ∈ lensW ws,y ≤ 15:=fun y hy => by
 obtain ⟨k,hk⟩:=List.mem_iff_getElem?.1 hy
 have hkl:=(List.getElem?_eq_some_iff.1 hk).1
 rw [lensW_len] at hkl
 have h2:=(lensW_pos (ns:=ws) (by omega) (List.getElem?_eq_getElem hkl)).2
 rw [List.getD,hk] at h2
 exact h2
theorem toksB_ge {al:List Tk}:∀ ts:List Tk,(∀ t ∈ ts,t ∈ al∧okT t)→ts.length ≤ (toksB (zN (lensW (wt1 al))) (zN (lensW (wt2 al))) ts).length
 | [],_ => Nat.zero_le _
 | t :: ts,h => by
  obtain ⟨hin,h1⟩:=h t List.mem_cons_self
  obtain ⟨x,hx,h0⟩:=wt1_has hin h1
  obtain ⟨n,v,k,hy,_,hs,_,_⟩:=lensW_sym (by rw [wt1_len];omega) hx h0
  have hn:=hy.one
  have ih:=toksB_ge ts (fun t ht => h t (List.mem_cons_of_mem _ ht))
  have hc:1 ≤ (clsB (zN (lensW (wt1 al))) (cls1 t)).length:=by
   unfold clsB
   rw [hs,List.length_append,codeB_len]
   omega
  rw [tokB_parts,List.length_append,List.length_append,List.length_cons]
  omega
theorem blkF_back {F:List Int→List Bool→Int × Int × Nat} (hF:FunT F) {ts:List Tk} (hok:∀ t ∈ ts,okT t) {most:Int} (hg:goodT most ts 0) {L R:List Bool} {p:Nat} (hd:L.drop p = blkB ts++R):blkF F L p most = (0,ts,p + (blkB ts).length):=by
 have hl1:(lensW (wt1 ts)).length = 273:=by rw [lensW_len,wt1_len]
 have hl2:(lensW (wt2 ts)).length = 30:=by rw [lensW_len,wt2_len]
 have hr1:caR (zN (lensW (wt1 ts))) = true:=by
  obtain ⟨x,hx,h0⟩:=wt1_end ts
  exact lensW_caR (by rw [wt1_len];omega) hx h0
 have hr2:caR (zN (lensW (wt2 ts))) = true:=by
  obtain ⟨s,x,hx,h0⟩:=wt2_some ts hok
  exact lensW_caR (by rw [wt2_len];omega) hx h0
 have hB:blkB ts = tabP (lensW (wt1 ts))++(tabP (lensW (wt2 ts))++(toksB (zN (lensW (wt1 ts))) (zN (lensW (wt2 ts))) ts++symB (zN (lensW (wt1 ts))) 256)):=by unfold blkB;simp only [List.append_assoc]
 rw [hB] at hd ⊢
 simp only [List.append_assoc] at hd
 have ht1:=tkF_back hF (by rw [hl1];omega) (by rw [hl1];omega) (lensW_le (by rw [wt1_len];omega)) hd
 have hd2:=drop_more hd
 have ht2:=tkF_back hF (by rw [hl2];omega) (by rw [hl2];omega) (lensW_le (by rw [wt2_len];omega)) hd2
 have hd3:=drop_more hd2
 have hge:=toksB_ge (al:=ts) ts (fun t ht => ⟨ht,hok t ht⟩)
 have hlen:=congrArg List.length hd3
 rw [List.length_drop,List.length_append,List.length_append] at hlen
 have hs1:1 ≤ (symB (zN (lensW (wt1 ts))) 256).length:=by
  obtain ⟨x,hx,h0⟩:=wt1_end ts
  obtain ⟨n,v,k,hy,_,hs,_,_⟩:=lensW_sym (by rw [wt1_len];omega) hx h0
  have h2:symB (zN (lensW (wt1 ts))) 256 = codeB v n:=hs
  rw [h2,codeB_len]
  exact hy.one
 have hbl:=blkL_back hF (al:=ts) (most:=most) (L:=L) (R:=R) (L.length + 1 - (p + (tabP (lensW (wt1 ts))).length + (tabP (lensW (wt2 ts))).length)) [] ts 0 (p + (tabP (lensW (wt1 ts))).length + (tabP (lensW (wt2 ts))).length) rfl (by omega) hok hg hd3
 have hz1:((lensW (wt1 ts)).map fun n:Nat => (n:Int)) = zN (lensW (wt1 ts)):=rfl
 have hz2:((lensW (wt2 ts)).map fun n:Nat => (n:Int)) = zN (lensW (wt2 ts)):=rfl
 unfold blkF
 rw [ht1]
 dsimp only
 rw [if_neg (by simp),ht2]
 dsimp only
 rw [if_neg (by simp),hl1,hl2,if_neg (by omega),hz1,hz2,if_neg (by rw [hr1,hr2];simp),hbl]
 simp only [List.length_append]
 congr 2
 omega
end Go.Proofs.YtaknladkodibaaaGreatDoor
namespace Go.Proofs.YtaknladkodibaaaGreatDoor
open Go.RowKit BitsP
theorem ib_nb {w:World} {g:Nat} {ns:List Nat} (h:IntBlock w g (ns.map fun n:Nat => (n:Int))):NB w g ns:=by
 have h2:w.heap[g]? = some (.cells ((ns.map fun n:Nat => (n:Int)).map ic).toArray 3 (0,0)):=h
 rw [nCs_ic] at h2
 exact h2
theorem rep_nat (m x:Nat):(List.replicate m x).map (fun n:Nat => (n:Int)) = List.replicate m (x:Int):=by simp
theorem ic_cell (W:World) (x:Int):(W.alloc (.cells #[.int .i64 x] 3)).cell? ⟨W.heap.size,0,none⟩ = some (.int .i64 x):=cell_of_row _ _ 0 _ _ _ (heap_alloc_new W _)
set_option maxHeartbeats 1000000 in
theorem follow_no (c many:Nat) (A:Option Addr) (w:World) :
  Calls Tryz.prog 231 #[.slice A 0 c,.agg #[.int .i64 16,.int .i64 (many:Int)]] w fun e w' => e = .returned (.tuple #[.slice none 0 0,.int .i64 3])∧Below w.heap.size w w':=by
 go_enter Tryz.func231,Tryz.ntmps231
 go_wp2
 go_ret2
 exact ⟨rfl,(Below.refl _ w).alloc (Nat.le_refl _) _⟩
theorem last_cell {ls:List Nat} {l:Nat} (hl:ls.length = l) (h:0 < l):ls[l - 1]? = some (saysP ls 16):=by
 rcases List.eq_nil_or_concat ls with rfl | ⟨l',a,rfl⟩
 ·simp at hl;omega
 ·rw [List.concat_eq_append] at hl ⊢
  rw [List.length_append,List.length_singleton] at hl
  rw [show l - 1 = l'.length by omega,List.getElem?_append_right (Nat.le_refl _),Nat.sub_self,saysP,if_pos rfl,List.getLastD_concat]
  rfl
set_option maxRecDepth 100000 in
set_option maxHeartbeats 1000000 in
theorem follow_any (A:Option Addr) (l c:Nat) (ls:List Nat) (num many B:Nat) (w:World) (hl:ls.length = l) (hm:l ≤ 1000) (hb:Cells w B A (nCs ls)) (hB:B ≤ w.heap.size) (h16:num = 16→0 < l) (h1:1 ≤ many) (h4:many < 400) :
  Calls Tryz.prog 231 #[.slice A l c,.agg #[.int .i64 (num:Int),.int .i64 (many:Int)]] w fun e w' => ∃ g,e = .returned (.tuple #[.slice (some ⟨g,0,none⟩) many many,.int .i64 0])∧w.heap.size ≤ g∧NB w' g (List.replicate many (saysP ls num))∧Below w.heap.size w w':=by
 obtain ⟨x,hx⟩:∃ x,saysP ls num = x:=⟨_,rfl⟩
 rw [hx]
 have HREP:Hid (∀ o:Obj,Calls Tryz.prog 246 #[.slice (some ⟨w.heap.size + 1,0,none⟩) 1 1,.int .i64 (many:Int)] ((w.alloc o).alloc (.cells #[.int .i64 (x:Int)] 3)) fun e w' => ∃ g,e = .returned (.slice (some ⟨g,0,none⟩) many many)∧w.heap.size ≤ g∧NB w' g (List.replicate many x)∧Below w.heap.size w w'):=fun o => by
  have hc:=ic_cell (w.alloc o) (x:Int)
  rw [World.size_alloc] at hc
  refine (repeat_any (w.heap.size + 1) 0 1 many (x:Int) _ h1 h4 (by simp) hc).mono ?_
  rintro e w2 ⟨rfl,h2,h3⟩
  exact ⟨_,rfl,by simp;omega,ib_nb (by rw [rep_nat];exact h2),(((Below.refl w.heap.size w).alloc (Nat.le_refl _) o).alloc (by simp) _).trans (h3.mono (by simp;omega))⟩
 by_cases e16:num = 16
 ·subst e16
  have h0:=h16 rfl
  have HLC:=Lib.hid (last_cell hl h0)
  rw [hx] at HLC
  obtain ⟨b,o,rfl,hbB,hc⟩:=hb (by rw [nCs_len];omega)
  have t0:((l:Int) == 0) = false:=by simp;omega
  have hw1:IntKind.i64.wrap ((l:Int) - 1) = ((l - 1:Nat):Int):=by rw [IntWalk.i64_in _ (by omega)];omega
  have hlt:((l - 1:Nat):Int) < (l:Int):=by omega
  have hge:(0:Int) ≤ ((l - 1:Nat):Int):=by omega
  have c0:(w.alloc (.cells #[.int .i64 16,.int .i64 (many:Int)] 277)).cell? ⟨b,o + (l - 1),none⟩ = some (.int .i64 (x:Int)):=(((Below.refl w.heap.size w).alloc (Nat.le_refl _) _).cell (p:=⟨b,o + (l - 1),none⟩) (by show b < _;omega)).trans (hc (l - 1) _ (nCs_at HLC.out))
  clear hx hl hb hc h16 h0
  go_enter Tryz.func231,Tryz.ntmps231
  go_wp2_with (go_at_call 246;refine (HREP.out _).mono ?_;rintro e w2 ⟨g,rfl,hg,hn2,hb2⟩;have HN2:=Lib.hid (And.intro hg (And.intro hn2 hb2));clear hg hn2 hb2)
  go_ret2
  exact ⟨g,rfl,HN2.out⟩
 by_cases e17:num = 17
 ·subst e17
  obtain rfl:0 = x:=by rw [← hx];rfl
  clear hx hl hb h16
  go_enter Tryz.func231,Tryz.ntmps231
  go_wp2_with (go_at_call 246;refine (HREP.out _).mono ?_;rintro e w2 ⟨g,rfl,hg,hn2,hb2⟩;have HN2:=Lib.hid (And.intro hg (And.intro hn2 hb2));clear hg hn2 hb2)
  go_ret2
  exact ⟨g,rfl,HN2.out⟩
 by_cases e18:num = 18
 ·subst e18
  obtain rfl:0 = x:=by rw [← hx];rfl
  clear hx hl hb h16
  go_enter Tryz.func231,Tryz.ntmps231
  go_wp2_with (go_at_call 246;refine (HREP.out _).mono ?_;rintro e w2 ⟨g,rfl,hg,hn2,hb2⟩;have HN2:=Lib.hid (And.intro hg (And.intro hn2 hb2));clear hg hn2 hb2)
  go_ret2
  exact ⟨g,rfl,HN2.out⟩
 ·obtain rfl:num = x:=by rw [← hx,saysP,if_neg e16,if_neg (by omega)]
  have t1:((num:Int) == 16) = false:=by simp;omega
  have t2:((num:Int) == 17) = false:=by simp;omega
  have t3:((num:Int) == 18) = false:=by simp;omega
  clear hx hl hb h16 e16 e17 e18
  go_enter Tryz.func231,Tryz.ntmps231
  go_wp2_with (go_at_call 246;refine (HREP.out _).mono ?_;rintro e w2 ⟨g,rfl,hg,hn2,hb2⟩;have HN2:=Lib.hid (And.intro hg (And.intro hn2 hb2));clear hg hn2 hb2)
  go_ret2
  exact ⟨g,rfl,HN2.out⟩
theorem kindsT {F:List Int→List Bool→Int × Int × Nat} (hF:FunT F) {zs:List Int} {U:List Bool} {s e:Int} {on m:Nat} (hm:isMax zs (m:Int)) (h:TakeR zs m U s e on):(e = 0∧∃ t:Nat,s = (t:Int)∧t < zs.length∧on ≤ U.length∧F zs U = (s,e,on)) ∨ (e ≠ 0∧on = 0∧F zs U = (s,e,on)):=by
 have hf:=hF zs U s e on m hm h
 rcases h with ⟨t,v,k,hy,hl,_,rfl,rfl⟩ | ⟨rfl,rfl,_,he⟩
 ·exact .inl ⟨rfl,t,rfl,(List.getElem?_eq_some_iff.1 hy.len).1,hl,hf⟩
 ·refine .inr ⟨?_,rfl,hf⟩
  rw [he]
  split <;> decide
set_option maxRecDepth 100000 in
set_option maxHeartbeats 1000000 in
theorem rtpart_any (F:List Int→List Bool→Int × Int × Nat) (hF:FunT F) (g r base:Nat) (zs:List Int) (S:Nat→Prop) (bs:List UInt8) (p:Nat) (w:World) (hr:caR zs = true) (h:LC w g zs) (hrd:RdS w r base S bs p) (hbl:bs.length ≤ 1000000) :
  Calls Tryz.prog 230 #[.pointer (some ⟨r,0,none⟩),.pointer (some ⟨g,0,none⟩)] w
   fun e w' => ∃ p',e = .returned (.tuple #[.agg #[.int .i64 ((partF F zs ((unpack bs).drop p)).2.1:Nat),.int .i64 ((partF F zs ((unpack bs).drop p)).2.2.1:Nat)],.int .i64 (partF F zs ((unpack bs).drop p)).1])∧RdS w' r base S bs p'∧((partF F zs ((unpack bs).drop p)).1 = 0→p' = p + (partF F zs ((unpack bs).drop p)).2.2.2)∧Mod (oneB r) w w':=by
 have HT:=Lib.hid (take8_any g r base zs S bs p (w.alloc (.cells #[.int .i64 0,.int .i64 0] 277)) hr (h.below ((Below.refl w.heap.size w).alloc (Nat.le_refl _) _)) (hrd.keep (Mod.of_below ((Below.refl w.heap.size w).alloc (Nat.le_refl _) _)) (fun _ _ h => h)) hbl)
 have HM:Hid (Mod (oneB r) w (w.alloc (.cells #[.int .i64 0,.int .i64 0] 277))):=(Mod.of_below ((Below.refl w.heap.size w).alloc (Nat.le_refl _) _)).mono (fun _ h => h.elim)
 have HRL:Hid (r < w.heap.size):=by obtain ⟨A,c,hb,_⟩:=hrd;exact (Array.getElem?_eq_some_iff.1 hb).1
 have HTK:Hid (∀ (W:World) (p b:Nat),RdS W r base S bs p→b ≤ 100→_):=fun W p b hW h1 => rtake_any r base S bs p (b:Int) W hW (by omega) (by omega) (by omega)
 have HSL:Hid (∀ k,S k→k < w.heap.size):=hrd.lt
 have hp8:p ≤ 8 * bs.length:=by obtain ⟨_,_,_,_,_,h,_⟩:=hrd;exact h
 clear h hrd
 obtain ⟨U,hU⟩:∃ U,(unpack bs).drop p = U:=⟨_,rfl⟩
 have HU:=Lib.hid hU
 have hUl:U.length = 8 * bs.length - p:=by rw [← hU,List.length_drop,unpack_length]
 have HUL:=Lib.hid hUl
 rw [hU] at HT ⊢
 clear hU hUl
 have HST:Hid (∀ W:World,Mod (oneB r) w W→∀ i v j u,Mod (oneB r) w ((W.setCell ⟨w.heap.size,i,none⟩ v).setCell ⟨w.heap.size,j,none⟩ u)):=fun W hW i v j u => (hW.set _ _ (.inr (Nat.le_refl _))).set _ _ (.inr (Nat.le_refl _))
 have HSR:Hid (∀ (W:World) (q:Nat),RdS W r base S bs q→∀ i v j u,RdS ((W.setCell ⟨w.heap.size,i,none⟩ v).setCell ⟨w.heap.size,j,none⟩ u) r base S bs q):=fun W q hW i v j u => hW.keep (T:=oneB w.heap.size) (((Mod.refl (oneB w.heap.size) W).set ⟨w.heap.size,i,none⟩ v (.inl rfl)).set ⟨w.heap.size,j,none⟩ u (.inl rfl)) (fun k hk h => by have h2:k = w.heap.size:=h;have:=HSL.out k hk;omega)
 go_enter Tryz.func230,Tryz.ntmps230
 go_wp2_with fail
 refine HT.out.mono ?_
 rintro e w2 ⟨m,on,s,er,rfl,hmx,htk,hrd,hmod⟩
 have hbx:w2.heap[w.heap.size]? = some (.cells #[.int .i64 0,.int .i64 0] 277 (0,0)):=hmod.keep (heap_alloc_new w _) (fun h => by have h2:w.heap.size = r:=h;have:=HRL.out;omega)
 have HK:=Lib.hid (kindsT hF hmx htk)
 have HM2:=Lib.hid (HM.out.then_ hmod)
 have HRD:=Lib.hid hrd
 have HBX:=Lib.hid hbx
 have b0:w2.cell? ⟨w.heap.size,0,none⟩ = some (.int .i64 0):=cell_of_row _ _ 0 _ _ _ hbx
 have b1:w2.cell? ⟨w.heap.size,1,none⟩ = some (.int .i64 0):=cell_of_row _ _ 1 _ _ _ hbx
 have f0:w2.frozen? ⟨w.heap.size,0,none⟩ = false:=frozen_of_row _ _ 0 _ _ hbx
 have f1:w2.frozen? ⟨w.heap.size,1,none⟩ = false:=frozen_of_row _ _ 1 _ _ hbx
 clear hmx htk hrd hmod hbx
 rcases HK.out with ⟨rfl,t,rfl,htl,hon,hf⟩ | ⟨hne,rfl,hf⟩
 ·have HF:=Lib.hid hf
  have hz:=(caR_len hr).1
  have HSP:=Lib.hid (fun W => span_any t W)
  obtain ⟨⟨sa,sb⟩,hab⟩:∃ ab,spanP t = ab:=⟨_,rfl⟩
  have hsp:=spanP_le t
  have HAB:=Lib.hid hab
  rw [hab] at HSP hsp
  dsimp only at HSP hsp
  have HTK2:=Lib.hid (HTK.out w2 (p + on) sb HRD.out (by omega))
  rw [cnt_nat (by omega)] at HTK2
  clear HK HTK hf htl hab
  by_cases hfit:p + on + sb ≤ 8 * bs.length
  ·obtain ⟨y,hy⟩:∃ y,num ((U.drop on).take sb) = y:=⟨_,rfl⟩
   have hylt:y < 128:=by
    have h1:=numA_lt U on sb
    unfold numA at h1
    have h2:2 ^ sb ≤ 2 ^ 7:=Nat.pow_le_pow_right (by decide) hsp.2.2
    omega
   have HP:Hid (partF F zs U = (0,t,sa + y,on + sb)):=by
    show _ = _
    unfold partF
    rw [HF.out]
    dsimp only
    rw [if_neg (by simp),if_neg (by rw [Int.toNat_natCast,HAB.out,HUL.out];dsimp only;omega),Int.toNat_natCast,HAB.out]
    dsimp only
    rw [hy]
   have hty:takes bs (p + on) sb = y:=by rw [takes_yes hfit,← hy,← HU.out,List.drop_drop]
   rw [(fits_yes hfit).1,(fits_yes hfit).2,hty] at HTK2
   have HA:=Lib.hid (show p + on + sb = p + (on + sb) by omega)
   clear hfit hy hty
   go_wp2_with (first
    | (go_at_call 191;refine (HSP.out _).mono ?_;rintro e w' ⟨rfl,rfl⟩)
    | (go_at_call 228;refine HTK2.out.mono ?_;rintro e w3 ⟨rfl,hrd3,hm3⟩;have hbx3:=hm3.keep HBX.out (fun h => by have h2:w.heap.size = r:=h;have:=HRL.out;omega);have HR3:=Lib.hid hrd3;have HM3:=Lib.hid (HM2.out.then_ hm3);have HBX3:=Lib.hid hbx3;have b0':w3.cell? ⟨w.heap.size,0,none⟩ = some (.int .i64 0):=cell_of_row _ _ 0 _ _ _ hbx3;have b1':w3.cell? ⟨w.heap.size,1,none⟩ = some (.int .i64 0):=cell_of_row _ _ 1 _ _ _ hbx3;have f0':w3.frozen? ⟨w.heap.size,0,none⟩ = false:=frozen_of_row _ _ 0 _ _ hbx3;have f1':w3.frozen? ⟨w.heap.size,1,none⟩ = false:=frozen_of_row _ _ 1 _ _ hbx3;clear hrd3 hm3 hbx3))
   refine bodyPost_ret (v:=.tuple #[.agg #[.int .i64 (t:Int),.int .i64 ((sa + y:Nat):Int)],.int .i64 0]) ?_ rfl ⟨p + (on + sb),by rw [HP.out],?_,fun _ => by rw [HP.out],?_⟩
   ·rw [results_cell_tmp rfl]
    go_simp
    try rfl
   ·rw [← HA.out]
    exact HSR.out _ _ HR3.out _ _ _ _
   ·exact HST.out _ HM3.out _ _ _ _
  ·have HP:Hid (partF F zs U = (2,0,0,0)):=by
    show _ = _
    unfold partF
    rw [HF.out]
    dsimp only
    rw [if_neg (by simp),if_pos (by rw [Int.toNat_natCast,HAB.out,HUL.out];dsimp only;omega)]
   rw [(fits_no hfit).1,(fits_no hfit).2] at HTK2
   clear hfit
   go_wp2_with (first
    | (go_at_call 191;refine (HSP.out _).mono ?_;rintro e w' ⟨rfl,rfl⟩)
    | (go_at_call 228;refine HTK2.out.mono ?_;rintro e w3 ⟨rfl,hrd3,hm3⟩;have hbx3:=hm3.keep HBX.out (fun h => by have h2:w.heap.size = r:=h;have:=HRL.out;omega);have HR3:=Lib.hid hrd3;have HM3:=Lib.hid (HM2.out.then_ hm3);have HBX3:=Lib.hid hbx3;have b0':w3.cell? ⟨w.heap.size,0,none⟩ = some (.int .i64 0):=cell_of_row _ _ 0 _ _ _ hbx3;have b1':w3.cell? ⟨w.heap.size,1,none⟩ = some (.int .i64 0):=cell_of_row _ _ 1 _ _ _ hbx3;have f0':w3.frozen? ⟨w.heap.size,0,none⟩ = false:=frozen_of_row _ _ 0 _ _ hbx3;have f1':w3.frozen? ⟨w.heap.size,1,none⟩ = false:=frozen_of_row _ _ 1 _ _ hbx3;clear hrd3 hm3 hbx3))
   refine bodyPost_ret (v:=.tuple #[.agg #[.int .i64 0,.int .i64 0],.int .i64 2]) ?_ rfl ⟨_,by rw [HP.out];rfl,HSR.out _ _ HR3.out _ _ _ _,fun h => (by rw [HP.out] at h;cases h),HST.out _ HM3.out _ _ _ _⟩
   rw [results_cell_tmp rfl]
   go_simp
   try rfl
 ·have HP:Hid (partF F zs U = (er,0,0,0)):=by
   show _ = _
   unfold partF
   rw [hf]
   exact if_pos hne
  have t1:(er != 0) = true:=by simpa using hne
  have HNE:=Lib.hid hne
  clear HK hf hne
  ·skip
   go_wp2
   refine bodyPost_ret (v:=.tuple #[.agg #[.int .i64 0,.int .i64 0],.int .i64 er]) ?_ rfl ⟨_,by rw [HP.out];rfl,HSR.out _ _ HRD.out _ _ _ _,fun h => absurd (by rw [HP.out] at h;exact h) HNE.out,HST.out _ HM2.out _ _ _ _⟩
   rw [results_cell_tmp rfl]
   go_simp
   try rfl
theorem set_pad (A:List Nat) (j y:Nat):(A++List.replicate (j + 1) 0).set A.length y = (A++[y])++List.replicate j 0:=by
 rw [List.set_append_right _ _ (Nat.le_refl _),Nat.sub_self,List.replicate_succ,List.set_cons_zero,List.append_assoc]
 rfl
theorem LCa.lower {w:World} {n n' g:Nat} {zs:List Int} (h:LCa w n g zs) (hn:n' ≤ n):LCa w n' g zs:=by
 obtain ⟨A1,A2,A3,c1,c2,c3,m,hcb,hmx,h1,h2,h3,hg,ha⟩:=h
 exact ⟨A1,A2,A3,c1,c2,c3,m,hcb,hmx,h1,h2,h3,Nat.le_trans hn hg,fun a h => Nat.le_trans hn (ha a h)⟩
theorem NB.cellsT {w:World} {g:Nat} {ns:List Nat} (h:NB w g ns):Cells w w.heap.size (some ⟨g,0,none⟩) (nCs ns):=fun _ =>
 ⟨g,0,rfl,h.lt,fun j u hu => by
  rw [Nat.zero_add,cell_of_row w g j _ _ _ h,← Array.getElem?_toList]
  exact hu⟩
theorem numA_takes {bs:List UInt8} {p q:Nat} (h:p + q ≤ 8 * bs.length):takes bs p q = numA (unpack bs) p q:=takes_yes h
theorem rd_low {w:World} {r base:Nat} {S:Nat→Prop} {bs:List UInt8} {p:Nat} (h:RdS w r base S bs p):r < w.heap.size∧p ≤ 8 * bs.length∧S r:=by
 obtain ⟨A,c,hb,_,rfl,hp,_⟩:=h
 exact ⟨(Array.getElem?_eq_some_iff.1 hb).1,hp,.inl rfl⟩
set_option maxRecDepth 100000 in
set_option maxHeartbeats 1000000 in
theorem rtcode_any (r base : Nat) (S : Nat → Prop) (bs : List UInt8) (p : Nat) (w : World) (hrd : RdS w r base S bs p) (hbl : bs.length ≤ 1000000) :
    Calls Tryz.prog 229 #[.pointer (some ⟨r, 0, none⟩)] w
      fun e w' => ∃ p' g, RdS w' r base S bs p' ∧ Mod (oneB r) w w' ∧
        ((¬ p + 76 ≤ 8 * bs.length ∧ e = .returned (.tuple #[.pointer none, .int .i64 2])) ∨
         (p + 76 ≤ 8 * bs.length ∧ caR ((lensA (unpack bs) p 19).map fun n : Nat => (n : Int)) = false ∧ e = .returned (.tuple #[.pointer none, .int .i64 13])) ∨
         (p + 76 ≤ 8 * bs.length ∧ caR ((lensA (unpack bs) p 19).map fun n : Nat => (n : Int)) = true ∧ e = .returned (.tuple #[.pointer (some ⟨g, 0, none⟩), .int .i64 0]) ∧ p' = p + 76 ∧ LCa w' w.heap.size g ((lensA (unpack bs) p 19).map fun n : Nat => (n : Int)))) := by
  obtain ⟨hrl, hp8, hSr⟩ := rd_low hrd
  have HTK : Hid (∀ (W : World) (p : Nat), RdS W r base S bs p → _) := fun W p hW => rtake_any r base S bs p 4 W hW (by omega) (by omega) (by omega)
  have mk0 : ∀ W, (Instr.makeSlice 156 (.int .i64 19) (.int .i64 19)).run Tryz.prog W = .ok (.slice (some ⟨W.heap.size, 0, none⟩) 19 19) (W.alloc (.cells (madeCells #[.int .i64 0] 19) 3)) := fun W => make_ints 19 (by omega) W
  obtain ⟨W1, hW1⟩ : ∃ W1, w.alloc (.cells (madeCells #[.int .i64 0] 19) 3) = W1 := ⟨_, rfl⟩
  have HB1 : Hid (Below w.heap.size w W1) := by show Below _ _ _; rw [← hW1]; exact (Below.refl _ w).alloc (Nat.le_refl _) _
  have HN1 : Hid (NB W1 w.heap.size (lensA (unpack bs) p 0 ++ List.replicate 19 0)) := by show NB _ _ _; rw [← hW1]; exact wei_made w 19
  have HM1 : Hid (Mod (oneB r) w W1) := (Mod.of_below HB1.out).mono (fun _ h => h.elim)
  have HR1 : Hid (RdS W1 r base S bs p) := hrd.keep (Mod.of_below HB1.out) (fun _ _ h => h)
  have HSL : Hid (∀ k, S k → k < w.heap.size) := hrd.lt
  rw [show cnt 4 = 4 from rfl] at HTK
  go_enter Tryz.func229, Tryz.ntmps229
  go_wp2
  clear hW1 mk0 hrd HB1
  go_loopg [11] 19 (fun gk i wr => ∃ k : Nat, k + gk = 19 ∧ i = .int .i64 (k : Int) ∧ NB wr w.heap.size (lensA (unpack bs) p k ++ List.replicate gk 0) ∧ RdS wr r base S bs (p + 4 * k) ∧ Mod (oneB r) w wr)
  case atStart => exact ⟨0, by omega, rfl, HN1.out, HR1.out, HM1.out⟩
  case round =>
    obtain ⟨k, hk, rfl, hnb, hrd, hmod⟩ := hrel
    have HNB := Lib.hid hnb
    have HRD := Lib.hid hrd
    have HMD := Lib.hid hmod
    clear hnb hrd hmod HN1 HR1 HM1
    by_cases hk19 : k < 19
    · have HT2 := Lib.hid (HTK.out wr _ HRD.out)
      by_cases hfit : p + 4 * k + 4 ≤ 8 * bs.length
      · rw [(fits_yes hfit).1, (fits_yes hfit).2, numA_takes hfit] at HT2
        have hy := numA_lt (unpack bs) (p + 4 * k) 4
        have HUP : Hid (lensA (unpack bs) p (k + 1) ++ List.replicate (gk - 1) 0 = (lensA (unpack bs) p k ++ List.replicate gk 0).set k (numA (unpack bs) (p + 4 * k) 4)) := by
          show _ = _
          have h := set_pad (lensA (unpack bs) p k) (gk - 1) (numA (unpack bs) (p + 4 * k) 4)
          rw [lensA_len, show gk - 1 + 1 = gk by omega] at h
          rw [h, lensA_up]
        obtain ⟨y, hyy⟩ : ∃ y, numA (unpack bs) (p + 4 * k) 4 = y := ⟨_, rfl⟩
        rw [hyy] at HT2 hy HUP
        have hy16 : y < 16 := hy
        have HE := Lib.hid (show p + 4 * k + 4 = p + 4 * (k + 1) by omega)
        clear hyy hy hfit
        go_wp2_with (go_at_call 228; refine HT2.out.mono ?_; rintro e w2 ⟨rfl, hrd2, hm2⟩; have HN2 := Lib.hid (show NB w2 w.heap.size _ from hm2.keep HNB.out (fun h => by have h2 : w.heap.size = r := h; omega)); have f0 : w2.frozen? ⟨w.heap.size, k, none⟩ = false := HN2.out.free; have q0 : w2.cell? ⟨w.heap.size, k, none⟩ = some (.int .i64 ((0 : Nat) : Int)) := HN2.out.cell (by rw [List.getElem?_append_right (by rw [lensA_len]; omega), lensA_len, Nat.sub_self, List.getElem?_replicate, if_pos (by omega)]); have HR2 := Lib.hid hrd2; have HM2 := Lib.hid (HMD.out.then_ hm2); clear hrd2 hm2)
        go_roundg (gk - 1)
        case measure => omega
        case rel =>
          refine ⟨k + 1, by omega, by go_num, ?_, ?_, HM2.out.set _ _ (.inr (Nat.le_refl _))⟩
          · rw [HUP.out]
            exact HN2.out.set k y
          · rw [← HE.out]
            exact HR2.out.keep (T := oneB w.heap.size) ((Mod.refl (oneB w.heap.size) w2).set ⟨w.heap.size, k, none⟩ _ (.inl rfl)) (fun j hj h => by have h2 : j = w.heap.size := h; have := HSL.out j hj; omega)
      · rw [(fits_no hfit).1, (fits_no hfit).2] at HT2
        go_wp2_with (go_at_call 228; refine HT2.out.mono ?_; rintro e w2 ⟨rfl, hrd2, hm2⟩; have HR2 := Lib.hid hrd2; have HM2 := Lib.hid (HMD.out.then_ hm2); clear hrd2 hm2)
        go_ret2
        exact ⟨_, 0, HR2.out, HM2.out, .inl ⟨by omega, rfl⟩⟩
    · obtain rfl : k = 19 := by omega
      obtain rfl : gk = 0 := by omega
      have HN := Lib.hid (show NB wr w.heap.size (lensA (unpack bs) p 19) by have h := HNB.out; rw [List.replicate_zero, List.append_nil] at h; exact h)
      have HC : Hid (Cells wr wr.heap.size (some ⟨w.heap.size, 0, none⟩) (((lensA (unpack bs) p 19).map fun n : Nat => (n : Int)).map ic)) := by
        show Cells _ _ _ _
        rw [nCs_ic]
        exact NB.cellsT HN.out
      have hp76 := (rd_low HRD.out).2.1
      cases hr : caR ((lensA (unpack bs) p 19).map fun n : Nat => (n : Int)) with
      | false =>
        have HNO := Lib.hid (new_no (some ⟨w.heap.size, 0, none⟩) 19 19 _ wr.heap.size wr (by rw [List.length_map, lensA_len]) (by omega) HC.out hr)
        have HRR := Lib.hid hr
        clear hr
        go_wp2_with (go_at_call 152; refine HNO.out.mono ?_; rintro e w2 ⟨rfl, rfl⟩)
        go_ret2
        exact ⟨_, 0, HRD.out, HMD.out, .inr (.inl ⟨by omega, HRR.out, rfl⟩)⟩
      | true =>
        have HNO := Lib.hid (new_low (some ⟨w.heap.size, 0, none⟩) 19 19 _ wr.heap.size wr (by rw [List.length_map, lensA_len]) (by omega) HC.out (Nat.le_refl _) hr)
        have HRR := Lib.hid hr
        clear hr
        go_wp2_with (go_at_call 152; refine HNO.out.mono ?_; rintro e w2 ⟨g, rfl, hlc, hb2⟩; have HL2 := Lib.hid hlc; have HB2 := Lib.hid hb2; clear hlc hb2)
        go_ret2
        exact ⟨_, g, HRD.out.keep (Mod.of_below HB2.out) (fun _ _ h => h), HMD.out.then_ ((Mod.of_below HB2.out).mono (fun _ h => h.elim)), .inr (.inr ⟨by omega, HRR.out, rfl, by omega, HL2.out.lower HMD.out.size⟩)⟩
theorem own_leT {w:World} {base base':Nat} {e:TypeId} {size n:Nat} {v:Value} {xs:List Value} (h:w.ownsRow base e size v n xs) (hb:base' ≤ base):w.ownsRow base' e size v n xs:=by
 obtain ⟨h1,h2⟩:=h
 refine ⟨h1,?_⟩
 rcases h2 with h2 | ⟨g,c,cur,hv,hg,h3⟩
 ·exact .inl h2
 ·exact .inr ⟨g,c,cur,hv,Nat.le_trans hb hg,h3⟩
theorem nCs_one (ns:List Nat):∀ u ∈ nCs ns,u.oneCell' = true:=fun u hu => by
 obtain ⟨n,_,rfl⟩:=List.mem_map.1 hu
 rfl
theorem LCa.keep2 {w w':World} {n g:Nat} {zs:List Int} {S:Nat→Prop} (h:LCa w n g zs) (hm:Mod S w w') (hS:∀ k,S k→k < n ∨ g < k):LCa w' n g zs:=by
 obtain ⟨A1,A2,A3,c1,c2,c3,m,hcb,hmx,h1,h2,h3,hg,ha⟩:=h
 have hgl:=cb_lt hcb
 have key:∀ {A:Option Addr} {xs:List Value},(∀ a,A = some a→n ≤ a.block)→Cells w g A xs→Cells w' g A xs:=fun hA hc hp => by
  obtain ⟨b,o,e,hb,hcc⟩:=hc hp
  have hnb:=hA _ e
  exact ⟨b,o,e,hb,fun j u hj => (World.cell?_of_block (a:=⟨b,o + j,none⟩) (hm.block b (by omega) (fun hs => by have:=hS b hs;dsimp only at hnb;omega))).trans (hcc j u hj)⟩
 exact ⟨A1,A2,A3,c1,c2,c3,m,hm.keep hcb (fun hs => by have:=hS g hs;omega),hmx,key (fun a e => ha a (.inl e)) h1,key (fun a e => ha a (.inr (.inl e))) h2,key (fun a e => ha a (.inr (.inr e))) h3,hg,ha⟩
structure TkI (w W:World) (r base B:Nat) (S:Nat→Prop) (bs:List UInt8) (p g:Nat) (zs:List Int) (v:Value) (ls:List Nat):Prop where
 row:W.ownsRow B 3 1 v ls.length (nCs ls)
 rd:RdS W r base S bs p
 mod:Mod (oneB r) w W
 code:LCa W w.heap.size g zs
 big:B ≤ W.heap.size
section
variable {w W W':World} {r base B p p' g:Nat} {S:Nat→Prop} {bs:List UInt8} {zs:List Int} {v v':Value} {ls ls':List Nat}
theorem TkI.part (h:TkI w W r base B S bs p g zs v ls) (hr:r < w.heap.size) (hB:w.heap.size ≤ B) (hm:Mod (oneB r) W W') (hrd:RdS W' r base S bs p'):TkI w W' r base B S bs p' g zs v ls :=
 ⟨own_keep h.row hm (fun k hk hs => by have h2:k = r:=hs;have:=own_base h.row k hk;omega),hrd,h.mod.then_ hm,h.code.keep2 hm (fun k hs => by have h2:k = r:=hs;omega),Nat.le_trans h.big hm.size⟩
theorem TkI.below (h:TkI w W r base B S bs p g zs v ls) (hb:Below W.heap.size W W'):TkI w W' r base B S bs p g zs v ls :=
 ⟨own_keep h.row (Mod.of_below hb) (fun _ _ h => h),h.rd.keep (Mod.of_below hb) (fun _ _ h => h),h.mod.then_ ((Mod.of_below hb).mono fun _ h => h.elim),h.code.keep2 (Mod.of_below hb) (fun _ h => h.elim),Nat.le_trans h.big hb.size⟩
theorem TkI.app {m:Nat} {xs:List Value} (h:TkI w W r base B S bs p g zs v ls) (hSL:∀ k,S k→k < w.heap.size) (hB:w.heap.size ≤ B) (hg:g < B) (ha:App W B 3 1 v m xs W' v') (hm:m = ls'.length) (hx:xs = nCs ls'):TkI w W' r base B S bs p g zs v' ls':=by
 subst hm hx
 exact ⟨ha.own,h.rd.keep (Mod.of_app ha) (fun k hk hs => by have:=hSL k hk;have:=own_base h.row k hs;omega),h.mod.trans (Mod.of_app ha) (fun k hk => .inr (by have:=own_base h.row k hk;omega)),h.code.keep2 (Mod.of_app ha) (fun k hk => .inr (by have:=own_base h.row k hk;omega)),Nat.le_trans h.big (Mod.of_app ha).size⟩
end
set_option maxRecDepth 100000 in
set_option maxHeartbeats 2000000 in
theorem rntake_any (F:List Int→List Bool→Int × Int × Nat) (hF:FunT F) (r base:Nat) (S:Nat→Prop) (bs:List UInt8) (p:Nat) (w:World) (hrd:RdS w r base S bs p) (hbl:bs.length ≤ 1000000) :
  Calls Tryz.prog 204 #[.pointer (some ⟨r,0,none⟩)] w
   fun e w' => ∃ A c p',e = .returned (.tuple #[.slice A (tkF F (unpack bs) p).2.1.length c,.int .i64 (tkF F (unpack bs) p).1])∧w'.ownsRow w.heap.size 3 1 (.slice A (tkF F (unpack bs) p).2.1.length c) (tkF F (unpack bs) p).2.1.length (nCs (tkF F (unpack bs) p).2.1)∧RdS w' r base S bs p'∧((tkF F (unpack bs) p).1 = 0→p' = (tkF F (unpack bs) p).2.2)∧Mod (oneB r) w w':=by
 obtain ⟨hrl,hp8,hSr⟩:=rd_low hrd
 have HT:=Lib.hid (rtake_any r base S bs p 9 w hrd (by omega) (by omega) (by omega))
 rw [show cnt 9 = 9 from rfl] at HT
 have HRD:=Lib.hid hrd
 have HSL:Hid (∀ k,S k→k < w.heap.size):=hrd.lt
 have HBACK:Hid (∀ (e:Ending) (w':World) (t:Int × List Nat × Nat),tkF F (unpack bs) p = t→(∃ A c p',e = .returned (.tuple #[.slice A t.2.1.length c,.int .i64 t.1])∧w'.ownsRow w.heap.size 3 1 (.slice A t.2.1.length c) t.2.1.length (nCs t.2.1)∧RdS w' r base S bs p'∧(t.1 = 0→p' = t.2.2)∧Mod (oneB r) w w') →
  ∃ A c p',e = .returned (.tuple #[.slice A (tkF F (unpack bs) p).2.1.length c,.int .i64 (tkF F (unpack bs) p).1])∧w'.ownsRow w.heap.size 3 1 (.slice A (tkF F (unpack bs) p).2.1.length c) (tkF F (unpack bs) p).2.1.length (nCs (tkF F (unpack bs) p).2.1)∧RdS w' r base S bs p'∧((tkF F (unpack bs) p).1 = 0→p' = (tkF F (unpack bs) p).2.2)∧Mod (oneB r) w w'):=fun e w' t ht h => by rw [ht];exact h
 have HERR:Hid (∀ (e:Ending) (w':World) (er:Int) (p':Nat),e = .returned (.tuple #[.slice none 0 0,.int .i64 er])→er ≠ 0→tkF F (unpack bs) p = (er,[],0)→RdS w' r base S bs p'→Mod (oneB r) w w'→_):=fun e w' er p' he hne ht hr hm => HBACK.out e w' _ ht ⟨none,0,p',he,World.ownsRow_nil _ _ _ _,hr,fun h => absurd h hne,hm⟩
 have hLl:=unpack_length bs
 obtain ⟨L,hL⟩:∃ L,unpack bs = L:=⟨_,rfl⟩
 have HL:=Lib.hid hL
 rw [hL] at hLl
 clear hrd HBACK
 go_enter Tryz.func204,Tryz.ntmps204
 by_cases h9:p + 9 ≤ 8 * bs.length
 ·rw [(fits_yes h9).1,(fits_yes h9).2,numA_takes h9,hL] at HT
  have hn512:=numA_lt L p 9
  obtain ⟨n,hn⟩:∃ n,numA L p 9 = n:=⟨_,rfl⟩
  have HN:=Lib.hid hn
  rw [hn] at HT hn512
  have hn512':n < 512:=hn512
  clear hn hn512
  by_cases hbad:n = 0 ∨ 320 < n
  ·have HTK:Hid (tkF F (unpack bs) p = (5,[],0)):=by show _ = _;rw [hL,tkF,if_neg (by omega),HN.out,if_pos hbad]
   clear hL
   rcases hbad with h0 | h0
   ·subst h0
    go_wp2_with (go_at_call 228;refine HT.out.mono ?_;rintro e w2 ⟨rfl,hrd2,hm2⟩;have HR2:=Lib.hid hrd2;have HM2:=Lib.hid hm2;clear hrd2 hm2)
    refine bodyPost_ret (results_tmp2 rfl _ _ _) rfl (HERR.out _ _ 5 _ rfl (by decide) HTK.out HR2.out HM2.out)
   ·have t1:((n:Int) == 0) = false:=by simp;omega
    have t2:decide ((320:Int) < (n:Int)) = true:=decide_eq_true (by omega)
    go_wp2_with (go_at_call 228;refine HT.out.mono ?_;rintro e w2 ⟨rfl,hrd2,hm2⟩;have HR2:=Lib.hid hrd2;have HM2:=Lib.hid hm2;clear hrd2 hm2)
    refine bodyPost_ret (results_tmp2 rfl _ _ _) rfl (HERR.out _ _ 5 _ rfl (by decide) HTK.out HR2.out HM2.out)
  ·have t1:((n:Int) == 0) = false:=by simp;omega
   have t2:decide ((320:Int) < (n:Int)) = false:=decide_eq_false (by omega)
   go_wp2_with (first
    | (go_at_call 228;refine HT.out.mono ?_;rintro e w2 ⟨rfl,hrd2,hm2⟩;have HR2:=Lib.hid hrd2;have HM2:=Lib.hid hm2;clear hrd2 hm2))
   refine (rtcode_any r base S bs (p + 9) w2 HR2.out hbl).mono ?_
   rintro e w3 ⟨p3,g,hrd3,hm3,h3⟩
   have HR3:=Lib.hid hrd3
   have HM3:=Lib.hid (HM2.out.then_ hm3)
   clear hrd3 hm3
   rw [hL] at h3
   obtain ⟨zs,hzs⟩:∃ zs:List Int,((lensA L (p + 9) 19).map fun n:Nat => (n:Int)) = zs:=⟨_,rfl⟩
   rw [hzs] at h3
   have hS2:=HM2.out.size
   rcases h3 with ⟨hno,rfl⟩ | ⟨hy,hca,rfl⟩ | ⟨hy,hca,rfl,rfl,hlc⟩
   ·have HTK:Hid (tkF F (unpack bs) p = (2,[],0)):=by show _ = _;rw [hL,tkF,if_neg (by omega),HN.out,if_neg hbad,if_pos (by omega)]
    clear hL hno hbad hzs
    go_wp2
    refine bodyPost_ret (results_tmp2 rfl _ _ _) rfl (HERR.out _ _ 2 _ rfl (by decide) HTK.out HR3.out HM3.out)
   ·have HTK:Hid (tkF F (unpack bs) p = (13,[],0)):=by show _ = _;rw [hL,tkF,if_neg (by omega),HN.out,if_neg hbad,if_neg (by omega),hzs,if_pos hca]
    clear hL hbad hzs hca
    go_wp2
    refine bodyPost_ret (results_tmp2 rfl _ _ _) rfl (HERR.out _ _ 13 _ rfl (by decide) HTK.out HR3.out HM3.out)
   ·have HTK:Hid (tkF F (unpack bs) p = lensF F zs n L n [] (p + 85)):=by show _ = _;rw [hL,tkF,if_neg (by omega),HN.out,if_neg hbad,if_neg (by omega),hzs,if_neg (by rw [hca];simp)]
    have HCA:=Lib.hid hca
    have HG:Hid (g < w3.heap.size):=by obtain ⟨_,_,_,_,_,_,_,h,_⟩:=hlc;exact cb_lt h
    have HI3:Hid (TkI w w3 r base w3.heap.size S bs (p + 9 + 76) g zs (.slice none 0 0) []):=⟨World.ownsRow_nil _ _ _ _,HR3.out,HM3.out,hlc.lower hS2,Nat.le_refl _⟩
    have HB3:Hid (w.heap.size ≤ w3.heap.size):=HM3.out.size
    have hn320:n ≤ 320:=by omega
    clear hbad hca hlc hzs HR3 HM3 hy
    go_wp2
    go_loopg [8] n (fun gk v wr => ∃ (ls:List Nat) (p':Nat),lensF F zs n L n [] (p + 85) = lensF F zs n L gk ls p'∧n ≤ ls.length + gk∧ls.length ≤ n∧TkI w wr r base w3.heap.size S bs p' g zs v ls)
    case atStart => exact ⟨[],p + 9 + 76,rfl,by simp,by simp,HI3.out⟩
    case round =>
     obtain ⟨ls,p',hle,hfu,hln,hti⟩:=hrel
     obtain ⟨Av,cv,rfl⟩:=own_form hti.row
     have HLE:=Lib.hid hle
     have HTI:=Lib.hid hti
     clear hle hti HI3
     obtain ⟨ll,hll⟩:∃ ll,ls.length = ll:=⟨_,rfl⟩
     have HLL:=Lib.hid hll
     rw [hll] at hfu hln ⊢
     by_cases hlt:ll < n
     ·obtain ⟨j,rfl⟩:∃ j,gk = j + 1:=⟨gk - 1,by omega⟩
      have HP:=Lib.hid (rtpart_any F hF g r base zs S bs p' wr HCA.out HTI.out.code.lc HTI.out.rd hbl)
      have HPM:=Lib.hid (partF_many F zs (L.drop p'))
      have HLF:Hid (lensF F zs n L (j + 1) ls p' = if (partF F zs (L.drop p')).1 ≠ 0 then ((partF F zs (L.drop p')).1,[],0) else if (partF F zs (L.drop p')).2.1 = 16∧ls = [] then (3,[],0) else if n < ls.length + (partF F zs (L.drop p')).2.2.1 then (3,[],0) else lensF F zs n L j (ls++List.replicate (partF F zs (L.drop p')).2.2.1 (saysP ls (partF F zs (L.drop p')).2.1)) (p' + (partF F zs (L.drop p')).2.2.2)):=by
       show _ = _
       rw [lensF,if_neg (by omega)]
      rw [hL] at HP
      obtain ⟨P,hP⟩:∃ P,partF F zs (L.drop p') = P:=⟨_,rfl⟩
      rw [hP] at HP HPM HLF
      obtain ⟨er,num,many,on⟩:=P
      dsimp only at HP HPM HLF
      clear hP
      by_cases her:er = 0
      ·subst her
       obtain ⟨hm1,hm4⟩:=HPM.out rfl
       rw [if_neg (by simp)] at HLF
       by_cases h16:num = 16∧ls = []
       ·rw [if_pos h16] at HLF
        obtain ⟨rfl,rfl⟩:=h16
        obtain rfl:0 = ll:=HLL.out
        have HFO:=Lib.hid (fun W => follow_no cv many Av W)
        clear hfu
        go_wp2_with (first
         | (go_at_call 230;refine HP.out.mono ?_;rintro e w4 ⟨p4,rfl,hrd4,hpe,hm4'⟩;have HI5:=Lib.hid (fun o => (HTI.out.part hrl HB3.out hm4' hrd4).below ((Below.refl _ w4).alloc (Nat.le_refl _) o));clear hrd4 hpe hm4')
         | (go_at_call 231;refine (HFO.out _).mono ?_;rintro e w6 ⟨rfl,hb6⟩;have HI6:=Lib.hid ((HI5.out _).below hb6);clear hb6))
        refine bodyPost_ret (results_tmp2 rfl _ _ _) rfl (HERR.out _ _ 3 _ rfl (by decide) (by rw [HTK.out,HLE.out,HLF.out]) HI6.out.rd HI6.out.mod)
       ·rw [if_neg h16] at HLF
        have hsn:num = 16→0 < ll:=fun h => by
         rcases Nat.eq_zero_or_pos ll with h0 | h0
         ·exact absurd ⟨h,List.eq_nil_of_length_eq_zero (by rw [HLL.out];exact h0)⟩ h16
         ·exact h0
        have HFO:Hid (∀ W:World,W.ownsRow w3.heap.size 3 1 (.slice Av ls.length cv) ls.length (nCs ls)→_):=fun W hW => follow_any Av ll cv ls num many W.heap.size W HLL.out (by omega) (Cells.of_own hW) (Nat.le_refl _) hsn hm1 hm4
        rw [HLL.out] at HLF
        by_cases hbig:n < ll + many
        ·rw [if_pos hbig] at HLF
         clear hfu h16 hsn
         go_wp2_with (first
          | (go_at_call 230;refine HP.out.mono ?_;rintro e w4 ⟨p4,rfl,hrd4,hpe,hm4'⟩;have HI5:=Lib.hid (fun o => (HTI.out.part hrl HB3.out hm4' hrd4).below ((Below.refl _ w4).alloc (Nat.le_refl _) o));clear hrd4 hpe hm4')
          | (go_at_call 231;refine (HFO.out _ (HI5.out _).row).mono ?_;rintro e w6 ⟨g6,rfl,hg6,hn6,hb6⟩;have HI6:=Lib.hid ((HI5.out _).below hb6);clear hb6 hn6 hg6))
         refine bodyPost_ret (results_tmp2 rfl _ _ _) rfl (HERR.out _ _ 3 _ rfl (by decide) (by rw [HTK.out,HLE.out,HLF.out]) HI6.out.rd HI6.out.mod)
        ·rw [if_neg hbig] at HLF
         obtain ⟨x,hx⟩:∃ x,saysP ls num = x:=⟨_,rfl⟩
         rw [hx] at HLF HFO
         have HNC:Hid (nCs (ls++List.replicate many x) = nCs ls++nCs (List.replicate many x)):=by show _ = _;simp [nCs]
         have HNL:Hid ((ls++List.replicate many x).length = ll + many):=by show _ = _;rw [List.length_append,HLL.out,List.length_replicate]
         have hadd:ll + many ≤ n:=by omega
         have HFU:=Lib.hid hfu
         clear h16 hsn hx hfu
         go_wp2_with (first
          | (go_at_call 230;refine HP.out.mono ?_;rintro e w4 ⟨p4,rfl,hrd4,hpe,hm4'⟩;have HI5:=Lib.hid (fun o => (HTI.out.part hrl HB3.out hm4' hrd4).below ((Below.refl _ w4).alloc (Nat.le_refl _) o));have HPE:=Lib.hid (hpe rfl);clear hrd4 hpe hm4')
          | (go_at_call 231;refine (HFO.out _ (HI5.out _).row).mono ?_;rintro e w6 ⟨g6,rfl,hg6,hn6,hb6⟩;have HI6:=Lib.hid ((HI5.out _).below hb6);have HN6:=Lib.hid hn6;clear hb6 hn6 hg6)
          | (at_builtin;refine wpList_app w6 intElem rfl (.tmp 66) (.tmp 67) rfl w3.heap.size (.slice Av ll cv) ll (nCs ls) rfl (by have h:=HI6.out.row;rw [HLL.out] at h;exact h) w6.heap.size (some ⟨g6,0,none⟩) many many (nCs (List.replicate many x)) rfl (by rw [nCs_len,List.length_replicate,Nat.mul_one]) (NB.cellsT HN6.out) (nCs_one _) (by unfold maxLen;omega) (by omega) HI6.out.big ?_;intro A7 c7 w7 hA;have HI7:=Lib.hid (HI6.out.app (ls':=ls++List.replicate many x) HSL.out HB3.out HG.out (by rw [HLL.out];exact hA) HNL.out.symm HNC.out.symm);clear hA))
         go_roundg j
         case measure => omega
         case rel => exact ⟨ls++List.replicate many x,p' + on,by rw [HLE.out,HLF.out],by rw [HNL.out];have:=HFU.out;omega,by rw [HNL.out];omega,by rw [← HPE.out];exact HI7.out⟩
      ·rw [if_pos her] at HLF
       have t3:(er != 0) = true:=by simpa using her
       have HER:=Lib.hid her
       clear hfu her
       go_wp2_with (go_at_call 230;refine HP.out.mono ?_;rintro e w4 ⟨p4,rfl,hrd4,hpe,hm4'⟩;have HI5:=Lib.hid (fun o => (HTI.out.part hrl HB3.out hm4' hrd4).below ((Below.refl _ w4).alloc (Nat.le_refl _) o));clear hrd4 hpe hm4')
       refine bodyPost_ret (results_tmp2 rfl _ _ _) rfl (HERR.out _ _ er _ rfl HER.out (by rw [HTK.out,HLE.out,HLF.out]) (HI5.out _).rd (HI5.out _).mod)
     ·have HE:Hid (tkF F (unpack bs) p = (0,ls,p')):=by
       show _ = _
       rw [HTK.out,HLE.out]
       cases gk with
       | zero => rfl
       | succ j => rw [lensF,if_pos (by omega)]
      have HHH:=Lib.hid hll
      clear hfu
      go_wp2
      refine bodyPost_ret (results_tmp2 rfl _ _ _) rfl ?_
      rw [HE.out]
      dsimp only
      rw [HLL.out]
      exact ⟨Av,cv,p',rfl,own_leT (by have h:=HTI.out.row;rw [HLL.out] at h;exact h) HB3.out,HTI.out.rd,fun _ => rfl,HTI.out.mod⟩
 ·rw [(fits_no h9).1,(fits_no h9).2] at HT
  have HTK:Hid (tkF F (unpack bs) p = (2,[],0)):=by show _ = _;rw [hL,tkF,if_pos (by omega)]
  clear hL
  go_wp2_with (go_at_call 228;refine HT.out.mono ?_;rintro e w2 ⟨rfl,hrd2,hm2⟩;have HR2:=Lib.hid hrd2;have HM2:=Lib.hid hm2;clear hrd2 hm2)
  refine bodyPost_ret (results_tmp2 rfl _ _ _) rfl (HERR.out _ _ 2 _ rfl (by decide) HTK.out HR2.out HM2.out)
end Go.Proofs.YtaknladkodibaaaGreatDoor
namespace Go.Proofs.YtaknladkodibaaaGreatDoor
open Go.RowKit BitsP SymP
theorem splitT_any (t:Tk) (w:World) (h:okT t) :
  Calls Tryz.prog 109 #[.agg #[.int .u8 (t.1.toNat:Int),.int .i64 (t.2.1:Int),.int .i64 (t.2.2:Int)]] w fun e w' => e = .returned (.tuple #[agR ((cls1 t).1:Nat) ((cls1 t).2.1:Nat) ((cls1 t).2.2:Nat) ((cls2 t).1:Nat) ((cls2 t).2.1:Nat) ((cls2 t).2.2:Nat) (isM t),.bool true])∧Below w.heap.size w w':=by
 obtain ⟨y,l,d⟩:=t
 rcases h with ⟨h1,h2⟩ | ⟨h1,h2,h3,h4,h5⟩
 ·dsimp only at h1 h2
  subst h1 h2
  have e1:cls1 (y,0,0) = (y.toNat,0,0):=by unfold cls1;rw [if_pos rfl]
  have e2:cls2 (y,0,0) = (0,0,0):=by unfold cls2;rw [if_pos rfl]
  have e3:isM (y,0,0) = false:=by unfold isM;simp
  rw [e1,e2,e3]
  exact split_byte y.toNat w y.toNat_lt
 ·dsimp only at h1 h2 h3 h4 h5
  subst h5
  obtain ⟨l',rfl⟩:∃ l',l = l' + 3:=⟨l - 3,by omega⟩
  obtain ⟨d',rfl⟩:∃ d',d = d' + 1:=⟨d - 1,by omega⟩
  have e1:cls1 (0,l' + 3,d' + 1) = (classC l' + 257,bitsC (classC l'),l' % 2 ^ bitsC (classC l')):=by unfold cls1;rw [if_neg (by dsimp only;omega)];rfl
  have e2:cls2 (0,l' + 3,d' + 1) = (classC d',bitsC (classC d'),d' % 2 ^ bitsC (classC d')):=by unfold cls2;rw [if_neg (by dsimp only;omega)];rfl
  have e3:isM (0,l' + 3,d' + 1) = true:=by unfold isM;simp
  rw [e1,e2,e3]
  exact split_match l' d' w (by omega) (by omega)
def TkAt (w:World) (A:Option Addr) (k:Nat) (y l d:Int):Prop:=∃ b o,A = some ⟨b,o,none⟩∧b < w.heap.size∧w.cell? ⟨b,o + k * 3,none⟩ = some (.int .u8 y)∧w.cell? ⟨b,o + k * 3 + 1,none⟩ = some (.int .i64 l)∧w.cell? ⟨b,o + k * 3 + 2,none⟩ = some (.int .i64 d)
theorem TkAt.below {w W:World} {A:Option Addr} {k:Nat} {y l d:Int} (h:TkAt w A k y l d) (hb:Below w.heap.size w W):TkAt W A k y l d:=by
 obtain ⟨b,o,h1,h2,h3,h4,h5⟩:=h
 exact ⟨b,o,h1,Nat.lt_of_lt_of_le h2 hb.size,(hb.cell (p:=⟨b,o + k * 3,none⟩) h2).trans h3,(hb.cell (p:=⟨b,o + k * 3 + 1,none⟩) h2).trans h4,(hb.cell (p:=⟨b,o + k * 3 + 2,none⟩) h2).trans h5⟩
set_option maxRecDepth 100000 in
set_option maxHeartbeats 4000000 in
theorem weights_gen (A:Option Addr) (l c:Nat) (ts:List Tk) (w:World) (hm:l ≤ 65536) (hk:∀ t ∈ ts,okT t) (hc:∀ k t,ts[k]? = some t→TkAt w A k (t.1.toNat:Int) (t.2.1:Int) (t.2.2:Int)) (hend:ts.length = l ∨ (ts.length < l∧∃ y ln d,TkAt w A ts.length y ln d∧rightT y ln d = false)) :
  Calls Tryz.prog 107 #[.slice A l c] w fun e w' => Below w.heap.size w w'∧((ts.length < l∧e = .returned (.tuple #[.slice none 0 0,.slice none 0 0,.bool false])) ∨
   (ts.length = l∧∃ g1 g2,e = .returned (.tuple #[.slice (some ⟨g1,0,none⟩) 273 273,.slice (some ⟨g2,0,none⟩) 30 30,.bool true])∧NB w' g1 (wt1 ts)∧NB w' g2 (wt2 ts)∧w.heap.size ≤ g1∧w.heap.size ≤ g2)):=by
 obtain ⟨n,hn⟩:∃ n,ts.length = n:=⟨_,rfl⟩
 have HN:=Lib.hid hn
 have HK:=Lib.hid hk
 have HC:=Lib.hid hc
 rw [hn] at hend ⊢
 have HEND:=Lib.hid hend
 have hnl:n ≤ l:=by rcases hend with h | ⟨h,_⟩ <;> omega
 have mk1:∀ W,(Instr.makeSlice 156 (.int .i64 273) (.int .i64 273)).run Tryz.prog W = .ok (.slice (some ⟨W.heap.size,0,none⟩) 273 273) (W.alloc (.cells (madeCells #[.int .i64 0] 273) 3)):=fun W => make_ints 273 (by omega) W
 have mk2:∀ W,(Instr.makeSlice 156 (.int .i64 30) (.int .i64 30)).run Tryz.prog W = .ok (.slice (some ⟨W.heap.size,0,none⟩) 30 30) (W.alloc (.cells (madeCells #[.int .i64 0] 30) 3)):=fun W => make_ints 30 (by omega) W
 clear hk hc hend hn
 go_enter Tryz.func107,Tryz.ntmps107
 go_upto_region 3 with fail
 go_region
 ·have HZ1:Hid (NB (((w.alloc (.cells (madeCells #[.int .i64 0] 273) 3)).alloc (.cells (madeCells #[.int .i64 0] 30) 3)).drew) w.heap.size (incW (List.replicate 273 0) (fsts (ts.take 0)))):=((wei_made w 273).below (B:=(w.alloc (.cells (madeCells #[.int .i64 0] 273) 3)).heap.size) (((Below.refl _ _).alloc (Nat.le_refl _) _).drew) (by simp))
  have HZ2:Hid (NB (((w.alloc (.cells (madeCells #[.int .i64 0] 273) 3)).alloc (.cells (madeCells #[.int .i64 0] 30) 3)).drew) (w.heap.size + 1) (incW (List.replicate 30 0) (mts (ts.take 0)))):=(by have h:=wei_made (w.alloc (.cells (madeCells #[.int .i64 0] 273) 3)) 30;rw [World.size_alloc] at h;exact h)
  have HB0:Hid (Below w.heap.size w (((w.alloc (.cells (madeCells #[.int .i64 0] 273) 3)).alloc (.cells (madeCells #[.int .i64 0] 30) 3)).drew)):=(((Below.refl w.heap.size w).alloc (Nat.le_refl _) _).alloc (by simp) _).drew
  obtain ⟨W0,hW0⟩:∃ W0,((w.alloc (.cells (madeCells #[.int .i64 0] 273) 3)).alloc (.cells (madeCells #[.int .i64 0] 30) 3)).drew = W0:=⟨_,rfl⟩
  rw [hW0] at HZ1 HZ2 HB0 ⊢
  clear hW0 mk1 mk2
  go_wp2
  go_loopg [2,3,5,17] l (fun gk s2 s3 m5 i wr => s2 = .slice (some ⟨w.heap.size,0,none⟩) 273 273∧s3 = .slice (some ⟨(w.heap.size + 1),0,none⟩) 30 30∧∃ k:Nat,k + gk = l∧i = .int .i64 (k:Int)∧k ≤ n∧m5 = .int .i64 ((mts (ts.take k)).length:Nat)∧NB wr w.heap.size (incW (List.replicate 273 0) (fsts (ts.take k)))∧NB wr (w.heap.size + 1) (incW (List.replicate 30 0) (mts (ts.take k)))∧Below w.heap.size w wr)
  case atStart => exact ⟨rfl,rfl,0,by omega,rfl,Nat.zero_le _,rfl,HZ1.out,HZ2.out,HB0.out⟩
  case round =>
   obtain ⟨rfl,rfl,k,hkg,rfl,hkn,rfl,hn1,hn2,hbel⟩:=hrel
   have HNB1:=Lib.hid hn1
   have HNB2:=Lib.hid hn2
   have HBEL:=Lib.hid hbel
   clear hn1 hn2 hbel HZ1 HZ2 HB0
   have hml:=mts_len (ts.take k)
   rw [List.length_take] at hml
   obtain ⟨mc,hmc⟩:∃ mc,(mts (ts.take k)).length = mc:=⟨_,rfl⟩
   have HMC:=Lib.hid hmc
   rw [hmc] at hml ⊢
   clear hmc
   by_cases hkl:k < n
   ·obtain ⟨t,ht⟩:∃ t,ts[k]? = some t:=⟨_,List.getElem?_eq_getElem (by rw [HN.out];exact hkl)⟩
    have hok:=HK.out t (List.mem_of_getElem? ht)
    have HSP:=Lib.hid (fun W => splitT_any t W hok)
    have hc1:=cls1_lt hok
    have hc2:=cls2_lt hok
    have HTK:Hid (ts.take (k + 1) = ts.take k++[t]):=by show _ = _;rw [List.take_add_one,ht];rfl
    have HF:Hid (fsts (ts.take (k + 1)) = fsts (ts.take k)++[(cls1 t).1]):=by show _ = _;rw [HTK.out,fsts_snoc]
    have HMT:Hid (mts (ts.take (k + 1)) = if isM t then mts (ts.take k)++[(cls2 t).1] else mts (ts.take k)):=by show _ = _;rw [HTK.out,mts_snoc]
    obtain ⟨b,o,rfl,hbB,v0,v1,v2⟩:=(HC.out k t ht).below HBEL.out
    have k1:l ≤ 65536:=hm
    have HA1:Hid ((incW (List.replicate 273 0) (fsts (ts.take k)))[(cls1 t).1]? = some ((fsts (ts.take k)).count (cls1 t).1)):=incW_at 273 _ hc1.1
    have HA2:Hid ((incW (List.replicate 30 0) (mts (ts.take k)))[(cls2 t).1]? = some ((mts (ts.take k)).count (cls2 t).1)):=incW_at 30 _ hc2.1
    have HU1:Hid (incW (List.replicate 273 0) (fsts (ts.take (k + 1))) = (incW (List.replicate 273 0) (fsts (ts.take k))).set (cls1 t).1 ((fsts (ts.take k)).count (cls1 t).1 + 1)):=by
     show _ = _
     rw [HF.out,incW_append,incW_cons,List.getD,HA1.out]
     rfl
    have HU2:Hid (incW (List.replicate 30 0) (mts (ts.take k)++[(cls2 t).1]) = (incW (List.replicate 30 0) (mts (ts.take k))).set (cls2 t).1 ((mts (ts.take k)).count (cls2 t).1 + 1)):=by
     show _ = _
     rw [incW_append,incW_cons,List.getD,HA2.out]
     rfl
    have hcn1:(fsts (ts.take k)).count (cls1 t).1 ≤ 65536:=by
     have h:=List.count_le_length (a:=(cls1 t).1) (l:=fsts (ts.take k))
     rw [fsts_len,List.length_take] at h
     omega
    have hcn2:(mts (ts.take k)).count (cls2 t).1 ≤ 65536:=by
     have h:=List.count_le_length (a:=(cls2 t).1) (l:=mts (ts.take k))
     rw [HMC.out] at h
     omega
    obtain ⟨l1,hl1⟩:∃ l1,incW (List.replicate 273 0) (fsts (ts.take k)) = l1:=⟨_,rfl⟩
    obtain ⟨l2,hl2⟩:∃ l2,incW (List.replicate 30 0) (mts (ts.take k)) = l2:=⟨_,rfl⟩
    have HL2:=Lib.hid hl2
    rw [hl1] at HNB1 HA1 HU1
    rw [hl2] at HNB2 HA2 HU2
    obtain ⟨a1,ha1⟩:∃ a1,(fsts (ts.take k)).count (cls1 t).1 = a1:=⟨_,rfl⟩
    obtain ⟨a2,ha2⟩:∃ a2,(mts (ts.take k)).count (cls2 t).1 = a2:=⟨_,rfl⟩
    rw [ha1] at HA1 HU1 hcn1
    rw [ha2] at HA2 HU2 hcn2
    obtain ⟨⟨n1,b1,x1⟩,hq1⟩:∃ q,cls1 t = q:=⟨_,rfl⟩
    obtain ⟨⟨n2,b2,x2⟩,hq2⟩:∃ q,cls2 t = q:=⟨_,rfl⟩
    rw [hq1] at HSP HA1 HU1 hc1
    rw [hq2] at HSP HA2 HU2 hc2 HMT
    obtain ⟨m,hmm⟩:∃ m,isM t = m:=⟨_,rfl⟩
    rw [hmm] at HSP HMT
    dsimp only at HSP HA1 HU1 HA2 HU2 HMT hc1 hc2
    have hn273:=hc1.1
    have hn30:=hc2.1
    clear ht hok hl1 hl2 ha1 ha2 hq1 hq2 hmm hc1 hc2
    cases m with
    | true =>
     go_upto_region 9 with (go_at_call 109;refine (HSP.out _).mono ?_;rintro e w4 ⟨rfl,hb4⟩;unfold agR;have hb5:=((Below.refl wr.heap.size wr).alloc (Nat.le_refl _) (.cells #[.int .u8 (t.1.toNat:Int),.int .i64 (t.2.1:Int),.int .i64 (t.2.2:Int)] 164)).trans (hb4.mono (by simp));obtain ⟨W5,hW5⟩:∃ W5,w4.alloc (.cells #[.int .i64 (n1:Int),.int .i64 (b1:Int),.int .u32 (x1:Int),.int .i64 (n2:Int),.int .i64 (b2:Int),.int .u32 (x2:Int),.bool true] 168) = W5:=⟨_,rfl⟩;have hb6:Below wr.heap.size wr W5:=(by rw [← hW5];exact hb5.alloc hb5.size _);have hx5:W5.heap[w4.heap.size]? = some (.cells #[.int .i64 (n1:Int),.int .i64 (b1:Int),.int .u32 (x1:Int),.int .i64 (n2:Int),.int .i64 (b2:Int),.int .u32 (x2:Int),.bool true] 168 (0,0)):=(by rw [← hW5];exact heap_alloc_new w4 _);have hs4:wr.heap.size ≤ w4.heap.size:=hb5.size;have HW5:=Lib.hid hW5;clear hW5 hb4 hb5)
     rw [HW5.out]
     have HB5:=Lib.hid hb6
     have HN5:=Lib.hid (HNB1.out.below hb6 HNB1.out.lt)
     have HM5:=Lib.hid (HNB2.out.below hb6 HNB2.out.lt)
     have r0:W5.cell? ⟨w4.heap.size,0,none⟩ = some (.int .i64 (n1:Int)):=cell_of_row _ _ 0 _ _ _ hx5
     have q1:W5.cell? ⟨w.heap.size,n1,none⟩ = some (.int .i64 (a1:Int)):=HN5.out.cell HA1.out
     have f1:W5.frozen? ⟨w.heap.size,n1,none⟩ = false:=HN5.out.free
     obtain ⟨W6,hW6⟩:∃ W6,W5.setCell ⟨w.heap.size,n1,none⟩ (.int .i64 ((a1:Int) + 1)) = W6:=⟨_,rfl⟩
     have hl1:w.heap.size < wr.heap.size:=HNB1.out.lt
     have hl2:(w.heap.size + 1) < wr.heap.size:=HNB2.out.lt
     have hx6:W6.heap[w4.heap.size]? = some (.cells #[.int .i64 (n1:Int),.int .i64 (b1:Int),.int .u32 (x1:Int),.int .i64 (n2:Int),.int .i64 (b2:Int),.int .u32 (x2:Int),.bool true] 168 (0,0)):=(by rw [← hW6];exact (Below.heap_setCell _ _ _ _ (by show w4.heap.size ≠ w.heap.size;omega)).trans hx5)
     have r3:W6.cell? ⟨w4.heap.size,3,none⟩ = some (.int .i64 (n2:Int)):=cell_of_row _ _ 3 _ _ _ hx6
     have r6:W6.cell? ⟨w4.heap.size,6,none⟩ = some (.bool true):=cell_of_row _ _ 6 _ _ _ hx6
     have HN6:Hid (NB W6 w.heap.size (l1.set n1 (a1 + 1))):=(by show NB _ _ _;rw [← hW6];have h:=HN5.out.set n1 (a1 + 1);push_cast at h;exact h)
     have HM6:Hid (NB W6 (w.heap.size + 1) l2):=(by show NB _ _ _;rw [← hW6];exact (Below.heap_setCell _ _ _ _ (by show (w.heap.size + 1) ≠ w.heap.size;omega)).trans HM5.out)
     have q2:W6.cell? ⟨(w.heap.size + 1),n2,none⟩ = some (.int .i64 (a2:Int)):=HM6.out.cell HA2.out
     have f2:W6.frozen? ⟨(w.heap.size + 1),n2,none⟩ = false:=HM6.out.free
     have HB6:Hid (Below w.heap.size w W6):=(by show Below _ _ _;rw [← hW6];exact (HBEL.out.trans (HB5.out.mono HBEL.out.size)).setCell (by show w.heap.size ≤ w.heap.size;omega) _)
     clear hb6 hx5 hx6
     go_wp2
     go_roundg (gk - 1)
     case measure => omega
     case rel =>
      refine ⟨rfl,rfl,k + 1,by omega,by go_num,by omega,?_,?_,?_,HB6.out.setCell (by show w.heap.size ≤ (w.heap.size + 1);omega) _⟩
      ·rw [HMT.out,if_pos trivial,List.length_append,HMC.out,List.length_singleton]
       go_num
      ·rw [HU1.out]
       exact (Below.heap_setCell _ _ _ _ (by show w.heap.size ≠ (w.heap.size + 1);omega)).trans HN6.out
      ·rw [HMT.out,if_pos trivial,HU2.out]
       have h:=HM6.out.set n2 (a2 + 1)
       push_cast at h
       exact h
    | false =>
     go_upto_region 9 with (go_at_call 109;refine (HSP.out _).mono ?_;rintro e w4 ⟨rfl,hb4⟩;unfold agR;have hb5:=((Below.refl wr.heap.size wr).alloc (Nat.le_refl _) (.cells #[.int .u8 (t.1.toNat:Int),.int .i64 (t.2.1:Int),.int .i64 (t.2.2:Int)] 164)).trans (hb4.mono (by simp));obtain ⟨W5,hW5⟩:∃ W5,w4.alloc (.cells #[.int .i64 (n1:Int),.int .i64 (b1:Int),.int .u32 (x1:Int),.int .i64 (n2:Int),.int .i64 (b2:Int),.int .u32 (x2:Int),.bool false] 168) = W5:=⟨_,rfl⟩;have hb6:Below wr.heap.size wr W5:=(by rw [← hW5];exact hb5.alloc hb5.size _);have hx5:W5.heap[w4.heap.size]? = some (.cells #[.int .i64 (n1:Int),.int .i64 (b1:Int),.int .u32 (x1:Int),.int .i64 (n2:Int),.int .i64 (b2:Int),.int .u32 (x2:Int),.bool false] 168 (0,0)):=(by rw [← hW5];exact heap_alloc_new w4 _);have hs4:wr.heap.size ≤ w4.heap.size:=hb5.size;have HW5:=Lib.hid hW5;clear hW5 hb4 hb5)
     rw [HW5.out]
     have HB5:=Lib.hid hb6
     have HN5:=Lib.hid (HNB1.out.below hb6 HNB1.out.lt)
     have HM5:=Lib.hid (HNB2.out.below hb6 HNB2.out.lt)
     have r0:W5.cell? ⟨w4.heap.size,0,none⟩ = some (.int .i64 (n1:Int)):=cell_of_row _ _ 0 _ _ _ hx5
     have q1:W5.cell? ⟨w.heap.size,n1,none⟩ = some (.int .i64 (a1:Int)):=HN5.out.cell HA1.out
     have f1:W5.frozen? ⟨w.heap.size,n1,none⟩ = false:=HN5.out.free
     obtain ⟨W6,hW6⟩:∃ W6,W5.setCell ⟨w.heap.size,n1,none⟩ (.int .i64 ((a1:Int) + 1)) = W6:=⟨_,rfl⟩
     have hl1:w.heap.size < wr.heap.size:=HNB1.out.lt
     have hl2:(w.heap.size + 1) < wr.heap.size:=HNB2.out.lt
     have hx6:W6.heap[w4.heap.size]? = some (.cells #[.int .i64 (n1:Int),.int .i64 (b1:Int),.int .u32 (x1:Int),.int .i64 (n2:Int),.int .i64 (b2:Int),.int .u32 (x2:Int),.bool false] 168 (0,0)):=(by rw [← hW6];exact (Below.heap_setCell _ _ _ _ (by show w4.heap.size ≠ w.heap.size;omega)).trans hx5)
     have r3:W6.cell? ⟨w4.heap.size,3,none⟩ = some (.int .i64 (n2:Int)):=cell_of_row _ _ 3 _ _ _ hx6
     have r6:W6.cell? ⟨w4.heap.size,6,none⟩ = some (.bool false):=cell_of_row _ _ 6 _ _ _ hx6
     have HN6:Hid (NB W6 w.heap.size (l1.set n1 (a1 + 1))):=(by show NB _ _ _;rw [← hW6];have h:=HN5.out.set n1 (a1 + 1);push_cast at h;exact h)
     have HM6:Hid (NB W6 (w.heap.size + 1) l2):=(by show NB _ _ _;rw [← hW6];exact (Below.heap_setCell _ _ _ _ (by show (w.heap.size + 1) ≠ w.heap.size;omega)).trans HM5.out)
     have q2:W6.cell? ⟨(w.heap.size + 1),n2,none⟩ = some (.int .i64 (a2:Int)):=HM6.out.cell HA2.out
     have f2:W6.frozen? ⟨(w.heap.size + 1),n2,none⟩ = false:=HM6.out.free
     have HB6:Hid (Below w.heap.size w W6):=(by show Below _ _ _;rw [← hW6];exact (HBEL.out.trans (HB5.out.mono HBEL.out.size)).setCell (by show w.heap.size ≤ w.heap.size;omega) _)
     clear hb6 hx5 hx6
     go_wp2
     go_roundg (gk - 1)
     case measure => omega
     case rel =>
      refine ⟨rfl,rfl,k + 1,by omega,by go_num,by omega,?_,?_,?_,HB6.out⟩
      ·rw [HMT.out,if_neg (by simp),HMC.out]
      ·rw [HU1.out]
       exact HN6.out
      ·rw [HMT.out,if_neg (by simp),HL2.out]
       exact HM6.out
   ·obtain rfl:k = n:=by omega
    rw [show ts.take k = ts from List.take_of_length_le (by rw [HN.out];exact Nat.le_refl _)] at HNB1 HNB2 HMC
    by_cases hlast:k < l
    ·obtain ⟨y,ln,d,hta,hrt⟩:∃ y ln d,TkAt w A k y ln d∧rightT y ln d = false:=by
      rcases HEND.out with h | ⟨_,h⟩
      ·omega
      ·exact h
     obtain ⟨b,o,rfl,hbB,v0,v1,v2⟩:=hta.below HBEL.out
     have HSP:=Lib.hid (fun W => split_no y ln d W hrt)
     clear hta hrt
     go_wp2_with (go_at_call 109;refine (HSP.out _).mono ?_;rintro e w4 ⟨rfl,hb4⟩;unfold agR;have hb5:=((Below.refl wr.heap.size wr).alloc (Nat.le_refl _) (.cells #[.int .u8 y,.int .i64 ln,.int .i64 d] 164)).trans (hb4.mono (by simp));have HB5:=Lib.hid (HBEL.out.trans (hb5.mono HBEL.out.size));clear hb4 hb5)
     refine bodyPost_ret (results_tmp3 rfl _ _ _) rfl ⟨HB5.out.alloc HB5.out.size _,.inl ⟨hlast,rfl⟩⟩
    ·obtain rfl:k = l:=by omega
     have hq256:(incW (List.replicate 273 0) (fsts ts))[256]? = some ((fsts ts).count 256):=incW_at 273 _ (by decide)
     have HW1:Hid (wt1 ts = (incW (List.replicate 273 0) (fsts ts)).set 256 ((fsts ts).count 256 + 1)):=by
      show _ = _
      rw [wt1,incW_append,incW_cons,List.getD,hq256]
      rfl
     have hcn1:(fsts ts).count 256 ≤ 65536:=by
      have h:=List.count_le_length (a:=256) (l:=fsts ts)
      rw [fsts_len,HN.out] at h
      omega
     obtain ⟨l1,hl1⟩:∃ l1,incW (List.replicate 273 0) (fsts ts) = l1:=⟨_,rfl⟩
     obtain ⟨a1,ha1⟩:∃ a1,(fsts ts).count 256 = a1:=⟨_,rfl⟩
     rw [hl1] at HNB1 hq256 HW1
     rw [ha1] at hq256 HW1 hcn1
     have q1:wr.cell? ⟨w.heap.size,256,none⟩ = some (.int .i64 (a1:Int)):=HNB1.out.cell hq256
     have f1:wr.frozen? ⟨w.heap.size,256,none⟩ = false:=HNB1.out.free
     obtain ⟨W6,hW6⟩:∃ W6,wr.setCell ⟨w.heap.size,256,none⟩ (.int .i64 ((a1:Int) + 1)) = W6:=⟨_,rfl⟩
     have HN6:Hid (NB W6 w.heap.size (wt1 ts)):=by
      show NB _ _ _
      rw [← hW6,HW1.out]
      have h:=HNB1.out.set 256 (a1 + 1)
      push_cast at h
      exact h
     have HM6:Hid (NB W6 (w.heap.size + 1) (incW (List.replicate 30 0) (mts ts))):=by
      show NB _ _ _
      rw [← hW6]
      exact (Below.heap_setCell _ _ _ _ (by show (w.heap.size + 1) ≠ w.heap.size;omega)).trans HNB2.out
     have HB6:Hid (Below w.heap.size w W6):=by
      show Below _ _ _
      rw [← hW6]
      exact HBEL.out.setCell (by show w.heap.size ≤ w.heap.size;omega) _
     clear hl1 ha1 hq256
     by_cases hm0:mc = 0
     ·subst hm0
      have hnil:mts ts = []:=List.eq_nil_of_length_eq_zero HMC.out
      have hq0:(incW (List.replicate 30 0) (mts ts))[0]? = some 0:=by rw [incW_at 30 _ (by decide),hnil];rfl
      have q2:W6.cell? ⟨(w.heap.size + 1),0,none⟩ = some (.int .i64 ((0:Nat):Int)):=HM6.out.cell hq0
      have f2:W6.frozen? ⟨(w.heap.size + 1),0,none⟩ = false:=HM6.out.free
      have HW2:Hid (wt2 ts = (incW (List.replicate 30 0) (mts ts)).set 0 1):=by
       show _ = _
       rw [wt2,if_pos hnil,hnil]
       rfl
      clear hq0 hnil
      go_wp2
      refine bodyPost_ret (results_tmp3 rfl _ _ _) rfl ⟨HB6.out.setCell (by show w.heap.size ≤ (w.heap.size + 1);omega) _,w.heap.size,(w.heap.size + 1),rfl,(Below.heap_setCell _ _ _ _ (by show w.heap.size ≠ (w.heap.size + 1);omega)).trans HN6.out,by rw [HW2.out];exact HM6.out.set 0 1,by omega,by omega⟩
     ·have t0:((mc:Int) == 0) = false:=by simp;omega
      have HW2:Hid (wt2 ts = incW (List.replicate 30 0) (mts ts)):=by
       show _ = _
       rw [wt2,if_neg (fun e => hm0 (by rw [← HMC.out,e];rfl))]
      clear hm0
      go_wp2
      refine bodyPost_ret (results_tmp3 rfl _ _ _) rfl ⟨HB6.out,w.heap.size,(w.heap.size + 1),rfl,HN6.out,by rw [HW2.out];exact HM6.out,by omega,by omega⟩
 ·have HZ1:Hid (NB (((w.alloc (.cells (madeCells #[.int .i64 0] 30) 3)).alloc (.cells (madeCells #[.int .i64 0] 273) 3)).drew) (w.heap.size + 1) (incW (List.replicate 273 0) (fsts (ts.take 0)))):=(by have h:=wei_made (w.alloc (.cells (madeCells #[.int .i64 0] 30) 3)) 273;rw [World.size_alloc] at h;exact h)
  have HZ2:Hid (NB (((w.alloc (.cells (madeCells #[.int .i64 0] 30) 3)).alloc (.cells (madeCells #[.int .i64 0] 273) 3)).drew) w.heap.size (incW (List.replicate 30 0) (mts (ts.take 0)))):=((wei_made w 30).below (B:=(w.alloc (.cells (madeCells #[.int .i64 0] 30) 3)).heap.size) (((Below.refl _ _).alloc (Nat.le_refl _) _).drew) (by simp))
  have HB0:Hid (Below w.heap.size w (((w.alloc (.cells (madeCells #[.int .i64 0] 30) 3)).alloc (.cells (madeCells #[.int .i64 0] 273) 3)).drew)):=(((Below.refl w.heap.size w).alloc (Nat.le_refl _) _).alloc (by simp) _).drew
  obtain ⟨W0,hW0⟩:∃ W0,((w.alloc (.cells (madeCells #[.int .i64 0] 30) 3)).alloc (.cells (madeCells #[.int .i64 0] 273) 3)).drew = W0:=⟨_,rfl⟩
  rw [hW0] at HZ1 HZ2 HB0 ⊢
  clear hW0 mk1 mk2
  go_wp2
  go_loopg [2,3,5,17] l (fun gk s2 s3 m5 i wr => s2 = .slice (some ⟨(w.heap.size + 1),0,none⟩) 273 273∧s3 = .slice (some ⟨w.heap.size,0,none⟩) 30 30∧∃ k:Nat,k + gk = l∧i = .int .i64 (k:Int)∧k ≤ n∧m5 = .int .i64 ((mts (ts.take k)).length:Nat)∧NB wr (w.heap.size + 1) (incW (List.replicate 273 0) (fsts (ts.take k)))∧NB wr w.heap.size (incW (List.replicate 30 0) (mts (ts.take k)))∧Below w.heap.size w wr)
  case atStart => exact ⟨rfl,rfl,0,by omega,rfl,Nat.zero_le _,rfl,HZ1.out,HZ2.out,HB0.out⟩
  case round =>
   obtain ⟨rfl,rfl,k,hkg,rfl,hkn,rfl,hn1,hn2,hbel⟩:=hrel
   have HNB1:=Lib.hid hn1
   have HNB2:=Lib.hid hn2
   have HBEL:=Lib.hid hbel
   clear hn1 hn2 hbel HZ1 HZ2 HB0
   have hml:=mts_len (ts.take k)
   rw [List.length_take] at hml
   obtain ⟨mc,hmc⟩:∃ mc,(mts (ts.take k)).length = mc:=⟨_,rfl⟩
   have HMC:=Lib.hid hmc
   rw [hmc] at hml ⊢
   clear hmc
   by_cases hkl:k < n
   ·obtain ⟨t,ht⟩:∃ t,ts[k]? = some t:=⟨_,List.getElem?_eq_getElem (by rw [HN.out];exact hkl)⟩
    have hok:=HK.out t (List.mem_of_getElem? ht)
    have HSP:=Lib.hid (fun W => splitT_any t W hok)
    have hc1:=cls1_lt hok
    have hc2:=cls2_lt hok
    have HTK:Hid (ts.take (k + 1) = ts.take k++[t]):=by show _ = _;rw [List.take_add_one,ht];rfl
    have HF:Hid (fsts (ts.take (k + 1)) = fsts (ts.take k)++[(cls1 t).1]):=by show _ = _;rw [HTK.out,fsts_snoc]
    have HMT:Hid (mts (ts.take (k + 1)) = if isM t then mts (ts.take k)++[(cls2 t).1] else mts (ts.take k)):=by show _ = _;rw [HTK.out,mts_snoc]
    obtain ⟨b,o,rfl,hbB,v0,v1,v2⟩:=(HC.out k t ht).below HBEL.out
    have k1:l ≤ 65536:=hm
    have HA1:Hid ((incW (List.replicate 273 0) (fsts (ts.take k)))[(cls1 t).1]? = some ((fsts (ts.take k)).count (cls1 t).1)):=incW_at 273 _ hc1.1
    have HA2:Hid ((incW (List.replicate 30 0) (mts (ts.take k)))[(cls2 t).1]? = some ((mts (ts.take k)).count (cls2 t).1)):=incW_at 30 _ hc2.1
    have HU1:Hid (incW (List.replicate 273 0) (fsts (ts.take (k + 1))) = (incW (List.replicate 273 0) (fsts (ts.take k))).set (cls1 t).1 ((fsts (ts.take k)).count (cls1 t).1 + 1)):=by
     show _ = _
     rw [HF.out,incW_append,incW_cons,List.getD,HA1.out]
     rfl
    have HU2:Hid (incW (List.replicate 30 0) (mts (ts.take k)++[(cls2 t).1]) = (incW (List.replicate 30 0) (mts (ts.take k))).set (cls2 t).1 ((mts (ts.take k)).count (cls2 t).1 + 1)):=by
     show _ = _
     rw [incW_append,incW_cons,List.getD,HA2.out]
     rfl
    have hcn1:(fsts (ts.take k)).count (cls1 t).1 ≤ 65536:=by
     have h:=List.count_le_length (a:=(cls1 t).1) (l:=fsts (ts.take k))
     rw [fsts_len,List.length_take] at h
     omega
    have hcn2:(mts (ts.take k)).count (cls2 t).1 ≤ 65536:=by
     have h:=List.count_le_length (a:=(cls2 t).1) (l:=mts (ts.take k))
     rw [HMC.out] at h
     omega
    obtain ⟨l1,hl1⟩:∃ l1,incW (List.replicate 273 0) (fsts (ts.take k)) = l1:=⟨_,rfl⟩
    obtain ⟨l2,hl2⟩:∃ l2,incW (List.replicate 30 0) (mts (ts.take k)) = l2:=⟨_,rfl⟩
    have HL2:=Lib.hid hl2
    rw [hl1] at HNB1 HA1 HU1
    rw [hl2] at HNB2 HA2 HU2
    obtain ⟨a1,ha1⟩:∃ a1,(fsts (ts.take k)).count (cls1 t).1 = a1:=⟨_,rfl⟩
    obtain ⟨a2,ha2⟩:∃ a2,(mts (ts.take k)).count (cls2 t).1 = a2:=⟨_,rfl⟩
    rw [ha1] at HA1 HU1 hcn1
    rw [ha2] at HA2 HU2 hcn2
    obtain ⟨⟨n1,b1,x1⟩,hq1⟩:∃ q,cls1 t = q:=⟨_,rfl⟩
    obtain ⟨⟨n2,b2,x2⟩,hq2⟩:∃ q,cls2 t = q:=⟨_,rfl⟩
    rw [hq1] at HSP HA1 HU1 hc1
    rw [hq2] at HSP HA2 HU2 hc2 HMT
    obtain ⟨m,hmm⟩:∃ m,isM t = m:=⟨_,rfl⟩
    rw [hmm] at HSP HMT
    dsimp only at HSP HA1 HU1 HA2 HU2 HMT hc1 hc2
    have hn273:=hc1.1
    have hn30:=hc2.1
    clear ht hok hl1 hl2 ha1 ha2 hq1 hq2 hmm hc1 hc2
    cases m with
    | true =>
     go_upto_region 9 with (go_at_call 109;refine (HSP.out _).mono ?_;rintro e w4 ⟨rfl,hb4⟩;unfold agR;have hb5:=((Below.refl wr.heap.size wr).alloc (Nat.le_refl _) (.cells #[.int .u8 (t.1.toNat:Int),.int .i64 (t.2.1:Int),.int .i64 (t.2.2:Int)] 164)).trans (hb4.mono (by simp));obtain ⟨W5,hW5⟩:∃ W5,w4.alloc (.cells #[.int .i64 (n1:Int),.int .i64 (b1:Int),.int .u32 (x1:Int),.int .i64 (n2:Int),.int .i64 (b2:Int),.int .u32 (x2:Int),.bool true] 168) = W5:=⟨_,rfl⟩;have hb6:Below wr.heap.size wr W5:=(by rw [← hW5];exact hb5.alloc hb5.size _);have hx5:W5.heap[w4.heap.size]? = some (.cells #[.int .i64 (n1:Int),.int .i64 (b1:Int),.int .u32 (x1:Int),.int .i64 (n2:Int),.int .i64 (b2:Int),.int .u32 (x2:Int),.bool true] 168 (0,0)):=(by rw [← hW5];exact heap_alloc_new w4 _);have hs4:wr.heap.size ≤ w4.heap.size:=hb5.size;have HW5:=Lib.hid hW5;clear hW5 hb4 hb5)
     rw [HW5.out]
     have HB5:=Lib.hid hb6
     have HN5:=Lib.hid (HNB1.out.below hb6 HNB1.out.lt)
     have HM5:=Lib.hid (HNB2.out.below hb6 HNB2.out.lt)
     have r0:W5.cell? ⟨w4.heap.size,0,none⟩ = some (.int .i64 (n1:Int)):=cell_of_row _ _ 0 _ _ _ hx5
     have q1:W5.cell? ⟨(w.heap.size + 1),n1,none⟩ = some (.int .i64 (a1:Int)):=HN5.out.cell HA1.out
     have f1:W5.frozen? ⟨(w.heap.size + 1),n1,none⟩ = false:=HN5.out.free
     obtain ⟨W6,hW6⟩:∃ W6,W5.setCell ⟨(w.heap.size + 1),n1,none⟩ (.int .i64 ((a1:Int) + 1)) = W6:=⟨_,rfl⟩
     have hl1:(w.heap.size + 1) < wr.heap.size:=HNB1.out.lt
     have hl2:w.heap.size < wr.heap.size:=HNB2.out.lt
     have hx6:W6.heap[w4.heap.size]? = some (.cells #[.int .i64 (n1:Int),.int .i64 (b1:Int),.int .u32 (x1:Int),.int .i64 (n2:Int),.int .i64 (b2:Int),.int .u32 (x2:Int),.bool true] 168 (0,0)):=(by rw [← hW6];exact (Below.heap_setCell _ _ _ _ (by show w4.heap.size ≠ (w.heap.size + 1);omega)).trans hx5)
     have r3:W6.cell? ⟨w4.heap.size,3,none⟩ = some (.int .i64 (n2:Int)):=cell_of_row _ _ 3 _ _ _ hx6
     have r6:W6.cell? ⟨w4.heap.size,6,none⟩ = some (.bool true):=cell_of_row _ _ 6 _ _ _ hx6
     have HN6:Hid (NB W6 (w.heap.size + 1) (l1.set n1 (a1 + 1))):=(by show NB _ _ _;rw [← hW6];have h:=HN5.out.set n1 (a1 + 1);push_cast at h;exact h)
     have HM6:Hid (NB W6 w.heap.size l2):=(by show NB _ _ _;rw [← hW6];exact (Below.heap_setCell _ _ _ _ (by show w.heap.size ≠ (w.heap.size + 1);omega)).trans HM5.out)
     have q2:W6.cell? ⟨w.heap.size,n2,none⟩ = some (.int .i64 (a2:Int)):=HM6.out.cell HA2.out
     have f2:W6.frozen? ⟨w.heap.size,n2,none⟩ = false:=HM6.out.free
     have HB6:Hid (Below w.heap.size w W6):=(by show Below _ _ _;rw [← hW6];exact (HBEL.out.trans (HB5.out.mono HBEL.out.size)).setCell (by show w.heap.size ≤ (w.heap.size + 1);omega) _)
     clear hb6 hx5 hx6
     go_wp2
     go_roundg (gk - 1)
     case measure => omega
     case rel =>
      refine ⟨rfl,rfl,k + 1,by omega,by go_num,by omega,?_,?_,?_,HB6.out.setCell (by show w.heap.size ≤ w.heap.size;omega) _⟩
      ·rw [HMT.out,if_pos trivial,List.length_append,HMC.out,List.length_singleton]
       go_num
      ·rw [HU1.out]
       exact (Below.heap_setCell _ _ _ _ (by show (w.heap.size + 1) ≠ w.heap.size;omega)).trans HN6.out
      ·rw [HMT.out,if_pos trivial,HU2.out]
       have h:=HM6.out.set n2 (a2 + 1)
       push_cast at h
       exact h
    | false =>
     go_upto_region 9 with (go_at_call 109;refine (HSP.out _).mono ?_;rintro e w4 ⟨rfl,hb4⟩;unfold agR;have hb5:=((Below.refl wr.heap.size wr).alloc (Nat.le_refl _) (.cells #[.int .u8 (t.1.toNat:Int),.int .i64 (t.2.1:Int),.int .i64 (t.2.2:Int)] 164)).trans (hb4.mono (by simp));obtain ⟨W5,hW5⟩:∃ W5,w4.alloc (.cells #[.int .i64 (n1:Int),.int .i64 (b1:Int),.int .u32 (x1:Int),.int .i64 (n2:Int),.int .i64 (b2:Int),.int .u32 (x2:Int),.bool false] 168) = W5:=⟨_,rfl⟩;have hb6:Below wr.heap.size wr W5:=(by rw [← hW5];exact hb5.alloc hb5.size _);have hx5:W5.heap[w4.heap.size]? = some (.cells #[.int .i64 (n1:Int),.int .i64 (b1:Int),.int .u32 (x1:Int),.int .i64 (n2:Int),.int .i64 (b2:Int),.int .u32 (x2:Int),.bool false] 168 (0,0)):=(by rw [← hW5];exact heap_alloc_new w4 _);have hs4:wr.heap.size ≤ w4.heap.size:=hb5.size;have HW5:=Lib.hid hW5;clear hW5 hb4 hb5)
     rw [HW5.out]
     have HB5:=Lib.hid hb6
     have HN5:=Lib.hid (HNB1.out.below hb6 HNB1.out.lt)
     have HM5:=Lib.hid (HNB2.out.below hb6 HNB2.out.lt)
     have r0:W5.cell? ⟨w4.heap.size,0,none⟩ = some (.int .i64 (n1:Int)):=cell_of_row _ _ 0 _ _ _ hx5
     have q1:W5.cell? ⟨(w.heap.size + 1),n1,none⟩ = some (.int .i64 (a1:Int)):=HN5.out.cell HA1.out
     have f1:W5.frozen? ⟨(w.heap.size + 1),n1,none⟩ = false:=HN5.out.free
     obtain ⟨W6,hW6⟩:∃ W6,W5.setCell ⟨(w.heap.size + 1),n1,none⟩ (.int .i64 ((a1:Int) + 1)) = W6:=⟨_,rfl⟩
     have hl1:(w.heap.size + 1) < wr.heap.size:=HNB1.out.lt
     have hl2:w.heap.size < wr.heap.size:=HNB2.out.lt
     have hx6:W6.heap[w4.heap.size]? = some (.cells #[.int .i64 (n1:Int),.int .i64 (b1:Int),.int .u32 (x1:Int),.int .i64 (n2:Int),.int .i64 (b2:Int),.int .u32 (x2:Int),.bool false] 168 (0,0)):=(by rw [← hW6];exact (Below.heap_setCell _ _ _ _ (by show w4.heap.size ≠ (w.heap.size + 1);omega)).trans hx5)
     have r3:W6.cell? ⟨w4.heap.size,3,none⟩ = some (.int .i64 (n2:Int)):=cell_of_row _ _ 3 _ _ _ hx6
     have r6:W6.cell? ⟨w4.heap.size,6,none⟩ = some (.bool false):=cell_of_row _ _ 6 _ _ _ hx6
     have HN6:Hid (NB W6 (w.heap.size + 1) (l1.set n1 (a1 + 1))):=(by show NB _ _ _;rw [← hW6];have h:=HN5.out.set n1 (a1 + 1);push_cast at h;exact h)
     have HM6:Hid (NB W6 w.heap.size l2):=(by show NB _ _ _;rw [← hW6];exact (Below.heap_setCell _ _ _ _ (by show w.heap.size ≠ (w.heap.size + 1);omega)).trans HM5.out)
     have q2:W6.cell? ⟨w.heap.size,n2,none⟩ = some (.int .i64 (a2:Int)):=HM6.out.cell HA2.out
     have f2:W6.frozen? ⟨w.heap.size,n2,none⟩ = false:=HM6.out.free
     have HB6:Hid (Below w.heap.size w W6):=(by show Below _ _ _;rw [← hW6];exact (HBEL.out.trans (HB5.out.mono HBEL.out.size)).setCell (by show w.heap.size ≤ (w.heap.size + 1);omega) _)
     clear hb6 hx5 hx6
     go_wp2
     go_roundg (gk - 1)
     case measure => omega
     case rel =>
      refine ⟨rfl,rfl,k + 1,by omega,by go_num,by omega,?_,?_,?_,HB6.out⟩
      ·rw [HMT.out,if_neg (by simp),HMC.out]
      ·rw [HU1.out]
       exact HN6.out
      ·rw [HMT.out,if_neg (by simp),HL2.out]
       exact HM6.out
   ·obtain rfl:k = n:=by omega
    rw [show ts.take k = ts from List.take_of_length_le (by rw [HN.out];exact Nat.le_refl _)] at HNB1 HNB2 HMC
    by_cases hlast:k < l
    ·obtain ⟨y,ln,d,hta,hrt⟩:∃ y ln d,TkAt w A k y ln d∧rightT y ln d = false:=by
      rcases HEND.out with h | ⟨_,h⟩
      ·omega
      ·exact h
     obtain ⟨b,o,rfl,hbB,v0,v1,v2⟩:=hta.below HBEL.out
     have HSP:=Lib.hid (fun W => split_no y ln d W hrt)
     clear hta hrt
     go_wp2_with (go_at_call 109;refine (HSP.out _).mono ?_;rintro e w4 ⟨rfl,hb4⟩;unfold agR;have hb5:=((Below.refl wr.heap.size wr).alloc (Nat.le_refl _) (.cells #[.int .u8 y,.int .i64 ln,.int .i64 d] 164)).trans (hb4.mono (by simp));have HB5:=Lib.hid (HBEL.out.trans (hb5.mono HBEL.out.size));clear hb4 hb5)
     refine bodyPost_ret (results_tmp3 rfl _ _ _) rfl ⟨HB5.out.alloc HB5.out.size _,.inl ⟨hlast,rfl⟩⟩
    ·obtain rfl:k = l:=by omega
     have hq256:(incW (List.replicate 273 0) (fsts ts))[256]? = some ((fsts ts).count 256):=incW_at 273 _ (by decide)
     have HW1:Hid (wt1 ts = (incW (List.replicate 273 0) (fsts ts)).set 256 ((fsts ts).count 256 + 1)):=by
      show _ = _
      rw [wt1,incW_append,incW_cons,List.getD,hq256]
      rfl
     have hcn1:(fsts ts).count 256 ≤ 65536:=by
      have h:=List.count_le_length (a:=256) (l:=fsts ts)
      rw [fsts_len,HN.out] at h
      omega
     obtain ⟨l1,hl1⟩:∃ l1,incW (List.replicate 273 0) (fsts ts) = l1:=⟨_,rfl⟩
     obtain ⟨a1,ha1⟩:∃ a1,(fsts ts).count 256 = a1:=⟨_,rfl⟩
     rw [hl1] at HNB1 hq256 HW1
     rw [ha1] at hq256 HW1 hcn1
     have q1:wr.cell? ⟨(w.heap.size + 1),256,none⟩ = some (.int .i64 (a1:Int)):=HNB1.out.cell hq256
     have f1:wr.frozen? ⟨(w.heap.size + 1),256,none⟩ = false:=HNB1.out.free
     obtain ⟨W6,hW6⟩:∃ W6,wr.setCell ⟨(w.heap.size + 1),256,none⟩ (.int .i64 ((a1:Int) + 1)) = W6:=⟨_,rfl⟩
     have HN6:Hid (NB W6 (w.heap.size + 1) (wt1 ts)):=by
      show NB _ _ _
      rw [← hW6,HW1.out]
      have h:=HNB1.out.set 256 (a1 + 1)
      push_cast at h
      exact h
     have HM6:Hid (NB W6 w.heap.size (incW (List.replicate 30 0) (mts ts))):=by
      show NB _ _ _
      rw [← hW6]
      exact (Below.heap_setCell _ _ _ _ (by show w.heap.size ≠ (w.heap.size + 1);omega)).trans HNB2.out
     have HB6:Hid (Below w.heap.size w W6):=by
      show Below _ _ _
      rw [← hW6]
      exact HBEL.out.setCell (by show w.heap.size ≤ (w.heap.size + 1);omega) _
     clear hl1 ha1 hq256
     by_cases hm0:mc = 0
     ·subst hm0
      have hnil:mts ts = []:=List.eq_nil_of_length_eq_zero HMC.out
      have hq0:(incW (List.replicate 30 0) (mts ts))[0]? = some 0:=by rw [incW_at 30 _ (by decide),hnil];rfl
      have q2:W6.cell? ⟨w.heap.size,0,none⟩ = some (.int .i64 ((0:Nat):Int)):=HM6.out.cell hq0
      have f2:W6.frozen? ⟨w.heap.size,0,none⟩ = false:=HM6.out.free
      have HW2:Hid (wt2 ts = (incW (List.replicate 30 0) (mts ts)).set 0 1):=by
       show _ = _
       rw [wt2,if_pos hnil,hnil]
       rfl
      clear hq0 hnil
      go_wp2
      refine bodyPost_ret (results_tmp3 rfl _ _ _) rfl ⟨HB6.out.setCell (by show w.heap.size ≤ w.heap.size;omega) _,(w.heap.size + 1),w.heap.size,rfl,(Below.heap_setCell _ _ _ _ (by show (w.heap.size + 1) ≠ w.heap.size;omega)).trans HN6.out,by rw [HW2.out];exact HM6.out.set 0 1,by omega,by omega⟩
     ·have t0:((mc:Int) == 0) = false:=by simp;omega
      have HW2:Hid (wt2 ts = incW (List.replicate 30 0) (mts ts)):=by
       show _ = _
       rw [wt2,if_neg (fun e => hm0 (by rw [← HMC.out,e];rfl))]
      clear hm0
      go_wp2
      refine bodyPost_ret (results_tmp3 rfl _ _ _) rfl ⟨HB6.out,(w.heap.size + 1),w.heap.size,rfl,HN6.out,by rw [HW2.out];exact HM6.out,by omega,by omega⟩
set_option maxRecDepth 100000 in
set_option maxHeartbeats 1000000 in
theorem putClass_any (g q base n:Nat) (zs:List Int) (S:Nat→Prop) (L:List Bool) (c:Nat × Nat × Nat) (w:World) (hr:caR zs = true) (hc:LCa w n g zs) (hw:WrS w q base S L) (hL:L.length ≤ 1000000000) (hbase:base ≤ w.heap.size) (h2:c.2.1 ≤ 13) (h3:c.2.2 < 2 ^ c.2.1) :
  Calls Tryz.prog 110 #[.pointer (some ⟨q,0,none⟩),.pointer (some ⟨g,0,none⟩),.agg #[.int .i64 (c.1:Int),.int .i64 (c.2.1:Int),.int .u32 (c.2.2:Int)]] w fun e w' => e = .returned (.tuple #[])∧∃ S',WrS w' q base S' (L++clsB zs c)∧Mod S w w'∧∀ k,S' k→S k ∨ w.heap.size ≤ k:=by
 obtain ⟨num,nb,ex⟩:=c
 dsimp only at h2 h3
 have h32:ex < 4294967296:=Nat.lt_of_lt_of_le h3 (Nat.le_trans (Nat.pow_le_pow_right (by decide) h2) (by decide))
 obtain ⟨W1,hW1⟩:∃ W1,w.alloc (.cells #[.int .i64 (num:Int),.int .i64 (nb:Int),.int .u32 (ex:Int)] 166) = W1:=⟨_,rfl⟩
 have HB1:Hid (Below w.heap.size w W1):=by show Below _ _ _;rw [← hW1];exact (Below.refl _ w).alloc (Nat.le_refl _) _
 have HZ1:Hid (W1.heap.size = w.heap.size + 1):=by show _ = _;rw [← hW1];simp
 have HX1:Hid (W1.heap[w.heap.size]? = some (.cells #[.int .i64 (num:Int),.int .i64 (nb:Int),.int .u32 (ex:Int)] 166 (0,0))):=by show _ = _;rw [← hW1];exact heap_alloc_new w _
 have c0:W1.cell? ⟨w.heap.size,0,none⟩ = some (.int .i64 (num:Int)):=cell_of_row _ _ 0 _ _ _ HX1.out
 have HP8:=Lib.hid (put8_any g q base zs S L (num:Int) W1 hr (hc.keep2 (Mod.of_below HB1.out) (fun _ h => h.elim)).lc (hw.keep (Mod.of_below HB1.out) (fun _ _ h => h)) (by omega) (by have:=HZ1.out;omega))
 have HSL:Hid (∀ k,S k→k < w.heap.size):=hw.lt
 have HSY:=Lib.hid (symB_len hr (num:Int))
 have hsy:=HSY.out
 have HCB:Hid (clsB zs (num,nb,ex) = symB zs (num:Int)++bitsOf ex nb):=rfl
 have hz1:=HZ1.out
 clear hc hw hr h3
 go_enter Tryz.func110,Tryz.ntmps110
 go_wp2_with (first
  | (go_at_call 111;refine HP8.out.mono ?_;rintro e w2 ⟨rfl,S2,hw2,hm2,hs2⟩;have hx2:=hm2.keep HX1.out (fun h => by have:=HSL.out _ h;omega);have HM2:=Lib.hid (((Mod.of_below HB1.out).mono (fun _ h => h.elim)).then_ hm2);have HS2:Hid (∀ k,S2 k→S k ∨ w.heap.size ≤ k):=(fun k hk => (hs2 k hk).imp id (fun h => by omega));have c1':w2.cell? ⟨w.heap.size,1,none⟩ = some (.int .i64 (nb:Int)):=cell_of_row _ _ 1 _ _ _ hx2;have c2':w2.cell? ⟨w.heap.size,2,none⟩ = some (.int .u32 (ex:Int)):=cell_of_row _ _ 2 _ _ _ hx2;have HWP:=Lib.hid (wput_any q base S2 _ (ex:Int) (nb:Int) w2 hw2 (by rw [List.length_append];omega) (by have:=HM2.out.size;omega) (by omega) (by omega) (by omega) (by omega));rw [cnt_nat (k:=nb) (by omega),Int.toNat_natCast,List.append_assoc,← HCB.out] at HWP;clear hw2 hm2 hs2 hx2)
  | (go_at_call 155;refine HWP.out.mono ?_;rintro e w3 ⟨rfl,S3,hw3,hm3,hs3⟩;have HW3:=Lib.hid hw3;have HM3:=Lib.hid (HM2.out.trans hm3 HS2.out);have HS3:Hid (∀ k,S3 k→S k ∨ w.heap.size ≤ k):=(fun k hk => (hs3 k hk).elim (HS2.out k) (fun h => .inr (Nat.le_trans HM2.out.size h)));clear hw3 hm3 hs3))
 refine bodyPost_end (results_none rfl _ _ _) rfl ⟨rfl,S3,HW3.out,HM3.out,HS3.out⟩
theorem own_addr {w:World} {base:Nat} {e:TypeId} {size n c:Nat} {a:Addr} {xs:List Value} (h:w.ownsRow base e size (.slice (some a) n c) n xs):base ≤ a.block:=by
 obtain ⟨_,h2⟩:=h
 rcases h2 with ⟨h2,_⟩ | ⟨g,cap,cur,hv,hg,_⟩
 ·cases h2
 ·simp only [Value.slice.injEq,Option.some.injEq] at hv
  obtain ⟨rfl,_,_⟩:=hv
  exact hg
set_option maxRecDepth 100000 in
set_option maxHeartbeats 1000000 in
theorem putTable_any (A:Option Addr) (l c q base:Nat) (ws:List Nat) (S:Nat→Prop) (L:List Bool) (w:World) (hl:ws.length = l) (hm:l ≤ 320) (hb:Cells w w.heap.size A (nCs ws)) (hok:∀ x ∈ ws,x ≤ 1073741824) (hpos:∃ s x:Nat,ws[s]? = some x∧0 < x) (hw:WrS w q base S L) (hL:L.length ≤ 100000000) (hbase:base ≤ w.heap.size) :
  Calls Tryz.prog 108 #[.pointer (some ⟨q,0,none⟩),.slice A l c] w fun e w' => ∃ g n S',e = .returned (.pointer (some ⟨g,0,none⟩))∧WrS w' q base S' (L++tabP (lensW ws))∧Mod S w w'∧(∀ k,S' k→S k ∨ w.heap.size ≤ k)∧LCa w' n g (zN (lensW ws))∧(∀ k,S' k→k < n)∧g < w'.heap.size:=by
 obtain ⟨s,x,hx,h0⟩:=hpos
 have hr:=lensW_caR (by omega) hx h0
 have h1l:1 ≤ l:=by have:=(List.getElem?_eq_some_iff.1 hx).1;omega
 have hv:∀ y ∈ lensW ws,y ≤ 15:=fun y hy => by
  obtain ⟨k,hk⟩:=List.mem_iff_getElem?.1 hy
  have hkl:=(List.getElem?_eq_some_iff.1 hk).1
  rw [lensW_len] at hkl
  have h2:=(lensW_pos (ns:=ws) (by omega) (List.getElem?_eq_getElem hkl)).2
  rw [List.getD,hk] at h2
  exact h2
 have HLN:=Lib.hid (lengths_ok A l c ws w.heap.size w hl (by omega) hb (Nat.le_refl _) hok)
 have HLL:Hid ((lensW ws).length = l):=by show _ = _;rw [lensW_len,hl]
 obtain ⟨os,hos⟩:∃ os,lensW ws = os:=⟨_,rfl⟩
 rw [hos] at HLN HLL hr hv ⊢
 have HR:=Lib.hid hr
 have HV:=Lib.hid hv
 have HW:=Lib.hid hw
 clear hl hb hok hx h0 hr hv hw hos
 go_enter Tryz.func108,Tryz.ntmps108
 go_wp2_with (first
  | (go_at_call 150;refine HLN.out.mono ?_;rintro e w2 ⟨A2,c2,rfl,hown2,hb2⟩;have HO2:=Lib.hid hown2;have HB2:=Lib.hid hb2;clear hown2 hb2)
  | (go_at_call 151;refine (rnput_any A2 l c2 os q base S L w2 HLL.out h1l hm HV.out (Cells.of_own HO2.out) (fun a ha hS => by have h3:=HO2.out;rw [ha] at h3;have:=own_addr h3;have:=HW.out.lt _ hS;omega) (HW.out.keep (Mod.of_below HB2.out) (fun _ _ h => h)) (by omega) (Nat.le_trans hbase HB2.out.size)).mono ?_;rintro e w3 ⟨rfl,S3,hw3,hm3,hs3⟩;have HW3:=Lib.hid hw3;have HM3:=Lib.hid hm3;have HS3:=Lib.hid hs3;have HO3:=Lib.hid (own_keep HO2.out hm3 (fun k hk hS => by have:=own_base HO2.out k hk;have:=HW.out.lt _ hS;omega));clear hw3 hm3 hs3)
  | (go_at_call 152;refine (new_low A2 l c2 (zN os) w3.heap.size w3 (by rw [zN_len];exact HLL.out) (by omega) (by rw [show (zN os).map ic = nCs os from nCs_ic _];exact Cells.of_own HO3.out) (Nat.le_refl _) HR.out).mono ?_;rintro e w5 ⟨g,rfl,hlc,hb5⟩;have HLC:=Lib.hid hlc;have HB5:=Lib.hid hb5;clear hlc hb5))
 go_ret
 refine ⟨g,w3.heap.size,S3,rfl,HW3.out.keep (Mod.of_below HB5.out) (fun _ _ h => h),?_,fun k hk => (HS3.out k hk).imp id (fun h => Nat.le_trans HB2.out.size h),HLC.out,HW3.out.lt,?_⟩
 ·exact (((Mod.of_below HB2.out).mono (fun _ h => h.elim)).then_ HM3.out).then_ ((Mod.of_below HB5.out).mono fun _ h => h.elim)
 ·obtain ⟨_,_,_,_,_,_,_,h,_⟩:=HLC.out
  exact cb_lt h
structure BkI (w4 W:World) (q base:Nat) (S4 S':Nat→Prop) (M:List Bool):Prop where
 wr:WrS W q base S' M
 mod:Mod S4 w4 W
 own:∀ k,S' k→S4 k ∨ w4.heap.size ≤ k
section
variable {w4 X Y:World} {q base:Nat} {S4 S1 S2:Nat→Prop} {M M2:List Bool}
theorem BkI.next (h:BkI w4 X q base S4 S1 M) (hw:WrS Y q base S2 M2) (hm:Mod S1 X Y) (hs:∀ k,S2 k→S1 k ∨ X.heap.size ≤ k):BkI w4 Y q base S4 S2 M2 :=
 ⟨hw,h.mod.trans hm h.own,fun k hk => (hs k hk).elim (h.own k) (fun h2 => .inr (Nat.le_trans h.mod.size h2))⟩
theorem BkI.below (h:BkI w4 X q base S4 S1 M) (hb:Below X.heap.size X Y):BkI w4 Y q base S4 S1 M :=
 ⟨h.wr.keep (Mod.of_below hb) (fun _ _ h => h),h.mod.then_ ((Mod.of_below hb).mono fun _ h => h.elim),h.own⟩
end
theorem clsB_len {zs:List Int} (hr:caR zs = true) {c:Nat × Nat × Nat} (hc:c.2.1 ≤ 13):(clsB zs c).length ≤ 28:=by
 have h:=symB_len hr (c.1:Int)
 unfold clsB
 rw [List.length_append,bitsOf_length]
 omega
theorem toksB_len {z1 z2:List Int} (h1:caR z1 = true) (h2:caR z2 = true):∀ {ts:List Tk},(∀ t ∈ ts,okT t)→(toksB z1 z2 ts).length ≤ 56 * ts.length
 | [],_ => Nat.zero_le _
 | t :: ts,h => by
  have hok:=h t List.mem_cons_self
  have ih:=toksB_len h1 h2 (ts:=ts) (fun x hx => h x (List.mem_cons_of_mem _ hx))
  have a1:=clsB_len h1 (cls1_lt hok).2.1
  have a2:=clsB_len h2 (cls2_lt hok).2.1
  have e:toksB z1 z2 (t :: ts) = tokB z1 z2 t++toksB z1 z2 ts:=rfl
  rw [e,List.length_append,List.length_cons]
  have a3:(tokB z1 z2 t).length ≤ 56:=by
   unfold tokB
   rw [List.length_append]
   split
   ·omega
   ·rw [List.length_nil];omega
  omega
theorem TkAt.mod {w W:World} {S:Nat→Prop} {A:Option Addr} {k:Nat} {y l d:Int} (h:TkAt w A k y l d) (hm:Mod S w W) (hA:∀ a,A = some a→¬ S a.block):TkAt W A k y l d:=by
 obtain ⟨b,o,rfl,h2,h3,h4,h5⟩:=h
 have hb:=hm.block b h2 (hA _ rfl)
 exact ⟨b,o,rfl,Nat.lt_of_lt_of_le h2 hm.size,(World.cell?_of_block (a:=⟨b,o + k * 3,none⟩) hb).trans h3,(World.cell?_of_block (a:=⟨b,o + k * 3 + 1,none⟩) hb).trans h4,(World.cell?_of_block (a:=⟨b,o + k * 3 + 2,none⟩) hb).trans h5⟩
set_option maxRecDepth 100000 in
set_option maxHeartbeats 4000000 in
theorem blkput_any (A:Option Addr) (l c q base:Nat) (ts:List Tk) (S:Nat→Prop) (L:List Bool) (w:World) (hl:ts.length = l) (hm:l ≤ 65536) (hk:∀ t ∈ ts,okT t) (hc:∀ k t,ts[k]? = some t→TkAt w A k (t.1.toNat:Int) (t.2.1:Int) (t.2.2:Int)) (hA:0 < l→∀ a,A = some a→¬ S a.block)
  (hw:WrS w q base S L) (hL:L.length ≤ 1000) (hbase:base ≤ w.heap.size) :
  Calls Tryz.prog 65 #[.pointer (some ⟨q,0,none⟩),.slice A l c] w fun e w' => e = .returned (.int .i64 0)∧∃ S',WrS w' q base S' (L++blkB ts)∧Mod S w w'∧∀ k,S' k→S k ∨ w.heap.size ≤ k:=by
 have HWT:=Lib.hid (weights_gen A l c ts w hm hk hc (.inl hl))
 have HW:=Lib.hid hw
 have HK:=Lib.hid hk
 have HL:=Lib.hid hl
 have HA:=Lib.hid hA
 have HC:=Lib.hid hc
 have HR1:Hid (caR (zN (lensW (wt1 ts))) = true):=by
  obtain ⟨x,hx,h0⟩:=wt1_end ts
  exact lensW_caR (by rw [wt1_len];omega) hx h0
 have HR2:Hid (caR (zN (lensW (wt2 ts))) = true):=by
  obtain ⟨s,x,hx,h0⟩:=wt2_some ts hk
  exact lensW_caR (by rw [wt2_len];omega) hx h0
 have HSL:Hid (∀ k,S k→k < w.heap.size):=hw.lt
 clear hw hk hl hA hc
 go_enter Tryz.func65,Tryz.ntmps65
 go_wp2_with fail
 refine HWT.out.mono ?_
 rintro e w2 ⟨hb2,⟨hlt,_⟩ | ⟨_,g1,g2,rfl,hn1,hn2,hg1,hg2⟩⟩
 ·have:=HL.out
  omega
 have HB2:=Lib.hid hb2
 have hw2s:=hb2.size
 have HN1:=Lib.hid hn1
 have HN2:=Lib.hid hn2
 have HT1:=Lib.hid (putTable_any (some ⟨g1,0,none⟩) 273 273 q base (wt1 ts) S L w2 (wt1_len ts) (by omega) (NB.cellsT hn1) (fun x hx => by
   have h1:=incW_le 273 _ x hx
   rw [List.length_append,fsts,List.length_map,HL.out] at h1
   simp at h1
   omega) (by obtain ⟨x,h1,h2⟩:=wt1_end ts;exact ⟨256,x,h1,h2⟩) (HW.out.keep (Mod.of_below hb2) (fun _ _ h => h)) (by omega) (by omega))
 have HT2:Hid (∀ (W:World) (S':Nat→Prop) (L':List Bool),NB W g2 (wt2 ts)→WrS W q base S' L'→L'.length ≤ 100000000→base ≤ W.heap.size→_):=fun W S' L' hn hw hl hb => putTable_any (some ⟨g2,0,none⟩) 30 30 q base (wt2 ts) S' L' W (wt2_len ts) (by omega) (NB.cellsT hn) (fun x hx => by
   have h1:=incW_le 30 _ x hx
   have h2:=mts_len ts
   split at h1
   ·simp at h1;omega
   ·have:=HL.out;omega) (wt2_some ts HK.out) hw hl hb
 have HTL:Hid (∀ ws:List Nat,ws.length ≤ 320→(∃ s x:Nat,ws[s]? = some x∧0 < x)→(tabP (lensW ws)).length ≤ 100000):=fun ws hws hex => by
  obtain ⟨s,x,hx,h0⟩:=hex
  have hv:∀ y ∈ lensW ws,y ≤ 15:=fun y hy => by
   obtain ⟨k,hk⟩:=List.mem_iff_getElem?.1 hy
   have hkl:=(List.getElem?_eq_some_iff.1 hk).1
   rw [lensW_len] at hkl
   have h2:=(lensW_pos (ns:=ws) (by omega) (List.getElem?_eq_getElem hkl)).2
   rw [List.getD,hk] at h2
   exact h2
  obtain ⟨t,ht⟩:=partsP_ne (ls:=lensW ws) (by rw [lensW_len];have:=(List.getElem?_eq_some_iff.1 hx).1;omega)
  have h2:=partsB_len (lnP_right ht (partsP_all hv t ht)) (partsP (lensW ws) 0)
  have h3:=parts_few (lensW ws)
  rw [lensW_len] at h3
  rw [tabP,List.length_append,List.length_append,bitsOf_length,lensB_len,lnP_len]
  omega
 have HTL1:=HTL.out (wt1 ts) (by rw [wt1_len];omega) (by obtain ⟨x,h1,h2⟩:=wt1_end ts;exact ⟨256,x,h1,h2⟩)
 have HTL2:=HTL.out (wt2 ts) (by rw [wt2_len];omega) (wt2_some ts HK.out)
 obtain ⟨z1,hz1⟩:∃ z1,zN (lensW (wt1 ts)) = z1:=⟨_,rfl⟩
 obtain ⟨z2,hz2⟩:∃ z2,zN (lensW (wt2 ts)) = z2:=⟨_,rfl⟩
 obtain ⟨T1,hT1⟩:∃ T1,tabP (lensW (wt1 ts)) = T1:=⟨_,rfl⟩
 obtain ⟨T2,hT2⟩:∃ T2,tabP (lensW (wt2 ts)) = T2:=⟨_,rfl⟩
 have HBLK:Hid (L++blkB ts = ((L++T1)++T2)++toksB z1 z2 ts++symB z1 256):=by show _ = _;rw [blkB,hz1,hz2,hT1,hT2];simp only [List.append_assoc]
 rw [hz1] at HR1
 rw [hz2] at HR2
 rw [hz1,hT1] at HT1
 rw [hT1] at HTL1
 rw [hT2] at HTL2
 rw [hz2,hT2] at HT2
 clear hn1 hn2 hb2 hz1 hz2 hT1 hT2 HTL HWT
 go_wp2_with (first
  | (go_at_call 108;refine HT1.out.mono ?_;rintro e w3 ⟨ga,na,S3,rfl,hw3,hm3,hs3,hla,hna,hga⟩;clear HT1;have HW3:=Lib.hid hw3;have HM3:=Lib.hid hm3;have HS3:=Lib.hid hs3;have HLA:=Lib.hid hla;have HNA:=Lib.hid hna;have HGA:=Lib.hid hga;have HN3:=Lib.hid (show NB w3 g2 (wt2 ts) from hm3.keep HN2.out (fun h => by have:=HSL.out g2 h;omega));clear hw3 hm3 hs3 hla hna hga)
  | (go_at_call 108;refine (HT2.out w3 S3 _ HN3.out HW3.out (by rw [List.length_append];omega) (by have:=HM3.out.size;omega)).mono ?_;rintro e w4 ⟨gb,nb,S4,rfl,hw4,hm4,hs4,hlb,hnb,hgb⟩;have HW4:=Lib.hid hw4;have HM4:=Lib.hid hm4;have HS4:=Lib.hid hs4;have HLB:=Lib.hid hlb;have HNB4:=Lib.hid hnb;have HLA4:=Lib.hid (HLA.out.keep2 hm4 (fun k hk => .inl (HNA.out k hk)));clear hw4 hm4 hs4 hlb hnb hgb))
 have HOW:Hid (∀ k,S4 k→S k ∨ w.heap.size ≤ k):=fun k hk => (HS4.out k hk).elim (fun h => (HS3.out k h).imp id (fun h => by have:=HB2.out.size;omega)) (fun h => .inr (by have:=HB2.out.size;have:=HM3.out.size;omega))
 have HMW:Hid (∀ W,Mod S4 w4 W→Mod S w W):=fun W hW => ((((Mod.of_below HB2.out).mono (fun _ h => h.elim)).then_ HM3.out).trans HM4.out (fun k hk => (HS3.out k hk).imp id (fun h => by have:=HB2.out.size;omega))).trans hW HOW.out
 have HLAW:Hid (∀ W,Mod S4 w4 W→LCa W na ga z1):=fun W hW => HLA4.out.keep2 hW (fun k hk => (HS4.out k hk).imp (HNA.out k) (fun h => by have:=HGA.out;omega))
 have HLBW:Hid (∀ W,Mod S4 w4 W→LCa W nb gb z2):=fun W hW => HLB.out.keep hW HNB4.out
 obtain ⟨M4,hM4⟩:∃ M4,(L++T1)++T2 = M4:=⟨_,rfl⟩
 have HM4E:=Lib.hid hM4
 have hM4l:M4.length ≤ 300000:=by rw [← hM4,List.length_append,List.length_append];omega
 have HI0:Hid (BkI w4 w4 q base S4 S4 (M4++toksB z1 z2 (ts.take 0))):=⟨by have h:=HW4.out;rw [hM4] at h;simpa [toksB] using h,Mod.refl _ _,fun _ h => .inl h⟩
 have HTB:Hid (∀ k,(toksB z1 z2 (ts.take k)).length ≤ 3700000):=fun k => by
  have h:=toksB_len HR1.out HR2.out (ts:=ts.take k) (fun t ht => HK.out t (List.mem_of_mem_take ht))
  rw [List.length_take] at h
  omega
 clear hM4 HW4 HN1 HN2 HN3 HLA HW3 HTL1 HTL2 HT2
 go_loopg [32] l (fun gk i wr => ∃ (k:Nat) (S':Nat→Prop),k + gk = l∧i = .int .i64 (k:Int)∧BkI w4 wr q base S4 S' (M4++toksB z1 z2 (ts.take k)))
 case atStart => exact ⟨0,S4,by omega,rfl,HI0.out⟩
 case round =>
  obtain ⟨k,S',hkg,rfl,hbi⟩:=hrel
  have HBI:=Lib.hid hbi
  have htb:=HTB.out k
  have hlen:(M4++toksB z1 z2 (ts.take k)).length ≤ 4000000:=by rw [List.length_append];omega
  clear hbi HI0
  by_cases hkl:k < l
  ·obtain ⟨t,ht⟩:∃ t,ts[k]? = some t:=⟨_,List.getElem?_eq_getElem (by rw [HL.out];exact hkl)⟩
   have hok:=HK.out t (List.mem_of_getElem? ht)
   have HSP:=Lib.hid (fun W => splitT_any t W hok)
   have hc1:=cls1_lt hok
   have hc2:=cls2_lt hok
   have HTK:Hid (toksB z1 z2 (ts.take (k + 1)) = toksB z1 z2 (ts.take k)++tokB z1 z2 t):=by show _ = _;rw [List.take_add_one,ht,← toksB_snoc];rfl
   have HTO:Hid (tokB z1 z2 t = clsB z1 (cls1 t)++(if isM t then clsB z2 (cls2 t) else [])):=rfl
   obtain ⟨b,o,rfl,hbB,v0,v1,v2⟩:=(HC.out k t ht).mod (HMW.out wr HBI.out.mod) (HA.out (by omega))
   obtain ⟨⟨n1,b1,x1⟩,hq1⟩:∃ q,cls1 t = q:=⟨_,rfl⟩
   obtain ⟨⟨n2,b2,x2⟩,hq2⟩:∃ q,cls2 t = q:=⟨_,rfl⟩
   rw [hq1] at HSP HTO hc1
   rw [hq2] at HSP HTO hc2
   obtain ⟨m,hmm⟩:∃ m,isM t = m:=⟨_,rfl⟩
   rw [hmm] at HSP HTO
   dsimp only at HSP hc1 hc2
   clear ht hok hq1 hq2 hmm htb hbB
   cases m with
   | true =>
     go_upto_region 11 with (go_at_call 109;refine (HSP.out _).mono ?_;rintro e w6 ⟨rfl,hb6⟩;unfold agR;have hb7:=((Below.refl wr.heap.size wr).alloc (Nat.le_refl _) (.cells #[.int .u8 (t.1.toNat:Int),.int .i64 (t.2.1:Int),.int .i64 (t.2.2:Int)] 164)).trans (hb6.mono (by simp));obtain ⟨W5,hW5⟩:∃ W5,w6.alloc (.cells #[.int .i64 (n1:Int),.int .i64 (b1:Int),.int .u32 (x1:Int),.int .i64 (n2:Int),.int .i64 (b2:Int),.int .u32 (x2:Int),.bool true] 168) = W5:=⟨_,rfl⟩;have hb8:Below wr.heap.size wr W5:=(by rw [← hW5];exact hb7.alloc hb7.size _);have hx5:W5.heap[w6.heap.size]? = some (.cells #[.int .i64 (n1:Int),.int .i64 (b1:Int),.int .u32 (x1:Int),.int .i64 (n2:Int),.int .i64 (b2:Int),.int .u32 (x2:Int),.bool true] 168 (0,0)):=(by rw [← hW5];exact heap_alloc_new w6 _);have hs6:wr.heap.size ≤ w6.heap.size:=hb7.size;have HW5:=Lib.hid hW5;clear hW5 hb6 hb7)
     rw [HW5.out]
     have HI5:=Lib.hid (HBI.out.below hb8)
     have HX5:=Lib.hid hx5
     have r0:W5.cell? ⟨w6.heap.size,0,none⟩ = some (.int .i64 (n1:Int)):=cell_of_row _ _ 0 _ _ _ hx5
     have r1:W5.cell? ⟨w6.heap.size,1,none⟩ = some (.int .i64 (b1:Int)):=cell_of_row _ _ 1 _ _ _ hx5
     have r2:W5.cell? ⟨w6.heap.size,2,none⟩ = some (.int .u32 (x1:Int)):=cell_of_row _ _ 2 _ _ _ hx5
     have hbw5:base ≤ W5.heap.size:=by have:=HI5.out.mod.size;have:=HM4.out.size;have:=HM3.out.size;omega
     have HP1:=Lib.hid (putClass_any ga q base na z1 S' (M4++toksB z1 z2 (ts.take k)) (n1,b1,x1) W5 HR1.out (HLAW.out W5 HI5.out.mod) HI5.out.wr (by omega) hbw5 hc1.2.1 hc1.2.2)
     have HLT:Hid (∀ j,S' j→j < wr.heap.size):=HBI.out.wr.lt
     clear hb8 hx5 HW5
     go_wp2_with (first
      | (go_at_call 110;refine HP1.out.mono ?_;rintro e w7 ⟨rfl,S7,hw7,hm7,hs7⟩;clear HP1;have HI7:=Lib.hid (HI5.out.next hw7 hm7 hs7);have hx7:=hm7.keep HX5.out (fun h => by have:=HLT.out _ h;omega);have r3:w7.cell? ⟨w6.heap.size,3,none⟩ = some (.int .i64 (n2:Int)):=cell_of_row _ _ 3 _ _ _ hx7;have r4:w7.cell? ⟨w6.heap.size,4,none⟩ = some (.int .i64 (b2:Int)):=cell_of_row _ _ 4 _ _ _ hx7;have r5:w7.cell? ⟨w6.heap.size,5,none⟩ = some (.int .u32 (x2:Int)):=cell_of_row _ _ 5 _ _ _ hx7;have r6:w7.cell? ⟨w6.heap.size,6,none⟩ = some (.bool true):=cell_of_row _ _ 6 _ _ _ hx7;have HP2:=Lib.hid (putClass_any gb q base nb z2 S7 ((M4++toksB z1 z2 (ts.take k))++clsB z1 (n1,b1,x1)) (n2,b2,x2) w7 HR2.out (HLBW.out w7 HI7.out.mod) HI7.out.wr (by rw [List.length_append];have:=clsB_len HR1.out (c:=(n1,b1,x1)) hc1.2.1;omega) (by have:=hm7.size;omega) hc2.2.1 hc2.2.2);clear hw7 hm7 hs7 hx7)
      | (go_at_call 110;refine HP2.out.mono ?_;rintro e w8 ⟨rfl,S8,hw8,hm8,hs8⟩;have HI8:=Lib.hid (HI7.out.next hw8 hm8 hs8);clear hw8 hm8 hs8))
     go_roundg (gk - 1)
     case measure => omega
     case rel =>
      refine ⟨k + 1,S8,by omega,by go_num,?_⟩
      have h:=HI8.out
      rw [HTK.out,HTO.out]
      simpa only [if_true,Bool.false_eq_true,if_false,List.append_nil,List.append_assoc] using h
   | false =>
     go_upto_region 11 with (go_at_call 109;refine (HSP.out _).mono ?_;rintro e w6 ⟨rfl,hb6⟩;unfold agR;have hb7:=((Below.refl wr.heap.size wr).alloc (Nat.le_refl _) (.cells #[.int .u8 (t.1.toNat:Int),.int .i64 (t.2.1:Int),.int .i64 (t.2.2:Int)] 164)).trans (hb6.mono (by simp));obtain ⟨W5,hW5⟩:∃ W5,w6.alloc (.cells #[.int .i64 (n1:Int),.int .i64 (b1:Int),.int .u32 (x1:Int),.int .i64 (n2:Int),.int .i64 (b2:Int),.int .u32 (x2:Int),.bool false] 168) = W5:=⟨_,rfl⟩;have hb8:Below wr.heap.size wr W5:=(by rw [← hW5];exact hb7.alloc hb7.size _);have hx5:W5.heap[w6.heap.size]? = some (.cells #[.int .i64 (n1:Int),.int .i64 (b1:Int),.int .u32 (x1:Int),.int .i64 (n2:Int),.int .i64 (b2:Int),.int .u32 (x2:Int),.bool false] 168 (0,0)):=(by rw [← hW5];exact heap_alloc_new w6 _);have hs6:wr.heap.size ≤ w6.heap.size:=hb7.size;have HW5:=Lib.hid hW5;clear hW5 hb6 hb7)
     rw [HW5.out]
     have HI5:=Lib.hid (HBI.out.below hb8)
     have HX5:=Lib.hid hx5
     have r0:W5.cell? ⟨w6.heap.size,0,none⟩ = some (.int .i64 (n1:Int)):=cell_of_row _ _ 0 _ _ _ hx5
     have r1:W5.cell? ⟨w6.heap.size,1,none⟩ = some (.int .i64 (b1:Int)):=cell_of_row _ _ 1 _ _ _ hx5
     have r2:W5.cell? ⟨w6.heap.size,2,none⟩ = some (.int .u32 (x1:Int)):=cell_of_row _ _ 2 _ _ _ hx5
     have hbw5:base ≤ W5.heap.size:=by have:=HI5.out.mod.size;have:=HM4.out.size;have:=HM3.out.size;omega
     have HP1:=Lib.hid (putClass_any ga q base na z1 S' (M4++toksB z1 z2 (ts.take k)) (n1,b1,x1) W5 HR1.out (HLAW.out W5 HI5.out.mod) HI5.out.wr (by omega) hbw5 hc1.2.1 hc1.2.2)
     have HLT:Hid (∀ j,S' j→j < wr.heap.size):=HBI.out.wr.lt
     clear hb8 hx5 HW5
     go_wp2_with (first
      | (go_at_call 110;refine HP1.out.mono ?_;rintro e w7 ⟨rfl,S7,hw7,hm7,hs7⟩;clear HP1;have HI7:=Lib.hid (HI5.out.next hw7 hm7 hs7);have hx7:=hm7.keep HX5.out (fun h => by have:=HLT.out _ h;omega);have r3:w7.cell? ⟨w6.heap.size,3,none⟩ = some (.int .i64 (n2:Int)):=cell_of_row _ _ 3 _ _ _ hx7;have r4:w7.cell? ⟨w6.heap.size,4,none⟩ = some (.int .i64 (b2:Int)):=cell_of_row _ _ 4 _ _ _ hx7;have r5:w7.cell? ⟨w6.heap.size,5,none⟩ = some (.int .u32 (x2:Int)):=cell_of_row _ _ 5 _ _ _ hx7;have r6:w7.cell? ⟨w6.heap.size,6,none⟩ = some (.bool false):=cell_of_row _ _ 6 _ _ _ hx7; clear hw7 hm7 hs7 hx7))
     go_roundg (gk - 1)
     case measure => omega
     case rel =>
      refine ⟨k + 1,S7,by omega,by go_num,?_⟩
      have h:=HI7.out
      rw [HTK.out,HTO.out]
      simpa only [if_true,Bool.false_eq_true,if_false,List.append_nil,List.append_assoc] using h
  ·obtain rfl:k = l:=by omega
   rw [show ts.take k = ts from List.take_of_length_le (by rw [HL.out];exact Nat.le_refl _)] at HBI hlen
   have HP9:=Lib.hid (put8_any ga q base z1 S' (M4++toksB z1 z2 ts) 256 wr HR1.out (HLAW.out wr HBI.out.mod).lc HBI.out.wr (by omega) (by have:=HBI.out.mod.size;have:=HM4.out.size;have:=HM3.out.size;omega))
   go_wp2_with (go_at_call 111;refine HP9.out.mono ?_;rintro e w9 ⟨rfl,S9,hw9,hm9,hs9⟩;have HI9:=Lib.hid (HBI.out.next hw9 hm9 hs9);clear hw9 hm9 hs9)
   go_ret
   refine ⟨rfl,S9,?_,HMW.out _ HI9.out.mod,fun j hj => (HI9.out.own j hj).elim (HOW.out j) (fun h => .inr (by have:=HM4.out.size;have:=HM3.out.size;have:=HB2.out.size;omega))⟩
   have h:=HI9.out.wr
   rw [HBLK.out,HM4E.out]
   exact h
end Go.Proofs.YtaknladkodibaaaGreatDoor
namespace Go.Proofs.YtaknladkodibaaaGreatDoor
open BitsP SymP
theorem tokAt_kind (bs:List UInt8) (lv:Int) (p:Nat):tokAt bs lv p = (bs.getD p 0,0,0) ∨
  ∃ n d:Nat,tokAt bs lv p = (0,n,d)∧3 ≤ n∧n ≤ 258∧1 ≤ d∧d ≤ 32768∧d ≤ p∧p + n ≤ bs.length:=by
 unfold tokAt
 split
 ·exact .inl rfl
 ·rename_i h
  refine .inr ⟨_,_,rfl,?_⟩
  rcases bestM_of bs (p:Int) (depthN lv) with h0 | ⟨hd,hn⟩
  ·exact absurd (.inl (by rw [h0])) h
  ·have h3:=lenI_three hd
   have hb:=bestM_le bs (p:Int) (depthN lv)
   obtain ⟨_,hc1,hc2,hc3,hc4,_⟩:=cand_of hd
   rw [hn] at hb ⊢
   have hr:=lenI_at bs (a:=p) (d:=(bestM bs (p:Int) (depthN lv)).2) (by omega) hc2 hc3 (by omega)
   rw [hr] at h3 hb ⊢
   have hle:=runM_le bs p (bestM bs (p:Int) (depthN lv)).2 (capM bs p) 0
   have hcap:capM bs p ≤ bs.length - p:=by unfold capM;omega
   exact ⟨h3,hb,hc2,hc3,by omega,by omega⟩
theorem tokAt_okT (bs:List UInt8) (lv:Int) (p:Nat):okT (tokAt bs lv p):=by
 rcases tokAt_kind bs lv p with h | ⟨n,d,h,h1,h2,h3,h4,_⟩
 ·rw [h];exact .inl ⟨rfl,rfl⟩
 ·rw [h];exact .inr ⟨h1,h2,h3,h4,rfl⟩
theorem tokAt_fit {bs:List UInt8} {lv:Int} {p:Nat} (hp:p < bs.length):p + max (tokAt bs lv p).2.1 1 ≤ bs.length∧(tokAt bs lv p).2.2 ≤ p:=by
 rcases tokAt_kind bs lv p with h | ⟨n,d,h,h1,h2,h3,h4,h5,h6⟩
 ·rw [h];exact ⟨by simp;omega,Nat.zero_le _⟩
 ·rw [h];exact ⟨by show p + max n 1 ≤ _;omega,h5⟩
theorem toks_okT (bs:List UInt8) (lv:Int):∀ (k p:Nat),bs.length - p ≤ k→∀ t ∈ toks bs lv p,okT t
 | 0,p,h => by rw [toks_end (by omega)];intro t ht;cases ht
 | k + 1,p,h => by
  by_cases hp:p < bs.length
  ·have h1:=tsz_pos (tokAt bs lv p)
   rw [toks_step hp]
   intro t ht
   rcases List.mem_cons.1 ht with rfl | ht
   ·exact tokAt_okT _ _ _
   ·exact toks_okT bs lv k _ (by omega) t ht
  ·rw [toks_end (by omega)];intro t ht;cases ht
def tooT (most:Int):List Tk→Nat→Prop
 | [],_ => False
 | t :: ts,size => t.2.2 ≤ size∧(most < ((size + max t.2.1 1:Nat):Int) ∨ (((size + max t.2.1 1:Nat):Int) ≤ most∧tooT most ts (size + max t.2.1 1)))
theorem blkL_too {F:List Int→List Bool→Int × Int × Nat} (hF:FunT F) {al:List Tk} {most:Int} {L R:List Bool}:∀ (k:Nat) (pre ts:List Tk) (size p:Nat),al = pre++ts→ts.length < k→(∀ t ∈ ts,okT t)→tooT most ts size →
  L.drop p = toksB (zN (lensW (wt1 al))) (zN (lensW (wt2 al))) ts++(symB (zN (lensW (wt1 al))) 256++R) →
  blkL F (zN (lensW (wt1 al))) (zN (lensW (wt2 al))) L most k pre size p = (5,[],0)
 | 0,pre,ts,size,p,_,hk,_,_,_ => by omega
 | k + 1,pre,[],size,p,ha,_,_,hg,hd => hg.elim
 | k + 1,pre,t :: ts,size,p,ha,hk,hok,hg,hd => by
  have h1:=hok t List.mem_cons_self
  have hin:t ∈ al:=by rw [ha];simp
  obtain ⟨hdist,hg2⟩:=hg
  obtain ⟨hj,hiff,hne⟩:=joinR_back h1
  obtain ⟨x,hx,h0⟩:=wt1_has hin h1
  rw [tokB_parts,List.append_assoc] at hd
  have hc:=clsF_back hF (by rw [wt1_len];omega) (c:=cls1 t) (zr:=257) hx h0 (wd1 h1) (cls1_lt h1).2.2 hd
  have hd2:=drop_more hd
  have hy:UInt8.ofNat t.1.toNat = t.1:=by simp
  have ih:=fun p' hg' hd' => blkL_too hF (al:=al) (most:=most) (L:=L) (R:=R) k (pre++[t]) ts (size + max t.2.1 1) p' (by rw [ha];simp) (by simp at hk;omega) (fun x hx => hok x (List.mem_cons_of_mem _ hx)) hg' hd'
  by_cases hm:isM t = true
  ·have h256:=hiff.2 hm
   obtain ⟨x2,hx2,h02⟩:=wt2_has hin h1 hm
   rw [if_pos hm,List.append_assoc] at hd2
   have hc2:=clsF_back hF (by rw [wt2_len];omega) (c:=cls2 t) (zr:=0) hx2 h02 (wd2 h1 hm) (cls2_lt h1).2.2 hd2
   have hd3:=drop_more hd2
   rw [if_pos h256] at hj
   rw [blkL,hc]
   dsimp only
   rw [if_neg (by simp),if_neg hne,hc2]
   dsimp only
   rw [if_neg (by simp),if_pos h256,if_pos h256,hj]
   dsimp only
   rw [if_neg (by omega)]
   rcases hg2 with hg2 | ⟨hg2,hg3⟩
   ·rw [if_pos (by omega)]
   ·rw [if_neg (by omega),hy,ih _ hg3 hd3]
  ·have h256:¬ 256 < (cls1 t).1:=fun h => hm (hiff.1 h)
   rw [if_neg hm,List.nil_append] at hd2
   rw [if_neg h256] at hj
   rw [blkL,hc]
   dsimp only
   rw [if_neg (by simp),if_neg hne,if_neg (fun h => h256 h.1),if_neg h256,if_neg h256,hj,Nat.add_zero]
   dsimp only
   rw [if_neg (by omega)]
   rcases hg2 with hg2 | ⟨hg2,hg3⟩
   ·rw [if_pos (by omega)]
   ·rw [if_neg (by omega),hy,ih _ hg3 hd2]
theorem blkF_too {F:List Int→List Bool→Int × Int × Nat} (hF:FunT F) {ts:List Tk} (hok:∀ t ∈ ts,okT t) {most:Int} (hg:tooT most ts 0) {L R:List Bool} {p:Nat} (hd:L.drop p = blkB ts++R):blkF F L p most = (5,[],0):=by
 have hl1:(lensW (wt1 ts)).length = 273:=by rw [lensW_len,wt1_len]
 have hl2:(lensW (wt2 ts)).length = 30:=by rw [lensW_len,wt2_len]
 have hr1:caR (zN (lensW (wt1 ts))) = true:=by
  obtain ⟨x,hx,h0⟩:=wt1_end ts
  exact lensW_caR (by rw [wt1_len];omega) hx h0
 have hr2:caR (zN (lensW (wt2 ts))) = true:=by
  obtain ⟨s,x,hx,h0⟩:=wt2_some ts hok
  exact lensW_caR (by rw [wt2_len];omega) hx h0
 have hB:blkB ts = tabP (lensW (wt1 ts))++(tabP (lensW (wt2 ts))++(toksB (zN (lensW (wt1 ts))) (zN (lensW (wt2 ts))) ts++symB (zN (lensW (wt1 ts))) 256)):=by unfold blkB;simp only [List.append_assoc]
 rw [hB] at hd
 simp only [List.append_assoc] at hd
 have ht1:=tkF_back hF (by rw [hl1];omega) (by rw [hl1];omega) (lensW_le (by rw [wt1_len];omega)) hd
 have hd2:=drop_more hd
 have ht2:=tkF_back hF (by rw [hl2];omega) (by rw [hl2];omega) (lensW_le (by rw [wt2_len];omega)) hd2
 have hd3:=drop_more hd2
 have hge:=toksB_ge (al:=ts) ts (fun t ht => ⟨ht,hok t ht⟩)
 have hlen:=congrArg List.length hd3
 rw [List.length_drop,List.length_append,List.length_append] at hlen
 have hs1:1 ≤ (symB (zN (lensW (wt1 ts))) 256).length:=by
  obtain ⟨x,hx,h0⟩:=wt1_end ts
  obtain ⟨n,v,k,hy,_,hs,_,_⟩:=lensW_sym (by rw [wt1_len];omega) hx h0
  have h2:symB (zN (lensW (wt1 ts))) 256 = codeB v n:=hs
  rw [h2,codeB_len]
  exact hy.one
 have hbl:=blkL_too hF (al:=ts) (most:=most) (L:=L) (R:=R) (L.length + 1 - (p + (tabP (lensW (wt1 ts))).length + (tabP (lensW (wt2 ts))).length)) [] ts 0 (p + (tabP (lensW (wt1 ts))).length + (tabP (lensW (wt2 ts))).length) rfl (by omega) hok hg hd3
 have hz1:((lensW (wt1 ts)).map fun n:Nat => (n:Int)) = zN (lensW (wt1 ts)):=rfl
 have hz2:((lensW (wt2 ts)).map fun n:Nat => (n:Int)) = zN (lensW (wt2 ts)):=rfl
 unfold blkF
 rw [ht1]
 dsimp only
 rw [if_neg (by simp),ht2]
 dsimp only
 rw [if_neg (by simp),hl1,hl2,if_neg (by omega),hz1,hz2,if_neg (by rw [hr1,hr2];simp),hbl]
theorem tab_few {ws:List Nat} (hws:ws.length ≤ 320) (hex:∃ s x:Nat,ws[s]? = some x∧0 < x):(tabP (lensW ws)).length ≤ 100000:=by
 obtain ⟨s,x,hx,h0⟩:=hex
 have hv:=lensW_le hws
 obtain ⟨t,ht⟩:=partsP_ne (ls:=lensW ws) (by rw [lensW_len];have:=(List.getElem?_eq_some_iff.1 hx).1;omega)
 have h2:=partsB_len (lnP_right ht (partsP_all hv t ht)) (partsP (lensW ws) 0)
 have h3:=parts_few (lensW ws)
 rw [lensW_len] at h3
 rw [tabP,List.length_append,List.length_append,bitsOf_length,lensB_len,lnP_len]
 omega
theorem blkB_few {ts:List Tk} (hok:∀ t ∈ ts,okT t):(blkB ts).length ≤ 200015 + 56 * ts.length:=by
 have h1:=tab_few (ws:=wt1 ts) (by rw [wt1_len];omega) (by obtain ⟨x,h1,h2⟩:=wt1_end ts;exact ⟨256,x,h1,h2⟩)
 have h2:=tab_few (ws:=wt2 ts) (by rw [wt2_len];omega) (wt2_some ts hok)
 have hr1:caR (zN (lensW (wt1 ts))) = true:=by
  obtain ⟨x,hx,h0⟩:=wt1_end ts
  exact lensW_caR (by rw [wt1_len];omega) hx h0
 have hr2:caR (zN (lensW (wt2 ts))) = true:=by
  obtain ⟨s,x,hx,h0⟩:=wt2_some ts hok
  exact lensW_caR (by rw [wt2_len];omega) hx h0
 have h3:=toksB_len hr1 hr2 hok
 have h4:=symB_len hr1 256
 rw [blkB,List.length_append,List.length_append,List.length_append]
 omega
end Go.Proofs.YtaknladkodibaaaGreatDoor
namespace Go.Proofs.YtaknladkodibaaaGreatDoor
open Go.RowKit BitsP SymP
attribute [local go_sem ↓] Go.wp_at_zero Go.wp_at_succ
end Go.Proofs.YtaknladkodibaaaGreatDoor
namespace Go.Proofs.YtaknladkodibaaaGreatDoor
open Go.RowKit BitsP SymP
def ToksOf (w:World) (A:Option Addr) (l:Nat) (ts:List Tk):Prop :=
 (∀ t ∈ ts,okT t)∧(∀ k t,ts[k]? = some t→TkAt w A k (t.1.toNat:Int) (t.2.1:Int) (t.2.2:Int))∧(ts.length = l ∨ (ts.length < l∧∃ y ln d,TkAt w A ts.length y ln d∧rightT y ln d = false))
theorem ToksOf.below {w W:World} {A:Option Addr} {l:Nat} {ts:List Tk} (h:ToksOf w A l ts) (hb:Below w.heap.size w W):ToksOf W A l ts :=
 ⟨h.1,fun k t ht => (h.2.1 k t ht).below hb,h.2.2.imp id fun ⟨h1,y,ln,d,h2,h3⟩ => ⟨h1,y,ln,d,h2.below hb,h3⟩⟩
section
variable {A:Option Addr} {l c:Nat} {ts:List Tk} {w:World}
end
theorem takeR_one {zs:List Int} {m:Nat} {U:List Bool} {s e:Int} {on:Nat} (h:TakeR zs m U s e on) (he:e = 0):1 ≤ on:=by
 rcases h with ⟨t,v,k,hy,_,_,_,_⟩ | ⟨_,_,_,he2⟩
 ·exact hy.one
 ·rw [he2] at he
  split at he <;> cases he
set_option maxRecDepth 100000 in
set_option maxHeartbeats 1000000 in
theorem tkclass_any (F:List Int→List Bool→Int × Int × Nat) (hF:FunT F) (g r base zr:Nat) (zs:List Int) (S:Nat→Prop) (bs:List UInt8) (p:Nat) (w:World) (hr:caR zs = true) (hz0:zr ≤ 1000) (h:LC w g zs) (hrd:RdS w r base S bs p) (hbl:bs.length ≤ 1000000) :
  Calls Tryz.prog 205 #[.pointer (some ⟨r,0,none⟩),.agg #[.pointer (some ⟨g,0,none⟩),.int .i64 (zr:Int)]] w
   fun e w' => ∃ p',e = .returned (.tuple #[.agg #[.int .i64 ((clsF F zs zr (unpack bs) p).2.1.1:Nat),.int .i64 ((clsF F zs zr (unpack bs) p).2.1.2.1:Nat),.int .u32 ((clsF F zs zr (unpack bs) p).2.1.2.2:Nat)],.int .i64 (clsF F zs zr (unpack bs) p).1])∧RdS w' r base S bs p'∧((clsF F zs zr (unpack bs) p).1 = 0→p' = p + (clsF F zs zr (unpack bs) p).2.2∧1 ≤ (clsF F zs zr (unpack bs) p).2.2∧(clsF F zs zr (unpack bs) p).2.1.1 < zs.length∧(clsF F zs zr (unpack bs) p).2.1.2.1 ≤ 13∧(clsF F zs zr (unpack bs) p).2.1.2.2 < 8192)∧Mod (oneB r) w w':=by
 obtain ⟨hrl0,hp8,_⟩:=rd_low hrd
 have hb0:Below w.heap.size w (w.alloc (.cells #[.pointer (some ⟨g,0,none⟩),.int .i64 (zr:Int)] 250)):=(Below.refl w.heap.size w).alloc (Nat.le_refl _) _
 have hb1:=hb0.alloc (o:=.cells #[.int .i64 0,.int .i64 0,.int .u32 0] 166) (by simp)
 obtain ⟨W1,hW1⟩:∃ W1,(w.alloc (.cells #[.pointer (some ⟨g,0,none⟩),.int .i64 (zr:Int)] 250)).alloc (.cells #[.int .i64 0,.int .i64 0,.int .u32 0] 166) = W1:=⟨_,rfl⟩
 rw [hW1] at hb1
 have HX1:Hid (W1.heap[w.heap.size]? = some (.cells #[.pointer (some ⟨g,0,none⟩),.int .i64 (zr:Int)] 250 (0,0))):=by show _ = _;rw [← hW1];exact row3_alloc (heap_alloc_new w _) _
 have HY1:Hid (W1.heap[w.heap.size + 1]? = some (.cells #[.int .i64 0,.int .i64 0,.int .u32 0] 166 (0,0))):=by show _ = _;rw [← hW1];have h:=heap_alloc_new (w.alloc (.cells #[.pointer (some ⟨g,0,none⟩),.int .i64 (zr:Int)] 250)) (.cells #[.int .i64 0,.int .i64 0,.int .u32 0] 166);rw [World.size_alloc] at h;exact h
 have c0:W1.cell? ⟨w.heap.size,0,none⟩ = some (.pointer (some ⟨g,0,none⟩)):=cell_of_row _ _ 0 _ _ _ HX1.out
 have HT:=Lib.hid (take8_any g r base zs S bs p W1 hr (h.below hb1) (hrd.keep (Mod.of_below hb1) (fun _ _ h => h)) hbl)
 have HM:Hid (Mod (oneB r) w W1):=(Mod.of_below hb1).mono (fun _ h => h.elim)
 have HRL:Hid (r < w.heap.size):=hrl0
 have HTK:Hid (∀ (W:World) (p b:Nat),RdS W r base S bs p→b ≤ 100→_):=fun W p b hW h1 => rtake_any r base S bs p (b:Int) W hW (by omega) (by omega) (by omega)
 have HSL:Hid (∀ k,S k→k < w.heap.size):=hrd.lt
 clear h hrd hb0 hb1 hrl0
 obtain ⟨L,hL⟩:∃ L,unpack bs = L:=⟨_,rfl⟩
 have hLl:L.length = 8 * bs.length:=by rw [← hL,unpack_length]
 have HLL:=Lib.hid hLl
 have HLE:=Lib.hid hL
 rw [hL] at HT ⊢
 clear hL hLl
 have HST:Hid (∀ W:World,Mod (oneB r) w W→∀ v u x,Mod (oneB r) w (((W.setCell ⟨w.heap.size + 1,0,none⟩ v).setCell ⟨w.heap.size + 1,1,none⟩ u).setCell ⟨w.heap.size + 1,2,none⟩ x)):=fun W hW v u x => ((hW.set _ _ (.inr (Nat.le_succ _))).set _ _ (.inr (Nat.le_succ _))).set _ _ (.inr (Nat.le_succ _))
 have HSR:Hid (∀ (W:World) (q:Nat),RdS W r base S bs q→∀ v u x,RdS (((W.setCell ⟨w.heap.size + 1,0,none⟩ v).setCell ⟨w.heap.size + 1,1,none⟩ u).setCell ⟨w.heap.size + 1,2,none⟩ x) r base S bs q):=fun W q hW v u x => hW.keep (T:=oneB (w.heap.size + 1)) ((((Mod.refl (oneB (w.heap.size + 1)) W).set ⟨w.heap.size + 1,0,none⟩ v (.inl rfl)).set ⟨w.heap.size + 1,1,none⟩ u (.inl rfl)).set ⟨w.heap.size + 1,2,none⟩ x (.inl rfl)) (fun k hk h => by have h2:k = w.heap.size + 1:=h;have:=HSL.out k hk;omega)
 go_enter Tryz.func205,Tryz.ntmps205
 go_wp2_with fail
 refine HT.out.mono ?_
 rintro e w2 ⟨m,on,s,er,rfl,hmx,htk,hrd,hmod⟩
 have hx2:=hmod.keep HX1.out (fun h => by have h2:w.heap.size = r:=h;have:=HRL.out;omega)
 have hy2:=hmod.keep HY1.out (fun h => by have h2:w.heap.size + 1 = r:=h;have:=HRL.out;omega)
 have HK:=Lib.hid (kindsT hF hmx htk)
 have HONE:Hid (er = 0→1 ≤ on):=fun h => takeR_one htk h
 have HM2:=Lib.hid (HM.out.then_ hmod)
 have HRD:=Lib.hid hrd
 have HY2:=Lib.hid hy2
 have d1:w2.cell? ⟨w.heap.size,1,none⟩ = some (.int .i64 (zr:Int)):=cell_of_row _ _ 1 _ _ _ hx2
 have b0:w2.cell? ⟨w.heap.size + 1,0,none⟩ = some (.int .i64 0):=cell_of_row _ _ 0 _ _ _ hy2
 have b1:w2.cell? ⟨w.heap.size + 1,1,none⟩ = some (.int .i64 0):=cell_of_row _ _ 1 _ _ _ hy2
 have b2:w2.cell? ⟨w.heap.size + 1,2,none⟩ = some (.int .u32 0):=cell_of_row _ _ 2 _ _ _ hy2
 have f0:w2.frozen? ⟨w.heap.size + 1,0,none⟩ = false:=frozen_of_row _ _ 0 _ _ hy2
 have f1:w2.frozen? ⟨w.heap.size + 1,1,none⟩ = false:=frozen_of_row _ _ 1 _ _ hy2
 have f2:w2.frozen? ⟨w.heap.size + 1,2,none⟩ = false:=frozen_of_row _ _ 2 _ _ hy2
 clear hmx htk hrd hmod hx2 hy2
 rcases HK.out with ⟨rfl,t,rfl,htl,hon,hf⟩ | ⟨hne,rfl,hf⟩
 ·have HF:=Lib.hid hf
  have hz:=(caR_len hr).1
  have hUl:(L.drop p).length = 8 * bs.length - p:=by rw [List.length_drop,HLL.out]
  rw [hUl] at hon
  obtain ⟨sb,hsb⟩:∃ sb,wdF zr t = sb:=⟨_,rfl⟩
  have hsb13:sb ≤ 13:=by rw [← hsb];exact wdF_le zr t
  have HSB:=Lib.hid hsb
  have HBA:Hid (∀ W:World,∃ v ok,Calls Tryz.prog 233 #[.int .i64 ((t:Int) - (zr:Int))] W fun e w' => e = .returned (.tuple #[.int .i64 v,.int .i64 (sb:Int),.bool ok])∧W = w'):=fun W => by
   by_cases h30:zr ≤ t∧t - zr < 30
   ·have h:=base_in (t - zr) W h30.2
    have e1:((t - zr:Nat):Int) = (t:Int) - (zr:Int):=by omega
    have e2:bitsC (t - zr) = sb:=by rw [← HSB.out,wdF,if_pos h30]
    rw [e1,e2] at h
    exact ⟨_,_,h⟩
   ·have h:=base_out ((t:Int) - (zr:Int)) W (by omega)
    have e2:sb = 0:=by rw [← HSB.out,wdF,if_neg h30]
    rw [e2]
    exact ⟨_,_,h⟩
  have hwr:IntKind.i64.wrap ((t:Int) - (zr:Int)) = (t:Int) - (zr:Int):=IntWalk.i64_in _ (by omega)
  obtain ⟨bv,bok,hba⟩:=HBA.out w2
  have HBA2:=Lib.hid hba
  have HTK2:=Lib.hid (HTK.out w2 (p + on) sb HRD.out (by omega))
  rw [cnt_nat (by omega)] at HTK2
  clear HK HTK hf hsb HBA hba
  by_cases hfit:p + on + sb ≤ 8 * bs.length
  ·obtain ⟨y,hy⟩:∃ y,numA L (p + on) sb = y:=⟨_,rfl⟩
   have hyb:y < 8192:=by
    have h1:=numA_lt L (p + on) sb
    have h2:2 ^ sb ≤ 2 ^ 13:=Nat.pow_le_pow_right (by decide) hsb13
    omega
   have HP:Hid (clsF F zs zr L p = (0,(t,sb,y),on + sb)):=by
    show _ = _
    unfold clsF
    rw [HF.out]
    dsimp only
    rw [if_neg (by simp),Int.toNat_natCast,HSB.out,if_neg (by rw [HLL.out];omega),hy]
   have hty:takes bs (p + on) sb = y:=by rw [numA_takes hfit,HLE.out,hy]
   rw [(fits_yes hfit).1,(fits_yes hfit).2,hty] at HTK2
   have HA:=Lib.hid (show p + on + sb = p + (on + sb) by omega)
   clear hfit hy hty
   go_wp2_with (first
    | (go_at_call 233;refine HBA2.out.mono ?_;rintro e w' ⟨rfl,rfl⟩)
    | (go_at_call 228;refine HTK2.out.mono ?_;rintro e w3 ⟨rfl,hrd3,hm3⟩;have hy3:=hm3.keep HY2.out (fun h => by have h2:w.heap.size + 1 = r:=h;have:=HRL.out;omega);have HR3:=Lib.hid hrd3;have HM3:=Lib.hid (HM2.out.then_ hm3);have b0':w3.cell? ⟨w.heap.size + 1,0,none⟩ = some (.int .i64 0):=cell_of_row _ _ 0 _ _ _ hy3;have b1':w3.cell? ⟨w.heap.size + 1,1,none⟩ = some (.int .i64 0):=cell_of_row _ _ 1 _ _ _ hy3;have b2':w3.cell? ⟨w.heap.size + 1,2,none⟩ = some (.int .u32 0):=cell_of_row _ _ 2 _ _ _ hy3;have f0':w3.frozen? ⟨w.heap.size + 1,0,none⟩ = false:=frozen_of_row _ _ 0 _ _ hy3;have f1':w3.frozen? ⟨w.heap.size + 1,1,none⟩ = false:=frozen_of_row _ _ 1 _ _ hy3;have f2':w3.frozen? ⟨w.heap.size + 1,2,none⟩ = false:=frozen_of_row _ _ 2 _ _ hy3;clear hrd3 hm3 hy3))
   refine bodyPost_ret (v:=.tuple #[.agg #[.int .i64 (t:Int),.int .i64 (sb:Int),.int .u32 (y:Int)],.int .i64 0]) ?_ rfl ⟨p + (on + sb),by rw [HP.out],?_,fun _ => by rw [HP.out];exact ⟨rfl,Nat.le_trans (HONE.out trivial) (Nat.le_add_right _ _),htl,hsb13,hyb⟩,?_⟩
   ·rw [results_cell_tmp rfl]
    go_simp
    try rfl
   ·rw [← HA.out]
    exact HSR.out _ _ HR3.out _ _ _
   ·exact HST.out _ HM3.out _ _ _
  ·have HP:Hid (clsF F zs zr L p = (2,(0,0,0),0)):=by
    show _ = _
    unfold clsF
    rw [HF.out]
    dsimp only
    rw [if_neg (by simp),Int.toNat_natCast,HSB.out,if_pos (by rw [HLL.out];omega)]
   rw [(fits_no hfit).1,(fits_no hfit).2] at HTK2
   clear hfit
   go_wp2_with (first
    | (go_at_call 233;refine HBA2.out.mono ?_;rintro e w' ⟨rfl,rfl⟩)
    | (go_at_call 228;refine HTK2.out.mono ?_;rintro e w3 ⟨rfl,hrd3,hm3⟩;have hy3:=hm3.keep HY2.out (fun h => by have h2:w.heap.size + 1 = r:=h;have:=HRL.out;omega);have HR3:=Lib.hid hrd3;have HM3:=Lib.hid (HM2.out.then_ hm3);have b0':w3.cell? ⟨w.heap.size + 1,0,none⟩ = some (.int .i64 0):=cell_of_row _ _ 0 _ _ _ hy3;have b1':w3.cell? ⟨w.heap.size + 1,1,none⟩ = some (.int .i64 0):=cell_of_row _ _ 1 _ _ _ hy3;have b2':w3.cell? ⟨w.heap.size + 1,2,none⟩ = some (.int .u32 0):=cell_of_row _ _ 2 _ _ _ hy3;have f0':w3.frozen? ⟨w.heap.size + 1,0,none⟩ = false:=frozen_of_row _ _ 0 _ _ hy3;have f1':w3.frozen? ⟨w.heap.size + 1,1,none⟩ = false:=frozen_of_row _ _ 1 _ _ hy3;have f2':w3.frozen? ⟨w.heap.size + 1,2,none⟩ = false:=frozen_of_row _ _ 2 _ _ hy3;clear hrd3 hm3 hy3))
   refine bodyPost_ret (v:=.tuple #[.agg #[.int .i64 0,.int .i64 0,.int .u32 0],.int .i64 2]) ?_ rfl ⟨_,by rw [HP.out];rfl,HSR.out _ _ HR3.out _ _ _,fun h => (by rw [HP.out] at h;cases h),HST.out _ HM3.out _ _ _⟩
   rw [results_cell_tmp rfl]
   go_simp
   try rfl
 ·have HP:Hid (clsF F zs zr L p = (er,(0,0,0),0)):=by
   show _ = _
   unfold clsF
   rw [hf]
   exact if_pos hne
  have t1:(er != 0) = true:=by simpa using hne
  have HNE:=Lib.hid hne
  clear HK hf hne
  go_wp2
  refine bodyPost_ret (v:=.tuple #[.agg #[.int .i64 0,.int .i64 0,.int .u32 0],.int .i64 er]) ?_ rfl ⟨_,by rw [HP.out];rfl,HSR.out _ _ HRD.out _ _ _,fun h => absurd (by rw [HP.out] at h;exact h) HNE.out,HST.out _ HM2.out _ _ _⟩
  rw [results_cell_tmp rfl]
  go_simp
  try rfl
def alC (a:Value) (n:Int) (b:Value) (m:Int):Array Value:=#[a,.int .i64 n,b,.int .i64 m]
theorem row4_facts {w:World} {g:Nat} {a:Value} {n:Int} {b:Value} {m:Int} (h:w.heap[g]? = some (.cells (alC a n b m) 251 (0,0))) :
  (w.cell? ⟨g,0,none⟩ = some a∧w.cell? ⟨g,1,none⟩ = some (.int .i64 n)∧w.cell? ⟨g,2,none⟩ = some b∧w.cell? ⟨g,3,none⟩ = some (.int .i64 m))∧(w.frozen? ⟨g,0,none⟩ = false∧w.frozen? ⟨g,1,none⟩ = false∧w.frozen? ⟨g,2,none⟩ = false∧w.frozen? ⟨g,3,none⟩ = false) :=
 ⟨⟨cell_of_row _ _ 0 _ _ _ h,cell_of_row _ _ 1 _ _ _ h,cell_of_row _ _ 2 _ _ _ h,cell_of_row _ _ 3 _ _ _ h⟩,frozen_of_row _ _ 0 _ _ h,frozen_of_row _ _ 1 _ _ h,frozen_of_row _ _ 2 _ _ h,frozen_of_row _ _ 3 _ _ h⟩
def AlPost (F : List Int → List Bool → Int × Int × Nat) (w w' : World) (r base : Nat) (S : Nat → Prop) (bs : List UInt8) (p : Nat) (e : Ending) : Prop :=
  ∃ (a b : Option Addr) (n m er : Int) (p' : Nat), e = .returned (.tuple #[.agg (alC (.pointer a) n (.pointer b) m), .int .i64 er]) ∧ RdS w' r base S bs p' ∧ Mod (oneB r) w w' ∧
    ((er ≠ 0 ∧ ∀ most, blkF F (unpack bs) p most = (er, [], 0)) ∨
     (er = 0 ∧ ∃ (z1 z2 : List Int) (ga gb : Nat), a = some ⟨ga, 0, none⟩ ∧ b = some ⟨gb, 0, none⟩ ∧ n = 257 ∧ m = 0 ∧ caR z1 = true ∧ caR z2 = true ∧ z1.length = 273 ∧ z2.length = 30 ∧ LCa w' w.heap.size ga z1 ∧ LCa w' w.heap.size gb z2 ∧
       ∀ most, blkF F (unpack bs) p most = blkL F z1 z2 (unpack bs) most ((unpack bs).length + 1 - p') [] 0 p'))
set_option maxRecDepth 100000 in
set_option maxHeartbeats 2000000 in
theorem tkalph_any (F:List Int→List Bool→Int × Int × Nat) (hF:FunT F) (r base:Nat) (S:Nat→Prop) (bs:List UInt8) (p:Nat) (w:World) (hrd:RdS w r base S bs p) (hbl:bs.length ≤ 1000000) :
  Calls Tryz.prog 172 #[.pointer (some ⟨r,0,none⟩)] w fun e w' => AlPost F w w' r base S bs p e:=by
 obtain ⟨hrl0,hp8,_⟩:=rd_low hrd
 obtain ⟨W1,hW1⟩:∃ W1,w.alloc (.cells #[.pointer none,.int .i64 0,.pointer none,.int .i64 0] 251) = W1:=⟨_,rfl⟩
 have hb1:Below w.heap.size w W1:=by rw [← hW1];exact (Below.refl _ w).alloc (Nat.le_refl _) _
 have HX1:Hid (W1.heap[w.heap.size]? = some (.cells (alC (.pointer none) 0 (.pointer none) 0) 251 (0,0))):=by show _ = _;rw [← hW1];exact heap_alloc_new w _
 have HM:Hid (Mod (oneB r) w W1):=(Mod.of_below hb1).mono (fun _ h => h.elim)
 have HRL:Hid (r < w.heap.size):=hrl0
 have hs1:w.heap.size < W1.heap.size:=by rw [← hW1];simp
 have HT:=Lib.hid (rntake_any F hF r base S bs p W1 (hrd.keep (Mod.of_below hb1) (fun _ _ h => h)) hbl)
 have HT2:Hid (∀ (W:World) (p':Nat),RdS W r base S bs p'→_):=fun W p' hW => rntake_any F hF r base S bs p' W hW hbl
 have HSL:Hid (∀ k,S k→k < w.heap.size):=hrd.lt
 have HKP:Hid (∀ (W W':World),W.heap[w.heap.size]? = some (.cells (alC (.pointer none) 0 (.pointer none) 0) 251 (0,0))→Mod (oneB r) W W'→W'.heap[w.heap.size]? = some (.cells (alC (.pointer none) 0 (.pointer none) 0) 251 (0,0))):=fun W W' h hm => hm.keep h (fun h => by have h2:w.heap.size = r:=h;have:=HRL.out;omega)
 have HST:Hid (∀ W:World,Mod (oneB r) w W→∀ a b c d,Mod (oneB r) w ((((W.setCell ⟨w.heap.size,0,none⟩ a).setCell ⟨w.heap.size,1,none⟩ b).setCell ⟨w.heap.size,2,none⟩ c).setCell ⟨w.heap.size,3,none⟩ d)):=fun W hW a b c d => (((hW.set _ _ (.inr (Nat.le_refl _))).set _ _ (.inr (Nat.le_refl _))).set _ _ (.inr (Nat.le_refl _))).set _ _ (.inr (Nat.le_refl _))
 have HSM:Hid (∀ (W:World) a b c d,Mod (oneB w.heap.size) W ((((W.setCell ⟨w.heap.size,0,none⟩ a).setCell ⟨w.heap.size,1,none⟩ b).setCell ⟨w.heap.size,2,none⟩ c).setCell ⟨w.heap.size,3,none⟩ d)):=fun W a b c d => ((((Mod.refl (oneB w.heap.size) W).set ⟨w.heap.size,0,none⟩ a (.inl rfl)).set ⟨w.heap.size,1,none⟩ b (.inl rfl)).set ⟨w.heap.size,2,none⟩ c (.inl rfl)).set ⟨w.heap.size,3,none⟩ d (.inl rfl)
 have HSR:Hid (∀ (W:World) (q:Nat),RdS W r base S bs q→∀ a b c d,RdS ((((W.setCell ⟨w.heap.size,0,none⟩ a).setCell ⟨w.heap.size,1,none⟩ b).setCell ⟨w.heap.size,2,none⟩ c).setCell ⟨w.heap.size,3,none⟩ d) r base S bs q):=fun W q hW a b c d => hW.keep (HSM.out W a b c d) (fun k hk h => by have h2:k = w.heap.size:=h;have:=HSL.out k hk;omega)
 have HBK:Hid (∀ most,blkF F (unpack bs) p most = blkF F (unpack bs) p most):=fun _ => rfl
 clear hrd hb1
 go_enter Tryz.func172,Tryz.ntmps172
 go_wp2_with fail
 refine HT.out.mono ?_
 rintro e w2 ⟨A2,c2,p2,rfl,hown2,hrd2,hpe2,hm2⟩
 have HO2:=Lib.hid hown2
 have HR2:=Lib.hid hrd2
 have HM2:=Lib.hid (HM.out.then_ hm2)
 have HX2:=Lib.hid (HKP.out _ _ HX1.out hm2)
 have HPE2:=Lib.hid hpe2
 have hs2:=hm2.size
 obtain ⟨⟨c20,c21,c22,c23⟩,f20,f21,f22,f23⟩:=row4_facts HX2.out
 clear hown2 hrd2 hm2 hpe2 HT
 obtain ⟨ta,hta⟩:∃ ta,tkF F (unpack bs) p = ta:=⟨_,rfl⟩
 have HTA:=Lib.hid hta
 rw [hta] at HO2 HPE2 ⊢
 clear hta
 obtain ⟨er1,ns1,pe1⟩:=ta
 dsimp only at HO2 HPE2 ⊢
 by_cases he1:er1 = 0
 ·subst he1
  obtain rfl:=HPE2.out rfl
  have HT3:=Lib.hid (HT2.out w2 _ HR2.out)
  clear HPE2
  go_wp2_with fail
  refine HT3.out.mono ?_
  rintro e w3 ⟨A3,c3,p3,rfl,hown3,hrd3,hpe3,hm3⟩
  have HO3:=Lib.hid hown3
  have HR3:=Lib.hid hrd3
  have HM3:=Lib.hid (HM2.out.then_ hm3)
  have HX3:=Lib.hid (HKP.out _ _ HX2.out hm3)
  have HPE3:=Lib.hid hpe3
  have HO23:=Lib.hid (own_keep HO2.out hm3 (fun k hk hS => by have h2:k = r:=hS;have:=own_base HO2.out k hk;have:=HRL.out;omega))
  have hs3:=hm3.size
  obtain ⟨⟨c30,c31,c32,c33⟩,f30,f31,f32,f33⟩:=row4_facts HX3.out
  clear hown3 hrd3 hm3 hpe3 HT3 HT2 c20 c21 c22 c23 f20 f21 f22 f23
  obtain ⟨tb,htb⟩:∃ tb,tkF F (unpack bs) p2 = tb:=⟨_,rfl⟩
  have HTB:=Lib.hid htb
  rw [htb] at HO3 HPE3 ⊢
  clear htb
  obtain ⟨er2,ns2,pe2⟩:=tb
  dsimp only at HO3 HPE3 ⊢
  by_cases he2:er2 = 0
  ·subst he2
   obtain rfl:=HPE3.out rfl
   clear HPE3
   obtain ⟨l1,hl1⟩:∃ l1,ns1.length = l1:=⟨_,rfl⟩
   obtain ⟨l2,hl2⟩:∃ l2,ns2.length = l2:=⟨_,rfl⟩
   have HL1:=Lib.hid hl1
   have HL2:=Lib.hid hl2
   rw [hl1] at HO2 HO23 ⊢
   rw [hl2] at HO3 ⊢
   clear hl1 hl2
   by_cases hlen:l1 ≠ 273 ∨ l2 ≠ 30
   ·have HB:Hid (∀ most,blkF F (unpack bs) p most = (3,[],0)):=fun most => by
     unfold blkF
     rw [HTA.out]
     dsimp only
     rw [if_neg (by simp),HTB.out]
     dsimp only
     rw [if_neg (by simp),HL1.out,HL2.out,if_pos hlen]
    have t1:((l1:Int) != 273) = true ∨ (((l1:Int) != 273) = false∧((l2:Int) != 30) = true):=by
     by_cases h1:l1 = 273
     ·exact .inr ⟨by simp;omega,by simp;omega⟩
     ·exact .inl (by simp;omega)
    clear hlen
    rcases t1 with t1 | ⟨t1,t2⟩
    ·go_wp2
     refine bodyPost_ret (v:=.tuple #[.agg (alC (.pointer none) 0 (.pointer none) 0),.int .i64 3]) ?_ rfl ⟨_,_,_,_,3,p3,rfl,?_,?_,.inl ⟨by decide,HB.out⟩⟩
     ·rw [results_cell_tmp rfl]
      go_simp
      try rfl
     ·first | exact HR3.out | exact HSR.out _ _ HR3.out _ _ _ _
     ·first | exact HM3.out | exact HST.out _ HM3.out _ _ _ _
    ·go_wp2
     refine bodyPost_ret (v:=.tuple #[.agg (alC (.pointer none) 0 (.pointer none) 0),.int .i64 3]) ?_ rfl ⟨_,_,_,_,3,p3,rfl,?_,?_,.inl ⟨by decide,HB.out⟩⟩
     ·rw [results_cell_tmp rfl]
      go_simp
      try rfl
     ·first | exact HR3.out | exact HSR.out _ _ HR3.out _ _ _ _
     ·first | exact HM3.out | exact HST.out _ HM3.out _ _ _ _
   ·obtain ⟨rfl,rfl⟩:l1 = 273∧l2 = 30:=by omega
    clear hlen
    obtain ⟨z1,hz1⟩:∃ z1:List Int,(ns1.map fun n:Nat => (n:Int)) = z1:=⟨_,rfl⟩
    obtain ⟨z2,hz2⟩:∃ z2:List Int,(ns2.map fun n:Nat => (n:Int)) = z2:=⟨_,rfl⟩
    have HZ1:=Lib.hid hz1
    have HZ2:=Lib.hid hz2
    have hzl1:z1.length = 273:=by rw [← hz1,List.length_map];exact HL1.out
    have hzl2:z2.length = 30:=by rw [← hz2,List.length_map];exact HL2.out
    have HC1:Hid (Cells w3 w3.heap.size A2 (z1.map ic)):=by show Cells _ _ _ _;rw [← hz1,nCs_ic];exact Cells.of_own HO23.out
    have HC2:Hid (Cells w3 w3.heap.size A3 (z2.map ic)):=by show Cells _ _ _ _;rw [← hz2,nCs_ic];exact Cells.of_own HO3.out
    have HB:Hid (∀ most,blkF F (unpack bs) p most = if caR z1 = false ∨ caR z2 = false then (13,[],0) else blkL F z1 z2 (unpack bs) most ((unpack bs).length + 1 - p3) [] 0 p3):=fun most => by
     unfold blkF
     rw [HTA.out]
     dsimp only
     rw [if_neg (by simp),HTB.out]
     dsimp only
     rw [if_neg (by simp),HL1.out,HL2.out,if_neg (by omega),HZ1.out,HZ2.out]
    clear hz1 hz2
    cases hr1:caR z1 with
    | false =>
     have HN:=Lib.hid (new_no A2 273 c2 z1 w3.heap.size w3 hzl1 (by omega) HC1.out hr1)
     have HB2:Hid (∀ most,blkF F (unpack bs) p most = (13,[],0)):=fun most => by rw [HB.out,if_pos (.inl hr1)]
     clear hr1 HB
     go_wp2_with (go_at_call 152;refine HN.out.mono ?_;rintro e w4 ⟨rfl,rfl⟩)
     refine bodyPost_ret (v:=.tuple #[.agg (alC (.pointer none) 0 (.pointer none) 0),.int .i64 13]) ?_ rfl ⟨_,_,_,_,13,p3,rfl,?_,?_,.inl ⟨by decide,HB2.out⟩⟩
     ·rw [results_cell_tmp rfl]
      go_simp
      try rfl
     ·first | exact HR3.out | exact HSR.out _ _ HR3.out _ _ _ _
     ·first | exact HM3.out | exact HST.out _ HM3.out _ _ _ _
    | true =>
     have HN:=Lib.hid (new_low A2 273 c2 z1 w3.heap.size w3 hzl1 (by omega) HC1.out (Nat.le_refl _) hr1)
     have HR1:=Lib.hid hr1
     rw [hr1] at HB
     clear hr1
     go_wp2_with fail
     refine HN.out.mono ?_
     rintro e w4 ⟨ga,rfl,hla,hb4⟩
     have HLA:=Lib.hid hla
     have HM4:=Lib.hid (HM3.out.then_ ((Mod.of_below hb4).mono fun _ h => h.elim))
     have HR4:=Lib.hid (HR3.out.keep (Mod.of_below hb4) (fun _ _ h => h))
     have HC4:=Lib.hid (HC2.out.below hb4 (Nat.le_refl _))
     have HX4:=Lib.hid (show w4.heap[w.heap.size]? = _ from (hb4.block w.heap.size (Array.getElem?_eq_some_iff.1 HX3.out).1).trans HX3.out)
     have hs4:=hb4.size
     obtain ⟨⟨c40,c41,c42,c43⟩,f40,f41,f42,f43⟩:=row4_facts HX4.out
     clear hla hb4 HN c30 c31 c32 c33 f30 f31 f32 f33
     cases hr2:caR z2 with
     | false =>
      have HN:=Lib.hid (new_no A3 30 c3 z2 w3.heap.size w4 hzl2 (by omega) HC4.out hr2)
      have HB2:Hid (∀ most,blkF F (unpack bs) p most = (13,[],0)):=fun most => by rw [HB.out,if_pos (.inr hr2)]
      clear hr2 HB
      go_wp2_with (go_at_call 152;refine HN.out.mono ?_;rintro e w5 ⟨rfl,rfl⟩)
      refine bodyPost_ret (v:=.tuple #[.agg (alC (.pointer (some ⟨ga,0,none⟩)) 257 (.pointer none) 0),.int .i64 13]) ?_ rfl ⟨_,_,_,_,13,p3,rfl,?_,?_,.inl ⟨by decide,HB2.out⟩⟩
      ·rw [results_cell_tmp rfl]
       go_simp
       try rfl
      ·exact HSR.out _ _ HR4.out _ _ _ _
      ·exact HST.out _ HM4.out _ _ _ _
     | true =>
      have HN:=Lib.hid (new_low A3 30 c3 z2 w3.heap.size w4 hzl2 (by omega) HC4.out hs4 hr2)
      have HR2':=Lib.hid hr2
      have HB2:Hid (∀ most,blkF F (unpack bs) p most = blkL F z1 z2 (unpack bs) most ((unpack bs).length + 1 - p3) [] 0 p3):=fun most => by rw [HB.out,if_neg (by rw [hr2];simp)]
      clear hr2 HB
      go_wp2_with (go_at_call 152;refine HN.out.mono ?_;rintro e w5 ⟨gb,rfl,hlb,hb5⟩;have HLB:=Lib.hid hlb;have HLA5:=Lib.hid (HLA.out.keep2 (Mod.of_below hb5) (fun _ h => h.elim));have HM5:=Lib.hid (HM4.out.then_ ((Mod.of_below hb5).mono fun _ h => h.elim));have HR5:=Lib.hid (HR4.out.keep (Mod.of_below hb5) (fun _ _ h => h));obtain ⟨⟨c50,c51,c52,c53⟩,f50,f51,f52,f53⟩:=row4_facts ((hb5.block w.heap.size (Array.getElem?_eq_some_iff.1 HX4.out).1).trans HX4.out);clear hlb hb5)
      refine bodyPost_ret (v:=.tuple #[.agg (alC (.pointer (some ⟨ga,0,none⟩)) 257 (.pointer (some ⟨gb,0,none⟩)) 0),.int .i64 0]) ?_ rfl ⟨_,_,_,_,0,p3,rfl,?_,?_,.inr ⟨rfl,z1,z2,ga,gb,rfl,rfl,rfl,rfl,HR1.out,HR2'.out,hzl1,hzl2,?_,?_,HB2.out⟩⟩
      ·rw [results_cell_tmp rfl]
       go_simp
       try rfl
      ·exact HSR.out _ _ HR5.out _ _ _ _
      ·exact HST.out _ HM5.out _ _ _ _
      ·exact (HLA5.out.keep2 (HSM.out _ _ _ _ _) (fun k hk => by have h2:k = w.heap.size:=hk;omega)).lower (by omega)
      ·exact (HLB.out.keep2 (HSM.out _ _ _ _ _) (fun k hk => by have h2:k = w.heap.size:=hk;omega)).lower (by omega)
  ·have HB:Hid (∀ most,blkF F (unpack bs) p most = (er2,[],0)):=fun most => by
    unfold blkF
    rw [HTA.out]
    dsimp only
    rw [if_neg (by simp),HTB.out]
    exact if_pos he2
   have t1:(er2 != 0) = true:=by simpa using he2
   have HE2:=Lib.hid he2
   clear he2 HPE3
   go_wp2
   refine bodyPost_ret (v:=.tuple #[.agg (alC (.pointer none) 0 (.pointer none) 0),.int .i64 er2]) ?_ rfl ⟨_,_,_,_,er2,p3,rfl,?_,?_,.inl ⟨HE2.out,HB.out⟩⟩
   ·rw [results_cell_tmp rfl]
    go_simp
    try rfl
   ·first | exact HR3.out | exact HSR.out _ _ HR3.out _ _ _ _
   ·first | exact HM3.out | exact HST.out _ HM3.out _ _ _ _
 ·have HB:Hid (∀ most,blkF F (unpack bs) p most = (er1,[],0)):=fun most => by
   unfold blkF
   rw [HTA.out]
   exact if_pos he1
  have t1:(er1 != 0) = true:=by simpa using he1
  have HE1:=Lib.hid he1
  clear he1 HPE2
  go_wp2
  refine bodyPost_ret (v:=.tuple #[.agg (alC (.pointer none) 0 (.pointer none) 0),.int .i64 er1]) ?_ rfl ⟨_,_,_,_,er1,p2,rfl,?_,?_,.inl ⟨HE1.out,HB.out⟩⟩
  ·rw [results_cell_tmp rfl]
   go_simp
   try rfl
  ·first | exact HR2.out | exact HSR.out _ _ HR2.out _ _ _ _
  ·first | exact HM2.out | exact HST.out _ HM2.out _ _ _ _
end Go.Proofs.YtaknladkodibaaaGreatDoor
