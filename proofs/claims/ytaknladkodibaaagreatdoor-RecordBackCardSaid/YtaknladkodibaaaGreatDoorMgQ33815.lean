/- Layer 7: pairs of a row. -/
import Derived.Test.YtaknladkodibaaaGreatDoorMgQ338SWeiEl
import Derived.Test.YtaknladkodibaaaGreatDoorMgQ33809
import Derived.Deep.LoopGhost
import Derived.Deep.QuietTactic
import Derived.BigQuiet
import Derived.Deep.RegionLaw
import Derived.IntWalk
namespace Go.Proofs.YtaknladkodibaaaGreatDoor
open Go.RowKit
set_option maxHeartbeats 1000000 in
theorem pairs_any (A:Option Addr) (l c:Nat) (xs:List WE) (cs:List Value) (k B:Nat) (w:World) (hl:xs.length = l) (hm:l ≤ 1000) (hB:B ≤ w.heap.size) (hb:Cells w B A cs) (hr:RowE w B k xs cs) (hbd:∀ x ∈ xs,x.1 ≤ 1125899906842624) :
  Calls Tryz.prog 219 #[.slice A l c] w fun e w' => ∃ A' n' c' cs',e = .returned (.slice A' n' c')∧n' = l / 2∧w'.ownsRow w.heap.size 269 4 (.slice A' n' c') n' cs'∧RowE w' B (k + 1) (prW xs) cs'∧Below w.heap.size w w':=by
 have HC:=Lib.hid hb
 have HL:=Lib.hid hl
 have HR:=Lib.hid hr
 have HW:=Lib.hid hbd
 clear hb hl hr hbd
 go_enter Tryz.func219,Tryz.ntmps219
 go_wp2
 go_loopg [3,4] l (fun gk v i wr => ∃ j q:Nat,j + gk = l∧q = 2 * j + 1∧2 * j ≤ l∧i = .int .i64 q∧∃ A1 c1 cs1,v = .slice A1 j c1∧wr.ownsRow w.heap.size 269 4 (.slice A1 j c1) j cs1∧RowE wr B (k + 1) ((prW xs).take j) cs1∧Below w.heap.size w wr)
 case atStart => exact ⟨0,1,by omega,rfl,by omega,rfl,none,0,[],rfl,World.ownsRow_nil _ _ _ _,RowE.nil _ _ _,Below.refl _ _⟩
 case round =>
  obtain ⟨j,q,hj,hq,hjl,rfl,A1,c1,cs1,rfl,hown,hrow,hbel⟩:=hrel
  have HQ:=Lib.hid hq
  have HOWN:=Lib.hid hown
  have HROW:=Lib.hid hrow
  have HBEL:=Lib.hid hbel
  clear hown hrow hbel hq
  by_cases h:q < l
  ·obtain ⟨a,ha⟩:∃ a,xs[2 * j]? = some a:=⟨_,List.getElem?_eq_getElem (by have:=HL.out;have:=HQ.out;omega)⟩
   obtain ⟨b,hb⟩:∃ b,xs[2 * j + 1]? = some b:=⟨_,List.getElem?_eq_getElem (by have:=HL.out;have:=HQ.out;omega)⟩
   have HPR:=Lib.hid (pr_at ha hb)
   have hwa:=HW.out a (List.mem_of_getElem? ha)
   have hwb:=HW.out b (List.mem_of_getElem? hb)
   obtain ⟨bb,o,rfl,hbB,hc⟩:=(HC.out.below HBEL.out hB) (by rw [HR.out.len,HL.out];omega)
   obtain ⟨ca,hea,haa⟩:=row_at (HR.out.below HBEL.out hB (Nat.le_refl _)) hc ha
   obtain ⟨cb,heb,hab⟩:=row_at (HR.out.below HBEL.out hB (Nat.le_refl _)) hc hb
   obtain ⟨sa,pa,qa,hca⟩:=hea.len
   obtain ⟨sb,pb,qb,hcb⟩:=heb.len
   obtain ⟨p,hp⟩:∃ p,2 * j = p:=⟨_,rfl⟩
   have hqp:q = p + 1:=by have:=HQ.out;omega
   rw [hp] at haa hab
   rw [← hqp] at hab
   have d0:wr.cell? ⟨bb,o + p * 4,none⟩ = some (.int .i64 (a.1:Int)):=haa 0 _ (by rw [hca];rfl)
   have d1:wr.cell? ⟨bb,o + q * 4,none⟩ = some (.int .i64 (b.1:Int)):=hab 0 _ (by rw [hcb];rfl)
   have HE:Hid (El wr B (k + 1) (a.1 + b.1,a.2++b.2) (elC (a.1 + b.1) 0 (some ⟨bb,o + p * 4,none⟩) (some ⟨bb,o + q * 4,none⟩))):=by
    show El _ _ _ _ _
    exact .inr ⟨a,b,bb,_,bb,_,ca,cb,rfl,rfl,hbB,hbB,hea,heb,haa,hab⟩
   have HBB:=Lib.hid hbB
   have hpq:(q:Int) - 1 = (p:Int):=by omega
   have hwp:IntKind.i64.wrap ((q:Int) - 1) = (p:Int):=by rw [hpq];exact IntWalk.i64_in _ (by omega)
   have hpl:p < l:=by omega
   have hp1:(p:Int) < (l:Int):=by omega
   have hp0:(0:Int) ≤ (p:Int):=by omega
   have hq1:(q:Int) < (l:Int):=by omega
   have hq0:(0:Int) ≤ (q:Int):=by omega
   have HX:Hid ((prW xs).take (j + 1) = (prW xs).take j++[(a.1 + b.1,a.2++b.2)]):=by
    show _ = _
    rw [List.take_add_one,HPR.out]
    rfl
   have HQP:=Lib.hid hqp
   clear ha hb hc hea heb haa hab hca hcb hqp hp hbB
   obtain ⟨x,y⟩:=a
   obtain ⟨x2,y2⟩:=b
   dsimp only at *
   have hwx:IntKind.i64.wrap ((x:Int) + (x2:Int)) = ((x + x2:Nat):Int):=by rw [Int.natCast_add];exact IntWalk.i64_in _ (by omega)
   go_wp2
   go_quiet (fail)
   obtain ⟨W,hW⟩:∃ W,wr.drewN nq = W:=⟨_,rfl⟩
   have HOW2:Hid (W.ownsRow w.heap.size 269 4 (.slice A1 j c1) j cs1):=by show World.ownsRow _ _ _ _ _ _ _;rw [← hW];exact HOWN.out
   have HB2:Hid (Below w.heap.size w W):=by show Below _ _ _;rw [← hW];exact dnBelow HBEL.out nq
   have HB3:Hid (Below wr.heap.size wr W):=by show Below _ _ _;rw [← hW];exact dnBelow (Below.refl _ _) nq
   have e0:W.cell? ⟨bb,o + p * 4,none⟩ = some (.int .i64 (x:Int)):=by rw [← hW];exact d0
   have e1:W.cell? ⟨bb,o + q * 4,none⟩ = some (.int .i64 (x2:Int)):=by rw [← hW];exact d1
   rw [hW]
   clear hW d0 d1
   go_wp2
   go_region_law (refine step_app1 W elElem (by rfl) (.tmp 20) (.tmp 33) (by rfl) w.heap.size (.slice A1 j c1) j cs1 (by rfl) HOW2.out _ (by rfl) (by rfl) (by simp [Value.oneCell']) (by unfold maxLen;omega) (by omega) HB2.out.size ?_;intro A2 c2 w7 hA;have HA:=Lib.hid hA;clear hA)
   all_goals
    go_wp2
    go_roundg (gk - 1)
    case measure => omega
    case rel =>
     have HB7:Below w.heap.size wr w7:=HA.out.below (HB3.out.mono HBEL.out.size) HB2.out.size (own_base HOW2.out)
     refine ⟨j + 1,q + 2,by omega,by have:=HQ.out;omega,by have:=HQ.out;omega,by go_num,A2,c2,_,rfl,HA.out.own,?_,HA.out.below HB2.out HB2.out.size (own_base HOW2.out)⟩
     rw [HX.out]
     exact (HROW.out.below HB7 hB (Nat.le_refl _)).snoc (HE.out.below HB7 hB (Nat.le_refl _))
  ·have hj2:(prW xs).length ≤ j:=by rw [prW_len,HL.out];have:=HQ.out;omega
   have HJ:Hid (j = l / 2):=by show _ = _;have:=HQ.out;omega
   have HT:Hid ((prW xs).take j = prW xs):=List.take_of_length_le hj2
   clear hj2
   go_wp2
   go_ret
   exact ⟨A1,j,c1,cs1,rfl,HJ.out,HOWN.out,by have:=HROW.out;rwa [HT.out] at this,HBEL.out⟩
structure Left (w:World) (B k:Nat) (A:Option Addr) (n c:Nat) (xs:List WE) (cs:List Value):Prop where
 len:xs.length = n
 cap:n ≤ c
 mem:Cells w B A cs
 row:RowE w B k xs cs
theorem Left.below {w w':World} {B B' k n c:Nat} {A:Option Addr} {xs:List WE} {cs:List Value} (h:Left w B k A n c xs cs) (hb:Below B' w w') (hB:B ≤ B'):Left w' B k A n c xs cs :=
 ⟨h.len,h.cap,h.mem.below hb hB,h.row.below hb hB (Nat.le_refl _)⟩
theorem Left.next {w:World} {B k n c b o:Nat} {x:WE} {xs:List WE} {cs:List Value} (h:Left w B k (some ⟨b,o,none⟩) n c (x :: xs) cs) (hc:1 < c):Left w B k (some ⟨b,o + 4,none⟩) (n - 1) (c - 1) xs (cs.drop 4):=by
 obtain ⟨d,e,rfl,hx,hr⟩:=h.row.cons
 have hl:=h.len
 rw [List.length_cons] at hl
 have hd:d.length = 4:=hx.four
 have e4:(d++e).drop 4 = e:=by rw [← hd];simp
 rw [e4]
 refine ⟨by omega,by have:=h.cap;omega,fun hp => ?_,hr⟩
 obtain ⟨b',o',he,hb,hm⟩:=h.mem (by rw [List.length_append];omega)
 injection he with he
 injection he with h1 h2 _
 subst h1 h2
 exact ⟨b,o + 4,rfl,hb,fun j u hu => by
  rw [Nat.add_assoc]
  exact hm _ _ (by rw [List.getElem?_append_right (by omega),hd,show 4 + j - 4 = j by omega];exact hu)⟩
theorem Left.last {w:World} {B k n c:Nat} {A:Option Addr} {x:WE} {xs:List WE} {cs:List Value} (h:Left w B k A n c (x :: xs) cs) (hc:c = 1) (A':Option Addr):n = 1∧xs = []∧Left w B k A' 0 0 [] []:=by
 have h1:=h.len
 have h2:=h.cap
 rw [List.length_cons] at h1
 exact ⟨by omega,List.eq_nil_of_length_eq_zero (by omega),rfl,Nat.le_refl _,Cells.nil _ _ _,RowE.nil _ _ _⟩
set_option maxHeartbeats 2000000 in
theorem merge_any (A1 A2:Option Addr) (l1 c1 l2 c2:Nat) (xs1 xs2:List WE) (cs1 cs2:List Value) (k B:Nat) (w:World) (hm1:l1 ≤ 1000) (hm2:l2 ≤ 1000) (hB:B ≤ w.heap.size)
  (h1:Left w B k A1 l1 c1 xs1 cs1) (h2:Left w B k A2 l2 c2 xs2 cs2) :
  Calls Tryz.prog 218 #[.slice A1 l1 c1,.slice A2 l2 c2] w fun e w' => ∃ A' n' c' cs',e = .returned (.slice A' n' c')∧n' = l1 + l2∧w'.ownsRow w.heap.size 269 4 (.slice A' n' c') n' cs'∧RowE w' B k (mgW xs1 xs2) cs'∧Below w.heap.size w w':=by
 have H1:=Lib.hid h1
 have H2:=Lib.hid h2
 clear h1 h2
 go_enter Tryz.func218,Tryz.ntmps218
 go_wp2
 go_loopg [0,5,10] l2 (fun gk it v i wr => ∃ j:Nat,j + gk = l2∧i = .int .i64 j∧∃ A n c rest ds,it = .slice A n c∧Left wr B k A n c rest ds∧n ≤ l1 ∧
  ∃ A' n' c' acc cs',v = .slice A' n' c'∧n' + n = l1 + j∧wr.ownsRow w.heap.size 269 4 (.slice A' n' c') n' cs'∧RowE wr B k acc cs'∧mgW xs1 xs2 = acc++mgW rest (xs2.drop j)∧Below w.heap.size w wr)
 case atStart => exact ⟨0,by omega,rfl,A1,l1,c1,xs1,cs1,rfl,H1.out,Nat.le_refl _,none,0,0,[],[],rfl,by omega,World.ownsRow_nil _ _ _ _,RowE.nil _ _ _,rfl,Below.refl _ _⟩
 case round =>
  obtain ⟨j,hj,rfl,A,n,c,rest,ds,rfl,hleft,hnl,A',n',c',acc,cs',rfl,hn',hown,hrow,heq,hbel⟩:=hrel
  have HLEFT:=Lib.hid hleft
  have HOWN:=Lib.hid hown
  have HROW:=Lib.hid hrow
  have HEQ:=Lib.hid heq
  have HBEL:=Lib.hid hbel
  clear hleft hown hrow heq hbel
  by_cases h:j < l2
  ·obtain ⟨p,hp⟩:∃ p,xs2[j]? = some p:=⟨_,List.getElem?_eq_getElem (by have:=H2.out.len;omega)⟩
   have HDR:Hid (xs2.drop j = p :: xs2.drop (j + 1)):=by
    show _ = _
    obtain ⟨hlt,he⟩:=List.getElem?_eq_some_iff.1 hp
    rw [List.drop_eq_getElem_cons hlt,he]
   obtain ⟨b2,o2,rfl,hb2,hc2⟩:=(H2.out.below HBEL.out hB).mem (by rw [H2.out.row.len,H2.out.len];omega)
   obtain ⟨cp,hep,hat⟩:=H2.out.row.at_ hp
   have hap:At wr b2 (o2 + j * 4) cp:=fun r u hu => by rw [Nat.add_assoc];exact hc2 _ _ (hat r u hu)
   obtain ⟨sp,pp,qp,hcp⟩:=hep.len
   subst hcp
   have d0:wr.cell? ⟨b2,o2 + j * 4,none⟩ = some (.int .i64 (p.1:Int)):=hap 0 _ rfl
   have d1:wr.cell? ⟨b2,o2 + j * 4 + 1,none⟩ = some (.int .i64 (sp:Int)):=hap 1 _ rfl
   have d2:wr.cell? ⟨b2,o2 + j * 4 + 2,none⟩ = some (.pointer pp):=hap 2 _ rfl
   have d3:wr.cell? ⟨b2,o2 + j * 4 + 3,none⟩ = some (.pointer qp):=hap 3 _ rfl
   have HEP:=Lib.hid hep
   clear hp hc2 hep hap hat
   obtain ⟨pw,ps⟩:=p
   dsimp only at *
   go_wp2
   obtain ⟨g,hg⟩:∃ g,wr.heap.size = g:=⟨_,rfl⟩
   obtain ⟨W1,hW1⟩:∃ W1,wr.alloc (.cells #[.int .i64 (pw:Int),.int .i64 (sp:Int),.pointer pp,.pointer qp] 269) = W1:=⟨_,rfl⟩
   have HG1:Hid (W1.heap[g]? = some (.cells #[.int .i64 (pw:Int),.int .i64 (sp:Int),.pointer pp,.pointer qp] 269 (0,0))):=by show _ = _;rw [← hW1,← hg];exact heap_alloc_new wr _
   have HLT:Hid (∀ b,ownS (.slice A' n' c') b→b < g):=fun b hb => by rw [← hg];exact (HOWN.out.lt b hb).2
   have HOW1:Hid (W1.ownsRow w.heap.size 269 4 (.slice A' n' c') n' cs'):=by show World.ownsRow _ _ _ _ _ _ _;rw [← hW1];exact HOWN.out.alloc _
   have HBE1:Hid (Below w.heap.size w W1):=by show Below _ _ _;rw [← hW1];exact HBEL.out.alloc HBEL.out.size _
   have HBW1:Hid (Below wr.heap.size wr W1):=by show Below _ _ _;rw [← hW1];exact (Below.refl _ _).alloc (Nat.le_refl _) _
   have HBS:=Lib.hid HBEL.out.size
   obtain ⟨GK,hGK⟩:∃ GK,GK = gk:=⟨_,rfl⟩
   subst hGK
   rw [hW1,hg]
   clear hW1 d0 d1 d2 d3
   go_loopg [0,5] n (fun gi it v wi => ∃ A n c rest ds,n = gi∧it = .slice A n c∧Left wi B k A n c rest ds∧n ≤ l1 ∧
    ∃ A' n' c' acc cs',v = .slice A' n' c'∧n' + n = l1 + j∧wi.ownsRow w.heap.size 269 4 (.slice A' n' c') n' cs'∧RowE wi B k acc cs'∧mgW xs1 xs2 = acc++mgW rest ((pw,ps) :: xs2.drop (j + 1))∧Below w.heap.size w wi ∧
     wi.heap[g]? = some (.cells #[.int .i64 (pw:Int),.int .i64 (sp:Int),.pointer pp,.pointer qp] 269 (0,0))∧¬ ownS (.slice A' n' c') g)
   case atStart => exact ⟨A,n,c,rest,ds,rfl,rfl,HLEFT.out.below HBW1.out (Nat.le_trans hB HBS.out),hnl,A',n',c',acc,cs',rfl,hn',HOW1.out,HROW.out.below HBW1.out (Nat.le_trans hB HBS.out) (Nat.le_refl _),by rw [← HDR.out];exact HEQ.out,HBE1.out,HG1.out,fun h => Nat.lt_irrefl _ (HLT.out g h)⟩
   case round =>
    clear HLEFT HOWN HROW HEQ HOW1 HG1 HLT hn' hnl
    obtain ⟨A,n,c,rest,ds,rfl,rfl,hleft,hnl,A',n',c',acc,cs',rfl,hn',hown,hrow,heq,hbel2,hgw,hng⟩:=hrel
    have HLEFT:=Lib.hid hleft
    have HOWN:=Lib.hid hown
    have HROW:=Lib.hid hrow
    have HEQ:=Lib.hid heq
    have HBE2:=Lib.hid hbel2
    have HGW:=Lib.hid hgw
    have HNG:=Lib.hid hng
    clear hleft hown hrow heq hbel2 hgw hng
    have g0:wr.cell? ⟨g,0,none⟩ = some (.int .i64 (pw:Int)):=cell_of_row wr g 0 _ _ _ HGW.out
    have g1:wr.cell? ⟨g,1,none⟩ = some (.int .i64 (sp:Int)):=cell_of_row wr g 1 _ _ _ HGW.out
    have g2:wr.cell? ⟨g,2,none⟩ = some (.pointer pp):=cell_of_row wr g 2 _ _ _ HGW.out
    have g3:wr.cell? ⟨g,3,none⟩ = some (.pointer qp):=cell_of_row wr g 3 _ _ _ HGW.out
    cases rest with
    | nil =>
     have hn0:n = 0:=by have:=HLEFT.out.len;simpa using this.symm
     have hd:decide (0 < n) = false:=by simp [hn0]
     have hd2:decide ((0:Int) < (n:Int)) = false:=by simp [hn0]
     clear hn0
     go_wp2
     go_quiet (fail)
     obtain ⟨W,hW⟩:∃ W,wr.drewN nq = W:=⟨_,rfl⟩
     have HOW2:Hid (W.ownsRow w.heap.size 269 4 (.slice A' n' c') n' cs'):=by show World.ownsRow _ _ _ _ _ _ _;rw [← hW];exact HOWN.out
     have HB2:Hid (Below w.heap.size w W):=by show Below _ _ _;rw [← hW];exact dnBelow HBE2.out nq
     have HB3:Hid (Below wr.heap.size wr W):=by show Below _ _ _;rw [← hW];exact dnBelow (Below.refl _ _) nq
     have e0:W.cell? ⟨g,0,none⟩ = some (.int .i64 (pw:Int)):=by rw [← hW];exact g0
     have e1:W.cell? ⟨g,1,none⟩ = some (.int .i64 (sp:Int)):=by rw [← hW];exact g1
     have e2:W.cell? ⟨g,2,none⟩ = some (.pointer pp):=by rw [← hW];exact g2
     have e3:W.cell? ⟨g,3,none⟩ = some (.pointer qp):=by rw [← hW];exact g3
     rw [hW]
     clear hW g0 g1 g2 g3
     go_wp2_with (at_builtin;refine wpList_app1 W elElem rfl (.tmp 34) (.tmp 36) rfl w.heap.size (.slice A' n' c') n' cs' rfl HOW2.out _ rfl rfl (by simp [Value.oneCell']) (by unfold maxLen;omega) (by omega) HB2.out.size ?_;intro A4 c4 w7 hA;have HA:=Lib.hid hA;clear hA)
     go_roundg (GK - 1)
     case measure => omega
     case rel =>
      have HB7:Below w.heap.size wr w7:=HA.out.below (HB3.out.mono HBE2.out.size) HB2.out.size (own_base HOW2.out)
      have HB8:Below w.heap.size w w7:=HA.out.below HB2.out HB2.out.size (own_base HOW2.out)
      refine ⟨j + 1,by omega,by go_num,A,n,c,[],ds,rfl,HLEFT.out.below HB7 hB,hnl,A4,n' + 1,c4,acc++[(pw,ps)],_,rfl,by omega,HA.out.own,(HROW.out.below HB7 hB (Nat.le_refl _)).snoc (HEP.out.below HB8 hB (Nat.le_refl _)),?_,HB8⟩
      rw [HEQ.out,mg_none,List.append_assoc]
      rfl
    | cons x rest =>
     have hn1:n = rest.length + 1:=by have:=HLEFT.out.len;simpa using this.symm
     have hnp:0 < n:=by omega
     obtain ⟨b1,o1,rfl,hb1,hc1⟩:=HLEFT.out.mem (by rw [HLEFT.out.row.len,HLEFT.out.len];omega)
     obtain ⟨cx,dx,hds,hex,hrx⟩:=HLEFT.out.row.cons
     obtain ⟨sx,px,qx,hcx⟩:=hex.len
     subst hcx
     have x0:wr.cell? ⟨b1,o1,none⟩ = some (.int .i64 (x.1:Int)):=hc1 0 _ (by rw [hds];rfl)
     have x1:wr.cell? ⟨b1,o1 + 1,none⟩ = some (.int .i64 (sx:Int)):=hc1 1 _ (by rw [hds];rfl)
     have x2:wr.cell? ⟨b1,o1 + 2,none⟩ = some (.pointer px):=hc1 2 _ (by rw [hds];rfl)
     have x3:wr.cell? ⟨b1,o1 + 3,none⟩ = some (.pointer qx):=hc1 3 _ (by rw [hds];rfl)
     have HEX:=Lib.hid hex
     clear hc1 hex hds hrx hn1
     obtain ⟨xw,xs⟩:=x
     dsimp only at *
     have hcap:=HLEFT.out.cap
     by_cases hle:xw ≤ pw
     ·have hd:decide ((xw:Int) ≤ (pw:Int)) = true:=by simp;omega
      go_wp2
      go_quiet (fail)
      obtain ⟨W,hW⟩:∃ W,wr.drewN nq = W:=⟨_,rfl⟩
      have HOW2:Hid (W.ownsRow w.heap.size 269 4 (.slice A' n' c') n' cs'):=by show World.ownsRow _ _ _ _ _ _ _;rw [← hW];exact HOWN.out
      have HB2:Hid (Below w.heap.size w W):=by show Below _ _ _;rw [← hW];exact dnBelow HBE2.out nq
      have HB3:Hid (Below wr.heap.size wr W):=by show Below _ _ _;rw [← hW];exact dnBelow (Below.refl _ _) nq
      have HGW2:Hid (W.heap[g]? = some (.cells #[.int .i64 (pw:Int),.int .i64 (sp:Int),.pointer pp,.pointer qp] 269 (0,0))):=by show _ = _;rw [← hW];exact HGW.out
      have e0:W.cell? ⟨b1,o1,none⟩ = some (.int .i64 (xw:Int)):=by rw [← hW];exact x0
      have e1:W.cell? ⟨b1,o1 + 1,none⟩ = some (.int .i64 (sx:Int)):=by rw [← hW];exact x1
      have e2:W.cell? ⟨b1,o1 + 2,none⟩ = some (.pointer px):=by rw [← hW];exact x2
      have e3:W.cell? ⟨b1,o1 + 3,none⟩ = some (.pointer qx):=by rw [← hW];exact x3
      rw [hW]
      clear hW g0 g1 g2 g3 x0 x1 x2 x3
      have h1c:1 ≤ c:=by omega
      have h1n:1 ≤ n:=by omega
      by_cases hc1:c = 1
      ·subst hc1
       go_wp2_with (at_builtin;refine wpList_app1 W elElem rfl (.tmp 26) (.tmp 30) rfl w.heap.size (.slice A' n' c') n' cs' rfl HOW2.out _ rfl rfl (by simp [Value.oneCell']) (by unfold maxLen;omega) (by omega) HB2.out.size ?_;intro A4 c4 w7 hA;have HA:=Lib.hid hA;clear hA)
       go_roundg (n - 1)
       case measure => omega
       case rel =>
        have HB7:Below w.heap.size wr w7:=HA.out.below (HB3.out.mono HBE2.out.size) HB2.out.size (own_base HOW2.out)
        have HB8:Below w.heap.size w w7:=HA.out.below HB2.out HB2.out.size (own_base HOW2.out)
        have HGA:w7.heap[g]? = some (.cells #[.int .i64 (pw:Int),.int .i64 (sp:Int),.pointer pp,.pointer qp] 269 (0,0)):=(Mod.of_app HA.out).keep HGW2.out HNG.out
        have HGB:¬ ownS (.slice A4 (n' + 1) c4) g:=fun hh => by
         rcases HA.out.place g hh with h1 | h1
         ·exact HNG.out h1
         ·have:=(Array.getElem?_eq_some_iff.1 HGW2.out).1
          omega
        obtain ⟨hn1,hr,hl⟩:=(HLEFT.out.below HB7 hB).last rfl (some ⟨b1,o1,none⟩)
        refine ⟨some ⟨b1,o1,none⟩,0,0,[],[],by omega,rfl,hl,Nat.zero_le _,A4,n' + 1,c4,acc++[(xw,xs)],_,rfl,by omega,HA.out.own,(HROW.out.below HB7 hB (Nat.le_refl _)).snoc (HEX.out.below HB7 hB (Nat.le_refl _)),?_,HB8,HGA,HGB⟩
        rw [HEQ.out,hr,mg_step (by exact hle),List.append_assoc]
        rfl
      ·have hc2:1 < c:=by omega
       have hc3:decide (c = 1) = false:=by simpa using hc1
       have hc4:decide (1 = c) = false:=by simp;omega
       go_wp2_with (at_builtin;refine wpList_app1 W elElem rfl (.tmp 26) (.tmp 30) rfl w.heap.size (.slice A' n' c') n' cs' rfl HOW2.out _ rfl rfl (by simp [Value.oneCell']) (by unfold maxLen;omega) (by omega) HB2.out.size ?_;intro A4 c4 w7 hA;have HA:=Lib.hid hA;clear hA)
       go_roundg (n - 1)
       case measure => omega
       case rel =>
        have HB7:Below w.heap.size wr w7:=HA.out.below (HB3.out.mono HBE2.out.size) HB2.out.size (own_base HOW2.out)
        have HB8:Below w.heap.size w w7:=HA.out.below HB2.out HB2.out.size (own_base HOW2.out)
        have HGA:w7.heap[g]? = some (.cells #[.int .i64 (pw:Int),.int .i64 (sp:Int),.pointer pp,.pointer qp] 269 (0,0)):=(Mod.of_app HA.out).keep HGW2.out HNG.out
        have HGB:¬ ownS (.slice A4 (n' + 1) c4) g:=fun hh => by
         rcases HA.out.place g hh with h1 | h1
         ·exact HNG.out h1
         ·have:=(Array.getElem?_eq_some_iff.1 HGW2.out).1
          omega
        refine ⟨some ⟨b1,o1 + 4,none⟩,n - 1,c - 1,rest,_,rfl,rfl,(HLEFT.out.below HB7 hB).next hc2,by omega,A4,n' + 1,c4,acc++[(xw,xs)],_,rfl,by omega,HA.out.own,(HROW.out.below HB7 hB (Nat.le_refl _)).snoc (HEX.out.below HB7 hB (Nat.le_refl _)),?_,HB8,HGA,HGB⟩
        rw [HEQ.out,mg_step (by exact hle),List.append_assoc]
        rfl
     ·have hd:decide ((xw:Int) ≤ (pw:Int)) = false:=by simp;omega
      go_wp2
      go_quiet (fail)
      obtain ⟨W,hW⟩:∃ W,wr.drewN nq = W:=⟨_,rfl⟩
      have HOW2:Hid (W.ownsRow w.heap.size 269 4 (.slice A' n' c') n' cs'):=by show World.ownsRow _ _ _ _ _ _ _;rw [← hW];exact HOWN.out
      have HB2:Hid (Below w.heap.size w W):=by show Below _ _ _;rw [← hW];exact dnBelow HBE2.out nq
      have HB3:Hid (Below wr.heap.size wr W):=by show Below _ _ _;rw [← hW];exact dnBelow (Below.refl _ _) nq
      have e0:W.cell? ⟨g,0,none⟩ = some (.int .i64 (pw:Int)):=by rw [← hW];exact g0
      have e1:W.cell? ⟨g,1,none⟩ = some (.int .i64 (sp:Int)):=by rw [← hW];exact g1
      have e2:W.cell? ⟨g,2,none⟩ = some (.pointer pp):=by rw [← hW];exact g2
      have e3:W.cell? ⟨g,3,none⟩ = some (.pointer qp):=by rw [← hW];exact g3
      rw [hW]
      clear hW g0 g1 g2 g3 x0 x1 x2 x3
      go_wp2_with (at_builtin;refine wpList_app1 W elElem rfl (.tmp 34) (.tmp 36) rfl w.heap.size (.slice A' n' c') n' cs' rfl HOW2.out _ rfl rfl (by simp [Value.oneCell']) (by unfold maxLen;omega) (by omega) HB2.out.size ?_;intro A4 c4 w7 hA;have HA:=Lib.hid hA;clear hA)
      go_roundg (GK - 1)
      case measure => omega
      case rel =>
       have HB7:Below w.heap.size wr w7:=HA.out.below (HB3.out.mono HBE2.out.size) HB2.out.size (own_base HOW2.out)
       have HB8:Below w.heap.size w w7:=HA.out.below HB2.out HB2.out.size (own_base HOW2.out)
       refine ⟨j + 1,by omega,by go_num,some ⟨b1,o1,none⟩,n,c,(xw,xs) :: rest,ds,rfl,HLEFT.out.below HB7 hB,hnl,A4,n' + 1,c4,acc++[(pw,ps)],_,rfl,by omega,HA.out.own,(HROW.out.below HB7 hB (Nat.le_refl _)).snoc (HEP.out.below HB8 hB (Nat.le_refl _)),?_,HB8⟩
       rw [HEQ.out,mg_stop (by exact hle),List.append_assoc]
       rfl
  ·obtain rfl:j = l2:=by omega
   have HDN:Hid (xs2.drop j = []):=List.drop_of_length_le (by have:=H2.out.len;omega)
   have HONE:=Lib.hid HLEFT.out.row.one
   go_wp2_with (at_builtin;refine wpList_app wr elElem rfl (.tmp 39) (.tmp 40) rfl w.heap.size (.slice A' n' c') n' cs' rfl HOWN.out B A n c ds rfl (by rw [HLEFT.out.row.len,HLEFT.out.len]) HLEFT.out.mem HONE.out (by unfold maxLen;omega) (by omega) HBEL.out.size ?_;intro A4 c4 w7 hA;have HA:=Lib.hid hA;clear hA)
   go_ret
   have HB7:Below w.heap.size wr w7:=HA.out.below ((Below.refl _ _).mono HBEL.out.size) HBEL.out.size (own_base HOWN.out)
   have HB8:Below w.heap.size w w7:=HA.out.below HBEL.out HBEL.out.size (own_base HOWN.out)
   refine ⟨A4,l1 + j,c4,_,rfl,rfl,by have:=HA.out.own;rwa [hn'] at this,?_,HB8⟩
   have:=(HROW.out.below HB7 hB (Nat.le_refl _)).append (HLEFT.out.row.below HB7 hB (Nat.le_refl _))
   rw [HEQ.out,HDN.out]
   exact this
end Go.Proofs.YtaknladkodibaaaGreatDoor
