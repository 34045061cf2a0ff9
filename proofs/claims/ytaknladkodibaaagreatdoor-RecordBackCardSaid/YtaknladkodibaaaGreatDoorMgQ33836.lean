/- Layer 7: the items of weights. -/
import Derived.Test.YtaknladkodibaaaGreatDoorMgQ33833
import Derived.Test.YtaknladkodibaaaGreatDoorMgQ338SSortOwn
import Derived.Laws.Rows
import Derived.Laws.MakeOwn
import Derived.Laws.OwnMore
import Derived.Test.YtaknladkodibaaaGreatDoorMgQ33815
namespace Go.Proofs.YtaknladkodibaaaGreatDoor
open Go.RowKit Go.Lib Go.Shelf Go.Sort
def nCs (ns:List Nat):List Value:=ns.map fun n:Nat => Value.int .i64 (n:Int)
theorem nCs_at {ns:List Nat} {k n:Nat} (h:ns[k]? = some n):(nCs ns)[k]? = some (.int .i64 (n:Int)):=by simp [nCs,h]
theorem nCs_len (ns:List Nat):(nCs ns).length = ns.length:=by simp [nCs]
def itP (ns:List Nat):Nat→List (Nat × Nat)
 | 0 => []
 | k + 1 => match ns[k]? with | some x => if 0 < x then itP ns k++[(x,k)] else itP ns k | none => itP ns k
theorem itP_yes {ns:List Nat} {k x:Nat} (h:ns[k]? = some x) (h0:0 < x):itP ns (k + 1) = itP ns k++[(x,k)]:=by rw [itP,h];simp [h0]
theorem itP_no {ns:List Nat} {k x:Nat} (h:ns[k]? = some x) (h0:¬ 0 < x):itP ns (k + 1) = itP ns k:=by rw [itP,h];simp [h0]
theorem itP_len (ns:List Nat):∀ k,(itP ns k).length ≤ k
 | 0 => Nat.le_refl _
 | k + 1 => by
  have ih:=itP_len ns k
  rw [itP]
  split
  ·split
   ·rw [List.length_append]
    show (itP ns k).length + 1 ≤ _
    omega
   ·omega
  ·omega
def itemsW (ns:List Nat):List (Nat × Nat):=sortW (itP ns ns.length)
theorem itCs_snoc (l:List (Nat × Nat)) (x:Nat × Nat):(l++[x]).flatMap itEn = l.flatMap itEn++(#[.int .i64 (x.1:Int),.int .i64 (x.2:Int),.pointer none,.pointer none]:Array Value).toList:=by simp [itEn,elC]
theorem itEn4:∀ x,(itEn x).length = 4:=fun _ => rfl
theorem sorted_list {l:List (Nat × Nat)} {d':Array (Nat × Nat)} (hp:PermIn 0 l.toArray.size l.toArray d') (hs:SortedIn (ltOf itCn) 0 l.toArray.size d'):d'.toList = sortW l:=by
 have h:=sorted_unique_holds (lt:=ltOf itCn) itSwoN itTotN l.toArray d' hp hs
 rw [h]
 rfl
set_option maxHeartbeats 1000000 in
theorem items_any (A:Option Addr) (l c:Nat) (ns:List Nat) (B:Nat) (w:World) (hl:ns.length = l) (hm:l ≤ 1000) (hB:B ≤ w.heap.size) (hb:Cells w B A (nCs ns)) :
  Calls Tryz.prog 186 #[.slice A l c] w fun e w' => ∃ A' n' c',e = .returned (.slice A' n' c')∧n' = (itemsW ns).length∧w'.ownsRow w.heap.size 269 4 (.slice A' n' c') n' ((itemsW ns).flatMap itEn)∧Below w.heap.size w w':=by
 have HC:=Lib.hid hb
 have HL:=Lib.hid hl
 clear hb hl
 go_enter Tryz.func186,Tryz.ntmps186
 go_wp2
 go_loopg [3,8] l (fun gk v i wr => ∃ k:Nat,k + gk = l∧i = .int .i64 k∧∃ A1 n c1,v = .slice A1 n c1∧n = (itP ns k).length∧wr.ownsRow w.heap.size 269 4 (.slice A1 n c1) n ((itP ns k).flatMap itEn)∧Below w.heap.size w wr)
 case atStart => exact ⟨0,by omega,rfl,none,0,0,rfl,rfl,World.ownsRow_nil _ _ _ _,Below.refl _ _⟩
 case round =>
  obtain ⟨k,hk,rfl,A1,n,c1,rfl,hn,hown,hbel⟩:=hrel
  have HOWN:=Lib.hid hown
  have HBEL:=Lib.hid hbel
  have HN:=Lib.hid hn
  have hn1:n ≤ k:=by rw [hn];exact itP_len ns k
  clear hown hbel hn
  by_cases h:k < l
  ·obtain ⟨x,hx⟩:∃ x,ns[k]? = some x:=⟨_,List.getElem?_eq_getElem (by have:=HL.out;omega)⟩
   obtain ⟨b,o,rfl,hbB,hc⟩:=(HC.out.below HBEL.out hB) (by rw [nCs_len,HL.out];omega)
   have c0:wr.cell? ⟨b,o + k,none⟩ = some (.int .i64 (x:Int)):=hc k _ (nCs_at hx)
   have HX:=Lib.hid hx
   clear hx hc
   by_cases h0:0 < x
   ·have hd:decide ((0:Int) < (x:Int)) = true:=by simp;omega
    go_wp2_with (at_builtin;refine wpList_app1 wr elElem rfl (.tmp 15) (.tmp 19) rfl w.heap.size (.slice A1 n c1) n ((itP ns k).flatMap itEn) rfl HOWN.out _ rfl rfl (by simp [Value.oneCell']) (by unfold maxLen;omega) (by omega) HBEL.out.size ?_;intro A' c' w2 hA;have HA:=Lib.hid hA;clear hA)
    go_roundg (gk - 1)
    case measure => omega
    case rel => exact ⟨k + 1,by omega,by go_num,A',n + 1,c',rfl,by rw [itP_yes HX.out h0,List.length_append,← HN.out];rfl,by rw [itP_yes HX.out h0,itCs_snoc];exact HA.out.own,HA.out.below HBEL.out HBEL.out.size (own_base HOWN.out)⟩
   ·have hd:decide ((0:Int) < (x:Int)) = false:=by simp;omega
    go_wp2
    go_roundg (gk - 1)
    case measure => omega
    case rel => exact ⟨k + 1,by omega,by go_num,A1,n,c1,rfl,by rw [itP_no HX.out (by omega)];exact HN.out,by rw [itP_no HX.out (by omega)];exact HOWN.out,HBEL.out⟩
  ·obtain rfl:k = l:=by omega
   have HI:Hid (itemsW ns = sortW (itP ns k)):=by show _ = _;rw [itemsW,HL.out]
   have HIL:Hid (n = (itemsW ns).length):=by show _ = _;rw [HI.out,(sortW_perm _).length_eq];exact HN.out
   rcases HOWN.out.2 with ⟨hv,hn0⟩ | ⟨g,cap,cur,hv,hg,hh,hrest⟩
   ·obtain ⟨rfl,_,rfl⟩:A1 = none∧n = 0∧c1 = 0:=by simpa using hv
    have HS:=Lib.hid (sortNone_any none 0 (.func (.func 214) #[] #[]) wr)
    have hnil:itemsW ns = []:=List.eq_nil_of_length_eq_zero (by rw [← HIL.out];exact hn0)
    have HNIL:=Lib.hid hnil
    clear hv hnil
    subst hn0
    go_wp2_with (go_at_call 213;refine HS.out.mono ?_;rintro e w' ⟨rfl,rfl⟩)
    go_ret
    exact ⟨none,0,0,rfl,HIL.out,by rw [HNIL.out];exact World.ownsRow_nil _ _ _ _,HBEL.out⟩
   ·obtain ⟨rfl,_,rfl⟩:A1 = some ⟨g,0,none⟩∧n = n∧c1 = cap:=by simpa using hv
    have HH:=holdsK_of_own itEn4 (by omega) HOWN.out
    have HS:=itSort_any g 0 c1 (itP ns k).toArray wr HH (Array.getElem?_eq_some_iff.1 hh).1 (by have:=itP_len ns k;simp;omega)
    rw [show (itP ns k).toArray.size = n by rw [HN.out];simp] at HS
    have HS2:=Lib.hid HS
    have HG:Hid (w.heap.size ≤ g):=hg
    clear HS HH hv hh hrest hg
    go_wp2_with (go_at_call 213;refine HS2.out.mono ?_;rintro e w7 ⟨rfl,hd⟩;have HD:=Lib.hid hd;clear hd)
    go_ret
    obtain ⟨d',m,os,hp,hs,rfl⟩:=HD.out
    have hsz:(itP ns k).toArray.size = n:=by rw [HN.out];simp
    obtain ⟨o1,o2⟩:=own_of_sorted (m:=m) (os:=os) (d':=d') itEn4 (by omega) HOWN.out (by rw [hp.1,hsz])
    rw [sorted_list (by rw [hsz];exact hp) (by rw [hsz];exact hs),← HI.out] at o1
    exact ⟨_,n,_,rfl,HIL.out,o1,HBEL.out.grown o2 HBEL.out.size (fun j hj => by cases hj;exact HG.out)⟩
end Go.Proofs.YtaknladkodibaaaGreatDoor
namespace Go.Proofs.YtaknladkodibaaaGreatDoor
open Go.RowKit
theorem incW_cons (l:List Nat) (s:Nat) (ss:List Nat):incW l (s :: ss) = incW (l.set s (l.getD s 0 + 1)) ss:=rfl
theorem incW_getD:∀ (ss l:List Nat) (t:Nat),t < l.length→(incW l ss).getD t 0 = l.getD t 0 + ss.count t
 | [],l,t,_ => by simp [incW]
 | s :: ss,l,t,h => by
  rw [incW_cons,incW_getD ss _ t (by simpa using h),List.count_cons]
  by_cases e:s = t
  ·subst e
   simp [List.getD,h]
   omega
  ·have:(l.set s (l.getD s 0 + 1)).getD t 0 = l.getD t 0:=by simp [List.getD,e]
   rw [this]
   simp [e]
def NB (w:World) (g:Nat) (ns:List Nat):Prop:=w.heap[g]? = some (.cells (nCs ns).toArray 3 (0,0))
theorem NB.cell {w:World} {g k n:Nat} {ns:List Nat} (h:NB w g ns) (hk:ns[k]? = some n):w.cell? ⟨g,k,none⟩ = some (.int .i64 (n:Int)):=by
 rw [cell_of_row _ _ _ _ _ _ h]
 simpa using nCs_at hk
theorem NB.free {w:World} {g k:Nat} {ns:List Nat} (h:NB w g ns):w.frozen? ⟨g,k,none⟩ = false:=by simp [World.frozen?,show w.heap[g]? = _ from h]
theorem NB.lt {w:World} {g:Nat} {ns:List Nat} (h:NB w g ns):g < w.heap.size:=(Array.getElem?_eq_some_iff.1 h).1
theorem NB.set {w:World} {g:Nat} {ns:List Nat} (h:NB w g ns) (k n:Nat):NB (w.setCell ⟨g,k,none⟩ (.int .i64 (n:Int))) g (ns.set k n):=by
 refine (heap_setCell_same w g k _ _ _ h).trans ?_
 rw [List.setIfInBounds_toArray,nCs,nCs,List.map_set]
theorem NB.apart {w:World} {g b o wt s:Nat} {p q:Option Addr} {ns:List Nat} (h:NB w g ns) (ha:At w b o (elC wt s p q)):b ≠ g:=by
 rintro rfl
 have h1:=ha 2 _ rfl
 rw [cell_of_row _ _ _ _ _ _ h] at h1
 have h2:(nCs ns)[o + 2]? = some (.pointer p):=by simpa using h1
 rw [nCs,List.getElem?_map] at h2
 cases hx:ns[o + 2]? with
 | none => rw [hx] at h2;cases h2
 | some n => rw [hx] at h2;cases h2
theorem At.mod {w w':World} {g b o:Nat} {cs:List Value} (h:At w b o cs) (hm:Mod (oneB g) w w') (hb:b ≠ g):At w' b o cs:=fun r u hu => by
 have h1:=h r u hu
 have hlt:=World.block_lt_of_cell? w _ h1
 exact (World.cell?_of_block (a:=⟨b,o + r,none⟩) (hm.block b hlt (fun e => hb e))).trans h1
theorem El.mod {w w':World} {g B:Nat} {ns:List Nat} (hn:NB w g ns) (hm:Mod (oneB g) w w'):∀ {k:Nat} {x:WE} {cs:List Value},El w B k x cs→El w' B k x cs
 | 0,_,_,h => h
 | k + 1,_,_,h => by
  rcases h with h | ⟨a,b,b1,o1,b2,o2,c,d,e1,e2,l1,l2,ha,hb,a1,a2⟩
  ·exact .inl h
  ·obtain ⟨_,_,_,hc⟩:=ha.len
   obtain ⟨_,_,_,hd⟩:=hb.len
   exact .inr ⟨a,b,b1,o1,b2,o2,c,d,e1,e2,l1,l2,ha.mod hn hm,hb.mod hn hm,a1.mod hm (hn.apart (by rw [hc] at a1;exact a1)),a2.mod hm (hn.apart (by rw [hd] at a2;exact a2))⟩
theorem weiInfo:(Tryz.prog.info? 3).map (fun i => (i.zero,i.size,i.bytes)) = some (some (.int .i64 0),1,8):=by kernel_rfl
theorem wei_make (n:Nat) (hn:n ≤ 1000000) (W:World) :
  (Instr.makeSlice 156 (.int .i64 (n:Int)) (.int .i64 (n:Int))).run Tryz.prog W = .ok (.slice (some ⟨W.heap.size,0,none⟩) n n) (W.alloc (.cells (madeCells #[.int .i64 0] n) 3)):=by
 obtain ⟨i0,hi,hz0,hz1,hz2⟩:=info_parts weiInfo
 have h:=run_make (P:=Tryz.prog) W 156 3 i0 (.int .i64 0) Tryz.underlying156 hi hz0 .i64 .i64 n n (by omega) (Int.le_refl _) (by rw [hz2];omega) (by omega)
 simp only [Int.toNat_natCast,hz1,Nat.mul_one] at h
 exact h
theorem wei_made (w:World) (n:Nat):NB (w.alloc (.cells (madeCells #[Value.int .i64 0] n) 3)) w.heap.size (List.replicate n 0):=by
 have e:madeCells #[Value.int .i64 0] n = (nCs (List.replicate n 0)).toArray:=by
  apply Array.toList_inj.1
  rw [toList_madeCells_one]
  simp [nCs]
 unfold NB
 rw [e]
 exact heap_alloc_new w _
theorem NB.below {w w':World} {g B:Nat} {ns:List Nat} (h:NB w g ns) (hb:Below B w w') (hg:g < B):NB w' g ns:=(hb.block g hg).trans h
theorem NB.own {w:World} {g base:Nat} {ns:List Nat} (h:NB w g ns) (hb:base ≤ g) (hm:ns.length ≤ maxLen):w.ownsRow base 3 1 (.slice (some ⟨g,0,none⟩) ns.length ns.length) ns.length (nCs ns) :=
 ⟨by rw [nCs_len,Nat.mul_one],.inr ⟨g,ns.length,(nCs ns).toArray,rfl,hb,h,Nat.le_refl _,hm,by simp [nCs_len],by rw [Nat.mul_one,List.take_of_length_le (by simp [nCs_len])]⟩⟩
set_option maxHeartbeats 1000000 in
theorem add_leaf (g cap b o wt s:Nat) (ns:List Nat) (w:World) (hs:s < ns.length) (hn:NB w g ns) (ha:At w b o (elC wt s none none)) (hc:ns.getD s 0 + 1 ≤ 1000000) :
  Calls Tryz.prog 188 #[.slice (some ⟨g,0,none⟩) ns.length cap,.pointer (some ⟨b,o,none⟩)] w fun e w' => e = .returned (.tuple #[])∧NB w' g (incW ns [s])∧Mod (oneB g) w w':=by
 have hx:ns[s]? = some (ns.getD s 0):=by rw [List.getD,List.getElem?_eq_getElem hs];rfl
 obtain ⟨n,hn0⟩:∃ n,ns.getD s 0 = n:=⟨_,rfl⟩
 rw [hn0] at hx hc
 have c1:w.cell? ⟨b,o + 1,none⟩ = some (.int .i64 (s:Int)):=ha 1 _ rfl
 have c2:w.cell? ⟨b,o + 2,none⟩ = some (.pointer none):=ha 2 _ rfl
 have d0:=hn.cell hx
 have d1:w.frozen? ⟨g,s,none⟩ = false:=hn.free
 have HN:=Lib.hid hn
 have HI:Hid (incW ns [s] = ns.set s (n + 1)):=by show _ = _;rw [incW_cons,hn0];rfl
 obtain ⟨L,hL⟩:∃ L,ns.length = L:=⟨_,rfl⟩
 rw [hL] at hs ⊢
 clear hn ha hx hn0 hL
 go_enter Tryz.func188,Tryz.ntmps188
 go_wp2
 refine bodyPost_ret (results_none rfl _ _ _) rfl ⟨rfl,?_,?_⟩
 ·rw [HI.out]
  have:=HN.out.set s (n + 1)
  simpa using this
 ·exact (Mod.refl _ _).set _ _ (.inl rfl)
theorem incW_len (ss l:List Nat):(incW l ss).length = l.length:=incW_length l ss
set_option maxHeartbeats 1000000 in
theorem add_node (g cap b o wt b1 o1 b2 o2:Nat) (ns n1 n2:List Nat) (w:World) (ha:At w b o (elC wt 0 (some ⟨b1,o1,none⟩) (some ⟨b2,o2,none⟩))) (hn:NB w g ns)
  (h1:∀ W,NB W g ns→Mod (oneB g) w W→Calls Tryz.prog 188 #[.slice (some ⟨g,0,none⟩) ns.length cap,.pointer (some ⟨b1,o1,none⟩)] W fun e w' => e = .returned (.tuple #[])∧NB w' g n1∧Mod (oneB g) W w')
  (h2:∀ W,NB W g n1→Mod (oneB g) w W→Calls Tryz.prog 188 #[.slice (some ⟨g,0,none⟩) ns.length cap,.pointer (some ⟨b2,o2,none⟩)] W fun e w' => e = .returned (.tuple #[])∧NB w' g n2∧Mod (oneB g) W w') :
  Calls Tryz.prog 188 #[.slice (some ⟨g,0,none⟩) ns.length cap,.pointer (some ⟨b,o,none⟩)] w fun e w' => e = .returned (.tuple #[])∧NB w' g n2∧Mod (oneB g) w w':=by
 have c2:w.cell? ⟨b,o + 2,none⟩ = some (.pointer (some ⟨b1,o1,none⟩)):=ha 2 _ rfl
 have hbg:=hn.apart ha
 have HA:=Lib.hid ha
 have H1:=Lib.hid (h1 w hn (Mod.refl _ _))
 have H2:=Lib.hid h2
 have HBG:=Lib.hid hbg
 obtain ⟨L,hL⟩:∃ L,ns.length = L:=⟨_,rfl⟩
 rw [hL] at H1 H2 ⊢
 clear ha h1 h2 hn hL hbg
 go_enter Tryz.func188,Tryz.ntmps188
 go_wp2_with (first
  | (go_at_call 188;refine H1.out.mono ?_;clear H1;rintro e w1 ⟨rfl,hn1,hm1⟩;have HN1:=Lib.hid hn1;have HM1:=Lib.hid hm1;have c3:w1.cell? ⟨b,o + 3,none⟩ = some (.pointer (some ⟨b2,o2,none⟩)):=(HA.out.mod hm1 HBG.out) 3 _ rfl;clear hn1 hm1)
  | (go_at_call 188;refine (H2.out _ HN1.out HM1.out).mono ?_;clear H2;rintro e w2 ⟨rfl,hn2,hm2⟩;have HN2:=Lib.hid hn2;have HM2:=Lib.hid hm2;clear hn2 hm2))
 go_end0
 exact ⟨rfl,HN2.out,HM1.out.then_ HM2.out⟩
theorem add_any (g cap B:Nat):∀ (k:Nat) (x:WE) (cs:List Value) (b o:Nat) (ns:List Nat) (w:World),El w B k x cs→At w b o cs→NB w g ns→(∀ s ∈ x.2,s < ns.length)→(∀ s,ns.getD s 0 + x.2.count s ≤ 1000000) →
  Calls Tryz.prog 188 #[.slice (some ⟨g,0,none⟩) ns.length cap,.pointer (some ⟨b,o,none⟩)] w fun e w' => e = .returned (.tuple #[])∧NB w' g (incW ns x.2)∧Mod (oneB g) w w'
 | 0,x,cs,b,o,ns,w,he,ha,hn,hs,hc => by
  obtain ⟨s,e,_,rfl⟩:=he
  have h1:=hc s
  rw [e] at hs h1 ⊢
  exact add_leaf g cap b o x.1 s ns w (hs s (by simp)) hn ha (by simpa using h1)
 | k + 1,x,cs,b,o,ns,w,he,ha,hn,hs,hc => by
  rcases he with ⟨s,e,_,rfl⟩ | ⟨x1,x2,b1,o1,b2,o2,c1,c2,rfl,rfl,_,_,e1,e2,a1,a2⟩
  ·have h1:=hc s
   rw [e] at hs h1 ⊢
   exact add_leaf g cap b o x.1 s ns w (hs s (by simp)) hn ha (by simpa using h1)
  ·obtain ⟨_,_,_,hc1⟩:=e1.len
   obtain ⟨_,_,_,hc2⟩:=e2.len
   refine add_node g cap b o _ b1 o1 b2 o2 ns (incW ns x1.2) (incW ns (x1.2++x2.2)) w ha hn (fun W hW hm => ?_) (fun W hW hm => ?_)
   ·refine add_any g cap B k x1 c1 b1 o1 ns W (e1.mod hn hm) (a1.mod hm (hn.apart (by rw [hc1] at a1;exact a1))) hW (fun s hs1 => hs s (List.mem_append_left _ hs1)) fun s => ?_
    have:=hc s
    rw [List.count_append] at this
    omega
   ·have h:=add_any g cap B k x2 c2 b2 o2 (incW ns x1.2) W (e2.mod hn hm) (a2.mod hm (hn.apart (by rw [hc2] at a2;exact a2))) hW (fun s hs1 => by rw [incW_len];exact hs s (List.mem_append_right _ hs1)) fun s => ?_
    ·rw [incW_len] at h
     rw [incW_append]
     exact h
    ·by_cases hlt:s < ns.length
     ·rw [incW_getD _ _ _ hlt]
      have:=hc s
      rw [List.count_append] at this
      omega
     ·have h1:(incW ns x1.2).getD s 0 = 0:=by rw [List.getD,List.getElem?_eq_none (by rw [incW_len];omega)];rfl
      have:=hc s
      rw [List.count_append] at this
      omega
theorem cells_of_ownK {w:World} {base:Nat} {e:TypeId} {k n:Nat} {A:Option Addr} {c:Nat} {xs:List Value} (h:w.ownsRow base e k (.slice A n c) n xs):n ≤ c∧Cells w w.heap.size A xs:=by
 rcases h.2 with ⟨h2,h3⟩ | ⟨g,cap,cur,hv,hg,hh,hnc,hcm,hcs,htake⟩
 ·have h4:=h.1
  rw [h3,Nat.zero_mul] at h4
  rw [List.eq_nil_of_length_eq_zero h4]
  exact ⟨by omega,Cells.nil _ _ _⟩
 ·simp only [Value.slice.injEq] at hv
  obtain ⟨rfl,_,rfl⟩:=hv
  refine ⟨hnc,fun _ => ⟨g,0,rfl,(Array.getElem?_eq_some_iff.1 hh).1,fun j u hu => ?_⟩⟩
  rw [Nat.zero_add,cell_of_row _ _ _ _ _ _ hh]
  rw [← htake] at hu
  have hlt:=(List.getElem?_eq_some_iff.1 hu).1
  rw [List.length_take] at hlt
  rw [List.getElem?_take_of_lt (by omega)] at hu
  simpa using hu
abbrev RowL (w:World) (k:Nat) (A:Option Addr) (n c:Nat) (xs:List WE) (cs:List Value):Prop:=Left w w.heap.size k A n c xs cs
theorem RowL.below {w w':World} {k n c:Nat} {A:Option Addr} {xs:List WE} {cs:List Value} (h:RowL w k A n c xs cs) (hb:Below w.heap.size w w'):RowL w' k A n c xs cs :=
 ⟨h.len,h.cap,(h.mem.below hb (Nat.le_refl _)).more hb.size,h.row.below hb (Nat.le_refl _) hb.size⟩
theorem Left.up {w:World} {B k n c:Nat} {A:Option Addr} {xs:List WE} {cs:List Value} (h:Left w B k A n c xs cs):Left w B (k + 1) A n c xs cs:=⟨h.len,h.cap,h.mem,h.row.up⟩
theorem Left.ups {w:World} {B n c:Nat} {A:Option Addr} {xs:List WE} {cs:List Value} (h:Left w B 0 A n c xs cs):∀ k,Left w B k A n c xs cs
 | 0 => h
 | k + 1 => (h.ups k).up
theorem El.keep {w w':World} {B:Nat} (hk:∀ b o wt s p q,At w b o (elC wt s p q)→At w' b o (elC wt s p q)):∀ {k:Nat} {x:WE} {cs:List Value},El w B k x cs→El w' B k x cs
 | 0,_,_,h => h
 | k + 1,_,_,h => by
  rcases h with h | ⟨a,b,b1,o1,b2,o2,c,d,e1,e2,l1,l2,ha,hb,a1,a2⟩
  ·exact .inl h
  ·obtain ⟨_,_,_,hc⟩:=ha.len
   obtain ⟨_,_,_,hd⟩:=hb.len
   exact .inr ⟨a,b,b1,o1,b2,o2,c,d,e1,e2,l1,l2,ha.keep hk,hb.keep hk,by rw [hc] at a1 ⊢;exact hk _ _ _ _ _ _ a1,by rw [hd] at a2 ⊢;exact hk _ _ _ _ _ _ a2⟩
theorem RowE.keep {w w':World} {B k:Nat} {xs:List WE} {cs:List Value} (hk:∀ b o wt s p q,At w b o (elC wt s p q)→At w' b o (elC wt s p q)) (h:RowE w B k xs cs):RowE w' B k xs cs:=by
 obtain ⟨E,e1,e2,h⟩:=h
 exact ⟨E,e1,e2,fun e he => (h e he).keep hk⟩
theorem RowL.keep {w w':World} {k n c:Nat} {A:Option Addr} {xs:List WE} {cs:List Value} (h:RowL w k A n c xs cs) (hs:w.heap.size ≤ w'.heap.size) (hk:∀ b o wt s p q,At w b o (elC wt s p q)→w'.heap[b]? = w.heap[b]?):RowL w' k A n c xs cs:=by
 have hat:∀ b o wt s p q,At w b o (elC wt s p q)→At w' b o (elC wt s p q):=fun b o wt s p q ha r u hu => (World.cell?_of_block (a:=⟨b,o + r,none⟩) (hk b o wt s p q ha)).trans (ha r u hu)
 refine ⟨h.len,h.cap,fun hp => ?_,(h.row.keep hat).below (Below.refl w'.heap.size w') hs hs⟩
 obtain ⟨b,o,e,hb,hc⟩:=h.mem hp
 refine ⟨b,o,e,by omega,fun j u hu => ?_⟩
 have hlen:=h.row.len
 cases xs with
 | nil => simp at hlen;rw [hlen] at hp;simp at hp
 | cons x xs =>
  obtain ⟨c',d,rfl,hx,_⟩:=h.row.cons
  obtain ⟨s,p,q,rfl⟩:=hx.len
  have ha:At w b o (elC x.1 s p q):=fun r v hv => hc r v (by rw [List.getElem?_append_left (List.getElem?_eq_some_iff.1 hv).1];exact hv)
  exact (World.cell?_of_block (a:=⟨b,o + j,none⟩) (hk b o _ _ _ _ ha)).trans (hc j u hu)
theorem pairs_row (A:Option Addr) (n c:Nat) (xs:List WE) (cs:List Value) (k:Nat) (w:World) (h:RowL w k A n c xs cs) (hm:n ≤ 1000) (hbd:∀ x ∈ xs,x.1 ≤ 1125899906842624) :
  Calls Tryz.prog 219 #[.slice A n c] w fun e w' => ∃ A' n' c' cs',e = .returned (.slice A' n' c')∧n' ≤ 1000∧RowL w' (k + 1) A' n' c' (prW xs) cs'∧Below w.heap.size w w' :=
 (pairs_any A n c xs cs k w.heap.size w h.len hm (Nat.le_refl _) h.mem h.row hbd).mono fun _ w' ⟨A',n',c',cs',he,hn,ho,hr,hb⟩ => by
  obtain ⟨h1,h2⟩:=cells_of_ownK ho
  exact ⟨A',n',c',cs',he,by omega,⟨by rw [prW_len,h.len,hn],h1,h2,hr.below (Below.refl w.heap.size w') (Nat.le_refl _) hb.size⟩,hb⟩
theorem merge_row (A1 A2:Option Addr) (l1 c1 l2 c2:Nat) (xs1 xs2:List WE) (cs1 cs2:List Value) (k:Nat) (w:World) (h1:RowL w k A1 l1 c1 xs1 cs1) (h2:RowL w k A2 l2 c2 xs2 cs2) (hm1:l1 ≤ 1000) (hm2:l2 ≤ 1000) :
  Calls Tryz.prog 218 #[.slice A1 l1 c1,.slice A2 l2 c2] w fun e w' => ∃ A' n' c' cs',e = .returned (.slice A' n' c')∧RowL w' k A' n' c' (mgW xs1 xs2) cs'∧Below w.heap.size w w' :=
 (merge_any A1 A2 l1 c1 l2 c2 xs1 xs2 cs1 cs2 k w.heap.size w hm1 hm2 (Nat.le_refl _) h1 h2).mono fun _ w' ⟨A',n',c',cs',he,hn,ho,hr,hb⟩ => by
  obtain ⟨h3,h4⟩:=cells_of_ownK ho
  exact ⟨A',n',c',cs',he,⟨by rw [mgW_len,h1.len,h2.len,hn],h3,h4,hr.below (Below.refl w.heap.size w') (Nat.le_refl _) hb.size⟩,hb⟩
end Go.Proofs.YtaknladkodibaaaGreatDoor
