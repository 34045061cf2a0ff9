/- Layer 11: Split; the chapter's example. -/
import Derived.Test.YtaknladkodibaaaGreatDoorMgQ33834
import Derived.Lib.SmallJoins
import Derived.Test.YtaknladkodibaaaGreatDoorMgQ33817
import Derived.Test.YtaknladkodibaaaGreatDoorMgQ33812
import Derived.Test.YtaknladkodibaaaGreatDoorMgQ33808
namespace Go.Proofs.YtaknladkodibaaaGreatDoor
open Go.RowKit Go.Shelf
theorem cells_of_own7 {w:World} {base:Nat} {e:TypeId} {size:Nat} {A:Option Addr} {n c:Nat} {xs:List Value} (h:w.ownsRow base e size (.slice A n c) n xs):Cells w w.heap.size A xs:=fun hp => by
 obtain ⟨hlen,hor⟩:=h
 rcases hor with ⟨h1,h2⟩ | ⟨g,cap,cur,hv,_,hg,_,_,hcells⟩
 ·subst h2;rw [Nat.zero_mul] at hlen;omega
 ·injection hv with ha _ _
  refine ⟨g,0,ha,(Array.getElem?_eq_some_iff.1 hg).1,fun j u hj => ?_⟩
  rw [Nat.zero_add,cell_of_row w g j _ _ _ hg]
  obtain ⟨_,ht⟩:=hcells
  rw [← ht,List.getElem?_take] at hj
  split at hj
  ·rw [← Array.getElem?_toList];exact hj
  ·cases hj
theorem toks_few (bs:List UInt8) (lv:Int):(toks bs lv 0).length ≤ bs.length:=by
 have:=toks_len bs lv 0
 omega
set_option maxHeartbeats 1000000 in
theorem split_any (A:Option Addr) (l c:Nat) (bs:List UInt8) (lv:Int) (w:World) (hl:bs.length = l) (hm:l ≤ 32000) (hcap:l ≤ c) (hb:Bytes w w.heap.size A bs) :
  Calls Tryz.prog 66 #[.slice A l c,.int .i64 lv] w fun e w' => ∃ A' c',e = .returned (.slice A' (toks bs lv 0).length c')∧Cells w' w'.heap.size A' ((toks bs lv 0).map tkC).flatten∧Below w.heap.size w w':=by
 obtain ⟨W1,hW1⟩:∃ W1,(w.alloc (.cells #[.slice A l c] 25)).alloc (.cells #[.int .i64 lv] 3) = W1:=⟨_,rfl⟩
 have hz:W1.heap.size = w.heap.size + 2:=by rw [← hW1];simp
 have hB1:Below w.heap.size w W1:=by rw [← hW1];exact ((Below.refl _ w).alloc (Nat.le_refl _) _).alloc (by simp) _
 have h1:W1.heap[w.heap.size]? = some (.cells #[.slice A l c] 25):=by rw [← hW1];exact alloc_keep (heap_alloc_new w _) _
 have h2:W1.heap[w.heap.size + 1]? = some (.cells #[.int .i64 lv] 3):=by
  rw [← hW1]
  have h:=heap_alloc_new (w.alloc (.cells #[.slice A l c] 25)) (.cells #[.int .i64 lv] 3)
  rwa [World.size_alloc] at h
 have HC:=Lib.hid (each_any A l c lv w)
 rw [hW1] at HC
 have HA:=Lib.hid (appendSeqT_any 159 #[.pointer (some ⟨w.heap.size,0,none⟩),.pointer (some ⟨w.heap.size + 1,0,none⟩)] (toks bs lv 0) (by have:=toks_few bs lv;omega) W1 (enters_of Tryz.func159 (by kernel_rfl) rfl)
  (fun Z hZ hsz ho => each_seq W1.heap.size W1.heap.size w.heap.size (w.heap.size + 1) A l c bs lv Z hl hm hcap ((hb.below (hB1.trans (hZ.mono (by omega))) (Nat.le_refl _)).more (by omega)) hZ.size hsz (by omega) (by omega) ho ((hZ.block _ (by omega)).trans h1) ((hZ.block _ (by omega)).trans h2)))
 have HCO:Hid (Calls Tryz.prog 112 #[.func (.func 159) #[] #[.pointer (some ⟨w.heap.size,0,none⟩),.pointer (some ⟨w.heap.size + 1,0,none⟩)]] W1 fun e w' => ∃ v,e = .returned v∧w'.ownsRow W1.heap.size 164 3 v (toks bs lv 0).length ((toks bs lv 0).map tkC).flatten∧Below W1.heap.size W1 w'):=by
  show Calls _ _ _ _ _
  generalize toks bs lv 0 = L at HA ⊢
  clear hb
  go_enter Tryz.func112,Tryz.ntmps112
  go_wp2_with (go_at_call 158;refine HA.out.mono ?_;rintro e w5 ⟨v,rfl,ho,hb⟩;have HO:=Lib.hid ho;have HBB:=Lib.hid hb;clear ho hb)
  go_ret
  exact ⟨v,rfl,HO.out,HBB.out⟩
 have HB1:=Lib.hid hB1
 have HZ:=Lib.hid hz
 clear hW1 hB1 h1 h2 HA hz hb
 generalize toks bs lv 0 = L at HCO ⊢
 go_enter Tryz.func66,Tryz.ntmps66
 go_wp2_with (first
  | (go_at_call 113;refine HC.out.mono ?_;rintro e w' ⟨rfl,rfl⟩)
  | (go_at_call 112;refine HCO.out.mono ?_;rintro e w5 ⟨v,rfl,ho,hb⟩;have HO:=Lib.hid ho;have HBB:=Lib.hid hb;clear ho hb))
 go_ret
 obtain ⟨A',c',rfl⟩:=own_form' HO.out
 exact ⟨A',c',rfl,cells_of_own7 HO.out,HB1.out.trans (HBB.out.mono (by have:=HZ.out;omega))⟩
theorem tkC_len (L:List Tk):∀ r ∈ L,(tkC r).length = 3:=fun _ _ => rfl
def tiC (t:Ti):List Value:=[.int .u8 (t.1.toNat:Int),.int .i64 t.2.1,.int .i64 t.2.2]
def tiV (t:Ti):Value:=.agg #[.int .u8 (t.1.toNat:Int),.int .i64 t.2.1,.int .i64 t.2.2]
set_option maxHeartbeats 1000000 in
theorem Right_any (t:Ti) (w:World):Calls Tryz.prog 153 #[tiV t] w fun e w' => e = .returned (.bool (okX t))∧Below w.heap.size w w':=by
 obtain ⟨b,n,d⟩:=t
 have hbd:=b.toNat_lt
 unfold tiV
 dsimp only
 by_cases h0:n = 0
 ·have t0:(n == 0) = true:=by simp [h0]
  by_cases hd:d = 0
  ·have t1:(d == 0) = true:=by simp [hd]
   have HO:Hid (okX (b,n,d) = true):=by show _ = _;subst h0;subst hd;rfl
   clear h0 hd
   go_enter Tryz.func153,Tryz.ntmps153
   go_wp2
   go_ret
   exact ⟨by rw [HO.out];rfl,(Below.refl _ w).alloc (Nat.le_refl _) _⟩
  ·have t1:(d == 0) = false:=by simp [hd]
   have HO:Hid (okX (b,n,d) = false):=by show _ = _;subst h0;unfold okX;simp [hd]
   have u1:decide (3 ≤ n) = false:=decide_eq_false (by omega)
   have u2:decide (2 < n) = false:=decide_eq_false (by omega)
   clear h0 hd
   go_enter Tryz.func153,Tryz.ntmps153
   go_wp2
   go_ret
   exact ⟨by rw [HO.out];rfl,(Below.refl _ w).alloc (Nat.le_refl _) _⟩
 ·have t0:(n == 0) = false:=by simp [h0]
  by_cases h_n3:3 ≤ n
  ·have v00:decide (3 ≤ n) = true:=decide_eq_true (by omega)
   have v01:decide (2 < n) = true:=decide_eq_true (by omega)
   by_cases h_n258:n ≤ 258
   ·have v10:decide (n ≤ 258) = true:=decide_eq_true (by omega)
    have v11:decide (n < 259) = true:=decide_eq_true (by omega)
    by_cases h_d1:1 ≤ d
    ·have v20:decide (1 ≤ d) = true:=decide_eq_true (by omega)
     have v21:decide (0 < d) = true:=decide_eq_true (by omega)
     by_cases h_dw:d ≤ 32768
     ·have v30:decide (d ≤ 32768) = true:=decide_eq_true (by omega)
      have v31:decide (d < 32769) = true:=decide_eq_true (by omega)
      by_cases hb:b.toNat = 0
      ·have t5:(b.toNat == 0) = true:=by simp [hb]
       have t6:((b.toNat:Int) == 0) = true:=by simp [hb]
       have hz:b = 0:=UInt8.toNat.inj hb
       have t7:(b == 0) = true:=by simp [hz]
       have HZ0:Hid (b = 0):=hz
       clear hz hb
       have HO:Hid (okX (b,n,d) = true):=by show _ = _;unfold okX;simp only;rw [if_neg h0];exact decide_eq_true ⟨h_n3,h_n258,h_d1,h_dw,HZ0.out⟩
       clear h0 h_n3 h_n258 h_d1 h_dw
       go_enter Tryz.func153,Tryz.ntmps153
       go_wp2
       go_ret
       exact ⟨by rw [HO.out];rfl,(Below.refl _ w).alloc (Nat.le_refl _) _⟩
      ·have t5:(b.toNat == 0) = false:=by simp [hb]
       have t6:((b.toNat:Int) == 0) = false:=by simp;omega
       have t7:(b == 0) = false:=by simp;intro e;exact hb (by rw [e];rfl)
       have HO:Hid (okX (b,n,d) = false):=by show _ = _;unfold okX;simp only;rw [if_neg h0];exact decide_eq_false (fun h => hb (by rw [h.2.2.2.2];rfl))
       go_enter Tryz.func153,Tryz.ntmps153
       go_wp2
       go_ret
       exact ⟨by rw [HO.out];rfl,(Below.refl _ w).alloc (Nat.le_refl _) _⟩
     ·have v30:decide (d ≤ 32768) = false:=decide_eq_false (by omega)
      have v31:decide (d < 32769) = false:=decide_eq_false (by omega)
      have HO:Hid (okX (b,n,d) = false):=by show _ = _;unfold okX;simp only;rw [if_neg h0];exact decide_eq_false (fun h => by omega)
      go_enter Tryz.func153,Tryz.ntmps153
      go_wp2
      go_ret
      exact ⟨by rw [HO.out];rfl,(Below.refl _ w).alloc (Nat.le_refl _) _⟩
    ·have v20:decide (1 ≤ d) = false:=decide_eq_false (by omega)
     have v21:decide (0 < d) = false:=decide_eq_false (by omega)
     have HO:Hid (okX (b,n,d) = false):=by show _ = _;unfold okX;simp only;rw [if_neg h0];exact decide_eq_false (fun h => by omega)
     go_enter Tryz.func153,Tryz.ntmps153
     go_wp2
     go_ret
     exact ⟨by rw [HO.out];rfl,(Below.refl _ w).alloc (Nat.le_refl _) _⟩
   ·have v10:decide (n ≤ 258) = false:=decide_eq_false (by omega)
    have v11:decide (n < 259) = false:=decide_eq_false (by omega)
    have HO:Hid (okX (b,n,d) = false):=by show _ = _;unfold okX;simp only;rw [if_neg h0];exact decide_eq_false (fun h => by omega)
    go_enter Tryz.func153,Tryz.ntmps153
    go_wp2
    go_ret
    exact ⟨by rw [HO.out];rfl,(Below.refl _ w).alloc (Nat.le_refl _) _⟩
  ·have v00:decide (3 ≤ n) = false:=decide_eq_false (by omega)
   have v01:decide (2 < n) = false:=decide_eq_false (by omega)
   have HO:Hid (okX (b,n,d) = false):=by show _ = _;unfold okX;simp only;rw [if_neg h0];exact decide_eq_false (fun h => by omega)
   go_enter Tryz.func153,Tryz.ntmps153
   go_wp2
   go_ret
   exact ⟨by rw [HO.out];rfl,(Below.refl _ w).alloc (Nat.le_refl _) _⟩
set_option maxHeartbeats 400000 in
theorem szT_any (t:Ti) (w:World):Calls Tryz.prog 162 #[tiV t] w fun e w' => e = .returned (.int .i64 (szT t))∧Below w.heap.size w w':=by
 obtain ⟨b,n,d⟩:=t
 unfold tiV
 dsimp only
 by_cases h:n < 1
 ·have HZ:Hid (szT (b,n,d) = 1):=by show _ = _;unfold szT;simp only;rw [if_pos h]
  have hm:(if n < 1 then (1:Int) else n) = 1:=if_pos h
  have hm3:(if (1:Int) < n then n else 1) = 1:=if_neg (by omega)
  clear h
  go_enter Tryz.func162,Tryz.ntmps162
  go_wp2
  go_ret
  exact ⟨by rw [HZ.out];rfl,(Below.refl _ w).alloc (Nat.le_refl _) _⟩
 ·have HZ:Hid (szT (b,n,d) = n):=by show _ = _;unfold szT;simp only;rw [if_neg h]
  have hm:(if n < 1 then (1:Int) else n) = n:=if_neg h
  have hm3:(if (1:Int) < n then n else 1) = n:=by split <;> omega
  clear h
  go_enter Tryz.func162,Tryz.ntmps162
  go_wp2
  go_ret
  exact ⟨by rw [HZ.out];rfl,(Below.refl _ w).alloc (Nat.le_refl _) _⟩
theorem byteElemT:Elem Tryz.prog 25 5 (.int .u8 0) 1 1:=Elem.of Tryz.underlying25 (by kernel_rfl) rfl (by omega)
theorem byteCellsOne (x:UInt8):[Value.int .u8 (x.toNat:Int)] = byteCells [x]:=rfl
set_option maxHeartbeats 2000000 in
theorem expand_any (A:Option Addr) (n c base:Nat) (out:List UInt8) (t:Ti) (w:World) (hn:out.length = n) (hm:n ≤ 1000000000) (hok:okX t = true) (hd:t.2.2 ≤ (n:Int)) (hbase:base ≤ w.heap.size) (ho:OwnB w base 5 (.slice A n c) n out) :
  Calls Tryz.prog 174 #[.slice A n c,tiV t] w fun e w' => ∃ A' c',e = .returned (.slice A' (putT t out).length c')∧App w base 5 1 (.slice A n c) (putT t out).length (byteCells (putT t out)) w' (.slice A' (putT t out).length c'):=by
 have HN:=Lib.hid hn
 have HO:=Lib.hid ho
 have hcase:=okX_cases hok
 obtain ⟨b,nn,d⟩:=t
 unfold tiV
 dsimp only at hcase hd ⊢
 rcases hcase with ⟨rfl,rfl⟩ | ⟨h1,h2,h3,h4,rfl⟩
 ·have HP:Hid (putT (b,0,0) out = out++[b]):=if_pos rfl
  have HPL:Hid ((putT (b,0,0) out).length = n + 1):=by show _ = _;rw [HP.out,List.length_append,HN.out];rfl
  obtain ⟨W1,hW1⟩:∃ W1,w.alloc (.cells #[.int .u8 (b.toNat:Int),.int .i64 0,.int .i64 0] 164) = W1:=⟨_,rfl⟩
  have HO1:Hid (OwnB W1 base 5 (.slice A n c) n out):=by show OwnB _ _ _ _ _ _;rw [← hW1];exact HO.out.alloc _
  have hx1:W1.heap[w.heap.size]? = some (.cells #[.int .u8 (b.toNat:Int),.int .i64 0,.int .i64 0] 164):=by rw [← hW1];exact heap_alloc_new w _
  have HZ1:Hid (W1.heap.size = w.heap.size + 1):=by show _ = _;rw [← hW1];simp
  have c0:=cell_of_row W1 w.heap.size 0 _ _ _ hx1
  have c1:=cell_of_row W1 w.heap.size 1 _ _ _ hx1
  have HBH:Hid (∀ (w':World) (v':Value) (m:Nat) (xs:List Value),App W1 base 5 1 (.slice A n c) m xs w' v'→App w base 5 1 (.slice A n c) m xs w' v'):=fun w' v' m xs h => by rw [← hW1] at h;exact h.behind _
  clear ho hn hok hd hx1
  go_enter Tryz.func174,Tryz.ntmps174
  go_wp2_with (at_builtin;refine wpList_app1 _ byteElemT rfl (.tmp 8) (.tmp 11) rfl base (.slice A n c) n _ rfl HO1.out _ rfl rfl (by simp [Value.oneCell']) (by unfold maxLen;omega) (by omega) (by have:=HZ1.out;omega) ?_;intro A' c' w2 hA;have HA:=Lib.hid hA;clear hA)
  go_ret
  have h:=HA.out
  rw [byteCellsOne,← byteCells_append] at h
  refine ⟨A',c',by rw [HPL.out];rfl,?_⟩
  rw [HPL.out,HP.out]
  exact HBH.out _ _ _ _ h
 ·obtain ⟨k,rfl⟩:∃ k:Nat,nn = (k:Int):=⟨nn.toNat,by omega⟩
  obtain ⟨q,rfl⟩:∃ q:Nat,d = (q:Int):=⟨d.toNat,by omega⟩
  have HP:Hid (putT (0,(k:Int),(q:Int)) out = copyN q k out):=by show _ = _;unfold putT;simp only;rw [if_neg (by omega),Int.toNat_natCast,Int.toNat_natCast]
  have HPL:Hid ((putT (0,(k:Int),(q:Int)) out).length = n + k):=by show _ = _;rw [HP.out,copyN_len,HN.out]
  have t0:((k:Int) == 0) = false:=by simp;omega
  have t0':(k == 0) = false:=by simp;omega
  obtain ⟨W1,hW1⟩:∃ W1,w.alloc (.cells #[.int .u8 0,.int .i64 (k:Int),.int .i64 (q:Int)] 164) = W1:=⟨_,rfl⟩
  have HX1:Hid (W1.heap[w.heap.size]? = some (.cells #[.int .u8 0,.int .i64 (k:Int),.int .i64 (q:Int)] 164)):=by show _ = _;rw [← hW1];exact heap_alloc_new w _
  have HO1:Hid (OwnB W1 base 5 (.slice A n c) n out):=by show OwnB _ _ _ _ _ _;rw [← hW1];exact HO.out.alloc _
  have HZ1:Hid (W1.heap.size = w.heap.size + 1):=by show _ = _;rw [← hW1];simp
  have HBH:Hid (∀ (w':World) (v':Value) (m:Nat) (xs:List Value),App W1 base 5 1 (.slice A n c) m xs w' v'→App w base 5 1 (.slice A n c) m xs w' v'):=fun w' v' m xs h => by rw [← hW1] at h;exact h.behind _
  have c1:=cell_of_row W1 w.heap.size 1 _ _ _ HX1.out
  have c0:=cell_of_row W1 w.heap.size 0 _ _ _ HX1.out
  have c2:=cell_of_row W1 w.heap.size 2 _ _ _ HX1.out
  clear ho hn hok
  go_enter Tryz.func174,Tryz.ntmps174
  go_wp2
  go_loopg [0,15] k (fun gk s0 s15 wr => ∃ (j m:Nat) (Aj:Option Addr) (cj:Nat),j + gk = k∧m = n + j∧s0 = .slice Aj m cj∧s15 = .int .i64 (j:Int)∧App W1 base 5 1 (.slice A n c) m (byteCells (copyN q j out)) wr (.slice Aj m cj))
  case atStart => exact ⟨0,n,A,c,by omega,rfl,rfl,rfl,App.start HO1.out⟩
  case round =>
   obtain ⟨j,m,Aj,cj,hk,hmn,rfl,rfl,hap⟩:=hrel
   have HM:=Lib.hid hmn
   have HAP:=Lib.hid hap
   by_cases hj:j < k
   ·have e2:wr.cell? ⟨w.heap.size,2,none⟩ = some (.int .i64 (q:Int)):=by
     refine cell_of_row wr w.heap.size 2 _ _ _ ((hap.grow.block w.heap.size (by have:=HZ1.out;omega) (fun e => ?_)).trans HX1.out)
     have:=own_lt HO.out w.heap.size e.symm
     omega
    obtain ⟨p,hp⟩:∃ p,m - q = p:=⟨_,rfl⟩
    have hsub:IntKind.i64.wrap ((m:Int) - (q:Int)) = (p:Int):=by rw [IntWalk.i64_in _ (by omega)];omega
    have hlen:(copyN q j out).length = m:=by rw [copyN_len,HN.out];omega
    obtain ⟨x,hx⟩:∃ x,(copyN q j out)[p]? = some x:=⟨_,List.getElem?_eq_getElem (by omega)⟩
    have HCP:Hid (copyN q (j + 1) out = copyN q j out++[x]):=by show _ = _;rw [copyN,hlen,hp,List.getD,hx];rfl
    obtain ⟨bb,o,rfl,_,hcc⟩:=(Cells.of_own hap.own) (by rw [byteCells_length];omega)
    have e3:wr.cell? ⟨bb,o + p,none⟩ = some (.int .u8 (x.toNat:Int)):=hcc p _ (byteCells_get hx)
    have hpm:p < m:=by omega
    have hsz:=hap.grow.size
    have hmb:m ≤ 1000000300:=by omega
    clear hap hmn hx hcc hp hlen
    go_wp2_with (at_builtin;refine wpList_app1 _ byteElemT rfl (.tmp 17) (.tmp 26) rfl base (.slice (some ⟨bb,o,none⟩) m cj) m _ rfl HAP.out.own _ rfl rfl (by simp [Value.oneCell']) (by unfold maxLen;omega) (by omega) (by have:=HZ1.out;omega) ?_;intro A2 c2 w2 hA;have HA:=Lib.hid hA;clear hA)
    go_roundg (gk - 1)
    case measure => omega
    case rel =>
     refine ⟨j + 1,m + 1,A2,c2,by omega,by have:=HM.out;omega,rfl,by go_num,?_⟩
     have h:=HAP.out.trans HA.out
     rw [byteCellsOne,← byteCells_append,← HCP.out] at h
     exact h
   ·obtain rfl:j = k:=by omega
    clear hap hmn
    go_wp2
    go_ret
    have hm:=HM.out
    subst hm
    refine ⟨Aj,cj,by rw [HPL.out];rfl,?_⟩
    rw [HPL.out,HP.out]
    exact HBH.out _ _ _ _ HAP.out
theorem tiC_len (L:List Ti):∀ r ∈ L,(tiC r).length = 3:=fun _ _ => rfl
set_option maxRecDepth 100000 in
set_option maxHeartbeats 4000000 in
theorem Expand_any (A:Option Addr) (l c:Nat) (L:List Ti) (most:Int) (w:World) (hl:L.length = l) (hm:l ≤ 400000) (hm1:-9223372036854775808 ≤ most) (hm2:most ≤ 9223372036854775807) (hc:Cells w w.heap.size A (L.map tiC).flatten) :
  Calls Tryz.prog 137 #[.slice A l c,.int .i64 most] w fun e w' => ∃ A' c',e = .returned (.tuple #[.slice A' (expE most L []).2.length c',.int .i64 (expE most L []).1])∧Bytes w' w'.heap.size A' (expE most L []).2∧Below w.heap.size w w':=by
 have HL:=Lib.hid hl
 have HC:=Lib.hid hc
 clear hl hc
 go_enter Tryz.func137,Tryz.ntmps137
 go_wp2
 go_loopg [6,11] l (fun gk s6 s11 wr => ∃ (k m:Nat) (out:List UInt8) (Ak:Option Addr) (ck:Nat),k + gk = l∧s6 = .slice Ak m ck∧s11 = .int .i64 (k:Int)∧out.length = m∧expE most L [] = expE most (L.drop k) out∧(m = 0 ∨ (m:Int) ≤ most)∧m ≤ 258 * k∧OwnB wr w.heap.size 5 (.slice Ak m ck) m out∧Below w.heap.size w wr)
 case atStart => exact ⟨0,0,[],none,0,by omega,rfl,rfl,rfl,rfl,.inl rfl,by omega,World.ownsRow_nil _ _ _ _,Below.refl _ _⟩
 case round =>
  obtain ⟨k,m,out,Ak,ck,hk,rfl,rfl,hlen,hex,hmost,hmk,hown,hbl⟩:=hrel
  have HLEN:=Lib.hid hlen
  have HEX:=Lib.hid hex
  have HOWN:=Lib.hid hown
  have HBL:=Lib.hid hbl
  clear hlen hex hown hbl
  by_cases h:k < l
  ·have hkl:k < L.length:=by rw [HL.out];exact h
   obtain ⟨t,ht⟩:∃ t,L[k]? = some t:=⟨_,List.getElem?_eq_getElem hkl⟩
   have hdrop:L.drop k = t :: L.drop (k + 1):=by
    rw [List.drop_eq_getElem_cons hkl]
    rw [List.getElem?_eq_getElem hkl] at ht
    injection ht with ht
    rw [ht]
   have HST:Hid (expE most L [] = if okX t = false ∨ (m:Int) < t.2.2 then (3,[]) else if most - (m:Int) < szT t then (5,[]) else expE most (L.drop (k + 1)) (putT t out)):=by
    show _ = _
    rw [HEX.out,hdrop,expE,HLEN.out]
   have HPL:=Lib.hid (fun hok => putT_len (t:=t) out hok)
   have HEX5:Hid (∀ Z:World,Below wr.heap.size wr Z→okX t = true→t.2.2 ≤ (m:Int)→Calls Tryz.prog 174 #[.slice Ak m ck,tiV t] Z fun e w' => ∃ A' c',e = .returned (.slice A' (putT t out).length c')∧App Z w.heap.size 5 1 (.slice Ak m ck) (putT t out).length (byteCells (putT t out)) w' (.slice A' (putT t out).length c')):=fun Z hZ hok hd =>
    expand_any Ak m ck w.heap.size out t Z HLEN.out (by omega) hok hd (by have:=HBL.out.size;have:=hZ.size;omega) (own_keep HOWN.out (Mod.of_below hZ) (fun _ _ h => h))
   have HRI:=Lib.hid (fun Z => Right_any t Z)
   have HSI:=Lib.hid (fun Z => szT_any t Z)
   have hs1:=szT_pos t
   have HSL:Hid (okX t = true→szT t ≤ 258):=fun h => szT_le h
   have hwr:IntKind.i64.wrap (most - (m:Int)) = most - (m:Int):=IntWalk.i64_in _ (by omega)
   have hlt3:k * 3 + 0 < (L.map tiC).flatten.length:=(List.getElem?_eq_some_iff.1 (code_at (tiC_len L) ht (show (tiC t)[0]? = some (.int .u8 (t.1.toNat:Int)) from rfl))).1
   obtain ⟨b,o,rfl,_,hcc⟩:=HC.out (by omega)
   have x0:wr.cell? ⟨b,o + k * 3,none⟩ = some (.int .u8 (t.1.toNat:Int)):=(HBL.out.cell (p:=⟨b,o + k * 3,none⟩) (by assumption)).trans (hcc (k * 3 + 0) _ (code_at (tiC_len L) ht rfl))
   have x1:wr.cell? ⟨b,o + k * 3 + 1,none⟩ = some (.int .i64 t.2.1):=(HBL.out.cell (p:=⟨b,o + k * 3 + 1,none⟩) (by assumption)).trans (hcc (k * 3 + 1) _ (code_at (tiC_len L) ht rfl))
   have x2:wr.cell? ⟨b,o + k * 3 + 2,none⟩ = some (.int .i64 t.2.2):=(HBL.out.cell (p:=⟨b,o + k * 3 + 2,none⟩) (by assumption)).trans (hcc (k * 3 + 2) _ (code_at (tiC_len L) ht rfl))
   obtain ⟨W6,hW6⟩:∃ W6,wr.alloc (.cells #[.int .u8 (t.1.toNat:Int),.int .i64 t.2.1,.int .i64 t.2.2] 164) = W6:=⟨_,rfl⟩
   have HX6:Hid (W6.heap[wr.heap.size]? = some (.cells #[.int .u8 (t.1.toNat:Int),.int .i64 t.2.1,.int .i64 t.2.2] 164)):=by show _ = _;rw [← hW6];exact heap_alloc_new wr _
   have HB6:Hid (Below wr.heap.size wr W6):=by show Below _ _ _;rw [← hW6];exact (Below.refl _ wr).alloc (Nat.le_refl _) _
   have HZ6:Hid (W6.heap.size = wr.heap.size + 1):=by show _ = _;rw [← hW6];simp
   have z0:=cell_of_row W6 wr.heap.size 0 _ _ _ HX6.out
   have z1:=cell_of_row W6 wr.heap.size 1 _ _ _ HX6.out
   have z2:=cell_of_row W6 wr.heap.size 2 _ _ _ HX6.out
   have HUP:Hid (∀ Z:World,Below W6.heap.size W6 Z→Z.heap[wr.heap.size]? = some (.cells #[.int .u8 (t.1.toNat:Int),.int .i64 t.2.1,.int .i64 t.2.2] 164)):=fun Z hZ => (hZ.block _ (by have:=HZ6.out;omega)).trans HX6.out
   have HBW:Hid (∀ Z:World,Below W6.heap.size W6 Z→Below wr.heap.size wr Z):=fun Z hZ => HB6.out.trans (hZ.mono HB6.out.size)
   obtain ⟨tb,tn,td⟩:=t
   simp only [tiV] at HRI HSI HEX5 x0 x1 x2 hW6 z0 z1 z2 HX6 HUP
   simp only at HST
   clear hcc hdrop ht hlt3 hkl
   by_cases hok:okX (tb,tn,td) = true
   ·have HOK:=Lib.hid hok
    rw [hok] at HRI HST
    by_cases hd:(m:Int) < td
    ·have t1:decide ((m:Int) < td) = true:=decide_eq_true hd
     have HR:Hid (expE most L [] = (3,[])):=by show _ = _;rw [HST.out,if_pos (.inr hd)]
     clear hok HST hd
     go_wp2_with (go_at_call 153;refine (HRI.out _).mono ?_;rintro e w5 ⟨rfl,hb5⟩;have hx5:=HUP.out w5 hb5;have y0:=cell_of_row w5 wr.heap.size 0 _ _ _ hx5;have y1:=cell_of_row w5 wr.heap.size 1 _ _ _ hx5;have y2:=cell_of_row w5 wr.heap.size 2 _ _ _ hx5;have HB5:=Lib.hid hb5;clear hx5 hb5)
     go_ret2
     exact ⟨none,0,by rw [HR.out];rfl,by rw [HR.out];exact Cells.nil _ _ _,HBL.out.trans ((HBW.out _ HB5.out).mono HBL.out.size)⟩
    ·have t1:decide ((m:Int) < td) = false:=decide_eq_false hd
     have HD:Hid (td ≤ (m:Int)):=by show _ ≤ _;omega
     by_cases hs:most - (m:Int) < szT (tb,tn,td)
     ·have HR:Hid (expE most L [] = (5,[])):=by show _ = _;rw [HST.out,if_neg (by simp;omega),if_pos hs]
      have t2:decide (most - (m:Int) < szT (tb,tn,td)) = true:=decide_eq_true hs
      clear hok HST hd hs
      generalize szT (tb,tn,td) = sz at *
      go_wp2_with (first
       | (go_at_call 153;refine (HRI.out _).mono ?_;rintro e w5 ⟨rfl,hb5⟩;have hx5:=HUP.out w5 hb5;have y0:=cell_of_row w5 wr.heap.size 0 _ _ _ hx5;have y1:=cell_of_row w5 wr.heap.size 1 _ _ _ hx5;have y2:=cell_of_row w5 wr.heap.size 2 _ _ _ hx5;have HB5:=Lib.hid hb5;clear hx5 hb5)
       | (go_at_call 162;refine (HSI.out _).mono ?_;rintro e w7 ⟨rfl,hb7⟩;have HB7:=Lib.hid hb7;clear hb7))
      go_ret2
      exact ⟨none,0,by rw [HR.out];rfl,by rw [HR.out];exact Cells.nil _ _ _,HBL.out.trans ((HBW.out _ (HB5.out.trans (HB7.out.mono HB5.out.size))).mono HBL.out.size)⟩
     ·have HR:Hid (expE most L [] = expE most (L.drop (k + 1)) (putT (tb,tn,td) out)):=by show _ = _;rw [HST.out,if_neg (by simp;omega),if_neg hs]
      have t2:decide (most - (m:Int) < szT (tb,tn,td)) = false:=decide_eq_false hs
      have hsb:(m:Int) + szT (tb,tn,td) ≤ most:=by omega
      have hpl:=HPL.out hok
      have hsl:=HSL.out hok
      rw [HLEN.out] at hpl
      clear hok HST hd hs
      generalize szT (tb,tn,td) = sz at *
      obtain ⟨m2,hm2'⟩:∃ m2,(putT (tb,tn,td) out).length = m2:=⟨_,rfl⟩
      rw [hm2'] at HEX5 hpl
      have HM2:=Lib.hid hm2'
      clear hm2'
      go_wp2_with (first
       | (go_at_call 153;refine (HRI.out _).mono ?_;rintro e w5 ⟨rfl,hb5⟩;have hx5:=HUP.out w5 hb5;have y0:=cell_of_row w5 wr.heap.size 0 _ _ _ hx5;have y1:=cell_of_row w5 wr.heap.size 1 _ _ _ hx5;have y2:=cell_of_row w5 wr.heap.size 2 _ _ _ hx5;have HB5:=Lib.hid hb5;clear hx5 hb5)
       | (go_at_call 162;refine (HSI.out _).mono ?_;rintro e w7 ⟨rfl,hb7⟩;have hb57:=HB5.out.trans (hb7.mono HB5.out.size);have hx7:=HUP.out w7 hb57;have v0:=cell_of_row w7 wr.heap.size 0 _ _ _ hx7;have v1:=cell_of_row w7 wr.heap.size 1 _ _ _ hx7;have v2:=cell_of_row w7 wr.heap.size 2 _ _ _ hx7;have HB7:=Lib.hid hb57;clear hx7 hb7 hb57)
       | (go_at_call 174;refine (HEX5.out _ (HBW.out _ HB7.out) HOK.out HD.out).mono ?_;rintro e w8 ⟨A8,c8,rfl,hap⟩;have HAP:=Lib.hid hap;clear hap))
      go_roundg (gk - 1)
      case measure => omega
      case rel =>
       have hb7:=HBL.out.trans ((HBW.out _ HB7.out).mono HBL.out.size)
       exact ⟨k + 1,m2,putT (tb,tn,td) out,A8,c8,by omega,rfl,by go_num,HM2.out,HR.out,by omega,by omega,HAP.out.own,HAP.out.below hb7 hb7.size (own_base HOWN.out)⟩
   ·have hok':okX (tb,tn,td) = false:=by simpa using hok
    rw [hok'] at HRI HST
    have HR:Hid (expE most L [] = (3,[])):=by show _ = _;rw [HST.out,if_pos (.inl rfl)]
    clear hok hok' HST
    go_wp2_with (go_at_call 153;refine (HRI.out _).mono ?_;rintro e w5 ⟨rfl,hb5⟩;have HB5:=Lib.hid hb5;clear hb5)
    go_ret2
    exact ⟨none,0,by rw [HR.out];rfl,by rw [HR.out];exact Cells.nil _ _ _,HBL.out.trans ((HBW.out _ HB5.out).mono HBL.out.size)⟩
  ·obtain rfl:k = l:=by omega
   have HR:Hid (expE most L [] = (0,out)):=by show _ = _;rw [HEX.out,List.drop_of_length_le (by rw [HL.out];exact Nat.le_refl _)];rfl
   go_wp2
   go_ret2
   exact ⟨Ak,ck,by rw [HR.out,HLEN.out];rfl,by rw [HR.out];exact Cells.of_own HOWN.out,HBL.out⟩
end Go.Proofs.YtaknladkodibaaaGreatDoor
