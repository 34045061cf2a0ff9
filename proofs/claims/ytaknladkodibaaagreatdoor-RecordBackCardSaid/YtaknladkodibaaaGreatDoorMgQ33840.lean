/- Layer 9: what a number tells, and the part at a place. -/
import Derived.Test.YtaknladkodibaaaGreatDoorMgQ33805
import Derived.Test.YtaknladkodibaaaGreatDoorMgQ33817
import Derived.Test.YtaknladkodibaaaGreatDoorMgQ33836
import Derived.Deep.CutBlock
import Derived.Laws.Rows
import Derived.Deep.Cut
import Derived.Deep.DeepCutAuto
namespace Go.Proofs.YtaknladkodibaaaGreatDoor
open Go.RowKit
theorem span_any (n:Nat) (w:World):Calls Tryz.prog 191 #[.int .i64 (n:Int)] w fun e w' => e = .returned (.tuple #[.int .i64 ((spanP n).1:Nat),.int .i64 ((spanP n).2:Nat)])∧w = w':=by
 by_cases h1:n = 16
 ·subst h1
  go_enter Tryz.func191,Tryz.ntmps191
  go_wp2
  go_ret2
  exact ⟨rfl,rfl⟩
 by_cases h2:n = 17
 ·subst h2
  go_enter Tryz.func191,Tryz.ntmps191
  go_wp2
  go_ret2
  exact ⟨rfl,rfl⟩
 by_cases h3:n = 18
 ·subst h3
  go_enter Tryz.func191,Tryz.ntmps191
  go_wp2
  go_ret2
  exact ⟨rfl,rfl⟩
 have HS:Hid (spanP n = (1,0)):=by show _ = _;unfold spanP;rw [if_neg h1,if_neg h2,if_neg h3]
 have t1:((n:Int) == 16) = false:=by simp;omega
 have t2:((n:Int) == 17) = false:=by simp;omega
 have t3:((n:Int) == 18) = false:=by simp;omega
 rw [HS.out]
 clear h1 h2 h3
 go_enter Tryz.func191,Tryz.ntmps191
 go_wp2
 go_ret2
 exact ⟨rfl,rfl⟩
set_option maxHeartbeats 400000 in
theorem most_any (n:Nat) (w:World):Calls Tryz.prog 240 #[.int .i64 (n:Int)] w fun e w' => e = .returned (.int .i64 (mostP n:Nat))∧w = w':=by
 have HM:=Lib.hid (mostP_span n)
 have hl:=spanP_le n
 have HS:=Lib.hid (fun W => span_any n W)
 obtain ⟨⟨a,b⟩,hab⟩:∃ q,spanP n = q:=⟨_,rfl⟩
 rw [hab] at HM HS hl
 dsimp only at HM HS hl
 obtain ⟨q,hq⟩:∃ q,2 ^ b = q:=⟨_,rfl⟩
 rw [hq] at HM
 have hq7:q ≤ 128:=by rw [← hq];exact Nat.le_trans (Nat.pow_le_pow_right (by omega) hl.2.2) (by decide)
 have hsh:(2:Int) ^ b = (q:Int):=by rw [← hq];push_cast;rfl
 have h1:=hl.2.1
 have h2:=hl.2.2
 clear hab hq hl
 go_enter Tryz.func240,Tryz.ntmps240
 go_wp2_with (go_at_call 191;refine (HS.out _).mono ?_;rintro e w' ⟨rfl,rfl⟩)
 go_ret
 exact ⟨congrArg Ending.returned (congrArg (Value.int IntKind.i64) (by have:=HM.out;omega)),rfl⟩
theorem enough_any (n m:Nat) (w:World):Calls Tryz.prog 239 #[.int .i64 (n:Int),.int .i64 (m:Int)] w fun e w' => e = .returned (.bool (decide ((spanP m).1 ≤ n)))∧w = w':=by
 have HS:=Lib.hid (fun W => span_any m W)
 obtain ⟨⟨a,b⟩,hab⟩:∃ q,spanP m = q:=⟨_,rfl⟩
 rw [hab] at HS ⊢
 dsimp only at HS ⊢
 clear hab
 go_enter Tryz.func239,Tryz.ntmps239
 go_wp2_with (go_at_call 191;refine (HS.out _).mono ?_;rintro e w' ⟨rfl,rfl⟩)
 go_ret
 exact ⟨by simp,rfl⟩
set_option maxHeartbeats 1000000 in
theorem rightL_any (A:Option Addr) (l c:Nat) (zs:List Int) (B:Nat) (w:World) (hl:zs.length = l) (hm:l ≤ 9223372036854775807) (hb:Cells w B A (zs.map ic)) :
  Calls Tryz.prog 189 #[.slice A l c] w fun e w' => e = .returned (.bool (zs.all lenB))∧w = w':=by
 have HC:=Lib.hid hb
 have HL:=Lib.hid hl
 clear hb hl
 go_enter Tryz.func189,Tryz.ntmps189
 go_wp2
 go_loopg [7] l (fun gk i wr => ∃ k:Nat,k + gk = l∧i = .int .i64 k∧wr = w∧∀ j x,j < k→zs[j]? = some x→lenB x = true)
 case atStart => exact ⟨0,by omega,rfl,rfl,fun j _ h => absurd h (Nat.not_lt_zero j)⟩
 case round =>
  obtain ⟨k,hk,rfl,rfl,hall⟩:=hrel
  have HALL:=Lib.hid hall
  clear hall
  by_cases h:k < l
  ·obtain ⟨x,hx⟩:∃ x,zs[k]? = some x:=⟨_,List.getElem?_eq_getElem (by have:=HL.out;omega)⟩
   obtain ⟨b,o,rfl,hbB,hc⟩:=HC.out (by rw [List.length_map,HL.out];omega)
   have c0:wr.cell? ⟨b,o + k,none⟩ = some (.int .i64 x):=hc k _ (by rw [List.getElem?_map,hx];rfl)
   have HX:=Lib.hid hx
   clear hc hx
   by_cases hx0:x < 0
   ·have HF:Hid (zs.all lenB = false):=all_bad HX.out (by simp [lenB];omega)
    go_wp2
    go_ret
    exact ⟨by rw [HF.out];rfl,rfl⟩
   by_cases hx1:15 < x
   ·have HF:Hid (zs.all lenB = false):=all_bad HX.out (by simp [lenB];omega)
    go_wp2
    go_ret
    exact ⟨by rw [HF.out];rfl,rfl⟩
   ·have HQ:Hid (lenB x = true):=by show _ = _;simp [lenB];omega
    go_wp2
    go_roundg (gk - 1)
    case measure => omega
    case rel => exact ⟨k + 1,by omega,by go_num,rfl,fun j y hj hy => by
      by_cases e:j = k
      ·subst e
       rw [HX.out] at hy
       injection hy with hy
       subst hy
       exact HQ.out
      ·exact HALL.out j y (by omega) hy⟩
  ·obtain rfl:k = l:=by omega
   have HA:Hid (zs.all lenB = true):=all_good (fun j x hj hx => HALL.out j x (by have:=HL.out;omega) hx)
   go_wp2
   go_ret
   exact ⟨by rw [HA.out];rfl,rfl⟩
theorem parts_any (A:Option Addr) (l c:Nat) (w:World) :
  Calls Tryz.prog 190 #[.slice A l c] w fun e w' => e = .returned (.func (.func 220) #[] #[.pointer (some ⟨w.heap.size,0,none⟩)])∧w.alloc (.cells #[.slice A l c] 156) = w':=by
 go_enter Tryz.func190,Tryz.ntmps190
 go_wp2
 go_ret
 exact ⟨rfl,rfl⟩
set_option maxRecDepth 100000 in
set_option maxHeartbeats 2000000 in
theorem part_any (A:Option Addr) (l c p:Nat) (ls:List Nat) (B:Nat) (w:World) (hl:ls.length = l) (hm:l ≤ 1000) (hp:p < l) (hb:Cells w B A (nCs ls)) (hB:B ≤ w.heap.size) (hv:∀ x ∈ ls,x ≤ 15) :
  Calls Tryz.prog 221 #[.slice A l c,.int .i64 (p:Int)] w fun e w' => e = .returned (.agg #[.int .i64 (numP ls p:Nat),.int .i64 (manyP ls p:Nat)])∧Below w.heap.size w w':=by
 have HL:=Lib.hid hl
 obtain ⟨b,o,rfl,hbB,hc⟩:=hb (by rw [nCs_len];omega)
 obtain ⟨w1,hw1⟩:∃ w1,w.alloc (.cells #[.int .i64 0,.int .i64 0] 277) = w1:=⟨_,rfl⟩
 have HB1:Hid (Below w.heap.size w w1):=by show Below _ _ _;rw [← hw1];exact (Below.refl _ _).alloc (Nat.le_refl _) _
 have HX1:Hid (w1.heap[w.heap.size]? = some (.cells #[.int .i64 0,.int .i64 0] 277 (0,0))):=by show _ = _;rw [← hw1];exact heap_alloc_new w _
 have HC:Hid (∀ k n:Nat,ls[k]? = some n→w1.cell? ⟨b,o + k,none⟩ = some (.int .i64 (n:Int))):=fun k n hn => (HB1.out.cell (p:=⟨b,o + k,none⟩) (by show b < _;omega)).trans (hc k _ (nCs_at hn))
 have HBZ:Hid (b < w.heap.size):=by show _ < _;omega
 have hr1:=runL_pos (ls:=ls) (p:=p) (by omega)
 have hr2:=runL_le ls p
 obtain ⟨r,hr⟩:∃ r,runL ls p = r:=⟨_,rfl⟩
 rw [hr] at hr1 hr2
 obtain ⟨h,hh⟩:∃ h,ls.getD p 0 = h:=⟨_,rfl⟩
 have hh0:ls[p]? = some h:=by rw [List.getElem?_eq_getElem (by omega),← hh];simp [List.getD,show p < ls.length by omega]
 have HIN:Hid (∀ j:Nat,j < r→ls[p + j]? = some h):=fun j hj => by rw [← hh];exact runL_in (by rw [hr];exact hj)
 have HOUT:Hid (∀ x:Nat,ls[p + r]? = some x→x ≠ h):=fun x hx => by rw [← hh];exact runL_out (by rw [hr];exact hx)
 have hprl:p + r ≤ l:=by omega
 have h15:h ≤ 15:=by rw [← hh];exact getD_le hv p
 have HNUM:Hid (numP ls p = if h = 0∧11 ≤ r then 18 else if h = 0∧3 ≤ r then 17 else if 0 < p∧h = ls.getD (p - 1) 0∧3 ≤ r then 16 else h):=by show _ = _;unfold numP;rw [hr,hh]
 have HMANY:Hid (manyP ls p = min r (mostP (numP ls p))):=by show _ = _;unfold manyP;rw [hr]
 have c0:=HC.out p h hh0
 have HEN:=Lib.hid (fun m W => enough_any r m W)
 have HMO:=Lib.hid (fun m W => most_any m W)
 clear hb hc hl hr hh hh0 hbB hB hv hr2
 have HNX:Hid ((numP ls p = 18∧h = 0∧11 ≤ r) ∨ (numP ls p = 17∧h = 0∧3 ≤ r∧r < 11) ∨ (numP ls p = 16∧h ≠ 0∧0 < p∧h = ls.getD (p - 1) 0∧3 ≤ r) ∨ (numP ls p = h∧((h = 0∧r < 3) ∨ (h ≠ 0∧(p = 0 ∨ h ≠ ls.getD (p - 1) 0 ∨ r < 3))))):=by
  show _ ∨ _
  rw [HNUM.out]
  by_cases c1:h = 0∧11 ≤ r
  ·exact .inl ⟨if_pos c1,c1⟩
  rw [if_neg c1]
  by_cases c2:h = 0∧3 ≤ r
  ·exact .inr (.inl ⟨if_pos c2,c2.1,c2.2,by omega⟩)
  rw [if_neg c2]
  by_cases c3:0 < p∧h = ls.getD (p - 1) 0∧3 ≤ r
  ·exact .inr (.inr (.inl ⟨if_pos c3,by omega,c3⟩))
  rw [if_neg c3]
  exact .inr (.inr (.inr ⟨rfl,by omega⟩))
 go_enter Tryz.func221,Tryz.ntmps221
 go_upto_block 0 with fail
 go_cut [6] (fun n wx => n = .int .i64 (r:Nat)∧w1 = wx)
 case first =>
  go_wp2
  go_loopg [6] (r - 1) (fun gk n wr => ∃ j:Nat,1 ≤ j∧j + gk = r∧n = .int .i64 j∧wr = w1)
  case atStart => exact ⟨1,by omega,by omega,rfl,rfl⟩
  case round =>
   obtain ⟨j,hj1,hj,rfl,rfl⟩:=hrel
   clear hw1
   by_cases hjr:j < r
   ·have u1:decide ((p:Int) + (j:Int) < (l:Int)) = true:=by simp;omega
    have u1':decide (p + j < l) = true:=by simp;omega
    have cj:=HC.out (p + j) h (HIN.out j hjr)
    have u2:((h:Int) == (h:Int)) = true:=by simp
    go_wp2
    go_roundg (gk - 1)
    case measure => omega
    case rel => exact ⟨j + 1,by omega,by omega,by go_num,rfl⟩
   ·obtain rfl:j = r:=by omega
    by_cases hlt:p + j < l
    ·obtain ⟨y,hy⟩:∃ y,ls[p + j]? = some y:=⟨_,List.getElem?_eq_getElem (by have:=HL.out;omega)⟩
     have cj:=HC.out (p + j) y hy
     have hne:=HOUT.out y hy
     have u1:decide ((p:Int) + (j:Int) < (l:Int)) = true:=by simp;omega
     have u1':decide (p + j < l) = true:=by simp;omega
     have u2:((y:Int) == (h:Int)) = false:=by simp;omega
     have u2':(y == h) = false:=by simp;omega
     clear hy hne
     go_wp2
     go_meet
     case rel => exact ⟨rfl,rfl⟩
    ·have u1:decide ((p:Int) + (j:Int) < (l:Int)) = false:=by simp;omega
     have u1':decide (p + j < l) = false:=by simp;omega
     clear hlt
     go_wp2
     go_meet
     case rel => exact ⟨rfl,rfl⟩
 case rest =>
  obtain ⟨rfl,rfl⟩:=hcut
  have x0:w1.cell? ⟨w.heap.size,0,none⟩ = some (.int .i64 0):=cell_of_row w1 _ 0 _ _ _ HX1.out
  have x1:w1.cell? ⟨w.heap.size,1,none⟩ = some (.int .i64 0):=cell_of_row w1 _ 1 _ _ _ HX1.out
  have f0:w1.frozen? ⟨w.heap.size,0,none⟩ = false:=by simp [World.frozen?,HX1.out]
  have f1:w1.frozen? ⟨w.heap.size,1,none⟩ = false:=by simp [World.frozen?,HX1.out]
  have y0:∀ u v,((w1.setCell ⟨w.heap.size,0,none⟩ u).setCell ⟨w.heap.size,1,none⟩ v).cell? ⟨w.heap.size,0,none⟩ = some u:=fun u v => by
   have h1:=heap_setCell_same _ w.heap.size 1 _ _ v (heap_setCell_same w1 w.heap.size 0 _ _ u HX1.out)
   rw [cell_of_row _ _ 0 _ _ _ h1]
   rfl
  have y1:∀ u v,((w1.setCell ⟨w.heap.size,0,none⟩ u).setCell ⟨w.heap.size,1,none⟩ v).cell? ⟨w.heap.size,1,none⟩ = some v:=fun u v => by
   have h1:=heap_setCell_same _ w.heap.size 1 _ _ v (heap_setCell_same w1 w.heap.size 0 _ _ u HX1.out)
   rw [cell_of_row _ _ 1 _ _ _ h1]
   rfl
  rcases HNX.out with ⟨hnum,c1,c2⟩ | ⟨hnum,c1,c2,c3⟩ | ⟨hnum,c1,c2,c3,c4⟩ | ⟨hnum,⟨c1,c2⟩ | ⟨c1,c2⟩⟩
  ·have v1:((h:Int) == 0) = true:=by simp;omega
   have v1':(h == 0) = true:=by simp;omega
   have v18:decide ((spanP 18).1 ≤ r) = true:=by simp [spanP];omega
   clear c1 c2
   have HNN:=Lib.hid hnum
   clear hnum
   go_wp2_with (first
    | (go_at_call 239;refine (HEN.out _ _).mono ?_;rintro e w' ⟨rfl,rfl⟩)
    | (go_at_call 240;refine (HMO.out _ _).mono ?_;rintro e w' ⟨rfl,rfl⟩))
   refine bodyPost_ret (v:=.agg #[.int .i64 ((18:Nat):Int),.int .i64 (min (r:Int) ((mostP (18):Nat):Int))]) (by simp [results,Tryz.results221,y0,y1,go_sem]) rfl ⟨by rw [HMANY.out,HNN.out];exact congrArg Ending.returned (congrArg Value.agg (by rw [show ((min r (mostP (18)):Nat):Int) = min (r:Int) ((mostP (18):Nat):Int) by omega])),(HB1.out.setCell (p:=⟨w.heap.size,0,none⟩) (Nat.le_refl _) _).setCell (p:=⟨w.heap.size,1,none⟩) (Nat.le_refl _) _⟩
  ·have v1:((h:Int) == 0) = true:=by simp;omega
   have v1':(h == 0) = true:=by simp;omega
   have v18:decide ((spanP 18).1 ≤ r) = false:=by simp [spanP];omega
   have v17:decide ((spanP 17).1 ≤ r) = true:=by simp [spanP];omega
   clear c1 c2 c3
   have HNN:=Lib.hid hnum
   clear hnum
   go_wp2_with (first
    | (go_at_call 239;refine (HEN.out _ _).mono ?_;rintro e w' ⟨rfl,rfl⟩)
    | (go_at_call 240;refine (HMO.out _ _).mono ?_;rintro e w' ⟨rfl,rfl⟩))
   refine bodyPost_ret (v:=.agg #[.int .i64 ((17:Nat):Int),.int .i64 (min (r:Int) ((mostP (17):Nat):Int))]) (by simp [results,Tryz.results221,y0,y1,go_sem]) rfl ⟨by rw [HMANY.out,HNN.out];exact congrArg Ending.returned (congrArg Value.agg (by rw [show ((min r (mostP (17)):Nat):Int) = min (r:Int) ((mostP (17):Nat):Int) by omega])),(HB1.out.setCell (p:=⟨w.heap.size,0,none⟩) (Nat.le_refl _) _).setCell (p:=⟨w.heap.size,1,none⟩) (Nat.le_refl _) _⟩
  ·have v1:((h:Int) == 0) = false:=by simp;omega
   have v1':(h == 0) = false:=by simp;omega
   have v2:decide ((0:Int) < (p:Int)) = true:=by simp;omega
   have v2':decide (0 < p) = true:=by simp;omega
   obtain ⟨q,hq⟩:∃ q,p - 1 = q:=⟨_,rfl⟩
   have hq1:(p:Int) - 1 = (q:Int):=by omega
   have hql:q < l:=by omega
   obtain ⟨y,hy⟩:∃ y,ls[q]? = some y:=⟨_,List.getElem?_eq_getElem (by have:=HL.out;omega)⟩
   have hyg:ls.getD q 0 = y:=by rw [List.getD,hy];rfl
   have cq:=HC.out q y hy
   rw [hq,hyg] at c3
   have v3:((h:Int) == (y:Int)) = true:=by simp;omega
   have v3':(h == y) = true:=by simp;omega
   clear hy hyg hq
   have v16:decide ((spanP 16).1 ≤ r) = true:=by simp [spanP];omega
   clear c1 c2 c3 c4
   have HNN:=Lib.hid hnum
   clear hnum
   go_wp2_with (first
    | (go_at_call 239;refine (HEN.out _ _).mono ?_;rintro e w' ⟨rfl,rfl⟩)
    | (go_at_call 240;refine (HMO.out _ _).mono ?_;rintro e w' ⟨rfl,rfl⟩))
   refine bodyPost_ret (v:=.agg #[.int .i64 ((16:Nat):Int),.int .i64 (min (r:Int) ((mostP (16):Nat):Int))]) (by simp [results,Tryz.results221,y0,y1,go_sem]) rfl ⟨by rw [HMANY.out,HNN.out];exact congrArg Ending.returned (congrArg Value.agg (by rw [show ((min r (mostP (16)):Nat):Int) = min (r:Int) ((mostP (16):Nat):Int) by omega])),(HB1.out.setCell (p:=⟨w.heap.size,0,none⟩) (Nat.le_refl _) _).setCell (p:=⟨w.heap.size,1,none⟩) (Nat.le_refl _) _⟩
  ·by_cases hp0:p = 0
   ·have v1:((h:Int) == 0) = true:=by simp;omega
    have v1':(h == 0) = true:=by simp;omega
    have v18:decide ((spanP 18).1 ≤ r) = false:=by simp [spanP];omega
    have v17:decide ((spanP 17).1 ≤ r) = false:=by simp [spanP];omega
    have v2:decide ((0:Int) < (p:Int)) = false:=by simp;omega
    have v2':decide (0 < p) = false:=by simp;omega
    clear c1 c2 hp0
    have HNN:=Lib.hid hnum
    clear hnum
    go_wp2_with (first
     | (go_at_call 239;refine (HEN.out _ _).mono ?_;rintro e w' ⟨rfl,rfl⟩)
     | (go_at_call 240;refine (HMO.out _ _).mono ?_;rintro e w' ⟨rfl,rfl⟩))
    refine bodyPost_ret (v:=.agg #[.int .i64 ((h:Nat):Int),.int .i64 (min (r:Int) ((mostP (h):Nat):Int))]) (by simp [results,Tryz.results221,y0,y1,go_sem]) rfl ⟨by rw [HMANY.out,HNN.out];exact congrArg Ending.returned (congrArg Value.agg (by rw [show ((min r (mostP (h)):Nat):Int) = min (r:Int) ((mostP (h):Nat):Int) by omega])),(HB1.out.setCell (p:=⟨w.heap.size,0,none⟩) (Nat.le_refl _) _).setCell (p:=⟨w.heap.size,1,none⟩) (Nat.le_refl _) _⟩
   ·obtain ⟨q,hq⟩:∃ q,p - 1 = q:=⟨_,rfl⟩
    have hq1:(p:Int) - 1 = (q:Int):=by omega
    have hql:q < l:=by omega
    obtain ⟨y,hy⟩:∃ y,ls[q]? = some y:=⟨_,List.getElem?_eq_getElem (by have:=HL.out;omega)⟩
    have hyg:ls.getD q 0 = y:=by rw [List.getD,hy];rfl
    have cq:=HC.out q y hy
    by_cases hhy:h = y
    ·have hr3:r < 3:=by omega
     have v1:((h:Int) == 0) = true:=by simp;omega
     have v1':(h == 0) = true:=by simp;omega
     have v18:decide ((spanP 18).1 ≤ r) = false:=by simp [spanP];omega
     have v17:decide ((spanP 17).1 ≤ r) = false:=by simp [spanP];omega
     have v2:decide ((0:Int) < (p:Int)) = true:=by simp;omega
     have v2':decide (0 < p) = true:=by simp;omega
     have v3:((h:Int) == (y:Int)) = true:=by simp;omega
     have v3':(h == y) = true:=by simp;omega
     have v16:decide ((spanP 16).1 ≤ r) = false:=by simp [spanP];omega
     clear hy hyg hq
     clear c1 c2 hhy hp0
     have HNN:=Lib.hid hnum
     clear hnum
     go_wp2_with (first
      | (go_at_call 239;refine (HEN.out _ _).mono ?_;rintro e w' ⟨rfl,rfl⟩)
      | (go_at_call 240;refine (HMO.out _ _).mono ?_;rintro e w' ⟨rfl,rfl⟩))
     refine bodyPost_ret (v:=.agg #[.int .i64 ((h:Nat):Int),.int .i64 (min (r:Int) ((mostP (h):Nat):Int))]) (by simp [results,Tryz.results221,y0,y1,go_sem]) rfl ⟨by rw [HMANY.out,HNN.out];exact congrArg Ending.returned (congrArg Value.agg (by rw [show ((min r (mostP (h)):Nat):Int) = min (r:Int) ((mostP (h):Nat):Int) by omega])),(HB1.out.setCell (p:=⟨w.heap.size,0,none⟩) (Nat.le_refl _) _).setCell (p:=⟨w.heap.size,1,none⟩) (Nat.le_refl _) _⟩
    ·have v1:((h:Int) == 0) = true:=by simp;omega
     have v1':(h == 0) = true:=by simp;omega
     have v18:decide ((spanP 18).1 ≤ r) = false:=by simp [spanP];omega
     have v17:decide ((spanP 17).1 ≤ r) = false:=by simp [spanP];omega
     have v2:decide ((0:Int) < (p:Int)) = true:=by simp;omega
     have v2':decide (0 < p) = true:=by simp;omega
     have v3:((h:Int) == (y:Int)) = false:=by simp;omega
     have v3':(h == y) = false:=by simp;omega
     clear hy hyg hq
     clear c1 c2 hhy hp0
     have HNN:=Lib.hid hnum
     clear hnum
     go_wp2_with (first
      | (go_at_call 239;refine (HEN.out _ _).mono ?_;rintro e w' ⟨rfl,rfl⟩)
      | (go_at_call 240;refine (HMO.out _ _).mono ?_;rintro e w' ⟨rfl,rfl⟩))
     refine bodyPost_ret (v:=.agg #[.int .i64 ((h:Nat):Int),.int .i64 (min (r:Int) ((mostP (h):Nat):Int))]) (by simp [results,Tryz.results221,y0,y1,go_sem]) rfl ⟨by rw [HMANY.out,HNN.out];exact congrArg Ending.returned (congrArg Value.agg (by rw [show ((min r (mostP (h)):Nat):Int) = min (r:Int) ((mostP (h):Nat):Int) by omega])),(HB1.out.setCell (p:=⟨w.heap.size,0,none⟩) (Nat.le_refl _) _).setCell (p:=⟨w.heap.size,1,none⟩) (Nat.le_refl _) _⟩
  ·by_cases hp0:p = 0
   ·have v1:((h:Int) == 0) = false:=by simp;omega
    have v1':(h == 0) = false:=by simp;omega
    have v2:decide ((0:Int) < (p:Int)) = false:=by simp;omega
    have v2':decide (0 < p) = false:=by simp;omega
    clear c1 c2 hp0
    have HNN:=Lib.hid hnum
    clear hnum
    go_wp2_with (first
     | (go_at_call 239;refine (HEN.out _ _).mono ?_;rintro e w' ⟨rfl,rfl⟩)
     | (go_at_call 240;refine (HMO.out _ _).mono ?_;rintro e w' ⟨rfl,rfl⟩))
    refine bodyPost_ret (v:=.agg #[.int .i64 ((h:Nat):Int),.int .i64 (min (r:Int) ((mostP (h):Nat):Int))]) (by simp [results,Tryz.results221,y0,y1,go_sem]) rfl ⟨by rw [HMANY.out,HNN.out];exact congrArg Ending.returned (congrArg Value.agg (by rw [show ((min r (mostP (h)):Nat):Int) = min (r:Int) ((mostP (h):Nat):Int) by omega])),(HB1.out.setCell (p:=⟨w.heap.size,0,none⟩) (Nat.le_refl _) _).setCell (p:=⟨w.heap.size,1,none⟩) (Nat.le_refl _) _⟩
   ·obtain ⟨q,hq⟩:∃ q,p - 1 = q:=⟨_,rfl⟩
    have hq1:(p:Int) - 1 = (q:Int):=by omega
    have hql:q < l:=by omega
    obtain ⟨y,hy⟩:∃ y,ls[q]? = some y:=⟨_,List.getElem?_eq_getElem (by have:=HL.out;omega)⟩
    have hyg:ls.getD q 0 = y:=by rw [List.getD,hy];rfl
    have cq:=HC.out q y hy
    by_cases hhy:h = y
    ·have hr3:r < 3:=by rw [hq,hyg] at c2;omega
     have v1:((h:Int) == 0) = false:=by simp;omega
     have v1':(h == 0) = false:=by simp;omega
     have v2:decide ((0:Int) < (p:Int)) = true:=by simp;omega
     have v2':decide (0 < p) = true:=by simp;omega
     have v3:((h:Int) == (y:Int)) = true:=by simp;omega
     have v3':(h == y) = true:=by simp;omega
     have v16:decide ((spanP 16).1 ≤ r) = false:=by simp [spanP];omega
     clear hy hyg hq
     clear c1 c2 hhy hp0
     have HNN:=Lib.hid hnum
     clear hnum
     go_wp2_with (first
      | (go_at_call 239;refine (HEN.out _ _).mono ?_;rintro e w' ⟨rfl,rfl⟩)
      | (go_at_call 240;refine (HMO.out _ _).mono ?_;rintro e w' ⟨rfl,rfl⟩))
     refine bodyPost_ret (v:=.agg #[.int .i64 ((h:Nat):Int),.int .i64 (min (r:Int) ((mostP (h):Nat):Int))]) (by simp [results,Tryz.results221,y0,y1,go_sem]) rfl ⟨by rw [HMANY.out,HNN.out];exact congrArg Ending.returned (congrArg Value.agg (by rw [show ((min r (mostP (h)):Nat):Int) = min (r:Int) ((mostP (h):Nat):Int) by omega])),(HB1.out.setCell (p:=⟨w.heap.size,0,none⟩) (Nat.le_refl _) _).setCell (p:=⟨w.heap.size,1,none⟩) (Nat.le_refl _) _⟩
    ·have v1:((h:Int) == 0) = false:=by simp;omega
     have v1':(h == 0) = false:=by simp;omega
     have v2:decide ((0:Int) < (p:Int)) = true:=by simp;omega
     have v2':decide (0 < p) = true:=by simp;omega
     have v3:((h:Int) == (y:Int)) = false:=by simp;omega
     have v3':(h == y) = false:=by simp;omega
     clear hy hyg hq
     clear c1 c2 hhy hp0
     have HNN:=Lib.hid hnum
     clear hnum
     go_wp2_with (first
      | (go_at_call 239;refine (HEN.out _ _).mono ?_;rintro e w' ⟨rfl,rfl⟩)
      | (go_at_call 240;refine (HMO.out _ _).mono ?_;rintro e w' ⟨rfl,rfl⟩))
     refine bodyPost_ret (v:=.agg #[.int .i64 ((h:Nat):Int),.int .i64 (min (r:Int) ((mostP (h):Nat):Int))]) (by simp [results,Tryz.results221,y0,y1,go_sem]) rfl ⟨by rw [HMANY.out,HNN.out];exact congrArg Ending.returned (congrArg Value.agg (by rw [show ((min r (mostP (h)):Nat):Int) = min (r:Int) ((mostP (h):Nat):Int) by omega])),(HB1.out.setCell (p:=⟨w.heap.size,0,none⟩) (Nat.le_refl _) _).setCell (p:=⟨w.heap.size,1,none⟩) (Nat.le_refl _) _⟩
end Go.Proofs.YtaknladkodibaaaGreatDoor
