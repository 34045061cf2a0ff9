/- Layer 8: may lengths be a code? -/
import Derived.Test.YtaknladkodibaaaGreatDoorRows
import Derived.Test.YtaknladkodibaaaGreatDoorMgQ33808
import Derived.Test.YtaknladkodibaaaGreatDoorMgQ33809
import Derived.Deep.DeepCutAuto
import Derived.IntWalk
import Derived.Outline
import Derived.MakeChecks
import Derived.RegionTactic
import Derived.Test.YtaknladkodibaaaGreatDoorMgQ33802
import Derived.Laws.BitsAllLaws
import Derived.Deep.RegionLaw
namespace Go.Proofs.YtaknladkodibaaaGreatDoor
open Go.RowKit
def ic (n:Int):Value:=.int .i64 n
def wt (n:Int):Nat:=if 0 < n then 2 ^ (15 - n.toNat) else 0
def wsum (zs:List Int):Nat:=(zs.map wt).sum
def lenB (n:Int):Bool:=decide (0 ≤ n) && decide (n ≤ 15)
def fullB (zs:List Int):Bool:=decide (zs.length ≤ 320) && zs.all lenB && decide (wsum zs = 32768)
theorem lenB_yes {n:Int} (h:lenB n = true):0 ≤ n∧n ≤ 15:=by simpa [lenB] using h
theorem wt_le (n:Int):wt n ≤ 32768:=by
 unfold wt
 split
 ·exact Nat.le_trans (Nat.pow_le_pow_right (by decide) (Nat.sub_le 15 _)) (by decide)
 ·exact Nat.zero_le _
theorem take_snoc' {α:Type} {l:List α} {k:Nat} {x:α} (h:l[k]? = some x):l.take (k + 1) = l.take k++[x]:=by rw [List.take_add_one,h];rfl
theorem wsum_snoc {zs:List Int} {k:Nat} {x:Int} (h:zs[k]? = some x):wsum (zs.take (k + 1)) = wsum (zs.take k) + wt x:=by
 unfold wsum
 rw [take_snoc' h]
 simp
theorem wsum_le (zs:List Int):wsum zs ≤ zs.length * 32768:=by
 induction zs with
 | nil => exact Nat.zero_le _
 | cons x l ih =>
  have:=wt_le x
  unfold wsum at ih ⊢
  rw [List.map_cons,List.sum_cons,List.length_cons,Nat.succ_mul]
  omega
theorem all_bad {zs:List Int} {k:Nat} {x:Int} {f:Int→Bool} (h:zs[k]? = some x) (hx:f x = false):zs.all f = false:=by
 rw [List.all_eq_false]
 exact ⟨x,List.mem_of_getElem? h,by rw [hx];decide⟩
theorem all_good {zs:List Int} {f:Int→Bool} (h:∀ j x,j < zs.length→zs[j]? = some x→f x = true):zs.all f = true:=by
 rw [List.all_eq_true]
 intro x hx
 obtain ⟨j,hj⟩:=List.mem_iff_getElem?.1 hx
 exact h j x (List.getElem?_eq_some_iff.1 hj).1 hj
set_option maxHeartbeats 400000 in
theorem rlen_any (n:Int) (w:World):Calls Tryz.prog 256 #[.int .i64 n] w fun e w' => e = .returned (.bool (lenB n))∧w = w':=by
 by_cases h1:0 ≤ n
 ·by_cases h2:n ≤ 15
  ·have HD:Hid (lenB n = true):=by show _ = _;simp [lenB,h1,h2]
   go_enter Tryz.func256,Tryz.ntmps256
   go_wp2
   go_ret
   exact ⟨by rw [HD.out];rfl,rfl⟩
  ·have HD:Hid (lenB n = false):=by show _ = _;simp [lenB,h2]
   have h2':decide (n ≤ 15) = false:=by simpa using h2
   clear h2
   go_enter Tryz.func256,Tryz.ntmps256
   go_wp2
   go_ret
   exact ⟨by rw [HD.out];rfl,rfl⟩
 ·have HD:Hid (lenB n = false):=by show _ = _;simp [lenB,h1]
  go_enter Tryz.func256,Tryz.ntmps256
  go_wp2
  go_ret
  exact ⟨by rw [HD.out];rfl,rfl⟩
set_option maxHeartbeats 1000000 in
theorem full_any (A:Option Addr) (l c:Nat) (zs:List Int) (B:Nat) (w:World) (hl:zs.length = l) (hm:l ≤ 9223372036854775807) (hb:Cells w B A (zs.map ic)) :
  Calls Tryz.prog 241 #[.slice A l c] w fun e w' => e = .returned (.bool (fullB zs))∧w = w':=by
 have HC:=Lib.hid hb
 have HL:=Lib.hid hl
 have HFD:Hid (fullB zs = (decide (zs.length ≤ 320) && zs.all lenB && decide (wsum zs = 32768))):=rfl
 clear hb hl
 by_cases h320:320 < l
 ·have hd:decide ((320:Int) < (l:Int)) = true:=by simp;omega
  have HF:Hid (fullB zs = false):=by show _ = _;rw [HFD.out,HL.out,decide_eq_false (by omega)];rfl
  clear h320
  go_enter Tryz.func241,Tryz.ntmps241
  go_wp2
  go_ret
  exact ⟨by rw [HF.out];rfl,rfl⟩
 have hd:decide ((320:Int) < (l:Int)) = false:=by simp;omega
 have HWL:Hid (∀ k,wsum (zs.take k) ≤ 320 * 32768):=fun k => Nat.le_trans (wsum_le _) (Nat.mul_le_mul_right _ (by rw [List.length_take,HL.out];omega))
 go_enter Tryz.func241,Tryz.ntmps241
 go_wp2
 go_loopg [3,11] l (fun gk v i wr => ∃ k:Nat,k + gk = l∧i = .int .i64 k∧v = .int .i64 (32768 - (wsum (zs.take k):Nat))∧wr = w∧∀ j x,j < k→zs[j]? = some x→lenB x = true)
 case atStart => exact ⟨0,by omega,rfl,rfl,rfl,fun j _ h => absurd h (Nat.not_lt_zero j)⟩
 case round =>
  obtain ⟨k,hk,rfl,rfl,rfl,hall⟩:=hrel
  have HALL:=Lib.hid hall
  clear hall
  have hw1:=HWL.out k
  by_cases h:k < l
  ·obtain ⟨x,hx⟩:∃ x,zs[k]? = some x:=⟨_,List.getElem?_eq_getElem (by have:=HL.out;omega)⟩
   obtain ⟨b,o,rfl,hbB,hc⟩:=HC.out (by rw [List.length_map,HL.out];omega)
   have c0:wr.cell? ⟨b,o + k,none⟩ = some (.int .i64 x):=hc k _ (by rw [List.getElem?_map,hx];rfl)
   have HX:=Lib.hid hx
   have HS:=Lib.hid (wsum_snoc hx)
   have hw2:=HWL.out (k + 1)
   have HR:=Lib.hid (fun W => rlen_any x W)
   obtain ⟨q,hq⟩:∃ q,lenB x = q:=⟨_,rfl⟩
   have HQ:=Lib.hid hq
   rw [hq] at HR
   clear hc hx hq
   cases q with
   | false =>
    have HF:Hid (fullB zs = false):=by show _ = _;rw [HFD.out,all_bad HX.out HQ.out,Bool.and_false];rfl
    go_wp2_with (go_at_call 256;refine (HR.out _).mono ?_;rintro e w' ⟨rfl,rfl⟩)
    go_ret
    exact ⟨by rw [HF.out];rfl,rfl⟩
   | true =>
    obtain ⟨hx0,hx1⟩:=lenB_yes HQ.out
    rw [HS.out] at hw2
    by_cases hx2:0 < x
    ·have hsh:(2:Int) ^ (15 - x).toNat = ((wt x:Nat):Int):=by
      unfold wt
      rw [if_pos hx2,show (15 - x).toNat = 15 - x.toNat by omega]
      push_cast
      rfl
     have hwt:=wt_le x
     obtain ⟨t,ht⟩:∃ t,wt x = t:=⟨_,rfl⟩
     rw [ht] at hsh hwt hw2 HS
     clear ht
     go_wp2_with (go_at_call 256;refine (HR.out _).mono ?_;rintro e w' ⟨rfl,rfl⟩)
     go_roundg (gk - 1)
     case measure => omega
     case rel => exact ⟨k + 1,by omega,by go_num,by rw [HS.out];go_num,rfl,fun j y hj hy => by
      by_cases e:j = k
      ·subst e
       rw [HX.out] at hy
       injection hy with hy
       subst hy
       exact HQ.out
      ·exact HALL.out j y (by omega) hy⟩
    ·have hwt:wt x = 0:=if_neg hx2
     rw [hwt] at HS
     have hd2:decide ((0:Int) < x) = false:=by simp;omega
     clear hwt hx2
     go_wp2_with (go_at_call 256;refine (HR.out _).mono ?_;rintro e w' ⟨rfl,rfl⟩)
     go_roundg (gk - 1)
     case measure => omega
     case rel => exact ⟨k + 1,by omega,by go_num,by rw [HS.out,Nat.add_zero],rfl,fun j y hj hy => by
      by_cases e:j = k
      ·subst e
       rw [HX.out] at hy
       injection hy with hy
       subst hy
       exact HQ.out
      ·exact HALL.out j y (by omega) hy⟩
  ·obtain rfl:k = l:=by omega
   have ht:zs.take k = zs:=List.take_of_length_le (by have:=HL.out;omega)
   have HA:Hid (zs.all lenB = true):=all_good (fun j x hj hx => HALL.out j x (by have:=HL.out;omega) hx)
   rw [ht] at hw1
   rw [ht]
   clear ht
   have HF:Hid (fullB zs = decide (wsum zs = 32768)):=by show _ = _;rw [HFD.out,HA.out,HL.out,decide_eq_true (show k ≤ 320 by omega)];rfl
   generalize wsum zs = s at *
   by_cases hs:s = 32768
   ·subst hs
    go_wp2
    go_ret
    exact ⟨by rw [HF.out];rfl,rfl⟩
   ·have hd3:((32768:Int) - (s:Int) == 0) = false:=by simp;omega
    rw [decide_eq_false hs] at HF
    clear hs
    go_wp2
    go_ret
    exact ⟨by rw [HF.out];rfl,rfl⟩
def zobB (n:Int):Bool:=decide (n = 0) || decide (n = 1)
def aloneB (zs:List Int):Bool:=decide (zs.length ≤ 320) && zs.all zobB && decide (zs.sum = 1)
def caR (zs:List Int):Bool:=decide (zs.length ≤ 320) && zs.all lenB && (decide (wsum zs = 32768) || decide (zs.sum = 1))
theorem sum_snoc {zs:List Int} {k:Nat} {x:Int} (h:zs[k]? = some x):(zs.take (k + 1)).sum = (zs.take k).sum + x:=by
 rw [take_snoc' h]
 simp
theorem sum_bd {zs:List Int} (h:∀ x ∈ zs,lenB x = true):0 ≤ zs.sum∧zs.sum ≤ zs.length * 15:=by
 induction zs with
 | nil => exact ⟨Int.le_refl _,Int.le_refl _⟩
 | cons x l ih =>
  have h1:=lenB_yes (h x (by simp))
  have h2:=ih (fun y hy => h y (by simp [hy]))
  rw [List.sum_cons,List.length_cons]
  omega
theorem mem_of_upto {zs:List Int} {k:Nat} {f:Int→Bool} (h:∀ j x,j < k→zs[j]? = some x→f x = true):∀ x ∈ zs.take k,f x = true:=fun x hx => by
 obtain ⟨j,hj⟩:=List.mem_iff_getElem?.1 hx
 rw [List.getElem?_take] at hj
 split at hj
 ·rename_i hk;exact h j x hk hj
 ·cases hj
theorem alone_iff {zs:List Int} (h:zs.all lenB = true) (hs:zs.sum = 1):zs.all zobB = true:=by
 rw [List.all_eq_true] at h ⊢
 induction zs with
 | nil => intro x hx;cases hx
 | cons a l ih =>
  have ha:=lenB_yes (h a (by simp))
  have hl:=sum_bd (fun y hy => h y (List.mem_cons_of_mem _ hy))
  rw [List.sum_cons] at hs
  intro x hx
  rcases List.mem_cons.1 hx with rfl | hx
  ·simp [zobB];omega
  ·by_cases h0:a = 0
   ·exact ih (fun y hy => h y (List.mem_cons_of_mem _ hy)) (by omega) x hx
   ·have hz:l.sum = 0:=by omega
    have:∀ (l:List Int),(∀ y ∈ l,lenB y = true)→l.sum = 0→∀ y ∈ l,y = 0:=by
     intro l
     induction l with
     | nil => intro _ _ y hy;cases hy
     | cons b t ih2 =>
      intro h1 h2 y hy
      have hb:=lenB_yes (h1 b (by simp))
      have ht:=sum_bd (fun z hz => h1 z (List.mem_cons_of_mem _ hz))
      rw [List.sum_cons] at h2
      rcases List.mem_cons.1 hy with rfl | hy
      ·omega
      ·exact ih2 (fun z hz => h1 z (List.mem_cons_of_mem _ hz)) (by omega) y hy
    have:=this l (fun y hy => h y (List.mem_cons_of_mem _ hy)) hz x hx
    subst this
    rfl
theorem one_len {n:Int} (h:zobB n = true):lenB n = true:=by simp [zobB] at h;simp [lenB];omega
theorem caR_parts (zs:List Int):caR zs = (fullB zs || aloneB zs):=by
 unfold caR fullB aloneB
 by_cases h1:zs.length ≤ 320
 ·rw [decide_eq_true h1]
  simp only [Bool.true_and]
  cases ha:zs.all lenB with
  | true =>
   rw [Bool.true_and,Bool.true_and]
   congr 1
   by_cases hs:zs.sum = 1
   ·rw [alone_iff ha hs,decide_eq_true hs];rfl
   ·rw [decide_eq_false hs,Bool.and_false]
  | false =>
   rw [Bool.false_and,Bool.false_and,Bool.false_or]
   cases ho:zs.all zobB with
   | false => rfl
   | true =>
    rw [List.all_eq_true] at ho
    have:zs.all lenB = true:=List.all_eq_true.2 (fun x hx => one_len (ho x hx))
    rw [ha] at this;cases this
 ·rw [decide_eq_false h1];rfl
set_option maxHeartbeats 1000000 in
theorem alone_any (A:Option Addr) (l c:Nat) (zs:List Int) (B:Nat) (w:World) (hl:zs.length = l) (hm:l ≤ 9223372036854775807) (hb:Cells w B A (zs.map ic)) :
  Calls Tryz.prog 242 #[.slice A l c] w fun e w' => e = .returned (.bool (aloneB zs))∧w = w':=by
 have HC:=Lib.hid hb
 have HL:=Lib.hid hl
 have HFD:Hid (aloneB zs = (decide (zs.length ≤ 320) && zs.all zobB && decide (zs.sum = 1))):=rfl
 clear hb hl
 by_cases h320:320 < l
 ·have hd:decide ((320:Int) < (l:Int)) = true:=by simp;omega
  have HF:Hid (aloneB zs = false):=by show _ = _;rw [HFD.out,HL.out,decide_eq_false (by omega)];rfl
  clear h320
  go_enter Tryz.func242,Tryz.ntmps242
  go_wp2
  go_ret
  exact ⟨by rw [HF.out];rfl,rfl⟩
 have hd:decide ((320:Int) < (l:Int)) = false:=by simp;omega
 go_enter Tryz.func242,Tryz.ntmps242
 go_wp2
 go_loopg [3,11] l (fun gk v i wr => ∃ k:Nat,k + gk = l∧i = .int .i64 k∧v = .int .i64 (zs.take k).sum∧wr = w∧∀ j x,j < k→zs[j]? = some x→zobB x = true)
 case atStart => exact ⟨0,by omega,rfl,rfl,rfl,fun j _ h => absurd h (Nat.not_lt_zero j)⟩
 case round =>
  obtain ⟨k,hk,rfl,rfl,rfl,hall⟩:=hrel
  have HALL:=Lib.hid hall
  have hbd:=sum_bd (fun x hx => one_len (mem_of_upto hall x hx))
  rw [List.length_take] at hbd
  clear hall
  by_cases h:k < l
  ·obtain ⟨x,hx⟩:∃ x,zs[k]? = some x:=⟨_,List.getElem?_eq_getElem (by have:=HL.out;omega)⟩
   obtain ⟨b,o,rfl,hbB,hc⟩:=HC.out (by rw [List.length_map,HL.out];omega)
   have c0:wr.cell? ⟨b,o + k,none⟩ = some (.int .i64 x):=hc k _ (by rw [List.getElem?_map,hx];rfl)
   have HX:=Lib.hid hx
   have HS:=Lib.hid (sum_snoc hx)
   have hlk:min k zs.length ≤ 320:=by have:=HL.out;omega
   generalize (zs.take k).sum = t at *
   generalize min k zs.length = mk at *
   clear hc hx
   by_cases hx0:x = 0
   ·have HQ:Hid (zobB x = true):=by show _ = _;simp [zobB,hx0]
    have hd2:(x != 0) = false:=by simp [hx0]
    have hd2':(x == 0) = true:=by simp [hx0]
    have hxz:=Lib.hid hx0
    have hx1:x ≤ 1:=by omega
    have hx2:0 ≤ x:=by omega
    clear hx0
    go_wp2
    go_roundg (gk - 1)
    case measure => omega
    case rel => exact ⟨k + 1,by omega,by go_num,by rw [HS.out],rfl,fun j y hj hy => by
      by_cases e:j = k
      ·subst e
       rw [HX.out] at hy
       injection hy with hy
       subst hy
       exact HQ.out
      ·exact HALL.out j y (by omega) hy⟩
   ·by_cases hx1:x = 1
    ·have HQ:Hid (zobB x = true):=by show _ = _;simp [zobB,hx1]
     have hd2:(x != 0) = true:=by simp [hx1]
     have hd2':(x == 0) = false:=by simp [hx1]
     have hd3:(x != 1) = false:=by simp [hx1]
     have hd3':(x == 1) = true:=by simp [hx1]
     have hxa:x ≤ 1:=by omega
     have hxb:0 ≤ x:=by omega
     clear hx0 hx1
     go_wp2
     go_roundg (gk - 1)
     case measure => omega
     case rel => exact ⟨k + 1,by omega,by go_num,by rw [HS.out],rfl,fun j y hj hy => by
       by_cases e:j = k
       ·subst e
        rw [HX.out] at hy
        injection hy with hy
        subst hy
        exact HQ.out
       ·exact HALL.out j y (by omega) hy⟩
    ·have HF:Hid (aloneB zs = false):=by show _ = _;rw [HFD.out,all_bad HX.out (by simp [zobB,hx0,hx1]),Bool.and_false];rfl
     have hd2:(x != 0) = true:=by simp [hx0]
     have hd2':(x == 0) = false:=by simp [hx0]
     have hd3:(x != 1) = true:=by simp [hx1]
     have hd3':(x == 1) = false:=by simp [hx1]
     clear hx0 hx1
     go_wp2
     go_ret
     exact ⟨by rw [HF.out];rfl,rfl⟩
  ·obtain rfl:k = l:=by omega
   have ht:zs.take k = zs:=List.take_of_length_le (by have:=HL.out;omega)
   have HA:Hid (zs.all zobB = true):=all_good (fun j x hj hx => HALL.out j x (by have:=HL.out;omega) hx)
   rw [ht]
   rw [ht] at hbd
   clear ht
   have HF:Hid (aloneB zs = decide (zs.sum = 1)):=by show _ = _;rw [HFD.out,HA.out,HL.out,decide_eq_true (show k ≤ 320 by omega)];rfl
   generalize zs.sum = s at *
   by_cases hs:s = 1
   ·subst hs
    go_wp2
    go_ret
    exact ⟨by rw [HF.out];rfl,rfl⟩
   ·have hd3:(s == 1) = false:=by simp [hs]
    rw [decide_eq_false hs] at HF
    clear hs
    go_wp2
    go_ret
    exact ⟨by rw [HF.out];rfl,rfl⟩
set_option maxHeartbeats 1000000 in
theorem caRight_any (A:Option Addr) (l c:Nat) (zs:List Int) (B:Nat) (w:World) (hl:zs.length = l) (hm:l ≤ 9223372036854775807) (hb:Cells w B A (zs.map ic)) :
  Calls Tryz.prog 222 #[.slice A l c] w fun e w' => e = .returned (.bool (caR zs))∧w = w':=by
 have HF:=Lib.hid (full_any A l c zs B w hl hm hb)
 have HA:=Lib.hid (alone_any A l c zs B w hl hm hb)
 have HP:Hid (caR zs = (fullB zs || aloneB zs)):=caR_parts zs
 generalize fullB zs = f at *
 generalize aloneB zs = a at *
 clear hl hb
 cases f with
 | true =>
  go_enter Tryz.func222,Tryz.ntmps222
  go_wp2_with (first | (go_at_call 241;refine HF.out.mono ?_;rintro e w' ⟨rfl,rfl⟩) | (go_at_call 242;refine HA.out.mono ?_;rintro e w' ⟨rfl,rfl⟩))
  go_ret
  exact ⟨by rw [HP.out];rfl,rfl⟩
 | false =>
  go_enter Tryz.func222,Tryz.ntmps222
  go_wp2_with (first | (go_at_call 241;refine HF.out.mono ?_;rintro e w' ⟨rfl,rfl⟩) | (go_at_call 242;refine HA.out.mono ?_;rintro e w' ⟨rfl,rfl⟩))
  go_ret
  exact ⟨by rw [HP.out];rfl,rfl⟩
theorem intElem:Elem Tryz.prog 156 3 (.int .i64 0) 1 8:=Elem.of Tryz.underlying156 (by kernel_rfl) rfl (by omega)
def nc (s:Nat):Value:=ic (s:Int)
def ixs (zs:List Int) (n s:Nat):List Nat:=(List.range s).filter fun t => decide (zs[t]? = some (n:Int))
def whole (zs:List Int):Nat→List Nat
 | 0 => []
 | m + 1 => whole zs m++ixs zs (m + 1) zs.length
def ordN (zs:List Int) (n s:Nat):List Nat:=whole zs (n - 1)++ixs zs n s
theorem ordN_zero (zs:List Int) (n:Nat):ordN zs n 0 = whole zs (n - 1):=by simp [ordN,ixs]
theorem ordN_all (zs:List Int) (n:Nat) (h:1 ≤ n):ordN zs n zs.length = whole zs n:=by
 obtain ⟨m,rfl⟩:∃ m,n = m + 1:=⟨n - 1,by omega⟩
 rfl
theorem ordN_yes {zs:List Int} {n s:Nat} (h:zs[s]? = some (n:Int)):ordN zs n (s + 1) = ordN zs n s++[s]:=by
 unfold ordN ixs
 rw [List.range_succ,List.filter_append,List.append_assoc]
 congr 1
 simp [h]
theorem ordN_no {zs:List Int} {n s:Nat} {x:Int} (h:zs[s]? = some x) (hx:x ≠ n):ordN zs n (s + 1) = ordN zs n s:=by
 unfold ordN ixs
 rw [List.range_succ,List.filter_append]
 congr 1
 simp [h,hx]
theorem ixs_len (zs:List Int) (n s:Nat):(ixs zs n s).length ≤ s:=Nat.le_trans (List.length_filter_le _ _) (by simp)
theorem whole_len (zs:List Int):∀ m,(whole zs m).length ≤ m * zs.length
 | 0 => by simp [whole]
 | m + 1 => by
  have h1:=whole_len zs m
  have h2:=ixs_len zs (m + 1) zs.length
  rw [whole,List.length_append,Nat.succ_mul]
  omega
theorem ordN_len (zs:List Int) (n s:Nat) (h1:1 ≤ n) (h2:n ≤ 15) (hs:s ≤ zs.length):(ordN zs n s).length ≤ 15 * zs.length:=by
 have h3:=whole_len zs (n - 1)
 have h4:=ixs_len zs n s
 have h5:(n - 1) * zs.length + zs.length ≤ 15 * zs.length:=by
  rw [← Nat.succ_mul];exact Nat.mul_le_mul_right _ (by omega)
 rw [ordN,List.length_append]
 omega
theorem whole_mem {zs:List Int}:∀ {m s:Nat},s ∈ whole zs m→∃ n:Nat,zs[s]? = some (n:Int)∧1 ≤ n∧n ≤ m
 | 0,_,h => by simp [whole] at h
 | m + 1,s,h => by
  rw [whole,List.mem_append] at h
  rcases h with h | h
  ·obtain ⟨n,h1,h2,h3⟩:=whole_mem h
   exact ⟨n,h1,h2,by omega⟩
  ·simp only [ixs,List.mem_filter,decide_eq_true_eq] at h
   exact ⟨m + 1,h.2,by omega,Nat.le_refl _⟩
theorem whole_has {zs:List Int} {s n:Nat} (h:zs[s]? = some (n:Int)) (h1:1 ≤ n):∀ {m:Nat},n ≤ m→s ∈ whole zs m
 | 0,h2 => by omega
 | m + 1,h2 => by
  rw [whole,List.mem_append]
  by_cases e:n = m + 1
  ·right
   subst e
   simp only [ixs,List.mem_filter,decide_eq_true_eq,List.mem_range]
   exact ⟨(List.getElem?_eq_some_iff.1 h).1,h⟩
  ·exact .inl (whole_has h h1 (by omega))
def ltx (zs:List Int) (s t:Nat):Prop:=zs.getD s 0 < zs.getD t 0 ∨ (zs.getD s 0 = zs.getD t 0∧s < t)
theorem getD_of {zs:List Int} {s:Nat} {n:Int} (h:zs[s]? = some n):zs.getD s 0 = n:=by simp [List.getD,h]
theorem whole_sorted (zs:List Int):∀ m,(whole zs m).Pairwise (ltx zs)
 | 0 => by simp [whole]
 | m + 1 => by
  rw [whole,List.pairwise_append]
  refine ⟨whole_sorted zs m,?_,fun a ha b hb => ?_⟩
  ·have:(ixs zs (m + 1) zs.length).Pairwise (· < ·):=List.Pairwise.filter _ List.pairwise_lt_range
   refine this.imp_of_mem fun {a b} ha hb hab => .inr ⟨?_,hab⟩
   simp only [ixs,List.mem_filter,decide_eq_true_eq] at ha hb
   rw [getD_of ha.2,getD_of hb.2]
  ·obtain ⟨n,h1,h2,h3⟩:=whole_mem ha
   simp only [ixs,List.mem_filter,decide_eq_true_eq] at hb
   left
   rw [getD_of h1,getD_of hb.2]
   omega
def ordL (zs:List Int):List Nat:=whole zs 15
set_option maxHeartbeats 1000000 in
theorem order_any (A:Option Addr) (l c:Nat) (zs:List Int) (B:Nat) (w:World) (hl:zs.length = l) (hm:l ≤ 1000) (hb:Cells w B A (zs.map ic)) (hB:B ≤ w.heap.size) :
  Calls Tryz.prog 195 #[.slice A l c] w fun e w' => ∃ A' c',e = .returned (.slice A' (ordL zs).length c') ∧
   w'.ownsRow w.heap.size 3 1 (.slice A' (ordL zs).length c') (ordL zs).length ((ordL zs).map nc)∧Below w.heap.size w w':=by
 have HC:=Lib.hid hb
 have HL:=Lib.hid hl
 have HB:=Lib.hid hB
 clear hb hl hB
 go_enter Tryz.func195,Tryz.ntmps195
 go_wp2
 go_loopg [3,4] 15 (fun gk v i wr => ∃ (n:Nat) (Ak:Option Addr) (ck:Nat),n + gk = 16∧1 ≤ n∧i = .int .i64 n∧v = .slice Ak (whole zs (n - 1)).length ck ∧
  wr.ownsRow w.heap.size 3 1 v (whole zs (n - 1)).length ((whole zs (n - 1)).map nc)∧Below w.heap.size w wr)
 case atStart => exact ⟨1,none,0,by omega,Nat.le_refl _,rfl,rfl,World.ownsRow_nil _ _ _ _,Below.refl _ _⟩
 case round =>
  obtain ⟨n,Ak,ck,hn,hn1,rfl,rfl,ho,hb⟩:=hrel
  by_cases h:n ≤ 15
  ·have hd:decide ((n:Int) ≤ 15) = true:=by simp;omega
   obtain ⟨G,hG⟩:∃ G,gk = G:=⟨_,rfl⟩
   rw [hG] at hn
   have HO:=Lib.hid ho
   have HBE:=Lib.hid hb
   clear ho hb
   go_wp2
   go_loopg [3,13] l (fun gk v i w2 => ∃ (k:Nat) (A2:Option Addr) (c2:Nat),k + gk = l∧i = .int .i64 k∧v = .slice A2 (ordN zs n k).length c2 ∧
    w2.ownsRow w.heap.size 3 1 v (ordN zs n k).length ((ordN zs n k).map nc)∧Below w.heap.size w w2)
   case atStart => exact ⟨0,Ak,ck,by omega,rfl,by rw [ordN_zero],by rw [ordN_zero];exact HO.out,HBE.out⟩
   case round =>
    obtain ⟨k,A2,c2,hk,rfl,rfl,ho2,hb2⟩:=hrel
    have HO2:=Lib.hid ho2
    have HB2:=Lib.hid hb2
    clear ho2 hb2 HO HBE
    by_cases hkl:k < l
    ·obtain ⟨x,hx⟩:∃ x,zs[k]? = some x:=⟨_,List.getElem?_eq_getElem (by have:=HL.out;omega)⟩
     obtain ⟨b,o,rfl,hbB,hc⟩:=(HC.out.below HB2.out HB.out) (by rw [List.length_map,HL.out];omega)
     have c0:wr.cell? ⟨b,o + k,none⟩ = some (.int .i64 x):=hc k _ (by rw [List.getElem?_map,hx];rfl)
     have HX:=Lib.hid hx
     clear hc hx
     have hlen:=ordN_len zs n k hn1 h (by have:=HL.out;omega)
     rw [HL.out] at hlen
     by_cases he:x = n
     ·have hde:(x == (n:Int)) = true:=by simp [he]
      subst he
      have HS:=Lib.hid (ordN_yes HX.out)
      generalize ordN zs n k = L at *
      have hbs:=HB2.out.size
      go_wp2_with (at_builtin;refine wpList_app1 _ intElem rfl (.tmp 21) (.tmp 23) rfl w.heap.size (.slice A2 L.length c2) L.length _ rfl HO2.out _ rfl rfl (by simp [Value.oneCell']) (by unfold maxLen;omega) (by omega) hbs ?_;intro A3 c3 w3 hA;have HA:=Lib.hid hA;clear hA)
      go_roundg (gk - 1)
      case measure => omega
      case rel =>
       refine ⟨k + 1,A3,c3,by omega,by go_num,by rw [HS.out,List.length_append];rfl,?_,HA.out.below HB2.out hbs (own_base HO2.out)⟩
       have:=HA.out.own
       rw [HS.out,List.length_append,List.map_append]
       exact this
     ·have hde:(x == (n:Int)) = false:=by simp [he]
      have HS:=Lib.hid (ordN_no HX.out he)
      clear he
      go_wp2
      go_roundg (gk - 1)
      case measure => omega
      case rel => exact ⟨k + 1,A2,c2,by omega,by go_num,by rw [HS.out],by rw [HS.out];exact HO2.out,HB2.out⟩
    ·obtain rfl:k = l:=by omega
     have HW:Hid (ordN zs n k = whole zs n):=by show _ = _;rw [← HL.out];exact ordN_all zs n hn1
     rw [HW.out] at HO2 ⊢
     go_wp2
     go_roundg (G - 1)
     case measure => omega
     case rel => exact ⟨n + 1,A2,c2,by omega,by omega,by go_num,rfl,HO2.out,HB2.out⟩
  ·obtain rfl:n = 16:=by omega
   go_wp2
   go_ret
   exact ⟨Ak,ck,rfl,ho,hb⟩
theorem caR_empty:caR [] = false:=by decide
def vstep (zs:List Int) (st:Nat × Nat × List Int) (s:Nat):Nat × Nat × List Int :=
 (st.1 * 2 ^ ((zs.getD s 0).toNat - st.2.1) + 1,(zs.getD s 0).toNat,st.2.2.set s ((st.1 * 2 ^ ((zs.getD s 0).toNat - st.2.1):Nat):Int))
def vst (zs:List Int) (os:List Nat):Nat × Nat × List Int:=os.foldl (vstep zs) (0,0,List.replicate zs.length 0)
def caV (zs:List Int):List Int:=(vst zs (ordL zs)).2.2
theorem vst_snoc (zs:List Int) (os:List Nat) (s:Nat):vst zs (os++[s]) = vstep zs (vst zs os) s:=by simp [vst]
def osum (zs:List Int) (os:List Nat):Nat:=(os.map fun s => wt (zs.getD s 0)).sum
theorem osum_snoc (zs:List Int) (os:List Nat) (s:Nat):osum zs (os++[s]) = osum zs os + wt (zs.getD s 0):=by simp [osum]
theorem osum_le (zs:List Int):∀ os:List Nat,osum zs os ≤ os.length * 32768
 | [] => Nat.zero_le _
 | s :: os => by
  have:=osum_le zs os
  have:=wt_le (zs.getD s 0)
  unfold osum at *
  rw [List.map_cons,List.sum_cons,List.length_cons,Nat.succ_mul]
  omega
structure VI (zs:List Int) (os:List Nat) (st:Nat × Nat × List Int):Prop where
 sum:st.1 * 2 ^ (15 - st.2.1) = osum zs os
 le:st.2.1 ≤ 15
 z:st.2.1 = 0→st.1 = 0
 len:st.2.2.length = zs.length
theorem VI.start (zs:List Int):VI zs [] (vst zs []):=⟨by simp [vst,osum],Nat.zero_le _,fun _ => rfl,by simp [vst]⟩
theorem VI.val {zs:List Int} {os:List Nat} {x a n:Nat} {vs:List Int} (h:VI zs os (x,a,vs)) (h15:n ≤ 15) (ha:a ≤ n):x * 2 ^ (n - a) * 2 ^ (15 - n) = osum zs os:=by
 rw [← h.sum,Nat.mul_assoc,← Nat.pow_add,show n - a + (15 - n) = 15 - a by omega]
theorem VI.snoc {zs:List Int} {os:List Nat} {st:Nat × Nat × List Int} {s n:Nat} (h:VI zs os st) (hs:zs[s]? = some (n:Int)) (h1:1 ≤ n) (h15:n ≤ 15) (ha:st.2.1 ≤ n):VI zs (os++[s]) (vstep zs st s):=by
 obtain ⟨x,a,vs⟩:=st
 have hg:=getD_of hs
 have hwt:wt (n:Int) = 2 ^ (15 - n):=by unfold wt;rw [if_pos (by omega),Int.toNat_natCast]
 refine ⟨?_,?_,?_,?_⟩
 ·rw [osum_snoc,hg,hwt,← h.val h15 ha]
  simp only [vstep,hg,Int.toNat_natCast]
  rw [Nat.add_mul,Nat.one_mul]
 ·simp only [vstep,hg,Int.toNat_natCast];exact h15
 ·simp only [vstep,hg,Int.toNat_natCast];omega
 ·simp only [vstep,List.length_set];exact h.len
theorem VI.small {zs:List Int} {os:List Nat} {x a n:Nat} {vs:List Int} (h:VI zs os (x,a,vs)) (h15:n ≤ 15) (ha:a ≤ n):x * 2 ^ (n - a) ≤ os.length * 32768:=by
 have h1:=h.val h15 ha
 have h2:=osum_le zs os
 have h3:x * 2 ^ (n - a) * 1 ≤ x * 2 ^ (n - a) * 2 ^ (15 - n):=Nat.mul_le_mul_left _ (Nat.one_le_two_pow)
 omega
theorem VI.small0 {zs:List Int} {os:List Nat} {x a:Nat} {vs:List Int} (h:VI zs os (x,a,vs)):x ≤ os.length * 32768:=by
 have h1:=h.small h.le (Nat.le_refl a)
 rwa [Nat.sub_self,Nat.pow_zero,Nat.mul_one] at h1
theorem mem_get {α:Type} {l:List α} {k:Nat} {x:α} (h:l[k]? = some x):x ∈ l:=List.mem_of_getElem? h
theorem vi_take (zs:List Int):∀ k,k ≤ (ordL zs).length→VI zs ((ordL zs).take k) (vst zs ((ordL zs).take k))∧(∀ s n:Nat,(ordL zs)[k]? = some s→zs[s]? = some (n:Int)→(vst zs ((ordL zs).take k)).2.1 ≤ n)
 | 0,_ => ⟨VI.start zs,fun s n _ _ => Nat.zero_le _⟩
 | k + 1,hk => by
  obtain ⟨h1,h2⟩:=vi_take zs k (by omega)
  obtain ⟨s,hs⟩:∃ s,(ordL zs)[k]? = some s:=⟨_,List.getElem?_eq_getElem (by omega)⟩
  obtain ⟨n,hn,hn1,hn15⟩:=whole_mem (mem_get hs)
  rw [take_snoc' hs,vst_snoc]
  refine ⟨h1.snoc hn hn1 hn15 (h2 s n hs hn),fun t m ht hm => ?_⟩
  have hp:=List.pairwise_iff_getElem.1 (show (ordL zs).Pairwise (ltx zs) from whole_sorted zs 15) k (k + 1) (List.getElem?_eq_some_iff.1 hs).1 (List.getElem?_eq_some_iff.1 ht).1 (by omega)
  have e1:=(List.getElem?_eq_some_iff.1 hs).2
  have e2:=(List.getElem?_eq_some_iff.1 ht).2
  rw [e1,e2] at hp
  unfold ltx at hp
  rw [getD_of hn,getD_of hm] at hp
  simp only [vstep,getD_of hn,Int.toNat_natCast]
  omega
def IntBlock (w:World) (g:Nat) (vs:List Int):Prop:=w.heap[g]? = some (.cells (vs.map ic).toArray 3 (0,0))
theorem ib_cell {w:World} {g:Nat} {vs:List Int} {i:Nat} {x:Int} (h:IntBlock w g vs) (hx:vs[i]? = some x):w.cell? ⟨g,i,none⟩ = some (.int .i64 x):=by
 rw [cell_of_row w g i _ _ _ h]
 simp [hx,ic]
theorem ib_free {w:World} {g:Nat} {vs:List Int} (h:IntBlock w g vs) (i:Nat):w.frozen? ⟨g,i,none⟩ = false:=frozen_of_row w g i _ _ h
theorem ib_set {w:World} {g:Nat} {vs:List Int} (h:IntBlock w g vs) (i:Nat) (y:Int):IntBlock (w.setCell ⟨g,i,none⟩ (.int .i64 y)) g (vs.set i y):=by
 unfold IntBlock
 rw [heap_setCell_same w g i _ _ _ h]
 rw [List.setIfInBounds_toArray,List.map_set]
 rfl
theorem ib_cells {w:World} {g B:Nat} {vs:List Int} (h:IntBlock w g vs) (hB:g < B):Cells w B (some ⟨g,0,none⟩) (vs.map ic):=fun _ =>
 ⟨g,0,rfl,hB,fun j u hu => by
  rw [Nat.zero_add,cell_of_row w g j _ _ _ h]
  simpa using hu⟩
theorem ib_lt {w:World} {g:Nat} {vs:List Int} (h:IntBlock w g vs):g < w.heap.size:=(Array.getElem?_eq_some_iff.1 h).1
theorem intInfo:(Tryz.prog.info? 3).map (fun i => (i.zero,i.size,i.bytes)) = some (some (.int .i64 0),1,8):=by kernel_rfl
theorem make_ints (n:Nat) (hn:n ≤ 1000000) (W:World) :
  (Instr.makeSlice 156 (.int .i64 (n:Int)) (.int .i64 (n:Int))).run Tryz.prog W = .ok (.slice (some ⟨W.heap.size,0,none⟩) n n) (W.alloc (.cells (madeCells #[.int .i64 0] n) 3)):=by
 obtain ⟨i0,hi,hz0,hz1,hz2⟩:=info_parts intInfo
 have h:=run_make (P:=Tryz.prog) W 156 3 i0 (.int .i64 0) Tryz.underlying156 hi hz0 .i64 .i64 n n (by omega) (Int.le_refl _) (by rw [hz2];omega) (by omega)
 simp only [Int.toNat_natCast,hz1,Nat.mul_one] at h
 exact h
theorem made_ints (w:World) (n:Nat):IntBlock (w.alloc (.cells (madeCells #[Value.int .i64 0] n) 3)) w.heap.size (List.replicate n 0):=by
 have e:madeCells #[Value.int .i64 0] n = ((List.replicate n (0:Int)).map ic).toArray:=by
  apply Array.toList_inj.1
  rw [toList_madeCells_one]
  simp [ic]
 unfold IntBlock
 rw [e]
 exact heap_alloc_new w _
set_option maxHeartbeats 1000000 in
theorem values_no (A:Option Addr) (l c:Nat) (zs:List Int) (B:Nat) (w:World) (hl:zs.length = l) (hm:l ≤ 9223372036854775807) (hb:Cells w B A (zs.map ic)) (hr:caR zs = false) :
  Calls Tryz.prog 192 #[.slice A l c] w fun e w' => e = .returned (.tuple #[.slice none 0 0,.int .i64 13])∧w = w':=by
 have HR:=Lib.hid (caRight_any A l c zs B w hl hm hb)
 rw [hr] at HR
 clear hr hb hl
 go_enter Tryz.func192,Tryz.ntmps192
 go_wp2_with (go_at_call 222;refine HR.out.mono ?_;rintro e w' ⟨rfl,rfl⟩)
 go_ret2
 exact ⟨rfl,rfl⟩
set_option maxHeartbeats 1000000 in
theorem values_any (A:Option Addr) (l c:Nat) (zs:List Int) (B:Nat) (w:World) (hl:zs.length = l) (hm:l ≤ 1000) (hb:Cells w B A (zs.map ic)) (hB:B ≤ w.heap.size) (hr:caR zs = true) :
  Calls Tryz.prog 192 #[.slice A l c] w fun e w' => e = .returned (.tuple #[.slice (some ⟨w.heap.size,0,none⟩) l l,.int .i64 0])∧IntBlock w' w.heap.size (caV zs)∧Below w.heap.size w w':=by
 have HR:=Lib.hid (caRight_any A l c zs B w hl (by omega) hb)
 rw [hr] at HR
 have HC:=Lib.hid hb
 have HL:=Lib.hid hl
 have HB:=Lib.hid hB
 have mk0:=make_ints l (by omega)
 have HLEN:Hid ((ordL zs).length ≤ 15000):=by
  have:=whole_len zs 15
  show (whole zs 15).length ≤ _
  omega
 clear hr hb hl hB
 obtain ⟨W1,hW1⟩:∃ W1,w.alloc (.cells (madeCells #[.int .i64 0] l) 3) = W1:=⟨_,rfl⟩
 have hz1:W1.heap.size = w.heap.size + 1:=by rw [← hW1];simp
 have HBL:=Lib.hid (show IntBlock W1 w.heap.size (List.replicate l 0) by rw [← hW1];exact made_ints w l)
 have HB1:=Lib.hid (show Below w.heap.size w W1 by rw [← hW1];exact (Below.refl _ w).alloc (Nat.le_refl _) _)
 have HORD:=Lib.hid (order_any A l c zs B W1 HL.out hm (HC.out.below HB1.out HB.out) (by have:=HB.out;omega))
 go_enter Tryz.func192,Tryz.ntmps192
 go_wp2_with (first | (go_at_call 222;refine HR.out.mono ?_;rintro e w' ⟨rfl,rfl⟩) | (go_at_call 195;refine HORD.out.mono ?_;rintro e w2 ⟨A2,c2,rfl,ho,hb2⟩;have HO:=Lib.hid ho;have HB2:=Lib.hid hb2;clear ho hb2))
 go_loopg [5,6,18] (ordL zs).length (fun gk x a i wr => ∃ (k:Nat) (X a0:Nat) (vs:List Int),k + gk = (ordL zs).length∧i = .int .i64 k∧vst zs ((ordL zs).take k) = (X,a0,vs)∧x = .int .i64 ((X:Int) - 1)∧a = .int .i64 a0 ∧
  IntBlock wr w.heap.size vs∧Mod (oneB w.heap.size) w2 wr)
 case atStart =>
  refine ⟨0,0,0,List.replicate zs.length 0,by omega,rfl,rfl,rfl,rfl,?_,Mod.refl _ _⟩
  rw [HL.out]
  have:=HB2.out.block w.heap.size (by omega)
  unfold IntBlock
  rw [this]
  exact HBL.out
 case round =>
  obtain ⟨k,X,a0,vs,hk,rfl,hst,rfl,rfl,hib,hmod⟩:=hrel
  have hol:=HLEN.out
  obtain ⟨hvi,hle⟩:=vi_take zs k (by omega)
  rw [hst] at hvi hle
  by_cases h:k < (ordL zs).length
  ·obtain ⟨s,hs⟩:∃ s,(ordL zs)[k]? = some s:=⟨_,List.getElem?_eq_getElem h⟩
   obtain ⟨n,hn,hn1,hn15⟩:=whole_mem (mem_get hs)
   have ha:a0 ≤ n:=hle s n hs hn
   have hv1:=hvi.small hn15 ha
   have hv0:=hvi.small0
   have hsl:=(List.getElem?_eq_some_iff.1 hn).1
   rw [List.length_take] at hv1 hv0
   have hV5:X * 2 ^ (n - a0) ≤ 500000000:=by have:=HLEN.out;omega
   have hX5:X ≤ 500000000:=by have:=HLEN.out;omega
   clear hv1 hv0
   have HVI:=Lib.hid hvi
   have HST:Hid (vst zs ((ordL zs).take (k + 1)) = (X * 2 ^ (n - a0) + 1,n,vs.set s ((X * 2 ^ (n - a0):Nat):Int))):=by
    show _ = _
    rw [take_snoc' hs,vst_snoc,hst]
    simp only [vstep,getD_of hn,Int.toNat_natCast]
   have HOW:=Lib.hid (own_keep HO.out hmod (fun q hq e => by have:=own_base HO.out q hq;have:=e;unfold oneB at this;omega))
   obtain ⟨b2,o2,rfl,hb2,hc2⟩:=(Cells.of_own HOW.out) (by rw [List.length_map];omega)
   have c1:wr.cell? ⟨b2,o2 + k,none⟩ = some (.int .i64 (s:Int)):=hc2 k _ (by rw [List.getElem?_map,hs];rfl)
   have HCW:=Lib.hid (((HC.out.more HB.out).below (HB1.out) (Nat.le_refl _)).below (HB2.out.mono (by omega)) (Nat.le_refl _) |>.mod hmod (by have:=HB2.out.size;omega) (fun q hq => by unfold oneB at hq;omega))
   obtain ⟨b,o,rfl,hbB,hc⟩:=HCW.out (by rw [List.length_map];omega)
   have c0:wr.cell? ⟨b,o + s,none⟩ = some (.int .i64 (n:Int)):=hc s _ (by rw [List.getElem?_map,hn];rfl)
   have hf:=ib_free hib s
   obtain ⟨y,hy⟩:∃ y,vs[s]? = some y:=⟨_,List.getElem?_eq_getElem (by rw [hvi.len];exact hsl)⟩
   have cy:=ib_cell hib hy
   have HIB:=Lib.hid hib
   have HMOD:=Lib.hid hmod
   have hsl':s < l:=by have:=HL.out;omega
   clear hc hc2 hib hmod hs hn hst hvi hle hy
   obtain ⟨Q,hQ⟩:∃ Q,2 ^ (n - a0) = Q:=⟨_,rfl⟩
   have hq:(2:Int) ^ (n - a0) = (Q:Int):=by
    rw [← hQ,Int.natCast_pow]
    rfl
   have hve:(X:Int) * (Q:Int) = ((X * 2 ^ (n - a0):Nat):Int):=by rw [hQ,Int.natCast_mul]
   clear hQ
   generalize X * 2 ^ (n - a0) = V at *
   go_wp2
   go_roundg (gk - 1)
   case measure => omega
   case rel => exact ⟨k + 1,V + 1,n,vs.set s (V:Int),by omega,by go_num,HST.out,by go_num,rfl,ib_set HIB.out s _,HMOD.out.set _ _ (.inl rfl)⟩
  ·obtain rfl:k = (ordL zs).length:=by omega
   have hcv:vs = caV zs:=by
    have:=hst
    rw [List.take_length] at this
    unfold caV
    rw [this]
   subst hcv
   go_wp2
   go_ret2
   exact ⟨rfl,hib,hmod.below ((HB1.out.trans (HB2.out.mono (by omega)))) (by have:=HB2.out.size;omega) (fun q hq => by unfold oneB at hq;omega)⟩
def isMax (zs:List Int) (m:Int):Prop:=(∀ x ∈ zs,x ≤ m)∧m ∈ zs
set_option maxHeartbeats 1000000 in
theorem clone8_any (A:Option Addr) (l c:Nat) (zs:List Int) (B:Nat) (w:World) (hl:zs.length = l) (h1:1 ≤ l) (hm:l ≤ 1000) (hb:Cells w B A (zs.map ic)) (hB:B ≤ w.heap.size) :
  Calls Tryz.prog 193 #[.slice A l c] w fun e w' => ∃ A' c',e = .returned (.slice A' l c')∧w'.ownsRow w.heap.size 3 1 (.slice A' l c') l (zs.map ic)∧Below w.heap.size w w':=by
 have HC:=Lib.hid hb
 have HL:=Lib.hid hl
 have HONE:Hid (∀ u ∈ zs.map ic,u.oneCell' = true):=fun u hu => by
  obtain ⟨s,_,rfl⟩:=List.mem_map.1 hu
  rfl
 obtain ⟨b,o,rfl,hbB,hc⟩:=hb (by rw [List.length_map];omega)
 obtain ⟨W1,hW1⟩:∃ W1,w.alloc (.cells #[] 3) = W1:=⟨_,rfl⟩
 have HOWN:=Lib.hid (show W1.ownsRow w.heap.size 3 1 (.slice (some ⟨w.heap.size,0,none⟩) 0 0) 0 [] by rw [← hW1];exact own_empty w _ (Nat.le_refl _))
 have HB1:=Lib.hid (show Below w.heap.size w W1 by rw [← hW1];exact (Below.refl _ w).alloc (Nat.le_refl _) _)
 have HC1:=Lib.hid (HC.out.below (HB1.out.mono hB) (Nat.le_refl _))
 clear hc hbB hl
 have hnil:=Lib.run_eql_slice_nil (P:=Tryz.prog) w 156 3 (some ⟨b,o,none⟩) l c 0 0 Tryz.underlying156
 go_enter Tryz.func193,Tryz.ntmps193
 go_wp2_with (at_builtin;refine wpList_app _ intElem rfl (.tmp 5) (.tmp 6) rfl w.heap.size (.slice (some ⟨w.heap.size,0,none⟩) 0 0) 0 _ rfl HOWN.out _ _ l c (zs.map ic) rfl (by rw [List.length_map,HL.out,Nat.mul_one]) HC1.out HONE.out (by unfold maxLen;omega) (by omega) HB1.out.size ?_;intro A3 c3 w3 hA;have HA:=Lib.hid hA;clear hA)
 go_ret
 exact ⟨A3,c3,rfl,by have:=HA.out.own;rwa [Nat.zero_add,List.nil_append] at this,HA.out.below HB1.out HB1.out.size (own_base HOWN.out)⟩
set_option maxHeartbeats 1000000 in
theorem max_any (A:Option Addr) (l c:Nat) (zs:List Int) (B:Nat) (w:World) (hl:zs.length = l) (h1:1 ≤ l) (hm:l ≤ 1099511627776) (hb:Cells w B A (zs.map ic)) :
  Calls Tryz.prog 223 #[.slice A l c] w fun e w' => ∃ m:Int,e = .returned (.int .i64 m)∧isMax zs m∧w = w':=by
 have HL:=Lib.hid hl
 obtain ⟨b,o,rfl,hbB,hc⟩:=hb (by rw [List.length_map];omega)
 obtain ⟨x,hx⟩:∃ x,zs[0]? = some x:=⟨_,List.getElem?_eq_getElem (show 0 < zs.length by omega)⟩
 have c0:w.cell? ⟨b,o,none⟩ = some (.int .i64 x):=hc 0 _ (by rw [List.getElem?_map,hx];rfl)
 have HX:=Lib.hid hx
 have HC:=Lib.hid hc
 have hd:decide ((l:Int) < 1) = false:=decide_eq_false (by omega)
 clear hc hx hb hl
 go_enter Tryz.func223,Tryz.ntmps223
 go_wp2
 go_loopg [3,4] l (fun gk v i wr => ∃ (k:Nat) (m:Int),k + gk = l + 1∧1 ≤ k∧k ≤ l∧i = .int .i64 k∧v = .int .i64 m∧isMax (zs.take k) m∧wr = w)
 case atStart => exact ⟨1,x,by omega,Nat.le_refl _,h1,rfl,rfl,by rw [take_snoc' HX.out];simp [isMax],rfl⟩
 case round =>
  obtain ⟨k,m,hk,hk1,hkl,rfl,rfl,hmx,rfl⟩:=hrel
  clear c0
  by_cases h:k < l
  ·obtain ⟨y,hy⟩:∃ y,zs[k]? = some y:=⟨_,List.getElem?_eq_getElem (by have:=HL.out;omega)⟩
   have c1:wr.cell? ⟨b,o + k,none⟩ = some (.int .i64 y):=HC.out k _ (by rw [List.getElem?_map,hy];rfl)
   have HT:Hid (zs.take (k + 1) = zs.take k++[y]):=take_snoc' hy
   have HM:=Lib.hid hmx
   clear hy hmx
   by_cases hc:m < y
   ·have HN:Hid (isMax (zs.take (k + 1)) y):=by
     show isMax _ _
     rw [HT.out]
     refine ⟨fun z hz => ?_,by simp⟩
     rcases List.mem_append.1 hz with hz | hz
     ·have:=HM.out.1 z hz;omega
     ·simp at hz;omega
    go_wp2
    go_roundg (gk - 1)
    case measure => omega
    case rel => exact ⟨k + 1,y,by omega,by omega,by omega,by go_num,by go_num,HN.out,rfl⟩
   ·have HN:Hid (isMax (zs.take (k + 1)) m):=by
     show isMax _ _
     rw [HT.out]
     refine ⟨fun z hz => ?_,by simp [HM.out.2]⟩
     rcases List.mem_append.1 hz with hz | hz
     ·exact HM.out.1 z hz
     ·simp at hz;omega
    go_wp2
    go_roundg (gk - 1)
    case measure => omega
    case rel => exact ⟨k + 1,m,by omega,by omega,by omega,by go_num,by go_num,HN.out,rfl⟩
  ·obtain rfl:k = l:=by omega
   have ht:zs.take k = zs:=List.take_of_length_le (by have:=HL.out;omega)
   rw [ht] at hmx
   go_wp2
   go_ret
   exact ⟨m,rfl,hmx,rfl⟩
theorem longest_any (A:Option Addr) (l c:Nat) (zs:List Int) (B:Nat) (w:World) (hl:zs.length = l) (h1:1 ≤ l) (hm:l ≤ 1099511627776) (hb:Cells w B A (zs.map ic)) :
  Calls Tryz.prog 194 #[.slice A l c] w fun e w' => ∃ m:Int,e = .returned (.int .i64 m)∧isMax zs m∧w = w':=by
 have HM:=Lib.hid (max_any A l c zs B w hl h1 hm hb)
 have hd:((l:Int) == 0) = false:=by simp;omega
 clear hb hl
 go_enter Tryz.func194,Tryz.ntmps194
 go_wp2_with (go_at_call 223;refine HM.out.mono ?_;rintro e w' ⟨m,rfl,hmx,rfl⟩)
 go_ret
 exact ⟨m,rfl,hmx,rfl⟩
def cntN (zs:List Int) (os:List Nat) (n:Nat):Nat:=(os.filter fun s => decide (zs.getD s 0 = (n:Int))).length
def cntL (zs:List Int) (os:List Nat):List Int:=(List.range 16).map fun n => (cntN zs os n:Int)
def mixL (zs:List Int) (k:Nat):List Int:=(List.range 16).map fun n => if n < k then ((whole zs n).length:Int) else (cntN zs (ordL zs) n:Int)
def endsL (zs:List Int):List Int:=(List.range 16).map fun n => ((whole zs n).length:Int)
theorem cntN_snoc (zs:List Int) (os:List Nat) (s n:Nat):cntN zs (os++[s]) n = cntN zs os n + (if zs.getD s 0 = (n:Int) then 1 else 0):=by
 unfold cntN
 rw [List.filter_append,List.length_append]
 congr 1
 show (match decide (zs.getD s 0 = (n:Int)) with | true => [s] | false => []).length = _
 by_cases h:zs.getD s 0 = (n:Int)
 ·rw [decide_eq_true h,if_pos h];rfl
 ·rw [decide_eq_false h,if_neg h];rfl
theorem range_map_get {f:Nat→Int} {i:Nat} (h:i < 16):((List.range 16).map f)[i]? = some (f i):=by
 rw [List.getElem?_map,List.getElem?_range h];rfl
theorem range_map_set (f g:Nat→Int) (i:Nat) (y:Int) (hi:g i = y) (ho:∀ j,j ≠ i→g j = f j):((List.range 16).map f).set i y = (List.range 16).map g:=by
 apply List.ext_getElem?
 intro j
 rw [List.getElem?_set]
 by_cases h:i = j
 ·subst h
  rw [if_pos rfl]
  by_cases h16:i < 16
  ·rw [if_pos (by simpa using h16),range_map_get h16,hi]
  ·rw [if_neg (by simpa using h16),List.getElem?_eq_none (by simpa using h16)]
 ·rw [if_neg h]
  by_cases h16:j < 16
  ·rw [range_map_get h16,range_map_get h16,ho j (by omega)]
  ·rw [List.getElem?_eq_none (by simpa using h16),List.getElem?_eq_none (by simpa using h16)]
theorem cntL_snoc {zs:List Int} {os:List Nat} {s n:Nat} (hs:zs[s]? = some (n:Int)):(cntL zs os).set n ((cntN zs os n:Int) + 1) = cntL zs (os++[s]):=by
 unfold cntL
 refine range_map_set _ _ _ _ ?_ (fun j hj => ?_)
 ·show ((cntN zs (os++[s]) n:Nat):Int) = _
  rw [cntN_snoc,getD_of hs,if_pos rfl]
  omega
 ·show ((cntN zs (os++[s]) j:Nat):Int) = _
  rw [cntN_snoc,getD_of hs,if_neg (by omega)]
  rfl
theorem cnt_whole (zs:List Int) (n:Nat) (h1:1 ≤ n):∀ m,cntN zs (whole zs m) n = if n ≤ m then (ixs zs n zs.length).length else 0
 | 0 => by rw [if_neg (by omega)];rfl
 | m + 1 => by
  have ih:=cnt_whole zs n h1 m
  have key:cntN zs (ixs zs (m + 1) zs.length) n = if n = m + 1 then (ixs zs n zs.length).length else 0:=by
   unfold cntN
   by_cases e:n = m + 1
   ·subst e
    rw [if_pos rfl,List.filter_eq_self.2]
    intro s hs
    simp only [ixs,List.mem_filter,decide_eq_true_eq] at hs
    exact decide_eq_true (getD_of hs.2)
   ·rw [if_neg e,List.filter_eq_nil_iff.2]
    ·rfl
    ·intro s hs
     simp only [ixs,List.mem_filter,decide_eq_true_eq] at hs
     rw [decide_eq_true_eq,getD_of hs.2]
     omega
  have hadd:cntN zs (whole zs (m + 1)) n = cntN zs (whole zs m) n + cntN zs (ixs zs (m + 1) zs.length) n:=by
   unfold cntN
   rw [whole,List.filter_append,List.length_append]
  rw [hadd,ih,key]
  by_cases h2:n ≤ m
  ·rw [if_pos h2,if_neg (by omega),if_pos (by omega),Nat.add_zero]
  ·by_cases h3:n = m + 1
   ·rw [if_neg h2,if_pos h3,if_pos (by omega),Nat.zero_add]
   ·rw [if_neg h2,if_neg h3,if_neg (by omega)]
theorem mixL_start (zs:List Int):mixL zs 1 = cntL zs (ordL zs):=by
 unfold mixL cntL
 apply List.map_congr_left
 intro n _
 by_cases h:n < 1
 ·obtain rfl:n = 0:=by omega
  rw [if_pos (by omega)]
  have:cntN zs (ordL zs) 0 = 0:=by
   unfold cntN
   rw [List.filter_eq_nil_iff.2]
   ·rfl
   ·intro s hs
    obtain ⟨n,h1,h2,_⟩:=whole_mem hs
    rw [decide_eq_true_eq,getD_of h1]
    omega
  rw [this]
  rfl
 ·rw [if_neg h]
theorem mixL_end (zs:List Int):mixL zs 16 = endsL zs:=by
 unfold mixL endsL
 apply List.map_congr_left
 intro n hn
 rw [List.mem_range] at hn
 rw [if_pos hn]
theorem mixL_step (zs:List Int) (k:Nat) (h1:1 ≤ k) (h15:k ≤ 15):(mixL zs k).set k ((cntN zs (ordL zs) k:Int) + ((whole zs (k - 1)).length:Int)) = mixL zs (k + 1):=by
 unfold mixL
 refine range_map_set _ _ _ _ ?_ (fun j hj => ?_)
 ·show (if k < k + 1 then ((whole zs k).length:Int) else _) = _
  rw [if_pos (by omega)]
  have h2:=cnt_whole zs k h1 15
  rw [if_pos h15] at h2
  obtain ⟨m,rfl⟩:∃ m,k = m + 1:=⟨k - 1,by omega⟩
  unfold ordL
  rw [h2,whole,List.length_append,Nat.add_sub_cancel]
  omega
 ·show (if j < k + 1 then ((whole zs j).length:Int) else _) = (if j < k then ((whole zs j).length:Int) else _)
  by_cases h:j < k
  ·rw [if_pos h,if_pos (by omega)]
  ·rw [if_neg h,if_neg (by omega)]
def CB (w:World) (g:Nat) (v1 v2 v3 v4:Value) (es:List Int):Prop:=w.heap[g]? = some (.cells ([v1,v2,v3,v4]++es.map ic).toArray 225 (0,0))
theorem cb_end {w:World} {g:Nat} {v1 v2 v3 v4:Value} {es:List Int} {i:Nat} {x:Int} (h:CB w g v1 v2 v3 v4 es) (hx:es[i]? = some x):w.cell? ⟨g,4 + i,none⟩ = some (.int .i64 x):=by
 rw [cell_of_row w g (4 + i) _ _ _ h]
 rw [List.getElem?_toArray,List.getElem?_append_right (by simp)]
 simp [hx,ic]
theorem cb_pre {w:World} {g:Nat} {v1 v2 v3 v4:Value} {es:List Int} (h:CB w g v1 v2 v3 v4 es) :
  w.cell? ⟨g,0,none⟩ = some v1∧w.cell? ⟨g,1,none⟩ = some v2∧w.cell? ⟨g,2,none⟩ = some v3∧w.cell? ⟨g,3,none⟩ = some v4:=by
 refine ⟨?_,?_,?_,?_⟩ <;> rw [cell_of_row w g _ _ _ _ h] <;> rfl
theorem cb_free {w:World} {g:Nat} {v1 v2 v3 v4:Value} {es:List Int} (h:CB w g v1 v2 v3 v4 es) (i:Nat):w.frozen? ⟨g,i,none⟩ = false:=frozen_of_row w g i _ _ h
theorem cb_set {w:World} {g:Nat} {v1 v2 v3 v4:Value} {es:List Int} (h:CB w g v1 v2 v3 v4 es) (i:Nat) (y:Int):CB (w.setCell ⟨g,4 + i,none⟩ (.int .i64 y)) g v1 v2 v3 v4 (es.set i y):=by
 unfold CB
 rw [heap_setCell_same w g (4 + i) _ _ _ h,List.setIfInBounds_toArray]
 congr 3
 rw [List.set_append_right _ _ (by simp),List.map_set]
 simp [ic]
theorem cb_lt {w:World} {g:Nat} {v1 v2 v3 v4:Value} {es:List Int} (h:CB w g v1 v2 v3 v4 es):g < w.heap.size:=(Array.getElem?_eq_some_iff.1 h).1
def LC (w:World) (g:Nat) (zs:List Int):Prop:=∃ (A1 A2 A3:Option Addr) (c1 c2 c3:Nat) (m:Int),CB w g (.slice A1 zs.length c1) (.slice A2 zs.length c2) (.int .i64 m) (.slice A3 (ordL zs).length c3) (endsL zs) ∧
 isMax zs m∧Cells w g A1 (zs.map ic)∧Cells w g A2 ((caV zs).map ic)∧Cells w g A3 ((ordL zs).map nc)
def LCa (w:World) (n g:Nat) (zs:List Int):Prop:=∃ (A1 A2 A3:Option Addr) (c1 c2 c3:Nat) (m:Int),CB w g (.slice A1 zs.length c1) (.slice A2 zs.length c2) (.int .i64 m) (.slice A3 (ordL zs).length c3) (endsL zs) ∧
 isMax zs m∧Cells w g A1 (zs.map ic)∧Cells w g A2 ((caV zs).map ic)∧Cells w g A3 ((ordL zs).map nc)∧n ≤ g∧∀ a,A1 = some a ∨ A2 = some a ∨ A3 = some a→n ≤ a.block
theorem LCa.lc {w:World} {n g:Nat} {zs:List Int} (h:LCa w n g zs):LC w g zs:=by
 obtain ⟨A1,A2,A3,c1,c2,c3,m,h1,h2,h3,h4,h5,_,_⟩:=h
 exact ⟨A1,A2,A3,c1,c2,c3,m,h1,h2,h3,h4,h5⟩
set_option maxHeartbeats 1000000 in
theorem new_no (A:Option Addr) (l c:Nat) (zs:List Int) (B:Nat) (w:World) (hl:zs.length = l) (hm:l ≤ 9223372036854775807) (hb:Cells w B A (zs.map ic)) (hr:caR zs = false) :
  Calls Tryz.prog 152 #[.slice A l c] w fun e w' => e = .returned (.tuple #[.pointer none,.int .i64 13])∧w = w':=by
 have HV:=Lib.hid (values_no A l c zs B w hl hm hb hr)
 clear hr hb hl
 go_enter Tryz.func152,Tryz.ntmps152
 go_wp2_with (go_at_call 192;refine HV.out.mono ?_;rintro e w' ⟨rfl,rfl⟩)
 go_ret2
 exact ⟨rfl,rfl⟩
set_option maxHeartbeats 1000000 in
theorem new_low (A:Option Addr) (l c:Nat) (zs:List Int) (B:Nat) (w:World) (hl:zs.length = l) (hm:l ≤ 1000) (hb:Cells w B A (zs.map ic)) (hB:B ≤ w.heap.size) (hr:caR zs = true) :
  Calls Tryz.prog 152 #[.slice A l c] w fun e w' => ∃ g,e = .returned (.tuple #[.pointer (some ⟨g,0,none⟩),.int .i64 0])∧LCa w' w.heap.size g zs∧Below w.heap.size w w':=by
 have hl1:1 ≤ l:=by
  rcases Nat.eq_zero_or_pos l with h | h
  ·rw [h] at hl
   rw [List.eq_nil_of_length_eq_zero hl,caR_empty] at hr
   cases hr
  ·exact h
 have HV:=Lib.hid (values_any A l c zs B w hl hm hb hB hr)
 have HC:=Lib.hid (hb.more hB)
 have HL:=Lib.hid hl
 clear hr hb hl
 go_enter Tryz.func152,Tryz.ntmps152
 go_wp2_with (first | (go_at_call 192;refine HV.out.mono ?_;rintro e w1 ⟨rfl,hib,hb1⟩;have HIB:=Lib.hid hib;have HB1:=Lib.hid hb1;have HS1:=Lib.hid (ib_lt hib);have HC1:=Lib.hid (HC.out.below hb1 (Nat.le_refl _));have HCL:=Lib.hid (clone8_any A l c zs _ w1 HL.out hl1 hm HC1.out hb1.size);clear HV hib hb1) | (go_at_call 193;refine HCL.out.mono ?_;rintro e w2 ⟨A2,c2,rfl,ho2,hb2⟩;have HO2:=Lib.hid ho2;have HB2:=Lib.hid hb2;have HC2:=Lib.hid (HC1.out.below hb2 HB1.out.size);have HLO:=Lib.hid (longest_any A l c zs _ w2 HL.out hl1 (by omega) HC2.out);clear HCL ho2 hb2) | (go_at_call 194;refine HLO.out.mono ?_;rintro e w' ⟨mx,rfl,hmx,rfl⟩;have HMX:=Lib.hid hmx;have HOR:=Lib.hid (order_any A l c zs _ w2 HL.out hm HC2.out (Nat.le_trans HB1.out.size HB2.out.size));clear HLO hmx) | (go_at_call 195;refine HOR.out.mono ?_;rintro e w3 ⟨A3,c3,rfl,ho3,hb3⟩;have HO3:=Lib.hid ho3;have HB3:=Lib.hid hb3;clear HOR ho3 hb3))
 have HOc:Hid (Cells w3 w3.heap.size A3 ((ordL zs).map nc)):=Cells.of_own HO3.out
 have HZc:Hid (Cells w3 w3.heap.size A (zs.map ic)):=((HC2.out.below HB3.out (Nat.le_trans HB1.out.size HB2.out.size)).more (Nat.le_trans (Nat.le_trans HB1.out.size HB2.out.size) HB3.out.size))
 have HKc:Hid (Cells w3 w3.heap.size A2 (zs.map ic)):=((Cells.of_own HO2.out).below HB3.out (Nat.le_refl _)).more HB3.out.size
 have HVc:Hid (Cells w3 w3.heap.size (some ⟨w.heap.size,0,none⟩) ((caV zs).map ic)):=(((ib_cells HIB.out HS1.out).below HB2.out (Nat.le_refl _)).below HB3.out HB2.out.size).more (Nat.le_trans HB2.out.size HB3.out.size)
 have HBE:Hid (Below w.heap.size w w3):=(HB1.out.trans (HB2.out.mono HB1.out.size)).trans (HB3.out.mono (Nat.le_trans HB1.out.size HB2.out.size))
 have HOL:Hid ((ordL zs).length ≤ 15000):=by
  have:=whole_len zs 15
  have:=HL.out
  show (whole zs 15).length ≤ _
  omega
 go_loopg [32] (ordL zs).length (fun gk i wr => ∃ k:Nat,k + gk = (ordL zs).length∧i = .int .i64 k∧CB wr w3.heap.size (.slice A2 l c2) (.slice (some ⟨w.heap.size,0,none⟩) l l) (.int .i64 mx) (.slice A3 (ordL zs).length c3) (cntL zs ((ordL zs).take k))∧Below w3.heap.size w3 wr)
 case atStart => exact ⟨0,by omega,rfl,heap_alloc_new w3 _,(Below.refl _ w3).alloc (Nat.le_refl _) _⟩
 case round =>
  obtain ⟨k,hk,rfl,hcb,hbe⟩:=hrel
  have hol:=HOL.out
  by_cases h:k < (ordL zs).length
  ·obtain ⟨s,hs⟩:∃ s,(ordL zs)[k]? = some s:=⟨_,List.getElem?_eq_getElem h⟩
   obtain ⟨n,hn,hn1,hn15⟩:=whole_mem (mem_get hs)
   obtain ⟨b2,o2,rfl,hb2,hc2⟩:=(HOc.out.below hbe (Nat.le_refl _)) (by rw [List.length_map];omega)
   have c1:wr.cell? ⟨b2,o2 + k,none⟩ = some (.int .i64 (s:Int)):=hc2 k _ (by rw [List.getElem?_map,hs];rfl)
   obtain ⟨b,o,rfl,hb3,hc3⟩:=(HZc.out.below hbe (Nat.le_refl _)) (by rw [List.length_map,HL.out];omega)
   have c0:wr.cell? ⟨b,o + s,none⟩ = some (.int .i64 (n:Int)):=hc3 s _ (by rw [List.getElem?_map,hn];rfl)
   have hsl:s < l:=by have:=(List.getElem?_eq_some_iff.1 hn).1;have:=HL.out;omega
   have ce:=cb_end (i:=n) hcb (range_map_get (by omega))
   have hf:=cb_free hcb (4 + n)
   have HCB:=Lib.hid hcb
   have HBW:=Lib.hid hbe
   have HS:Hid ((cntL zs ((ordL zs).take k)).set n ((cntN zs ((ordL zs).take k) n:Int) + 1) = cntL zs ((ordL zs).take (k + 1))):=by show _ = _;rw [cntL_snoc hn,take_snoc' hs]
   have hcnt:cntN zs ((ordL zs).take k) n ≤ 15000:=Nat.le_trans (List.length_filter_le _ _) (by rw [List.length_take];omega)
   clear hc2 hc3 hs hn hcb hbe
   generalize cntN zs ((ordL zs).take k) n = cn at *
   go_upto_region 8 with (fail)
   go_region
   go_wp2
   go_roundg (gk - 1)
   case measure => omega
   case rel => exact ⟨k + 1,by omega,by go_num,by rw [← HS.out];exact cb_set HCB.out n _,(HBW.out.setCell (Nat.le_refl _) _).drew⟩
  ·obtain rfl:k = (ordL zs).length:=by omega
   rw [List.take_length,← mixL_start] at hcb
   have HCB:=Lib.hid hcb
   have HBW:=Lib.hid hbe
   clear hcb hbe
   go_wp2
   go_loopg [9] 15 (fun gk i wr => ∃ k:Nat,k + gk = 15∧i = .int .i64 ((k:Int) + 1)∧CB wr w3.heap.size (.slice A2 l c2) (.slice (some ⟨w.heap.size,0,none⟩) l l) (.int .i64 mx) (.slice A3 (ordL zs).length c3) (mixL zs (k + 1))∧Below w3.heap.size w3 wr)
   case atStart => exact ⟨0,by omega,rfl,HCB.out,HBW.out⟩
   case round =>
    clear HCB HBW
    obtain ⟨k,hk,rfl,hcb,hbe⟩:=hrel
    by_cases h:k < 15
    ·have ce:=cb_end (i:=k + 1) hcb (range_map_get (by omega))
     have cp:=cb_end (i:=k) hcb (range_map_get (by omega))
     rw [if_neg (by omega)] at ce
     rw [if_pos (by omega)] at cp
     have hf:=cb_free hcb (4 + (k + 1))
     have HCB:=Lib.hid hcb
     have HBW:=Lib.hid hbe
     have HS:=Lib.hid (mixL_step zs (k + 1) (by omega) (by omega))
     rw [Nat.add_sub_cancel] at HS
     have hcnt:cntN zs (ordL zs) (k + 1) ≤ 15000:=Nat.le_trans (List.length_filter_le _ _) (by omega)
     have hwl:(whole zs k).length ≤ 15000:=by
      have:=whole_len zs k
      have:=HL.out
      have:k * zs.length ≤ 15 * zs.length:=Nat.mul_le_mul_right _ (by omega)
      omega
     clear hcb hbe
     generalize cntN zs (ordL zs) (k + 1) = cn at *
     generalize (whole zs k).length = wn at *
     have hd:decide ((k:Int) + 1 < 16) = true:=by simp;omega
     go_upto_region 13 with (fail)
     go_region
     go_wp2
     go_roundg (gk - 1)
     case measure => omega
     case rel => exact ⟨k + 1,by omega,by go_num,by rw [← HS.out];exact cb_set HCB.out (k + 1) _,(HBW.out.setCell (Nat.le_refl _) _).drew⟩
    ·obtain rfl:k = 15:=by omega
     rw [mixL_end] at hcb
     go_wp2
     go_ret2
     refine ⟨w3.heap.size,rfl,⟨A2,some ⟨w.heap.size,0,none⟩,A3,c2,l,c3,mx,by rw [HL.out];exact hcb,HMX.out,HKc.out.below hbe (Nat.le_refl _),HVc.out.below hbe (Nat.le_refl _),HOc.out.below hbe (Nat.le_refl _),HBE.out.size,fun a ha => ?_⟩,HBE.out.trans (hbe.mono HBE.out.size)⟩
     rcases ha with rfl | ha | rfl
     ·exact Nat.le_trans HB1.out.size (own_base HO2.out _ rfl)
     ·cases ha
      exact Nat.le_refl _
     ·exact Nat.le_trans (Nat.le_trans HB1.out.size HB2.out.size) (own_base HO3.out _ rfl)
theorem caR_len {zs:List Int} (h:caR zs = true):zs.length ≤ 320∧∀ x ∈ zs,lenB x = true:=by
 unfold caR at h
 rw [Bool.and_eq_true,Bool.and_eq_true,decide_eq_true_eq,List.all_eq_true] at h
 exact h.1
theorem LC.below {w w':World} {g:Nat} {zs:List Int} (h:LC w g zs) (hb:Below w.heap.size w w'):LC w' g zs:=by
 obtain ⟨A1,A2,A3,c1,c2,c3,m,hcb,hmx,h1,h2,h3⟩:=h
 have hg:=cb_lt hcb
 exact ⟨A1,A2,A3,c1,c2,c3,m,(by unfold CB;rw [hb.block g hg];exact hcb),hmx,h1.below (hb.mono (Nat.le_of_lt hg)) (Nat.le_refl _),h2.below (hb.mono (Nat.le_of_lt hg)) (Nat.le_refl _),h3.below (hb.mono (Nat.le_of_lt hg)) (Nat.le_refl _)⟩
theorem LC.drewN {w:World} {g:Nat} {zs:List Int} (h:LC w g zs) (n:Nat):LC (w.drewN n) g zs:=h
def lenAt (zs:List Int) (s:Int):Int:=if 0 ≤ s then zs.getD s.toNat 0 else 0
set_option maxHeartbeats 400000 in
theorem len_any (g:Nat) (zs:List Int) (s:Int) (w:World) (h:LC w g zs) (hm:zs.length ≤ 1000) :
  Calls Tryz.prog 156 #[.pointer (some ⟨g,0,none⟩),.int .i64 s] w fun e w' => e = .returned (.int .i64 (lenAt zs s))∧w = w':=by
 obtain ⟨A1,A2,A3,c1,c2,c3,m,hcb,hmx,hc,hr⟩:=h
 obtain ⟨p0,p1,p2,p3⟩:=cb_pre hcb
 clear hcb hr hmx p1 p2 p3
 by_cases h0:0 ≤ s
 ·by_cases hl:s < zs.length
  ·obtain ⟨k,rfl⟩:=Int.eq_ofNat_of_zero_le h0
   obtain ⟨x,hx⟩:∃ x,zs[k]? = some x:=⟨_,List.getElem?_eq_getElem (by omega)⟩
   obtain ⟨b,o,rfl,hb,hc2⟩:=hc (by rw [List.length_map];omega)
   have c0:w.cell? ⟨b,o + k,none⟩ = some (.int .i64 x):=hc2 k _ (by rw [List.getElem?_map,hx];rfl)
   have HF:Hid (lenAt zs (k:Int) = x):=by show _ = _;rw [lenAt,if_pos (by omega),Int.toNat_natCast,getD_of hx]
   have hd:decide ((k:Int) < 0) = false:=by simp
   have hd2:decide ((zs.length:Int) ≤ (k:Int)) = false:=by simp;omega
   clear hc hc2 hx h0
   go_enter Tryz.func156,Tryz.ntmps156
   go_wp2
   go_ret
   exact ⟨by rw [HF.out];rfl,rfl⟩
  ·have HF:Hid (lenAt zs s = 0):=by
    show _ = _
    rw [lenAt,if_pos h0,List.getD,List.getElem?_eq_none (by omega)];rfl
   have hd2:decide ((zs.length:Int) ≤ s) = true:=by simp;omega
   have hd:decide (s < 0) = false:=by simp;omega
   clear hl hc
   go_enter Tryz.func156,Tryz.ntmps156
   go_wp2
   go_ret
   exact ⟨by rw [HF.out];rfl,rfl⟩
 ·have HF:Hid (lenAt zs s = 0):=by
   show _ = _
   rw [lenAt,if_neg h0]
  have hd:decide (s < 0) = true:=by simp;omega
  clear h0 hc
  go_enter Tryz.func156,Tryz.ntmps156
  go_wp2
  go_ret
  exact ⟨by rw [HF.out];rfl,rfl⟩
theorem ordL_ne (zs:List Int):(ordL zs).Pairwise (· ≠ ·):=(whole_sorted zs 15).imp fun {a b} h e => by
 subst e
 unfold ltx at h
 omega
theorem ord_ne {zs:List Int} {i j s t:Nat} (hi:(ordL zs)[i]? = some s) (hj:(ordL zs)[j]? = some t) (hne:i ≠ j):s ≠ t:=by
 have h:=List.pairwise_iff_getElem.1 (ordL_ne zs)
 obtain ⟨li,rfl⟩:=List.getElem?_eq_some_iff.1 hi
 obtain ⟨lj,rfl⟩:=List.getElem?_eq_some_iff.1 hj
 rcases Nat.lt_or_ge i j with h1 | h1
 ·exact h i j li lj h1
 ·exact (h j i lj li (by omega)).symm
theorem val_of {zs:List Int} {k s n:Nat} (hk:(ordL zs)[k]? = some s) (hn:zs[s]? = some (n:Int)):∃ v:Nat,(caV zs)[s]? = some (v:Int)∧v * 2 ^ (15 - n) = osum zs ((ordL zs).take k):=by
 have hkl:=(List.getElem?_eq_some_iff.1 hk).1
 obtain ⟨hvi,hle⟩:=vi_take zs k (by omega)
 obtain ⟨n',hn',hn1,hn15⟩:=whole_mem (mem_get hk)
 have e:n' = n:=by rw [hn] at hn';injection hn' with h;omega
 subst e
 have ha:=hle s n' hk hn
 have hsl:=(List.getElem?_eq_some_iff.1 hn).1
 obtain ⟨X,hX⟩:∃ X,vst zs ((ordL zs).take k) = X:=⟨_,rfl⟩
 rw [hX] at hvi ha
 obtain ⟨x,a,vs⟩:=X
 have hlen:=hvi.len
 dsimp only at ha hlen
 refine ⟨x * 2 ^ (n' - a),?_,hvi.val hn15 ha⟩
 have key:∀ j,k + 1 ≤ j→j ≤ (ordL zs).length→(vst zs ((ordL zs).take j)).2.2[s]? = some ((x * 2 ^ (n' - a):Nat):Int):=by
  intro j
  induction j with
  | zero => intro h;omega
  | succ j ih =>
   intro h1 h2
   obtain ⟨t,ht⟩:∃ t,(ordL zs)[j]? = some t:=⟨_,List.getElem?_eq_getElem (by omega)⟩
   rw [take_snoc' ht,vst_snoc]
   by_cases hj:j = k
   ·have e:t = s:=by
     rw [hj,hk] at ht
     injection ht with ht
     exact ht.symm
    rw [e,hj,hX]
    show (vs.set s ((x * 2 ^ ((zs.getD s 0).toNat - a):Nat):Int))[s]? = _
    rw [getD_of hn,Int.toNat_natCast,List.getElem?_set_self (by omega)]
   ·show ((vst zs ((ordL zs).take j)).2.2.set t _)[s]? = _
    rw [List.getElem?_set_ne (ord_ne ht hk hj)]
    exact ih (by omega) (by omega)
 have h:=key (ordL zs).length (by omega) (Nat.le_refl _)
 rw [List.take_length] at h
 exact h
theorem filt_sum {α:Type} (p:α→Bool) (f:α→Nat):∀ L:List α,((L.filter p).map f).sum = (L.map fun t => if p t = true then f t else 0).sum
 | [] => rfl
 | t :: L => by
  rw [List.map_cons,List.sum_cons,← filt_sum p f L,List.filter_cons]
  split
  ·rw [List.map_cons,List.sum_cons]
  ·rw [Nat.zero_add]
theorem sum_add {α:Type} (f g h:α→Nat):∀ L:List α,(∀ t ∈ L,h t = f t + g t)→(L.map h).sum = (L.map f).sum + (L.map g).sum
 | [],_ => rfl
 | t :: L,hh => by
  rw [List.map_cons,List.map_cons,List.map_cons,List.sum_cons,List.sum_cons,List.sum_cons,sum_add f g h L (fun x hx => hh x (List.mem_cons_of_mem _ hx)),hh t (by simp)]
  omega
theorem sum_zero {α:Type} (f:α→Nat):∀ L:List α,(∀ t ∈ L,f t = 0)→(L.map f).sum = 0
 | [],_ => rfl
 | t :: L,h => by rw [List.map_cons,List.sum_cons,h t (by simp),sum_zero f L (fun x hx => h x (List.mem_cons_of_mem _ hx))]
theorem osum_append (zs:List Int) (a b:List Nat):osum zs (a++b) = osum zs a + osum zs b:=by simp [osum]
theorem osum_whole (zs:List Int):∀ m:Nat,osum zs (whole zs m) = ((List.range zs.length).map fun t => if 0 < zs.getD t 0∧zs.getD t 0 ≤ (m:Int) then wt (zs.getD t 0) else 0).sum
 | 0 => by
  show 0 = _
  symm
  exact sum_zero _ _ (fun t _ => if_neg (by omega))
 | m + 1 => by
  rw [whole,osum_append,osum_whole zs m]
  unfold osum ixs
  rw [filt_sum]
  symm
  refine sum_add _ _ _ _ fun t ht => ?_
  rw [List.mem_range] at ht
  obtain ⟨x,hx⟩:∃ x,zs[t]? = some x:=⟨_,List.getElem?_eq_getElem ht⟩
  rw [getD_of hx,hx]
  by_cases h1:x = ((m + 1:Nat):Int)
  ·rw [if_pos (by omega),if_neg (by omega),if_pos (by rw [decide_eq_true_eq,h1]),Nat.zero_add]
  ·rw [if_neg (c:=decide (some x = some ((m + 1:Nat):Int)) = true) (by rw [decide_eq_true_eq];intro e;injection e with e;exact h1 e)]
   by_cases h2:0 < x∧x ≤ (m:Int)
   ·rw [if_pos h2,if_pos (by omega),Nat.add_zero]
   ·rw [if_neg h2,if_neg (by omega)]
theorem map_range_getD (zs:List Int) (f:Int→Nat):(zs.map f) = (List.range zs.length).map fun t => f (zs.getD t 0):=by
 apply List.ext_getElem?
 intro i
 rw [List.getElem?_map,List.getElem?_map]
 by_cases h:i < zs.length
 ·rw [List.getElem?_range h,List.getElem?_eq_getElem h]
  simp [List.getD,h]
 ·rw [List.getElem?_eq_none (by omega),List.getElem?_eq_none (by simpa using h)]
  rfl
theorem osum_all {zs:List Int} (h:∀ x ∈ zs,lenB x = true):osum zs (ordL zs) = wsum zs:=by
 unfold ordL wsum
 rw [osum_whole,map_range_getD]
 congr 1
 apply List.map_congr_left
 intro t ht
 rw [List.mem_range] at ht
 obtain ⟨x,hx⟩:∃ x,zs[t]? = some x:=⟨_,List.getElem?_eq_getElem ht⟩
 have hb:=lenB_yes (h x (List.mem_of_getElem? hx))
 rw [getD_of hx]
 split
 ·rfl
 ·rw [wt,if_neg (by omega)]
theorem wsum_zob:∀ {zs:List Int},zs.all zobB = true→(wsum zs:Int) = zs.sum * 16384
 | [],_ => rfl
 | x :: l,h => by
  rw [List.all_cons,Bool.and_eq_true] at h
  have ih:=wsum_zob h.2
  have hx:x = 0 ∨ x = 1:=by simpa [zobB] using h.1
  unfold wsum at ih ⊢
  rw [List.map_cons,List.sum_cons,List.sum_cons]
  push_cast
  rw [ih]
  rcases hx with rfl | rfl
  ·simp [wt]
  ·have:wt 1 = 16384:=rfl
   rw [this];omega
theorem caR_wsum {zs:List Int} (h:caR zs = true):wsum zs ≤ 32768:=by
 unfold caR at h
 rw [Bool.and_eq_true,Bool.and_eq_true,Bool.or_eq_true,decide_eq_true_eq,decide_eq_true_eq,decide_eq_true_eq] at h
 rcases h.2 with h1 | h1
 ·omega
 ·have:=wsum_zob (alone_iff h.1.2 h1)
  omega
theorem osum_mono (zs:List Int) (k:Nat):osum zs ((ordL zs).take k) ≤ osum zs (ordL zs):=by
 have h:=osum_append zs ((ordL zs).take k) ((ordL zs).drop k)
 rw [List.take_append_drop] at h
 omega
theorem osum_step {zs:List Int} {k s n:Nat} (hk:(ordL zs)[k]? = some s) (hn:zs[s]? = some (n:Int)) (h1:1 ≤ n):osum zs ((ordL zs).take (k + 1)) = osum zs ((ordL zs).take k) + 2 ^ (15 - n):=by
 rw [take_snoc' hk,osum_snoc,getD_of hn,wt,if_pos (by omega),Int.toNat_natCast]
theorem osum_up (zs:List Int) {i j:Nat} (h:i ≤ j):osum zs ((ordL zs).take i) ≤ osum zs ((ordL zs).take j):=by
 obtain ⟨d,rfl⟩:∃ d,j = i + d:=⟨j - i,by omega⟩
 rw [List.take_add,osum_append]
 omega
theorem val_lt {zs:List Int} (hr:caR zs = true) {k s n v:Nat} (hk:(ordL zs)[k]? = some s) (hn:zs[s]? = some (n:Int)) (h1:1 ≤ n) (h15:n ≤ 15) (hv:v * 2 ^ (15 - n) = osum zs ((ordL zs).take k)):v < 2 ^ n:=by
 have h2:=osum_step hk hn h1
 have h3:=osum_mono zs (k + 1)
 rw [osum_all (caR_len hr).2] at h3
 have h4:=caR_wsum hr
 have h5:(v + 1) * 2 ^ (15 - n) ≤ 2 ^ n * 2 ^ (15 - n):=by
  rw [← Nat.pow_add,show n + (15 - n) = 15 by omega,Nat.succ_mul,hv]
  have:(2:Nat) ^ 15 = 32768:=by decide
  omega
 have h6:=Nat.le_of_mul_le_mul_right h5 (Nat.two_pow_pos (15 - n))
 omega
structure Sym (zs:List Int) (s n v k:Nat):Prop where
 at_:(ordL zs)[k]? = some s
 len:zs[s]? = some (n:Int)
 one:1 ≤ n
 few:n ≤ 15
 val:(caV zs)[s]? = some (v:Int)
 sum:v * 2 ^ (15 - n) = osum zs ((ordL zs).take k)
theorem sym_at {zs:List Int} {k s:Nat} (hk:(ordL zs)[k]? = some s):∃ n v,Sym zs s n v k:=by
 obtain ⟨n,hn,hn1,hn15⟩:=whole_mem (mem_get hk)
 obtain ⟨v,hv,hs⟩:=val_of hk hn
 exact ⟨n,v,hk,hn,hn1,hn15,hv,hs⟩
theorem sym_of {zs:List Int} {s n:Nat} (hn:zs[s]? = some (n:Int)) (h1:1 ≤ n) (h15:n ≤ 15):∃ v k,Sym zs s n v k:=by
 have hm:=whole_has hn h1 h15
 obtain ⟨k,hk⟩:=List.mem_iff_getElem?.1 hm
 obtain ⟨v,hv,hs⟩:=val_of hk hn
 exact ⟨v,k,hk,hn,h1,h15,hv,hs⟩
theorem Sym.lt {zs:List Int} (hr:caR zs = true) {s n v k:Nat} (h:Sym zs s n v k):v < 2 ^ n:=val_lt hr h.at_ h.len h.one h.few h.sum
theorem Sym.place {zs:List Int} {s n v k s' n' v' k':Nat} (h:Sym zs s n v k) (h':Sym zs s' n' v' k') (hk:k < k'):(v + 1) * 2 ^ (15 - n) ≤ v' * 2 ^ (15 - n'):=by
 rw [h'.sum,Nat.succ_mul,h.sum,← osum_step h.at_ h.len h.one]
 exact osum_up zs hk
theorem Sym.apart {zs:List Int} {s n v k s' n' v' k':Nat} (h:Sym zs s n v k) (h':Sym zs s' n' v' k') (hn:n ≤ n') (hv:v' / 2 ^ (n' - n) = v):s = s':=by
 have hf:=h'.few
 have e:(2:Nat) ^ (15 - n) = 2 ^ (n' - n) * 2 ^ (15 - n'):=by rw [← Nat.pow_add];congr 1;omega
 have hp:=Nat.two_pow_pos (n' - n)
 have hp2:=Nat.two_pow_pos (15 - n')
 have hq:=Nat.div_add_mod v' (2 ^ (n' - n))
 have hm:=Nat.mod_lt v' hp
 rw [hv] at hq
 rcases Nat.lt_trichotomy k k' with hk | hk | hk
 ·have hpl:=h.place h' hk
  rw [e,← Nat.mul_assoc] at hpl
  have h3:=Nat.le_of_mul_le_mul_right hpl hp2
  rw [Nat.succ_mul,Nat.mul_comm v] at h3
  omega
 ·subst hk
  have:=h.at_.symm.trans h'.at_
  injection this
 ·have hpl:=h'.place h hk
  rw [e,← Nat.mul_assoc] at hpl
  have h3:=Nat.le_of_mul_le_mul_right hpl hp2
  rw [Nat.mul_comm v] at h3
  omega
end Go.Proofs.YtaknladkodibaaaGreatDoor
namespace Go.Proofs.YtaknladkodibaaaGreatDoor
open Go.RowKit BitsP
def hiN (L:List Bool):Nat:=num L.reverse
theorem hiN_snoc (L:List Bool) (b:Bool):hiN (L++[b]) = bit b + 2 * hiN L:=by
 unfold hiN
 rw [List.reverse_append]
 rfl
theorem hiN_lt (L:List Bool):hiN L < 2 ^ L.length:=by
 have h:=num_lt L.reverse
 rw [List.length_reverse,p2_pow] at h
 exact h
theorem hiN_code {v n:Nat} (h:v < 2 ^ n):hiN (codeB v n) = v:=by
 unfold hiN codeB
 rw [List.reverse_reverse,num_bitsOf,p2_pow,Nat.mod_eq_of_lt h]
theorem hiN_up {U:List Bool} {n:Nat} {b:Bool} (hb:U[n]? = some b):hiN (U.take (n + 1)) = bit b + 2 * hiN (U.take n):=by
 rw [take_snoc' hb,hiN_snoc]
theorem hiN_take {U:List Bool} {n:Nat}:∀ d,n + d ≤ U.length→hiN (U.take (n + d)) / 2 ^ d = hiN (U.take n)
 | 0,_ => by rw [Nat.add_zero,Nat.pow_zero,Nat.div_one]
 | d + 1,h => by
  obtain ⟨b,hb⟩:∃ b,U[n + d]? = some b:=⟨_,List.getElem?_eq_getElem (by omega)⟩
  have h2:(bit b + 2 * hiN (U.take (n + d))) / 2 = hiN (U.take (n + d)):=by have:=bit_le b;omega
  rw [show n + (d + 1) = n + d + 1 by omega,hiN_up hb,Nat.pow_succ,Nat.mul_comm (2 ^ d) 2,← Nat.div_div_eq_div_mul,h2,hiN_take d (by omega)]
theorem whole_pre (zs:List Int) (n:Nat):∀ d,∃ R,whole zs (n + d) = whole zs n++R∧∀ s ∈ R,∃ m:Nat,zs[s]? = some (m:Int)∧n < m
 | 0 => ⟨[],by simp,by simp⟩
 | d + 1 => by
  obtain ⟨R,h,hR⟩:=whole_pre zs n d
  refine ⟨R++ixs zs (n + d + 1) zs.length,by rw [show n + (d + 1) = n + d + 1 by omega,whole,h,List.append_assoc],fun s hs => ?_⟩
  rcases List.mem_append.1 hs with h1 | h1
  ·exact hR s h1
  ·simp only [ixs,List.mem_filter,decide_eq_true_eq] at h1
   exact ⟨n + d + 1,h1.2,by omega⟩
theorem Sym.upto {zs:List Int} {s n v k:Nat} (h:Sym zs s n v k) {m:Nat} (hm:m ≤ 15):k < (whole zs m).length ↔ n ≤ m:=by
 obtain ⟨R,e,hR⟩:=whole_pre zs m (15 - m)
 rw [show m + (15 - m) = 15 by omega] at e
 have hk:(whole zs 15)[k]? = some s:=h.at_
 rw [e] at hk
 constructor
 ·intro hl
  rw [List.getElem?_append_left hl] at hk
  obtain ⟨n',h1,_,h3⟩:=whole_mem (List.mem_of_getElem? hk)
  have:=h.len.symm.trans h1
  injection this with this
  omega
 ·intro hn
  by_cases hl:k < (whole zs m).length
  ·exact hl
  ·rw [List.getElem?_append_right (by omega)] at hk
   obtain ⟨n',h1,h2⟩:=hR s (List.mem_of_getElem? hk)
   have:=h.len.symm.trans h1
   injection this with this
   omega
theorem Sym.one_val {zs:List Int} {s n v k s' n' v' k':Nat} (h:Sym zs s n v k) (h':Sym zs s' n' v' k') (e:s = s'):n = n'∧v = v':=by
 subst e
 have h1:=h.len.symm.trans h'.len
 have h2:=h.val.symm.trans h'.val
 injection h1 with h1
 injection h2 with h2
 omega
theorem Sym.at_le {zs:List Int} {s n v k:Nat} (h:Sym zs s n v k) {m:Nat} (hm:isMax zs (m:Int)):n ≤ m:=by
 have:=hm.1 _ (List.mem_of_getElem? h.len)
 omega
def noHit (zs:List Int) (x n:Nat):Prop:=∀ s v k,Sym zs s n v k→x ≠ v
def TakeR (zs:List Int) (m:Nat) (U:List Bool) (s e:Int) (on:Nat):Prop :=
 (∃ t v k:Nat,Sym zs t on v k∧on ≤ U.length∧hiN (U.take on) = v∧s = (t:Int)∧e = 0) ∨
 (s = 0∧on = 0∧(∀ n,1 ≤ n→n ≤ m→n ≤ U.length→noHit zs (hiN (U.take n)) n)∧e = if U.length < m then 2 else 13)
theorem noHit_less {zs:List Int} {n s v k x:Nat} (h:Sym zs s n v k) (hx:v < x) (hab:∀ j s' v',k < j→Sym zs s' n v' j→x ≠ v'):noHit zs x n:=by
 intro s' v' j hy e
 rcases Nat.lt_trichotomy j k with hj | hj | hj
 ·have hp:=hy.place h hj
  have h3:=Nat.le_of_mul_le_mul_right hp (Nat.two_pow_pos (15 - n))
  omega
 ·subst hj
  have:=h.at_.symm.trans hy.at_
  injection this with this
  have:=(h.one_val hy this).2
  omega
 ·exact hab j s' v' hj hy e
end Go.Proofs.YtaknladkodibaaaGreatDoor
namespace Go.Proofs.YtaknladkodibaaaGreatDoor
open Go.RowKit
theorem ib_own {w:World} {g:Nat} {vs:List Int} (h:IntBlock w g vs) (hm:vs.length ≤ maxLen):w.ownsRow 0 3 1 (.slice (some ⟨g,0,none⟩) vs.length vs.length) vs.length (vs.map ic) :=
 own_of_row (cur:=vs.map ic) h (Nat.zero_le _) (Nat.le_refl _) hm (by simp) (by rw [List.take_of_length_le (by simp)])
theorem ib_of_own {w:World} {g n:Nat} {vs:List Int} (h:w.ownsRow 0 3 1 (.slice (some ⟨g,0,none⟩) n n) n (vs.map ic)):IntBlock w g vs:=by
 obtain ⟨cur,hh,_,h2,_,_,_,h6,_⟩:=own_row h
 rw [List.take_of_length_le (by omega)] at h2
 subst h2
 exact hh
theorem splice_ic (vs xs:List Int) (o:Nat):splice (vs.map ic) o (xs.map ic) = (splice vs o xs).map ic:=by
 unfold splice
 simp [List.map_take,List.map_drop]
theorem ic_one (xs:List Int):∀ u ∈ xs.map ic,u.oneCell' = true:=fun u hu => by
 obtain ⟨z,_,rfl⟩:=List.mem_map.1 hu
 rfl
theorem run_copy_ib (W:World) (g o N:Nat) (vs xs ys:List Int) (hN:vs.length = N) (hm:N ≤ 1000000) (h:IntBlock W g vs) (dl dc:Nat) (sp:Option Addr) (sl sc:Nat) (hx:xs.length = min sl dl) (hr:Cells W W.heap.size sp (ys.map ic)) (hxy:xs = ys.take xs.length) (ho:o + xs.length ≤ N) :
  ∃ W',(Builtin.copy_ #[156,156] 3 #[.slice (some ⟨g,o,none⟩) dl dc,.slice sp sl sc]).run Tryz.prog W = .ok (goInt xs.length) W'∧IntBlock W' g (splice vs o xs)∧Mod (oneB g) W W':=by
 have hown:=ib_own h (by rw [hN];unfold maxLen;omega)
 rw [hN] at hown
 obtain ⟨W',h1,h2,h3⟩:=run_copy_into (P:=Tryz.prog) W hown 156 156 3 Tryz.underlying156 (by kernel_rfl) (some ⟨g,o,none⟩) sp dl dc sl sc o (xs.map ic) (by rw [List.length_map];exact hx) (fun _ => ⟨g,rfl,rfl⟩) W.heap.size (ys.map ic) hr (by
  rw [List.length_map,← List.map_take,← hxy]) (by rw [List.length_map];exact ho) (ic_one xs)
 rw [List.length_map] at h1
 rw [splice_ic] at h2
 exact ⟨W',h1,ib_of_own h2,h3.mono fun k hk => (Option.some.inj hk).symm⟩
theorem small_and:∀ y:Nat,y < 400→bits .and .u64 (y:Int) 4294967295 = (y:Int):=fun y hy => by
 rw [show (4294967295:Int) = ((4294967295:Nat):Int) from rfl,u64_and_nat _ _ (by omega) (by decide)]
 congr 1
 rw [show 4294967295 = 2 ^ 32 - 1 from rfl,Nat.and_two_pow_sub_one_eq_mod]
 exact Nat.mod_eq_of_lt (by omega)
set_option maxHeartbeats 400000 in
theorem mul64_small (y:Nat) (hy:y < 400) (w:World):Calls Tryz.prog 264 #[.int .u64 1,.int .u64 (y:Int)] w fun e w' => e = .returned (.tuple #[.int .u64 0,.int .u64 (y:Int)])∧w = w':=by
 have a1:bits .and .u64 1 4294967295 = 1:=small_and 1 (by omega)
 have a0:bits .and .u64 0 4294967295 = 0:=small_and 0 (by omega)
 have a2:=small_and y hy
 have d1:(y:Int) / 4294967296 = 0:=by omega
 go_enter Tryz.func264,Tryz.ntmps264
 go_wp2
 go_ret2
 exact ⟨by simp,rfl⟩
set_option maxHeartbeats 400000 in
theorem mul_small (y:Nat) (hy:y < 400) (w:World):Calls Tryz.prog 257 #[.int .u64 1,.int .u64 (y:Int)] w fun e w' => e = .returned (.tuple #[.int .u64 0,.int .u64 (y:Int)])∧w = w':=by
 have HM:=Lib.hid (mul64_small y hy)
 go_enter Tryz.func257,Tryz.ntmps257
 go_wp2_with (go_at_call 264;refine (HM.out _).mono ?_;rintro e w' ⟨rfl,rfl⟩)
 go_ret2
 exact ⟨rfl,rfl⟩
def repZ (x:Int) (n k:Nat):List Int:=List.replicate n x++List.replicate k 0
theorem repZ_len (x:Int) (n k:Nat):(repZ x n k).length = n + k:=by simp [repZ]
theorem repZ_up (x:Int) (n k j:Nat):splice (repZ x n k) n (List.replicate j x) = repZ x (n + j) (k - j):=by
 unfold splice repZ
 rw [List.length_replicate,List.take_append_of_le_length (by simp),List.take_of_length_le (by simp),List.drop_append,List.length_replicate,List.drop_of_length_le (by simp),List.nil_append,show n + j - n = j by omega,List.drop_replicate,← List.append_assoc,List.replicate_append_replicate]
theorem repZ_done (x:Int) (n:Nat):repZ x n 0 = List.replicate n x:=by simp [repZ]
set_option maxRecDepth 100000 in
set_option maxHeartbeats 1000000 in
theorem repeat_any (b o c m : Nat) (x : Int) (w : World) (h1 : 1 ≤ m) (hm : m < 400) (hb : b < w.heap.size) (hc : w.cell? ⟨b, o, none⟩ = some (.int .i64 x)) :
    Calls Tryz.prog 246 #[.slice (some ⟨b, o, none⟩) 1 c, .int .i64 (m : Int)] w fun e w' => e = .returned (.slice (some ⟨w.heap.size, 0, none⟩) m m) ∧ IntBlock w' w.heap.size (List.replicate m x) ∧ Below w.heap.size w w' := by
  have HM := Lib.hid (mul_small m hm)
  have mk0 := make_ints m (by omega)
  obtain ⟨W1, hW1⟩ : ∃ W1, w.alloc (.cells (madeCells #[.int .i64 0] m) 3) = W1 := ⟨_, rfl⟩
  have HI1 : Hid (IntBlock W1 w.heap.size (repZ x 0 m)) := by show IntBlock _ _ _; rw [← hW1]; exact made_ints w m
  have HB1 : Hid (Below w.heap.size w W1) := by show Below _ _ _; rw [← hW1]; exact (Below.refl _ w).alloc (Nat.le_refl _) _
  have hc1 : W1.cell? ⟨b, o, none⟩ = some (.int .i64 x) := (HB1.out.cell (p := ⟨b, o, none⟩) hb).trans hc
  have hs1 : b < W1.heap.size := Nat.lt_of_lt_of_le hb HB1.out.size
  obtain ⟨W2, hr2, hi2, hm2⟩ := run_copy_ib W1 w.heap.size 0 m (repZ x 0 m) (List.replicate 1 x) [x] (by rw [repZ_len]; omega) (by omega) HI1.out m m (some ⟨b, o, none⟩) 1 c (by simp; omega)
    (fun _ => ⟨b, o, rfl, hs1, fun j u hu => by
      cases j with
      | zero => obtain rfl : ic x = u := by simpa using hu
                exact hc1
      | succ j => simp at hu⟩) (by simp) (by simp; omega)
  rw [repZ_up] at hi2
  have HI2 : Hid (IntBlock W2 w.heap.size (repZ x 1 (m - 1))) := hi2
  have HB2 : Hid (Below w.heap.size w W2) := hm2.below HB1.out HB1.out.size (fun k hk => by cases hk; exact Nat.le_refl _)
  rw [List.length_replicate] at hr2
  clear hi2 hm2 hc hc1 HI1 HB1
  go_enter Tryz.func246, Tryz.ntmps246
  go_wp2_with (first
    | (go_at_call 257; refine (HM.out _).mono ?_; rintro e w' ⟨rfl, rfl⟩))
  go_loopg [8] (m - 1) (fun gk i wr => ∃ n : Nat, n + gk = m ∧ 1 ≤ n ∧ i = .int .i64 (n : Int) ∧ IntBlock wr w.heap.size (repZ x n (m - n)) ∧ Below w.heap.size w wr)
  case atStart => exact ⟨1, by omega, by omega, rfl, HI2.out, HB2.out⟩
  case round =>
    obtain ⟨n, hn, hn1, rfl, hib, hbl⟩ := hrel
    have HIB := Lib.hid hib
    have HBL := Lib.hid hbl
    clear hib hbl HI2 HB2 hr2 mk0 hW1
    by_cases hnm : n < m
    · obtain ⟨j, hj⟩ : ∃ j, min n (m - n) = j := ⟨_, rfl⟩
      obtain ⟨W3, hr3, hi3, hm3⟩ := run_copy_ib wr.drew w.heap.size n m (repZ x n (m - n)) (List.replicate j x) (repZ x n (m - n)) (by rw [repZ_len]; omega) (by omega) HIB.out (m - n) (m - n) (some ⟨w.heap.size, 0, none⟩) n m (by rw [List.length_replicate]; omega)
        (ib_cells HIB.out (ib_lt HIB.out)) (by
          rw [List.length_replicate, repZ, List.take_append_of_le_length (by rw [List.length_replicate]; omega), List.take_replicate, Nat.min_eq_left (by omega)]) (by rw [List.length_replicate]; omega)
      rw [repZ_up] at hi3
      rw [List.length_replicate] at hr3
      have HI3 := Lib.hid hi3
      have HB3 : Hid (Below w.heap.size w W3) := hm3.below HBL.out.drew HBL.out.size (fun k hk => by cases hk; exact Nat.le_refl _)
      clear hi3 hm3
      go_upto_region 9 with fail
      go_region
      go_wp2
      go_roundg (gk - j)
      case measure => omega
      case rel => exact ⟨n + j, by omega, by omega, by go_num, by have h := HI3.out; rw [show m - n - j = m - (n + j) by omega] at h; exact h, HB3.out⟩
    · obtain rfl : n = m := by omega
      go_wp2
      go_ret
      exact ⟨rfl, by have h := HIB.out; rw [Nat.sub_self, repZ_done] at h; exact h, HBL.out⟩
theorem runM_step {bs:List UInt8} {a d k n:Nat} {x:UInt8} (h1:bs[a + n]? = some x) (h2:bs[a + n - d]? = some x):runM bs a d (k + 1) n = runM bs a d k (n + 1):=by
 rw [runM,if_pos]
 rw [List.getD,List.getD,h1,h2]
theorem runM_stop {bs:List UInt8} {a d k n:Nat} {x y:UInt8} (h1:bs[a + n]? = some x) (h2:bs[a + n - d]? = some y) (h:x ≠ y):runM bs a d (k + 1) n = n:=by
 rw [runM,if_neg]
 rw [List.getD,List.getD,h1,h2]
 exact h
set_option maxRecDepth 100000 in
set_option maxHeartbeats 2000000 in
theorem mlen_any (A:Option Addr) (l c:Nat) (bs:List UInt8) (B:Nat) (a d:Int) (w:World) (hl:bs.length = l) (hm:l ≤ 1099511627776) (hb:Bytes w B A bs) :
  Calls Tryz.prog 243 #[.slice A l c,.int .i64 a,.int .i64 d] w fun e w' => e = .returned (.int .i64 (lenI bs a d:Nat))∧∃ m,w' = w.drewN m:=by
 have HL:=Lib.hid hl
 by_cases h:a < 0
 ·have HF:Hid (lenI bs a d = 0):=lenI_no (by omega)
  have hd:decide (a < 0) = true:=decide_eq_true h
  clear h hb HL
  go_enter Tryz.func243,Tryz.ntmps243
  go_wp2
  go_ret
  exact ⟨by rw [HF.out];rfl,0,rfl⟩
 have g20:=h;clear h
 by_cases h:(l:Int) ≤ a
 ·have HF:Hid (lenI bs a d = 0):=lenI_no (by omega)
  have hd:decide ((l:Int) ≤ a) = true:=decide_eq_true h
  have hd0:decide (a < 0) = false:=decide_eq_false (by omega)
  clear h hb HL
  go_enter Tryz.func243,Tryz.ntmps243
  go_wp2
  go_ret
  exact ⟨by rw [HF.out];rfl,0,rfl⟩
 have g21:=h;clear h
 by_cases h:d < 1
 ·have HF:Hid (lenI bs a d = 0):=lenI_no (by omega)
  have hd:decide (d < 1) = true:=decide_eq_true h
  have hd0:decide (a < 0) = false:=decide_eq_false (by omega)
  have hd1:decide ((l:Int) ≤ a) = false:=decide_eq_false (by omega)
  clear h hb HL
  go_enter Tryz.func243,Tryz.ntmps243
  go_wp2
  go_ret
  exact ⟨by rw [HF.out];rfl,0,rfl⟩
 have g22:=h;clear h
 by_cases h:32768 < d
 ·have HF:Hid (lenI bs a d = 0):=lenI_no (by omega)
  have hd:decide (32768 < d) = true:=decide_eq_true h
  have hd0:decide (a < 0) = false:=decide_eq_false (by omega)
  have hd1:decide ((l:Int) ≤ a) = false:=decide_eq_false (by omega)
  have hd2:decide (d < 1) = false:=decide_eq_false (by omega)
  clear h hb HL
  go_enter Tryz.func243,Tryz.ntmps243
  go_wp2
  go_ret
  exact ⟨by rw [HF.out];rfl,0,rfl⟩
 have g23:=h;clear h
 by_cases h:a < d
 ·have HF:Hid (lenI bs a d = 0):=lenI_no (by omega)
  have hd:decide (a < d) = true:=decide_eq_true h
  have hd0:decide (a < 0) = false:=decide_eq_false (by omega)
  have hd1:decide ((l:Int) ≤ a) = false:=decide_eq_false (by omega)
  have hd2:decide (d < 1) = false:=decide_eq_false (by omega)
  have hd3:decide (32768 < d) = false:=decide_eq_false (by omega)
  clear h hb HL
  go_enter Tryz.func243,Tryz.ntmps243
  go_wp2
  go_ret
  exact ⟨by rw [HF.out];rfl,0,rfl⟩
 have g24:=h;clear h
 obtain ⟨n,rfl⟩:=Int.eq_ofNat_of_zero_le (show 0 ≤ a by omega)
 obtain ⟨k,rfl⟩:=Int.eq_ofNat_of_zero_le (show 0 ≤ d by omega)
 have q1:n < l:=by omega
 have q2:1 ≤ k:=by omega
 have q3:k ≤ 32768:=by omega
 have q4:k ≤ n:=by omega
 have HR0:Hid (lenI bs (n:Int) (k:Int) = runM bs n k (capM bs n) 0):=lenI_at bs (by omega) q2 q3 q4
 have HCAP:Hid (capM bs n = min 258 (l - n)):=by show _ = _;rw [capM,hl]
 have hd0:decide ((n:Int) < 0) = false:=decide_eq_false (by omega)
 have hd1:decide ((l:Int) ≤ (n:Int)) = false:=decide_eq_false (by omega)
 have hd2:decide ((k:Int) < 1) = false:=decide_eq_false (by omega)
 have hd3:decide ((32768:Int) < (k:Int)) = false:=decide_eq_false (by omega)
 have hd4:decide ((n:Int) < (k:Int)) = false:=decide_eq_false (by omega)
 obtain ⟨b,o,rfl,hbB,hc⟩:=hb (by rw [byteCells_length];omega)
 have HC:=Lib.hid hc
 clear hc g20 g21 g22 g23 g24 hb hl
 go_enter Tryz.func243,Tryz.ntmps243
 go_wp2
 go_loopg [7] (capM bs n) (fun gk i wr => ∃ j m:Nat,j + gk = capM bs n∧i = .int .i64 j∧runM bs n k gk j = lenI bs (n:Int) (k:Int)∧wr = w.drewN m)
 case atStart => exact ⟨0,0,by omega,rfl,HR0.out.symm,rfl⟩
 case round =>
  obtain ⟨j,m,hj,rfl,hrun,rfl⟩:=hrel
  have HRUN:=Lib.hid hrun
  clear hrun
  by_cases h:gk = 0
  ·subst h
   have hjc:j = lenI bs (n:Int) (k:Int):=by have:=HRUN.out;rw [runM] at this;exact this
   have hcp:=HCAP.out
   have HJ:=Lib.hid hjc
   clear hjc
   by_cases h258:j < 258
   ·have t0:decide ((j:Int) < 258) = true:=decide_eq_true (by omega)
    have t1:decide ((n:Int) + (j:Int) < (l:Int)) = false:=decide_eq_false (by omega)
    go_upto_region 27 with (fail)
    go_region
    go_wp2
    go_ret
    exact ⟨by rw [← HJ.out];rfl,m + 1,rfl⟩
   ·have t0:decide ((j:Int) < 258) = false:=decide_eq_false (by omega)
    go_upto_region 27 with (fail)
    go_region
    go_wp2
    go_ret
    exact ⟨by rw [← HJ.out];rfl,m + 1,rfl⟩
  ·have hcp:=HCAP.out
   have t0:decide ((j:Int) < 258) = true:=decide_eq_true (by omega)
   have t1:decide ((n:Int) + (j:Int) < (l:Int)) = true:=decide_eq_true (by omega)
   obtain ⟨x,hx⟩:∃ x,bs[n + j]? = some x:=⟨_,List.getElem?_eq_getElem (by have:=HL.out;omega)⟩
   obtain ⟨y,hy⟩:∃ y,bs[n + j - k]? = some y:=⟨_,List.getElem?_eq_getElem (by have:=HL.out;omega)⟩
   have c0:w.cell? ⟨b,o + (n + j),none⟩ = some (.int .u8 (x.toNat:Int)):=HC.out _ _ (byteCells_get hx)
   have c1:w.cell? ⟨b,o + (n + j - k),none⟩ = some (.int .u8 (y.toNat:Int)):=HC.out _ _ (byteCells_get hy)
   obtain ⟨p,rfl⟩:∃ p,gk = p + 1:=⟨gk - 1,by omega⟩
   by_cases hxy:x = y
   ·have HS:Hid (runM bs n k p (j + 1) = lenI bs (n:Int) (k:Int)):=by show _ = _;rw [← HRUN.out,runM_step hx (by rw [hy,hxy])]
    have t2:(x.toNat == y.toNat) = true:=by simp [hxy]
    have t3:((x.toNat:Int) == (y.toNat:Int)) = true:=by simp [hxy]
    have t4:((x.toNat:Int) != (y.toNat:Int)) = false:=by simp [hxy]
    have tw:IntKind.i64.wrap ((n:Int) + (j:Int)) = (n:Int) + (j:Int):=IntWalk.i64_in _ (by omega)
    have tw2:IntKind.i64.wrap ((n:Int) + (j:Int) - (k:Int)) = (n:Int) + (j:Int) - (k:Int):=IntWalk.i64_in _ (by omega)
    have tn:((n:Int) + (j:Int) - (k:Int)).toNat = n + j - k:=by omega
    have tn0:(0:Int) ≤ (n:Int) + (j:Int) - (k:Int):=by omega
    have tn1:(n:Int) + (j:Int) - (k:Int) < (l:Int):=by omega
    have tn2:(n:Int) + (j:Int) < (l:Int):=by omega
    clear hx hy hxy h hcp
    go_upto_region 27 with (fail)
    go_region
    go_wp2
    go_roundg p
    case measure => omega
    case rel => exact ⟨j + 1,m + 1,by omega,by go_num,HS.out,rfl⟩
   ·have HS:Hid (j = lenI bs (n:Int) (k:Int)):=by show _ = _;rw [← HRUN.out,runM_stop hx hy hxy]
    have hne:¬ (x.toNat:Int) = (y.toNat:Int):=fun e => hxy (UInt8.toNat_inj.1 (by omega))
    have t3:((x.toNat:Int) == (y.toNat:Int)) = false:=by simpa using hne
    have t4:((x.toNat:Int) != (y.toNat:Int)) = true:=by simpa using hne
    have tw:IntKind.i64.wrap ((n:Int) + (j:Int)) = (n:Int) + (j:Int):=IntWalk.i64_in _ (by omega)
    have tw2:IntKind.i64.wrap ((n:Int) + (j:Int) - (k:Int)) = (n:Int) + (j:Int) - (k:Int):=IntWalk.i64_in _ (by omega)
    have tn:((n:Int) + (j:Int) - (k:Int)).toNat = n + j - k:=by omega
    have tn0:(0:Int) ≤ (n:Int) + (j:Int) - (k:Int):=by omega
    have tn1:(n:Int) + (j:Int) - (k:Int) < (l:Int):=by omega
    have tn2:(n:Int) + (j:Int) < (l:Int):=by omega
    clear hx hy hxy h hne hcp
    go_upto_region 27 with (fail)
    go_region
    go_wp2
    go_ret
    exact ⟨by rw [← HS.out];rfl,m + 1,rfl⟩
end Go.Proofs.YtaknladkodibaaaGreatDoor
