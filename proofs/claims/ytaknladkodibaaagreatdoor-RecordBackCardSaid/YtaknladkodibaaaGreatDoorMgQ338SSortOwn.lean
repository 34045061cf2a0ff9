/- Sorting a row of the call's own: what it owns ahead and behind. -/
import Derived.Test.YtaknladkodibaaaGreatDoorMgQ33812
import Derived.Test.YtaknladkodibaaaGreatDoorMgQ33808
import Derived.Shelf.GgSortFunc.InsertionK
namespace Go.Proofs.YtaknladkodibaaaGreatDoor
open Go.RowKit Go.Sort Go.Lib
section
variable {α:Type} {enc:α→List Value} {k:Nat}
theorem flatMap_len (hk:∀ x,(enc x).length = k):∀ l:List α,(l.flatMap enc).length = l.length * k
 | [] => by simp
 | x :: l => by rw [List.flatMap_cons,List.length_append,flatMap_len hk l,hk,List.length_cons,Nat.succ_mul,Nat.add_comm]
variable [Inhabited α]
theorem flatK_list (hk:∀ x,(enc x).length = k) (k0:0 < k) (l:List α):(flatK enc k l.toArray).toList = l.flatMap enc:=by
 apply List.ext_getElem?
 intro t
 by_cases ht:t < l.length * k
 ·have hi:t / k < l.length:=Nat.div_lt_of_lt_mul (by rwa [Nat.mul_comm] at ht)
  have hr:t % k < k:=Nat.mod_lt _ k0
  have hx:l.toArray[t / k]! = l[t / k]:=by simp [hi]
  obtain ⟨x,hxx⟩:∃ x,l[t / k] = x:=⟨_,rfl⟩
  rw [hxx] at hx
  obtain ⟨u,hu⟩:∃ u,(enc x)[t % k]? = some u:=⟨_,List.getElem?_eq_getElem (by rw [hk];exact hr)⟩
  have e1:(flatK enc k l.toArray)[t]! = u:=by
   rw [get_flatK _ _ _ _ (by simpa using ht),hx]
   simp [List.getElem!_eq_getElem?_getD,hu]
  have e2:(l.flatMap enc)[t]? = some u:=by
   have h:=flatten_at (X:=l.map enc) (s:=k) (i:=t / k) (r:=t % k) (x:=enc x) (u:=u) (fun x hx => by obtain ⟨y,_,rfl⟩:=List.mem_map.1 hx;exact hk y) (by rw [List.getElem?_map,List.getElem?_eq_getElem hi,hxx];rfl) hu
   rw [Nat.div_add_mod'] at h
   rw [List.flatMap_def]
   exact h
  have hs:t < (flatK enc k l.toArray).size:=by simpa using ht
  rw [e2,← e1,Array.getElem?_toList,getElem!_pos (flatK enc k l.toArray) t hs,Array.getElem?_eq_getElem hs]
 ·rw [List.getElem?_eq_none (by simp;omega),List.getElem?_eq_none (by rw [flatMap_len hk];omega)]
theorem flatK_at (hk:∀ x,(enc x).length = k) (k0:0 < k) {l:List α} {j:Nat} {u:Value} (h:(l.flatMap enc)[j]? = some u):(flatK enc k l.toArray)[j]! = u:=by
 rw [← flatK_list hk k0 l,Array.getElem?_toList] at h
 rw [Array.getElem!_eq_getD,Array.getD_eq_getD_getElem?,h]
 rfl
theorem holdsK_of_own {w:World} {base g n c:Nat} {e:TypeId} {l:List α} (hk:∀ x,(enc x).length = k) (k0:0 < k) (h:w.ownsRow base e k (.slice (some ⟨g,0,none⟩) n c) n (l.flatMap enc)):HoldsK enc k w g 0 l.toArray:=by
 rcases h.2 with ⟨h2,_⟩ | ⟨g',cap,cur,hv,hg,hh,hnc,hcm,hcs,htake⟩
 ·cases h2
 ·simp only [Value.slice.injEq,Option.some.injEq,Addr.mk.injEq] at hv
  obtain ⟨⟨rfl,_,_⟩,_,rfl⟩:=hv
  intro j hj
  have hjl:j < (l.flatMap enc).length:=by
   rw [← flatK_list hk k0 l]
   exact hj
  obtain ⟨u,hu⟩:∃ u,(l.flatMap enc)[j]? = some u:=⟨_,List.getElem?_eq_getElem hjl⟩
  rw [flatK_at hk k0 hu]
  rw [← htake,List.getElem?_take_of_lt (by rw [← h.1];exact hjl),Array.getElem?_toList] at hu
  exact ⟨by simp [World.cell?,hh,hu],by simp [World.frozen?,hh]⟩
theorem own_of_sorted {w:World} {base g n c m:Nat} {e:TypeId} {l:List α} {d':Array α} {os:Array Obj} (hk:∀ x,(enc x).length = k) (k0:0 < k) (h:w.ownsRow base e k (.slice (some ⟨g,0,none⟩) n c) n (l.flatMap enc)) (hs:d'.size = n) :
  (sortWorldK enc k w g 0 m d' os).ownsRow base e k (.slice (some ⟨g,0,none⟩) n c) n (d'.toList.flatMap enc)∧w.grownBy (sortWorldK enc k w g 0 m d' os) (some g):=by
 have hlen:(d'.toList.flatMap enc).length = n * k:=by rw [flatMap_len hk,Array.length_toList,hs]
 rcases h.2 with ⟨h2,_⟩ | ⟨g',cap,cur,hv,hg,hh,hnc,hcm,hcs,htake⟩
 ·cases h2
 ·simp only [Value.slice.injEq,Option.some.injEq,Addr.mk.injEq] at hv
  obtain ⟨⟨rfl,_,_⟩,_,rfl⟩:=hv
  have hlt:g < w.heap.size:=(Array.getElem?_eq_some_iff.1 hh).1
  have hsz:(sortWorldK enc k w g 0 m d' os).heap.size = w.heap.size + os.size:=by simp [sortWorldK,grow,putRowK,putRow,mapBlock,Sort.ahead]
  have hblk:∀ j,j < w.heap.size→(sortWorldK enc k w g 0 m d' os).heap[j]? = if g = j then (w.heap[j]?).map (onCells (putCells id 0 (flatK enc k d'))) else w.heap[j]?:=by
   intro j hj
   simp only [sortWorldK,grow,putRowK,putRow,mapBlock,Sort.ahead]
   rw [Array.getElem?_append_left (by simpa using hj),Array.getElem?_modify]
  refine ⟨⟨hlen,.inr ⟨g,c,putCells id 0 (flatK enc k d') cur,rfl,hg,?_,hnc,hcm,by simp [putCells,hcs],?_⟩⟩,⟨rfl,rfl,rfl,by rw [hsz];omega,fun j hj hne => ?_⟩⟩
  ·rw [hblk g hlt,if_pos rfl,hh]
   rfl
  ·apply List.ext_getElem?
   intro t
   by_cases ht:t < n * k
   ·have h1:t < cur.size:=by
     rw [hcs]
     exact Nat.lt_of_lt_of_le ht (Nat.mul_le_mul_right _ hnc)
    obtain ⟨u,hu⟩:∃ u,(d'.toList.flatMap enc)[t]? = some u:=⟨_,List.getElem?_eq_getElem (by rw [hlen];exact ht)⟩
    have h2:(flatK enc k d')[t]! = u:=by
     have:=flatK_at hk k0 hu
     simpa using this
    rw [List.getElem?_take_of_lt ht,Array.getElem?_toList,hu,putCells,Array.getElem?_mapIdx,Array.getElem?_eq_getElem h1]
    simp only [Option.map_some,Nat.zero_le,Nat.zero_add,true_and,Nat.sub_zero,size_flatK,hs,ht,if_true,h2,id]
   ·rw [List.getElem?_eq_none (by rw [List.length_take];omega),List.getElem?_eq_none (by rw [hlen];omega)]
  ·rw [hblk j hj,if_neg (fun e => hne (by rw [e]))]
end
end Go.Proofs.YtaknladkodibaaaGreatDoor
