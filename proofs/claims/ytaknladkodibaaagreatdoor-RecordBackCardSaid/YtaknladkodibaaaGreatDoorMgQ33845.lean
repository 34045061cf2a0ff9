/- Layer 7: what lengths cost. -/
import Derived.Test.YtaknladkodibaaaGreatDoorMgQ33844
import Derived.Test.YtaknladkodibaaaGreatDoorMgQ33817
import Derived.Test.YtaknladkodibaaaGreatDoorMgQ338SWeiEl
import Derived.Test.YtaknladkodibaaaGreatDoorMgQ33815
import Derived.Deep.RegionHeld3
namespace Go.Proofs.YtaknladkodibaaaGreatDoor
open Go.RowKit
end Go.Proofs.YtaknladkodibaaaGreatDoor
namespace Go.Proofs.YtaknladkodibaaaGreatDoor
theorem itP_has {ns:List Nat} {s x:Nat} (h:ns[s]? = some x) (h0:0 < x):∀ {k:Nat},s < k→(x,s) ∈ itP ns k
 | 0,hk => absurd hk (by omega)
 | k + 1,hk => by
  by_cases e:s = k
  ·subst e
   rw [itP_yes h h0]
   exact List.mem_append_right _ (by simp)
  ·have ih:=itP_has h h0 (k:=k) (by omega)
   rw [itP]
   split
   ·split
    ·exact List.mem_append_left _ ih
    ·exact ih
   ·exact ih
theorem itemsW_has {ns:List Nat} {s x:Nat} (h:ns[s]? = some x) (h0:0 < x):(x,s) ∈ itemsW ns:=(sortW_perm _).mem_iff.2 (itP_has h h0 (List.getElem?_eq_some_iff.1 h).1)
theorem lensW_at {ns:List Nat} (h:2 ≤ (itemsW ns).length) {s:Nat} (hs:s < ns.length):(lensW ns).getD s 0 = lnW (itemsW ns) s:=by
 rw [lensW_many h,incW_getD _ _ _ (by rw [List.length_replicate];exact hs)]
 have h0:(List.replicate ns.length 0).getD s 0 = 0:=by rw [List.getD,List.getElem?_replicate,if_pos hs];rfl
 rw [h0,Nat.zero_add]
 rfl
theorem lensW_at1 {ns:List Nat} {x0 s0:Nat} (h:itemsW ns = [(x0,s0)]) {s:Nat} (hs:s < ns.length):(lensW ns).getD s 0 = if s = s0 then 1 else 0:=by
 rw [lensW_one h]
 by_cases e:s = s0
 ·subst e
  simp [List.getD,hs]
 ·rw [if_neg e,List.getD,List.getElem?_set_ne (by simpa using Ne.symm e),List.getElem?_replicate,if_pos hs]
  rfl
theorem lensW_at0 {ns:List Nat} (h:itemsW ns = []) (s:Nat):(lensW ns).getD s 0 = 0:=by
 rw [lensW_none h,List.getD,List.getElem?_replicate]
 split <;> rfl
theorem items_cases (ns:List Nat):itemsW ns = [] ∨ (∃ x s,itemsW ns = [(x,s)]) ∨ 2 ≤ (itemsW ns).length:=by
 match h:itemsW ns with
 | [] => exact .inl rfl
 | [(x,s)] => exact .inr (.inl ⟨x,s,rfl⟩)
 | a :: b :: r => exact .inr (.inr (by simp))
theorem lensW_pos {ns:List Nat} (hl:ns.length ≤ 16384) {s x:Nat} (h:ns[s]? = some x):(0 < (lensW ns).getD s 0 ↔ 0 < x)∧(lensW ns).getD s 0 ≤ 15:=by
 have hs:=(List.getElem?_eq_some_iff.1 h).1
 rcases items_cases ns with hi | ⟨x0,s0,hi⟩ | hi
 ·rw [lensW_at0 hi]
  refine ⟨⟨fun h1 => absurd h1 (by omega),fun h1 => ?_⟩,by omega⟩
  have:=itemsW_has h h1
  rw [hi] at this
  simp at this
 ·rw [lensW_at1 hi hs]
  refine ⟨⟨fun h1 => ?_,fun h1 => ?_⟩,by split <;> omega⟩
  ·have e:s = s0:=by
    by_cases e:s = s0
    ·exact e
    ·rw [if_neg e] at h1;omega
   obtain ⟨h2,h3,_⟩:=itemsW_mem (ns:=ns) (x:=(x0,s0)) (by rw [hi];simp)
   rw [← e,h] at h2
   injection h2 with h2
   dsimp only at h2 h3
   omega
  ·have:=itemsW_has h h1
   rw [hi] at this
   simp at this
   rw [if_pos this.2]
   omega
 ·have hg:=itemsW_good hi hl
  rw [lensW_at hi hs]
  refine ⟨⟨fun h1 => ?_,fun h1 => ln_pos hg (itemsW_has h h1)⟩,lnW_le hg s⟩
  by_cases hm:s ∈ (itemsW ns).map (·.2)
  ·obtain ⟨y,hy,e⟩:=List.mem_map.1 hm
   obtain ⟨h2,h3,_⟩:=itemsW_mem hy
   rw [e,h] at h2
   injection h2 with h2
   omega
  ·rw [ln_none hg hm] at h1
   omega
def zN (ns:List Nat):List Int:=ns.map fun n:Nat => (n:Int)
theorem zN_at {ns:List Nat} {k n:Nat} (h:ns[k]? = some n):(zN ns)[k]? = some (n:Int):=by simp [zN,h]
theorem zN_len (ns:List Nat):(zN ns).length = ns.length:=by simp [zN]
theorem wt_nat (n:Nat) (h:0 < n):wt (n:Int) = 2 ^ (15 - n):=by
 unfold wt
 rw [if_pos (by omega),Int.toNat_natCast]
theorem wsum_items {ns ls:List Nat} (hll:ls.length = ns.length) (hp:∀ s x,ns[s]? = some x→(0 < ls.getD s 0 ↔ 0 < x)):∀ k,k ≤ ns.length→wsum ((zN ls).take k) = ((itP ns k).map fun x => 2 ^ (15 - ls.getD x.2 0)).sum
 | 0,_ => rfl
 | k + 1,hk => by
  have ih:=wsum_items hll hp k (by omega)
  obtain ⟨x,hx⟩:∃ x,ns[k]? = some x:=⟨_,List.getElem?_eq_getElem (by omega)⟩
  obtain ⟨y,hy⟩:∃ y,ls[k]? = some y:=⟨_,List.getElem?_eq_getElem (by omega)⟩
  have hg:ls.getD k 0 = y:=by rw [List.getD,hy];rfl
  have h1:=hp k x hx
  rw [hg] at h1
  rw [wsum_snoc (zN_at hy),ih]
  by_cases h0:0 < x
  ·rw [itP_yes hx h0,List.map_append,List.sum_append,wt_nat y (h1.2 h0)]
   simp [hy]
  ·rw [itP_no hx h0]
   have:y = 0:=by
    rcases Nat.eq_zero_or_pos y with h | h
    ·exact h
    ·exact absurd (h1.1 h) h0
   rw [this]
   show _ + 0 = _
   omega
theorem sum_perm {α:Type} {l m:List α} (h:l.Perm m) (f:α→Nat):(l.map f).sum = (m.map f).sum:=(h.map f).sum_nat
theorem wsum_all {ns ls:List Nat} (hll:ls.length = ns.length) (hp:∀ s x,ns[s]? = some x→(0 < ls.getD s 0 ↔ 0 < x)):wsum (zN ls) = ((itemsW ns).map fun x => 2 ^ (15 - ls.getD x.2 0)).sum:=by
 have h:=wsum_items hll hp ns.length (Nat.le_refl _)
 rw [List.take_of_length_le (by rw [zN_len,hll];exact Nat.le_refl _)] at h
 rw [h]
 exact sum_perm (sortW_perm _).symm _
theorem lensW_kraft {ns:List Nat} (hl:ns.length ≤ 16384):(wsum (zN (lensW ns)) = 32768 ↔ 2 ≤ (itemsW ns).length):=by
 have h:=wsum_all (ns:=ns) (ls:=lensW ns) (lensW_len ns) (fun s x hx => (lensW_pos hl hx).1)
 rw [h]
 rcases items_cases ns with hi | ⟨x0,s0,hi⟩ | hi
 ·rw [hi]
  simp
 ·have hs:=(itemsW_mem (ns:=ns) (x:=(x0,s0)) (by rw [hi];simp)).2.2
  have e:(lensW ns).getD s0 0 = 1:=by rw [lensW_at1 hi hs,if_pos rfl]
  rw [hi]
  rw [List.map_cons,List.map_nil,List.sum_cons,List.sum_nil]
  dsimp only
  rw [e]
  simp
 ·have hg:=itemsW_good hi hl
  refine ⟨fun _ => hi,fun _ => ?_⟩
  have hk:=ln_kraft hg
  refine Eq.trans ?_ hk
  refine congrArg List.sum (List.map_congr_left fun x hx => ?_)
  rw [lensW_at hi (itemsW_mem hx).2.2]
theorem lensW_right {ns:List Nat} (hl:ns.length ≤ 16384):∀ x ∈ zN (lensW ns),lenB x = true:=by
 intro x hx
 obtain ⟨n,hn,rfl⟩:=List.mem_map.1 hx
 obtain ⟨s,hs⟩:=List.mem_iff_getElem?.1 hn
 have hlt:s < ns.length:=by
  have:=(List.getElem?_eq_some_iff.1 hs).1
  rwa [lensW_len] at this
 have h:=(lensW_pos hl (List.getElem?_eq_getElem hlt)).2
 rw [List.getD,hs] at h
 have:n ≤ 15:=h
 simp [lenB]
 omega
end Go.Proofs.YtaknladkodibaaaGreatDoor
namespace Go.Proofs.YtaknladkodibaaaGreatDoor
open Go.RowKit
def KI (w w':World):Prop:=∀ (b:Nat) (cur:Array Value),w.heap[b]? = some (Obj.cells cur 3 (0,0))→w'.heap[b]? = some (Obj.cells cur 3 (0,0))
theorem KI.refl (w:World):KI w w:=fun _ _ h => h
theorem KI.trans {a b c:World} (h:KI a b) (k:KI b c):KI a c:=fun j cur hj => k j cur (h j cur hj)
theorem KI.below {w w':World} (h:Below w.heap.size w w'):KI w w':=fun b _ hb => (h.block b (Array.getElem?_eq_some_iff.1 hb).1).trans hb
theorem KI.alloc (w:World) (o:Obj):KI w (w.alloc o):=KI.below ((Below.refl _ w).alloc (Nat.le_refl _) o)
theorem KI.drewN (w:World) (n:Nat):KI w (w.drewN n):=fun _ _ h => h
theorem KI.app {w w':World} {base:Nat} {e:TypeId} {size n:Nat} {v v':Value} {xs:List Value} {n0:Nat} {xs0:List Value} (ho:w.ownsRow base e size v n0 xs0) (h:App w base e size v n xs w' v') (hne:e ≠ 3):KI w w':=fun _ _ hb =>
 (Mod.of_app h).keep hb (own_ne ho hb hne)
def HasI (N:Nat) (w:World) (A:Option Addr) (xs:List Value):Prop:=0 < xs.length→∃ (b o:Nat) (cur:Array Value),A = some ⟨b,o,none⟩∧N ≤ b∧w.heap[b]? = some (.cells cur 3 (0,0))∧∀ j u,xs[j]? = some u→cur[o + j]? = some u
theorem HasI.keep {N:Nat} {w w':World} {A:Option Addr} {xs:List Value} (h:HasI N w A xs) (hk:KI w w'):HasI N w' A xs:=fun hp => by
 obtain ⟨b,o,cur,e,hN,h1,h2⟩:=h hp
 exact ⟨b,o,cur,e,hN,hk b cur h1,h2⟩
theorem HasI.cells {N:Nat} {w:World} {A:Option Addr} {xs:List Value} (h:HasI N w A xs):Cells w w.heap.size A xs:=fun hp => by
 obtain ⟨b,o,cur,e,_,h1,h2⟩:=h hp
 exact ⟨b,o,e,(Array.getElem?_eq_some_iff.1 h1).1,fun j u hu => by rw [cell_of_row _ _ _ _ _ _ h1];exact h2 j u hu⟩
theorem HasI.own {N:Nat} {w:World} {base n c:Nat} {A:Option Addr} {xs:List Value} (h:w.ownsRow base 3 1 (.slice A n c) n xs) (hN:N ≤ base):HasI N w A xs:=fun hp => by
 rcases h.2 with ⟨_,h3⟩ | ⟨g,cap,cur,hv,hg,hh,hnc,hcm,hcs,htake⟩
 ·have:=h.1;omega
 ·simp only [Value.slice.injEq] at hv
  obtain ⟨rfl,_,rfl⟩:=hv
  refine ⟨g,0,cur,rfl,Nat.le_trans hN hg,hh,fun j u hu => ?_⟩
  rw [← htake] at hu
  have hlt:=(List.getElem?_eq_some_iff.1 hu).1
  rw [List.length_take] at hlt
  rw [List.getElem?_take_of_lt (by omega)] at hu
  simpa using hu
def EH (N:Nat) (w:World) (x:WE) (cs:List Value):Prop:=∃ A c,cs = [.int .i64 (x.1:Int),.slice A x.2.length c]∧HasI N w A (nCs x.2)
theorem EH.keep {N:Nat} {w w':World} {x:WE} {cs:List Value} (h:EH N w x cs) (hk:KI w w'):EH N w' x cs:=by
 obtain ⟨A,c,e,h⟩:=h
 exact ⟨A,c,e,h.keep hk⟩
def RowH (N:Nat) (w:World) (xs:List WE) (cs:List Value):Prop:=∃ E:List (WE × List Value),E.map (·.1) = xs∧E.flatMap (·.2) = cs∧∀ e ∈ E,EH N w e.1 e.2
theorem RowH.nil (N:Nat) (w:World):RowH N w [] []:=⟨[],rfl,rfl,fun _ h => by simp at h⟩
theorem RowH.keep {N:Nat} {w w':World} {xs:List WE} {cs:List Value} (h:RowH N w xs cs) (hk:KI w w'):RowH N w' xs cs:=by
 obtain ⟨E,e1,e2,h⟩:=h
 exact ⟨E,e1,e2,fun e he => (h e he).keep hk⟩
theorem RowH.snoc {N:Nat} {w:World} {xs:List WE} {cs:List Value} {x:WE} {c:List Value} (h:RowH N w xs cs) (hx:EH N w x c):RowH N w (xs++[x]) (cs++c):=by
 obtain ⟨E,rfl,rfl,h⟩:=h
 refine ⟨E++[(x,c)],by simp,by simp,fun e he => ?_⟩
 rcases List.mem_append.1 he with he | he
 ·exact h e he
 ·rw [List.mem_singleton.1 he]
  exact hx
theorem RowH.cons {N:Nat} {w:World} {x:WE} {xs:List WE} {cs:List Value} (h:RowH N w (x :: xs) cs):∃ c d,cs = c++d∧EH N w x c∧RowH N w xs d:=by
 obtain ⟨E,e1,rfl,h⟩:=h
 cases E with
 | nil => simp at e1
 | cons e E =>
  simp only [List.map_cons,List.cons.injEq] at e1
  obtain ⟨rfl,rfl⟩:=e1
  exact ⟨e.2,E.flatMap (·.2),by simp,h e (by simp),E,rfl,rfl,fun e' he => h e' (by simp [he])⟩
theorem EH.two {N:Nat} {w:World} {x:WE} {cs:List Value} (h:EH N w x cs):cs.length = 2:=by
 obtain ⟨A,c,rfl,_⟩:=h
 rfl
theorem RowH.len {N:Nat} {w:World}:∀ {xs:List WE} {cs:List Value},RowH N w xs cs→cs.length = xs.length * 2
 | [],cs,h => by
  obtain ⟨E,e1,rfl,_⟩:=h
  rw [List.map_eq_nil_iff.1 e1]
  rfl
 | x :: xs,cs,h => by
  obtain ⟨c,d,rfl,hx,hr⟩:=h.cons
  rw [List.length_append,hx.two,hr.len,List.length_cons]
  omega
theorem RowH.at_ {N:Nat} {w:World}:∀ {xs:List WE} {cs:List Value} {i:Nat} {x:WE},RowH N w xs cs→xs[i]? = some x→∃ A c,cs[i * 2]? = some (.int .i64 (x.1:Int))∧cs[i * 2 + 1]? = some (.slice A x.2.length c)∧HasI N w A (nCs x.2)
 | [],_,_,_,_,h => by simp at h
 | y :: xs,cs,i,x,hr,h => by
  obtain ⟨c,d,rfl,hx,hr⟩:=hr.cons
  cases i with
  | zero =>
   obtain rfl:y = x:=by simpa using h
   obtain ⟨A,c',rfl,hc⟩:=hx
   exact ⟨A,c',rfl,rfl,hc⟩
  | succ i =>
   obtain ⟨A,c',h1,h2,h3⟩:=hr.at_ (i:=i) (by simpa using h)
   refine ⟨A,c',?_,?_,h3⟩
   ·rw [List.getElem?_append_right (by rw [hx.two];omega),hx.two,show (i + 1) * 2 - 2 = i * 2 by omega]
    exact h1
   ·rw [List.getElem?_append_right (by rw [hx.two];omega),hx.two,show (i + 1) * 2 + 1 - 2 = i * 2 + 1 by omega]
    exact h2
theorem RowH.one {N:Nat} {w:World} {xs:List WE} {cs:List Value} (h:RowH N w xs cs):∀ u ∈ cs,u.oneCell' = true:=by
 obtain ⟨E,_,rfl,h⟩:=h
 intro u hu
 obtain ⟨e,he,hu⟩:=List.mem_flatMap.1 hu
 obtain ⟨A,c,hc,_⟩:=h e he
 rw [hc] at hu
 simp only [List.mem_cons,List.not_mem_nil,or_false] at hu
 rcases hu with rfl | rfl <;> rfl
end Go.Proofs.YtaknladkodibaaaGreatDoor
namespace Go.Proofs.YtaknladkodibaaaGreatDoor
end Go.Proofs.YtaknladkodibaaaGreatDoor
namespace Go.Proofs.YtaknladkodibaaaGreatDoor
open Go.RowKit
end Go.Proofs.YtaknladkodibaaaGreatDoor
