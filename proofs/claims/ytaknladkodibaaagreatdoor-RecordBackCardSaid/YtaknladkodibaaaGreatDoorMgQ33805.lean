/- Layer 9, plainly: parts of lengths. -/
import Derived.Test.YtaknladkodibaaaGreatDoorRows
import Derived.WalkKit
import Derived.Test.YtaknladkodibaaaGreatDoorMgQ33802
import Derived.Lib.Hide
namespace Go.Proofs.YtaknladkodibaaaGreatDoor
def spanP (n:Nat):Nat × Nat:=if n = 16 then (3,2) else if n = 17 then (3,3) else if n = 18 then (11,7) else (1,0)
def mostP (n:Nat):Nat:=if n = 16 then 6 else if n = 17 then 10 else if n = 18 then 138 else 1
theorem mostP_span (n:Nat):mostP n + 1 = (spanP n).1 + 2 ^ (spanP n).2:=by
 unfold mostP spanP
 by_cases h:n = 16
 ·simp [h]
 ·by_cases h2:n = 17
  ·simp [h2]
  ·by_cases h3:n = 18
   ·simp [h3]
   ·simp [h,h2,h3]
theorem spanP_le (n:Nat):1 ≤ (spanP n).1∧(spanP n).1 ≤ 11∧(spanP n).2 ≤ 7:=by
 unfold spanP
 split
 ·decide
 split
 ·decide
 split
 ·decide
 ·decide
theorem mostP_le (n:Nat):1 ≤ mostP n∧mostP n ≤ 138:=by
 have h1:=mostP_span n
 have h2:=spanP_le n
 have h3:2 ^ (spanP n).2 ≤ 2 ^ 7:=Nat.pow_le_pow_right (by omega) h2.2.2
 have h4:=Nat.two_pow_pos (spanP n).2
 omega
def runL (ls:List Nat) (p:Nat):Nat:=((ls.drop p).takeWhile fun x => x == ls.getD p 0).length
theorem runL_le (ls:List Nat) (p:Nat):p + runL ls p ≤ max ls.length p:=by
 have h1:=(List.takeWhile_prefix (fun x => x == ls.getD p 0) (l:=ls.drop p)).length_le
 rw [List.length_drop] at h1
 unfold runL
 omega
theorem runL_pos {ls:List Nat} {p:Nat} (h:p < ls.length):1 ≤ runL ls p:=by
 unfold runL
 rw [List.drop_eq_getElem_cons h,List.takeWhile_cons]
 have:ls.getD p 0 = ls[p]:=by simp [List.getD,h]
 rw [this]
 simp
theorem tw_all {α:Type} (q:α→Bool) (l:List α) (j:Nat) (x:α) (h:(l.takeWhile q)[j]? = some x):l[j]? = some x∧q x = true:=by
 induction l generalizing j with
 | nil => simp at h
 | cons a l ih =>
  rw [List.takeWhile_cons] at h
  split at h
  ·rename_i ha
   cases j with
   | zero =>
    have:a = x:=by simpa using h
    subst this
    exact ⟨rfl,ha⟩
   | succ j => exact ih j (by simpa using h)
  ·simp at h
theorem tw_stop {α:Type} (q:α→Bool) (l:List α) (x:α) (h:l[(l.takeWhile q).length]? = some x):q x = false:=by
 induction l with
 | nil => simp at h
 | cons a l ih =>
  rw [List.takeWhile_cons] at h
  split at h
  ·exact ih (by simpa using h)
  ·rename_i ha
   have:a = x:=by simpa using h
   subst this
   simpa using ha
theorem runL_in {ls:List Nat} {p j:Nat} (h:j < runL ls p):ls[p + j]? = some (ls.getD p 0):=by
 unfold runL at h
 obtain ⟨h1,h2⟩:=tw_all _ _ j _ (List.getElem?_eq_getElem h)
 rw [List.getElem?_drop] at h1
 rw [h1]
 simpa using h2
theorem runL_out {ls:List Nat} {p x:Nat} (h:ls[p + runL ls p]? = some x):x ≠ ls.getD p 0:=by
 have:=tw_stop (fun x => x == ls.getD p 0) (ls.drop p) x (by rw [List.getElem?_drop];exact h)
 simpa using this
def numP (ls:List Nat) (p:Nat):Nat :=
 if ls.getD p 0 = 0∧11 ≤ runL ls p then 18 else if ls.getD p 0 = 0∧3 ≤ runL ls p then 17 else if 0 < p∧ls.getD p 0 = ls.getD (p - 1) 0∧3 ≤ runL ls p then 16 else ls.getD p 0
def manyP (ls:List Nat) (p:Nat):Nat:=min (runL ls p) (mostP (numP ls p))
theorem manyP_le (ls:List Nat) (p:Nat):manyP ls p ≤ runL ls p∧manyP ls p ≤ mostP (numP ls p):=⟨Nat.min_le_left _ _,Nat.min_le_right _ _⟩
theorem manyP_pos {ls:List Nat} {p:Nat} (h:p < ls.length):1 ≤ manyP ls p:=by
 have h1:=runL_pos h
 have h2:=(mostP_le (numP ls p)).1
 unfold manyP
 omega
def partsP (ls:List Nat) (p:Nat):List (Nat × Nat) :=
 if _h:p < ls.length then (numP ls p,manyP ls p) :: partsP ls (p + manyP ls p) else []
termination_by ls.length - p
decreasing_by have:=manyP_pos ‹p < ls.length›;omega
theorem partsP_step {ls:List Nat} {p:Nat} (h:p < ls.length):partsP ls p = (numP ls p,manyP ls p) :: partsP ls (p + manyP ls p):=by rw [partsP,dif_pos h]
theorem partsP_end {ls:List Nat} {p:Nat} (h:¬ p < ls.length):partsP ls p = []:=by rw [partsP,dif_neg h]
theorem getD_le {ls:List Nat} {m:Nat} (h:∀ x ∈ ls,x ≤ m) (p:Nat):ls.getD p 0 ≤ m:=by
 rw [List.getD]
 cases hp:ls[p]? with
 | none => exact Nat.zero_le _
 | some x => exact h x (List.mem_of_getElem? hp)
theorem numP_le {ls:List Nat} (hv:∀ x ∈ ls,x ≤ 15) (p:Nat):numP ls p ≤ 18:=by
 have:=getD_le hv p
 unfold numP
 split
 ·omega
 split
 ·omega
 split <;> omega
theorem span_le_many {ls:List Nat} {p:Nat} (hv:∀ x ∈ ls,x ≤ 15) (h:p < ls.length):(spanP (numP ls p)).1 ≤ manyP ls p:=by
 have h1:=runL_pos h
 have h4:(spanP (numP ls p)).1 ≤ mostP (numP ls p):=by
  have h2:=mostP_span (numP ls p)
  have h3:=Nat.two_pow_pos (spanP (numP ls p)).2
  omega
 have key:(spanP (numP ls p)).1 ≤ runL ls p:=by
  unfold numP
  by_cases c1:ls.getD p 0 = 0∧11 ≤ runL ls p
  ·rw [if_pos c1];exact c1.2
  rw [if_neg c1]
  by_cases c2:ls.getD p 0 = 0∧3 ≤ runL ls p
  ·rw [if_pos c2];exact c2.2
  rw [if_neg c2]
  by_cases c3:0 < p∧ls.getD p 0 = ls.getD (p - 1) 0∧3 ≤ runL ls p
  ·rw [if_pos c3];exact c3.2.2
  rw [if_neg c3]
  have h5:=getD_le hv p
  unfold spanP
  rw [if_neg (by omega),if_neg (by omega),if_neg (by omega)]
  exact h1
 unfold manyP
 omega
theorem more_lt {ls:List Nat} {p:Nat} (hv:∀ x ∈ ls,x ≤ 15) (h:p < ls.length):manyP ls p - (spanP (numP ls p)).1 < 2 ^ (spanP (numP ls p)).2:=by
 have h1:=(manyP_le ls p).2
 have h2:=mostP_span (numP ls p)
 have h3:=span_le_many hv h
 omega
def saysP (l:List Nat) (num:Nat):Nat:=if num = 16 then l.getLastD 0 else if num = 17 ∨ num = 18 then 0 else num
theorem says_here {ls:List Nat} {p:Nat} (hv:∀ x ∈ ls,x ≤ 15) (h:p < ls.length):saysP (ls.take p) (numP ls p) = ls.getD p 0∧(numP ls p = 16→0 < p):=by
 have h5:=getD_le hv p
 unfold numP
 by_cases c1:ls.getD p 0 = 0∧11 ≤ runL ls p
 ·rw [if_pos c1,c1.1]
  exact ⟨rfl,fun h => by omega⟩
 rw [if_neg c1]
 by_cases c2:ls.getD p 0 = 0∧3 ≤ runL ls p
 ·rw [if_pos c2,c2.1]
  exact ⟨rfl,fun h => by omega⟩
 rw [if_neg c2]
 by_cases c3:0 < p∧ls.getD p 0 = ls.getD (p - 1) 0∧3 ≤ runL ls p
 ·rw [if_pos c3,c3.2.1]
  refine ⟨?_,fun _ => c3.1⟩
  unfold saysP
  rw [if_pos rfl,List.getLastD_eq_getLast?,List.getLast?_eq_getElem?,List.length_take,Nat.min_eq_left (by omega),List.getElem?_take_of_lt (by omega)]
  rfl
 rw [if_neg c3]
 refine ⟨?_,fun h => by omega⟩
 unfold saysP
 rw [if_neg (by omega),if_neg (by omega)]
theorem take_many (ls:List Nat) (p:Nat):ls.take (p + manyP ls p) = ls.take p++List.replicate (manyP ls p) (ls.getD p 0):=by
 rw [List.take_add]
 congr 1
 apply List.ext_getElem?
 intro j
 by_cases hj:j < manyP ls p
 ·rw [List.getElem?_take_of_lt hj,List.getElem?_drop,runL_in (Nat.lt_of_lt_of_le hj (manyP_le ls p).1),List.getElem?_replicate,if_pos hj]
 ·rw [List.getElem?_eq_none (by rw [List.length_take];omega),List.getElem?_eq_none (by rw [List.length_replicate];omega)]
theorem many_le {ls:List Nat} {p:Nat} (h:p < ls.length):p + manyP ls p ≤ ls.length:=by
 have h1:=runL_le ls p
 have h2:=(manyP_le ls p).1
 omega
abbrev WE:=Nat × List Nat
def prW:List WE→List WE
 | a :: b :: r => (a.1 + b.1,a.2++b.2) :: prW r
 | _ => []
def mgW:List WE→List WE→List WE
 | its,[] => its
 | its,p :: ps => its.takeWhile (fun x => decide (x.1 ≤ p.1))++p :: mgW (its.dropWhile (fun x => decide (x.1 ≤ p.1))) ps
def rowW (first:List WE):Nat→List WE
 | 0 => first
 | k + 1 => mgW first (prW (rowW first k))
theorem prW_len:∀ l:List WE,(prW l).length = l.length / 2
 | [] => rfl
 | [_] => by simp [prW]
 | a :: b :: r => by
  rw [prW,List.length_cons,prW_len r,List.length_cons,List.length_cons]
  omega
theorem mgW_len:∀ (ps its:List WE),(mgW its ps).length = its.length + ps.length
 | [],its => by simp [mgW]
 | p :: ps,its => by
  have h:=congrArg List.length (List.takeWhile_append_dropWhile (p:=fun x:WE => decide (x.1 ≤ p.1)) (l:=its))
  rw [List.length_append] at h
  rw [mgW,List.length_append,List.length_cons,mgW_len ps,List.length_cons]
  omega
theorem rowW_len (first:List WE):∀ k,(rowW first k).length ≤ 2 * first.length
 | 0 => by show first.length ≤ _;omega
 | k + 1 => by
  have ih:=rowW_len first k
  rw [rowW,mgW_len,prW_len]
  omega
theorem prW_bd {m:Nat}:∀ l:List WE,(∀ x ∈ l,x.1 ≤ m)→∀ x ∈ prW l,x.1 ≤ 2 * m
 | [],_,x,h => by simp [prW] at h
 | [_],_,x,h => by simp [prW] at h
 | a :: b :: r,hl,x,h => by
  rw [prW] at h
  rcases List.mem_cons.1 h with rfl | h
  ·have h1:=hl a (by simp)
   have h2:=hl b (by simp)
   show a.1 + b.1 ≤ _
   omega
  ·exact prW_bd r (fun y hy => hl y (by simp [hy])) x h
theorem mgW_mem:∀ (ps its:List WE) (x:WE),x ∈ mgW its ps→x ∈ its ∨ x ∈ ps
 | [],its,x,h => .inl h
 | p :: ps,its,x,h => by
  rw [mgW,List.mem_append,List.mem_cons] at h
  rcases h with h | rfl | h
  ·exact .inl ((List.takeWhile_prefix _).subset h)
  ·exact .inr (by simp)
  ·rcases mgW_mem ps _ x h with h | h
   ·exact .inl ((List.dropWhile_suffix _).subset h)
   ·exact .inr (by simp [h])
theorem rowW_bd {first:List WE} {m:Nat} (h:∀ x ∈ first,x.1 ≤ m):∀ k,∀ x ∈ rowW first k,x.1 ≤ 2 ^ k * m
 | 0,x,hx => by have:=h x hx;omega
 | k + 1,x,hx => by
  rw [rowW] at hx
  rcases mgW_mem _ _ x hx with hx | hx
  ·have h1:=h x hx
   have h2:=Nat.le_mul_of_pos_left m (Nat.two_pow_pos (k + 1))
   omega
  ·have:=prW_bd _ (rowW_bd h k) x hx
   rw [Nat.pow_succ,Nat.mul_comm (2 ^ k) 2,Nat.mul_assoc]
   exact this
def incW (l:List Nat) (ss:List Nat):List Nat:=ss.foldl (fun l s => l.set s (l.getD s 0 + 1)) l
theorem incW_append (l a b:List Nat):incW l (a++b) = incW (incW l a) b:=List.foldl_append ..
theorem incW_length (l:List Nat):∀ ss:List Nat,(incW l ss).length = l.length:=by
 intro ss
 induction ss generalizing l with
 | nil => rfl
 | cons s ss ih =>
  show (incW _ ss).length = _
  rw [ih,List.length_set]
def wtS (l:List WE):Nat:=(l.map (·.1)).sum
theorem wtS_cons (x:WE) (l:List WE):wtS (x :: l) = x.1 + wtS l:=by simp [wtS]
theorem wtS_append (a b:List WE):wtS (a++b) = wtS a + wtS b:=by simp [wtS]
theorem wtS_perm {a b:List WE} (h:a.Perm b):wtS a = wtS b:=(h.map _).sum_nat
def RiseW (l:List WE):Prop:=l.Pairwise (fun a b => a.1 ≤ b.1)
theorem RiseW.tail {x:WE} {l:List WE} (h:RiseW (x :: l)):RiseW l:=(List.pairwise_cons.1 h).2
theorem RiseW.head {x:WE} {l:List WE} (h:RiseW (x :: l)):∀ y ∈ l,x.1 ≤ y.1:=(List.pairwise_cons.1 h).1
theorem RiseW.sub {a b:List WE} (h:RiseW b) (s:a.Sublist b):RiseW a:=List.Pairwise.sublist s h
theorem dropWhile_gt {its:List WE} (h:RiseW its) (m:Nat):∀ x ∈ its.dropWhile (fun x => decide (x.1 ≤ m)),m < x.1:=by
 induction its with
 | nil => intro x hx;simp at hx
 | cons a l ih =>
  intro x hx
  rw [List.dropWhile_cons] at hx
  by_cases ha:a.1 ≤ m
  ·rw [if_pos (decide_eq_true ha)] at hx
   exact ih h.tail x hx
  ·rw [if_neg (by simp [ha])] at hx
   rcases List.mem_cons.1 hx with rfl | hx
   ·omega
   ·have:=h.head x hx
    omega
theorem tw_dw (its:List WE) (m:Nat):its.takeWhile (fun x => decide (x.1 ≤ m))++its.dropWhile (fun x => decide (x.1 ≤ m)) = its:=List.takeWhile_append_dropWhile
theorem pr_take:∀ (l:List WE) (p:Nat),2 * p ≤ l.length→wtS ((prW l).take p) = wtS (l.take (2 * p))
 | _,0,_ => rfl
 | [],p + 1,h => by simp at h
 | [_],p + 1,h => by simp at h;omega
 | a :: b :: r,p + 1,h => by
  have ih:=pr_take r p (by simp at h;omega)
  rw [prW,List.take_succ_cons,wtS_cons,ih,show 2 * (p + 1) = 2 * p + 1 + 1 by omega,List.take_succ_cons,List.take_succ_cons,wtS_cons,wtS_cons]
  omega
def sumN (f:Nat→Nat):Nat→Nat
 | 0 => 0
 | k + 1 => sumN f k + f k
theorem sumN_congr {f g:Nat→Nat}:∀ {k:Nat},(∀ j,j < k→f j = g j)→sumN f k = sumN g k
 | 0,_ => rfl
 | k + 1,h => by rw [sumN,sumN,sumN_congr (fun j hj => h j (by omega)),h k (by omega)]
theorem sumN_add (f g:Nat→Nat):∀ k,sumN (fun j => f j + g j) k = sumN f k + sumN g k
 | 0 => rfl
 | k + 1 => by rw [sumN,sumN,sumN,sumN_add f g k];omega
theorem sumN_zero:∀ k,sumN (fun _ => 0) k = 0
 | 0 => rfl
 | k + 1 => by rw [sumN,sumN_zero k]
theorem mg_take:∀ (ps its:List WE),RiseW its→∀ t,t ≤ (mgW its ps).length→∃ m p,m + p = t∧m ≤ its.length∧p ≤ ps.length∧((mgW its ps).take t).Perm (its.take m++ps.take p) ∧
  ∀ (i:Nat) (x q:WE),its[i]? = some x→q ∈ ps.take p→x.1 ≤ q.1→i < m
 | [],its,_,t,ht => ⟨t,0,rfl,ht,Nat.le_refl _,by simp [mgW],fun i x q _ hq => by simp at hq⟩
 | q :: qs,its,hi,t,ht => by
  obtain ⟨tw,htw⟩:∃ tw,its.takeWhile (fun x => decide (x.1 ≤ q.1)) = tw:=⟨_,rfl⟩
  obtain ⟨dw,hdw⟩:∃ dw,its.dropWhile (fun x => decide (x.1 ≤ q.1)) = dw:=⟨_,rfl⟩
  have e:tw++dw = its:=by rw [← htw,← hdw];exact tw_dw _ _
  have hgt:=dropWhile_gt hi q.1
  have hdr:RiseW dw:=by rw [← hdw];exact hi.sub (List.dropWhile_sublist _)
  rw [mgW,htw,hdw] at ht ⊢
  rw [hdw] at hgt
  by_cases h:t ≤ tw.length
  ·refine ⟨t,0,rfl,by rw [← e,List.length_append];omega,Nat.zero_le _,?_,fun i x q _ hq => by simp at hq⟩
   rw [List.take_append_of_le_length h,← e,List.take_append_of_le_length h]
   simp
  ·obtain ⟨t',rfl⟩:∃ t',t = tw.length + (t' + 1):=⟨t - tw.length - 1,by omega⟩
   obtain ⟨m,p,hmp,hm,hp,hperm,hcl⟩:=mg_take qs dw hdr t' (by rw [List.length_append,List.length_cons] at ht;omega)
   refine ⟨tw.length + m,p + 1,by omega,by rw [← e,List.length_append];omega,by rw [List.length_cons];omega,?_,fun i x q' hx hq' hle => ?_⟩
   ·rw [List.take_length_add_append,List.take_succ_cons,← e,List.take_length_add_append,List.take_succ_cons,List.append_assoc]
    exact List.Perm.append_left _ ((hperm.cons q).trans List.perm_middle.symm)
   ·by_cases hil:i < tw.length
    ·omega
    ·rw [← e,List.getElem?_append_right (by omega)] at hx
     rw [List.take_succ_cons] at hq'
     rcases List.mem_cons.1 hq' with rfl | hq'
     ·have:=hgt x (List.mem_of_getElem? hx)
      omega
     ·have:=hcl _ x q' hx hq' hle
      omega
theorem pr_take_syms:∀ (l:List WE) (p:Nat),2 * p ≤ l.length→((prW l).take p).flatMap (·.2) = (l.take (2 * p)).flatMap (·.2)
 | _,0,_ => rfl
 | [],p + 1,h => by simp at h
 | [_],p + 1,h => by simp at h;omega
 | a :: b :: r,p + 1,h => by
  have ih:=pr_take_syms r p (by simp at h;omega)
  rw [prW,List.take_succ_cons,List.flatMap_cons,ih,show 2 * (p + 1) = 2 * p + 1 + 1 by omega,List.take_succ_cons,List.take_succ_cons,List.flatMap_cons,List.flatMap_cons,List.append_assoc]
theorem pr_take_mem:∀ (l:List WE) (p:Nat) (x:WE),2 * p ≤ l.length→x ∈ l.take (2 * p)→∃ q ∈ (prW l).take p,x.1 ≤ q.1
 | _,0,x,_,hx => by simp at hx
 | [],p + 1,x,h,_ => by simp at h
 | [_],p + 1,x,h,_ => by simp at h;omega
 | a :: b :: r,p + 1,x,h,hx => by
  rw [show 2 * (p + 1) = 2 * p + 1 + 1 by omega,List.take_succ_cons,List.take_succ_cons] at hx
  rw [prW,List.take_succ_cons]
  rcases List.mem_cons.1 hx with rfl | hx
  ·exact ⟨_,List.mem_cons_self,Nat.le_add_right _ _⟩
  rcases List.mem_cons.1 hx with rfl | hx
  ·exact ⟨_,List.mem_cons_self,Nat.le_add_left _ _⟩
  obtain ⟨q,hq,hle⟩:=pr_take_mem r p x (by simp at h;omega) hx
  exact ⟨q,List.mem_cons_of_mem _ hq,hle⟩
structure Chosen (first:List WE) (k t:Nat) (m:Nat→Nat):Prop where
 le:∀ j,j ≤ k→m j ≤ first.length
 up:∀ j,j < k→m j ≤ m (j + 1)
 width:sumN (fun j => m j * 2 ^ j) (k + 1) = t * 2 ^ k
 weight:wtS ((rowW first k).take t) = sumN (fun j => wtS (first.take (m j))) (k + 1)
 count:∀ s,(((rowW first k).take t).flatMap (·.2)).count s = sumN (fun j => ((first.take (m j)).flatMap (·.2)).count s) (k + 1)
 has:∀ x ∈ first.take (m k),x ∈ (rowW first k).take t
theorem chosen {first:List WE} (hf:RiseW first):∀ (k t:Nat),t ≤ (rowW first k).length→∃ m,Chosen first k t m
 | 0,t,ht => ⟨fun _ => t,fun _ _ => ht,fun j hj => by omega,by simp [sumN],by simp [sumN,rowW],fun s => by simp [sumN,rowW],fun x hx => hx⟩
 | k + 1,t,ht => by
  obtain ⟨m',p,hmp,hm,hp,hperm,hcl⟩:=mg_take (prW (rowW first k)) first hf t ht
  have h2p:2 * p ≤ (rowW first k).length:=by rw [prW_len] at hp;omega
  obtain ⟨m,hc⟩:=chosen hf k (2 * p) h2p
  have hlt:∀ j,j ≤ k→(if j ≤ k then m j else m') = m j:=fun j hj => if_pos hj
  have hgt:(if k + 1 ≤ k then m (k + 1) else m') = m':=if_neg (by omega)
  have hcg:∀ (g:Nat→Nat→Nat),sumN (fun j => g j (if j ≤ k then m j else m')) (k + 1 + 1) = sumN (fun j => g j (m j)) (k + 1) + g (k + 1) m':=fun g => by
   rw [sumN,hgt]
   congr 1
   exact sumN_congr fun j hj => by rw [hlt j (by omega)]
  have hpow:2 ^ (k + 1) = 2 * 2 ^ k:=by rw [Nat.pow_succ];omega
  refine ⟨fun j => if j ≤ k then m j else m',fun j hj => ?_,fun j hj => ?_,?_,?_,fun s => ?_,?_⟩
  ·split
   ·exact hc.le j ‹_›
   ·exact hm
  ·rw [hlt j (by omega)]
   by_cases h:j < k
   ·rw [hlt (j + 1) (by omega)]
    exact hc.up j h
   ·obtain rfl:j = k:=by omega
    rw [hgt]
    rcases Nat.lt_or_ge m' (m j) with h1 | h1
    ·have h2:m' < first.length:=Nat.lt_of_lt_of_le h1 (hc.le j (Nat.le_refl _))
     have hx:first[m']? = some first[m']:=List.getElem?_eq_getElem h2
     have hmem:first[m'] ∈ first.take (m j):=List.mem_of_getElem? (i:=m') (by rw [List.getElem?_take_of_lt h1];exact hx)
     obtain ⟨q,hq,hle⟩:=pr_take_mem _ p _ h2p (hc.has _ hmem)
     have:=hcl m' _ q hx hq hle
     omega
    ·exact h1
  ·rw [hcg fun j v => v * 2 ^ j,hc.width,← hmp,Nat.add_mul,hpow,← Nat.mul_assoc p,Nat.mul_comm p 2]
   omega
  ·rw [hcg fun _ v => wtS (first.take v),rowW,wtS_perm hperm,wtS_append,pr_take _ _ h2p,hc.weight]
   omega
  ·rw [hcg fun _ v => ((first.take v).flatMap (·.2)).count s,rowW,(hperm.flatMap_right _).count_eq,List.flatMap_append,List.count_append,pr_take_syms _ _ h2p,hc.count]
   omega
  ·intro x hx
   rw [hgt] at hx
   rw [rowW,hperm.mem_iff]
   exact List.mem_append_left _ hx
def firstW (its:List (Nat × Nat)):List WE:=its.map fun x => (x.1,[x.2])
def symsW (its:List (Nat × Nat)):List Nat:=((rowW (firstW its) 14).take (2 * its.length - 2)).flatMap (·.2)
def lnW (its:List (Nat × Nat)) (s:Nat):Nat:=(symsW its).count s
theorem firstW_take (its:List (Nat × Nat)) (m:Nat):(firstW its).take m = firstW (its.take m):=by simp [firstW]
theorem firstW_len (its:List (Nat × Nat)):(firstW its).length = its.length:=by simp [firstW]
theorem firstW_syms (its:List (Nat × Nat)):(firstW its).flatMap (·.2) = its.map (·.2):=by
 induction its with
 | nil => rfl
 | cons x l ih =>
  rw [firstW,List.map_cons,List.flatMap_cons,List.map_cons]
  rw [firstW] at ih
  rw [ih]
  rfl
theorem one_kraft:∀ c,c < 16→sumN (fun j => (if 15 - j ≤ c then 1 else 0) * 2 ^ j) 15 + 2 ^ (15 - c) = 2 ^ 15:=by decide
theorem filter_len_cons (p:Nat × Nat→Bool) (x:Nat × Nat) (l:List (Nat × Nat)):((x :: l).filter p).length = (if p x then 1 else 0) + (l.filter p).length:=by
 rw [List.filter_cons]
 split
 ·rw [List.length_cons];omega
 ·omega
theorem kraft_sum (f:Nat × Nat→Nat):∀ l:List (Nat × Nat),(∀ x ∈ l,f x ≤ 15)→sumN (fun j => (l.filter fun x => decide (15 - j ≤ f x)).length * 2 ^ j) 15 + (l.map fun x => 2 ^ (15 - f x)).sum = l.length * 2 ^ 15
 | [],_ => by simp [sumN_zero]
 | x :: l,h => by
  have ih:=kraft_sum f l (fun y hy => h y (by simp [hy]))
  have h1:=one_kraft (f x) (by have:=h x (by simp);omega)
  have e:sumN (fun j => ((x :: l).filter fun x => decide (15 - j ≤ f x)).length * 2 ^ j) 15 = sumN (fun j => (if 15 - j ≤ f x then 1 else 0) * 2 ^ j) 15 + sumN (fun j => (l.filter fun x => decide (15 - j ≤ f x)).length * 2 ^ j) 15:=by
   rw [← sumN_add]
   refine sumN_congr fun j _ => ?_
   rw [filter_len_cons,Nat.add_mul]
   simp only [decide_eq_true_eq]
  rw [e,List.map_cons,List.sum_cons,List.length_cons,Nat.succ_mul]
  omega
theorem filter_take {α:Type} (p:α→Bool):∀ (l:List α) (m:Nat),(∀ i x,l[i]? = some x→(p x = true ↔ i < m))→l.filter p = l.take m
 | [],m,_ => by simp
 | x :: l,0,h => by
  rw [List.take_zero,List.filter_eq_nil_iff]
  intro y hy
  obtain ⟨i,hi⟩:=List.mem_iff_getElem?.1 hy
  have:=h i y hi
  simp [this]
 | x :: l,m + 1,h => by
  have h0:=(h 0 x (by simp)).2 (by omega)
  rw [List.filter_cons,if_pos h0,List.take_succ_cons,filter_take p l m fun i y hy => by
   rw [h (i + 1) y (by simpa using hy)]
   omega]
theorem up_count (P:Nat→Prop) [DecidablePred P]:∀ N,(∀ j,j + 1 < N→P j→P (j + 1))→sumN (fun j => if P j then 1 else 0) N ≤ N∧∀ j,j < N→(P j ↔ N - sumN (fun j => if P j then 1 else 0) N ≤ j)
 | 0,_ => ⟨Nat.le_refl _,fun j h => by omega⟩
 | N + 1,up => by
  obtain ⟨h1,h2⟩:=up_count P N (fun j hj => up j (by omega))
  rw [sumN]
  obtain ⟨c,hc⟩:∃ c,sumN (fun j => if P j then 1 else 0) N = c:=⟨_,rfl⟩
  rw [hc] at h1 h2 ⊢
  by_cases hN:P N
  ·rw [if_pos hN]
   refine ⟨by omega,fun j hj => ?_⟩
   by_cases e:j = N
   ·subst e
    exact ⟨fun _ => by omega,fun _ => hN⟩
   ·rw [h2 j (by omega)]
    omega
  ·rw [if_neg hN]
   have hc0:c = 0:=by
    rcases Nat.eq_zero_or_pos c with h | h
    ·exact h
    ·have h3:=(h2 (N - 1) (by omega)).2 (by omega)
     have h4:=up (N - 1) (by omega) h3
     rw [show N - 1 + 1 = N by omega] at h4
     exact absurd h4 hN
   subst hc0
   refine ⟨by omega,fun j hj => ⟨fun h => ?_,fun h => by omega⟩⟩
   by_cases e:j = N
   ·subst e
    exact absurd h hN
   ·have:=(h2 j (by omega)).1 h
    omega
theorem count_take {l:List Nat} (hn:l.Nodup) {i s:Nat} (h:l[i]? = some s) (m:Nat):(l.take m).count s = if i < m then 1 else 0:=by
 obtain ⟨hi,hs⟩:=List.getElem?_eq_some_iff.1 h
 by_cases hm:i < m
 ·rw [if_pos hm]
  have h1:s ∈ l.take m:=List.mem_of_getElem? (i:=i) (by rw [List.getElem?_take_of_lt hm];exact h)
  have h2:=(List.nodup_iff_count.1 ((List.take_sublist m l).nodup hn) s)
  have h3:=List.count_pos_iff.2 h1
  omega
 ·rw [if_neg hm,List.count_eq_zero]
  intro h1
  obtain ⟨j,hj⟩:=List.mem_iff_getElem?.1 h1
  have hjm:j < m:=by
   have:=(List.getElem?_eq_some_iff.1 hj).1
   rw [List.length_take] at this
   omega
  rw [List.getElem?_take_of_lt hjm] at hj
  have:=(List.getElem?_inj hi hn).1 (h.trans hj.symm)
  omega
theorem rowW_enough (first:List WE):∀ k,2 * first.length * 2 ^ k + 1 ≤ (rowW first k).length * 2 ^ k + first.length + 2 ^ k
 | 0 => by show 2 * first.length * 1 + 1 ≤ first.length * 1 + first.length + 1;omega
 | k + 1 => by
  have ih:=rowW_enough first k
  rw [rowW,mgW_len,prW_len,Nat.pow_succ]
  have hp:=Nat.two_pow_pos k
  generalize (rowW first k).length = r at ih ⊢
  generalize 2 ^ k = q at ih hp ⊢
  generalize first.length = n at ih ⊢
  have h1:r * q ≤ (2 * (r / 2) + 1) * q:=Nat.mul_le_mul_right _ (by omega)
  rw [Nat.add_mul,Nat.one_mul] at h1
  have e1:(n + r / 2) * (q * 2) = 2 * n * q + 2 * (r / 2) * q:=by
   rw [Nat.mul_comm q 2,← Nat.mul_assoc,Nat.add_mul,Nat.add_mul,Nat.mul_comm n 2,Nat.mul_comm (r / 2) 2]
  have e2:2 * n * (q * 2) = 2 * n * q + 2 * n * q:=by
   rw [← Nat.mul_assoc]
   omega
  omega
theorem row14 {first:List WE} (h:first.length ≤ 16384):2 * first.length - 2 ≤ (rowW first 14).length:=by
 have h1:=rowW_enough first 14
 omega
structure Good (its:List (Nat × Nat)):Prop where
 rise:RiseW (firstW its)
 nodup:(its.map (·.2)).Nodup
 two:2 ≤ its.length
 few:its.length ≤ 16384
section
variable {its:List (Nat × Nat)}
theorem Good.sets (h:Good its):∃ m:Nat→Nat,Chosen (firstW its) 14 (2 * its.length - 2) m:=chosen h.rise 14 _ (by have:=row14 (first:=firstW its) (by rw [firstW_len];exact h.few);rwa [firstW_len] at this)
theorem ln_count {m:Nat→Nat} (h:Chosen (firstW its) 14 (2 * its.length - 2) m) (s:Nat):lnW its s = sumN (fun j => ((its.take (m j)).map (·.2)).count s) 15:=by
 rw [lnW,symsW,h.count]
 refine sumN_congr fun j _ => ?_
 rw [firstW_take,firstW_syms]
theorem ln_at (hg:Good its) {m:Nat→Nat} (h:Chosen (firstW its) 14 (2 * its.length - 2) m) {i:Nat} {x:Nat × Nat} (hx:its[i]? = some x):lnW its x.2 ≤ 15∧lnW its x.2 = sumN (fun j => if i < m j then 1 else 0) 15∧∀ j,j < 15→(i < m j ↔ 15 - lnW its x.2 ≤ j):=by
 have e:lnW its x.2 = sumN (fun j => if i < m j then 1 else 0) 15:=by
  rw [ln_count h]
  refine sumN_congr fun j _ => ?_
  rw [List.map_take]
  exact count_take hg.nodup (by rw [List.getElem?_map,hx];rfl) _
 have:=up_count (fun j => i < m j) 15 (fun j hj hi => Nat.lt_of_lt_of_le hi (h.up j (by omega)))
 rw [← e] at this
 exact ⟨this.1,e,this.2⟩
theorem ln_set (hg:Good its) {m:Nat→Nat} (h:Chosen (firstW its) 14 (2 * its.length - 2) m) {j:Nat} (hj:j < 15):its.filter (fun x => decide (15 - j ≤ lnW its x.2)) = its.take (m j) :=
 filter_take _ its (m j) fun i x hx => by
  rw [decide_eq_true_iff]
  have h1:=(ln_at hg h hx).2.2 j hj
  have h2:=(ln_at hg h hx).1
  rw [h1]
  omega
theorem ln_le (hg:Good its) {x:Nat × Nat} (hx:x ∈ its):lnW its x.2 ≤ 15:=by
 obtain ⟨m,h⟩:=hg.sets
 obtain ⟨i,hi⟩:=List.mem_iff_getElem?.1 hx
 exact (ln_at hg h hi).1
theorem ln_kraft (hg:Good its):(its.map fun x => 2 ^ (15 - lnW its x.2)).sum = 2 ^ 15:=by
 obtain ⟨m,h⟩:=hg.sets
 have h1:=kraft_sum (fun x => lnW its x.2) its (fun x hx => ln_le hg hx)
 have h2:sumN (fun j => (its.filter fun x => decide (15 - j ≤ lnW its x.2)).length * 2 ^ j) 15 = (2 * its.length - 2) * 2 ^ 14:=by
  rw [← h.width]
  refine sumN_congr fun j hj => ?_
  rw [ln_set hg h hj,List.length_take,Nat.min_eq_left]
  have:=h.le j (by omega)
  rwa [firstW_len] at this
 rw [h2] at h1
 have:=hg.two
 omega
theorem sum_mem {α:Type} (f:α→Nat):∀ (l:List α) (x:α),x ∈ l→f x + (l.length - 1) * 1 ≤ (l.map f).sum + (l.filter fun y => f y = 0).length
 | [],x,h => by simp at h
 | y :: l,x,h => by
  rw [List.map_cons,List.sum_cons,List.length_cons,List.filter_cons]
  by_cases hy:x = y
  ·subst hy
   have h2:∀ l:List α,l.length ≤ (l.map f).sum + (l.filter fun y => f y = 0).length:=by
    intro l
    induction l with
    | nil => exact Nat.le_refl _
    | cons z l ih =>
     rw [List.map_cons,List.sum_cons,List.length_cons,List.filter_cons]
     by_cases hz:f z = 0
     ·rw [if_pos (by simpa using hz),List.length_cons];omega
     ·rw [if_neg (by simpa using hz)];omega
   have:=h2 l
   by_cases hz:f x = 0
   ·rw [if_pos (by simpa using hz),List.length_cons];omega
   ·rw [if_neg (by simpa using hz)];omega
  ·have hm:x ∈ l:=by
    rcases List.mem_cons.1 h with h | h
    ·exact absurd h hy
    ·exact h
   have ih:=sum_mem f l x hm
   have hp:=List.length_pos_of_mem hm
   by_cases hz:f y = 0
   ·rw [if_pos (by simpa using hz),List.length_cons];omega
   ·rw [if_neg (by simpa using hz)];omega
theorem ln_pos (hg:Good its) {x:Nat × Nat} (hx:x ∈ its):1 ≤ lnW its x.2:=by
 rcases Nat.eq_zero_or_pos (lnW its x.2) with h | h
 ·have h1:=sum_mem (fun x => 2 ^ (15 - lnW its x.2)) its x hx
  rw [ln_kraft hg,h] at h1
  have h2:(its.filter fun y => 2 ^ (15 - lnW its y.2) = 0) = []:=by
   rw [List.filter_eq_nil_iff]
   intro y _
   have:=Nat.two_pow_pos (15 - lnW its y.2)
   simp
  rw [h2] at h1
  have:=hg.two
  simp only [List.length_nil] at h1
  omega
 ·exact h
theorem ln_none {s:Nat} (hg:Good its) (hs:s ∉ its.map (·.2)):lnW its s = 0:=by
 obtain ⟨m,h⟩:=hg.sets
 rw [ln_count h]
 rw [← sumN_zero 15]
 refine sumN_congr fun j _ => ?_
 rw [List.count_eq_zero]
 intro h1
 rw [List.map_take] at h1
 exact hs (List.mem_of_mem_take h1)
end
end Go.Proofs.YtaknladkodibaaaGreatDoor
namespace Go.Proofs.YtaknladkodibaaaGreatDoor
open Go.RowKit BitsP
end Go.Proofs.YtaknladkodibaaaGreatDoor
