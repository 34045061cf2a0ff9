/- Layer 9, plainly: a table's bits. -/
import Derived.Test.YtaknladkodibaaaGreatDoorMgQ33805
import Derived.Test.YtaknladkodibaaaGreatDoorMgQ33845
import Derived.Test.YtaknladkodibaaaGreatDoorMgQ33831
import Derived.Test.YtaknladkodibaaaGreatDoorMgQ33800
import Derived.Test.YtaknladkodibaaaGreatDoorMgQ33808
import Derived.Test.YtaknladkodibaaaGreatDoorMgQ33829
namespace Go.Proofs.YtaknladkodibaaaGreatDoor
open BitsP
def oftP (ps:List (Nat × Nat)):List Nat:=incW (List.replicate 19 0) (ps.map (·.1))
theorem oftP_len (ps:List (Nat × Nat)):(oftP ps).length = 19:=by rw [oftP,incW_len,List.length_replicate]
theorem oftP_snoc (ps:List (Nat × Nat)) (t:Nat × Nat):oftP (ps++[t]) = (oftP ps).set t.1 ((oftP ps).getD t.1 0 + 1):=by
 unfold oftP
 rw [List.map_append,incW_append]
 rfl
theorem oftP_getD (ps:List (Nat × Nat)) {s:Nat} (h:s < 19):(oftP ps).getD s 0 = (ps.map (·.1)).count s:=by
 rw [oftP,incW_getD _ _ _ (by rw [List.length_replicate];exact h)]
 have h0:(List.replicate 19 0).getD s 0 = 0:=by rw [List.getD,List.getElem?_replicate,if_pos h];rfl
 omega
theorem oftP_le (ps:List (Nat × Nat)):∀ n ∈ oftP ps,n ≤ ps.length:=fun n hn => by
 obtain ⟨s,hs⟩:=List.mem_iff_getElem?.1 hn
 have h19:s < 19:=by have:=(List.getElem?_eq_some_iff.1 hs).1;rw [oftP_len] at this;exact this
 have h1:=oftP_getD ps h19
 rw [List.getD,hs] at h1
 have h2:=List.count_le_length (a:=s) (l:=ps.map (·.1))
 rw [List.length_map] at h2
 show n ≤ _
 have:n = (ps.map (·.1)).count s:=h1
 omega
theorem oftP_pos {ps:List (Nat × Nat)} {t:Nat × Nat} (h:t ∈ ps) (h19:t.1 < 19):∃ x,(oftP ps)[t.1]? = some x∧0 < x:=by
 have hs:t.1 < (oftP ps).length:=by rw [oftP_len];exact h19
 refine ⟨_,List.getElem?_eq_getElem hs,?_⟩
 have h1:=oftP_getD ps h19
 have h2:0 < (ps.map (·.1)).count t.1:=List.count_pos_iff.2 (List.mem_map_of_mem h)
 rw [List.getD,List.getElem?_eq_getElem hs] at h1
 have h3:(oftP ps)[t.1] = (ps.map (·.1)).count t.1:=h1
 omega
def lnP (ps:List (Nat × Nat)):List Nat:=lensW (oftP ps)
theorem lnP_len (ps:List (Nat × Nat)):(lnP ps).length = 19:=by rw [lnP,lensW_len,oftP_len]
theorem zN_sum (ns:List Nat):(zN ns).sum = ((ns.sum:Nat):Int):=by
 induction ns with
 | nil => rfl
 | cons n ns ih =>
  rw [zN] at ih ⊢
  rw [List.map_cons,List.sum_cons,List.sum_cons,ih]
  push_cast
  rfl
theorem sum_set_one:∀ (n s:Nat),s < n→((List.replicate n 0).set s 1).sum = 1
 | 0,s,h => by omega
 | n + 1,0,_ => by simp [List.replicate_succ]
 | n + 1,s + 1,h => by
  rw [List.replicate_succ,List.set_cons_succ,List.sum_cons,sum_set_one n s (by omega)]
theorem lnP_right {ps:List (Nat × Nat)} {t:Nat × Nat} (h:t ∈ ps) (h19:t.1 < 19):caR (zN (lnP ps)) = true:=by
 obtain ⟨x,hx,h0⟩:=oftP_pos h h19
 have hl:(oftP ps).length ≤ 16384:=by rw [oftP_len];omega
 have h1:(zN (lnP ps)).all lenB = true:=List.all_eq_true.2 (lensW_right hl)
 rw [caR,zN_len,lnP_len,h1]
 simp only [Bool.and_true,Bool.and_eq_true,decide_eq_true_eq,Bool.or_eq_true]
 refine ⟨by omega,?_⟩
 rcases items_cases (oftP ps) with hi | ⟨x0,s0,hi⟩ | hi
 ·have:=itemsW_has hx h0
  rw [hi] at this
  cases this
 ·refine .inr ?_
  rw [zN_sum,lnP,lensW_one hi,sum_set_one _ _ ?_]
  ·rfl
  ·obtain ⟨h2,_,_⟩:=itemsW_mem (ns:=oftP ps) (x:=(x0,s0)) (by rw [hi];simp)
   exact (List.getElem?_eq_some_iff.1 h2).1
 ·exact .inl ((lensW_kraft hl).2 hi)
theorem lnP_pos {ps:List (Nat × Nat)} {t:Nat × Nat} (h:t ∈ ps) (h19:t.1 < 19):∃ n,(lnP ps)[t.1]? = some n∧1 ≤ n∧n ≤ 15:=by
 obtain ⟨x,hx,h0⟩:=oftP_pos h h19
 have hl:(oftP ps).length ≤ 16384:=by rw [oftP_len];omega
 obtain ⟨h1,h2⟩:=lensW_pos hl hx
 have h3:=h1.2 h0
 have hs:t.1 < (lnP ps).length:=by rw [lnP_len];exact h19
 have e:(lnP ps).getD t.1 0 = (lnP ps)[t.1]:=by rw [List.getD,List.getElem?_eq_getElem hs];rfl
 have e2:(lnP ps)[t.1] = (lensW (oftP ps)).getD t.1 0:=e.symm
 exact ⟨_,List.getElem?_eq_getElem hs,by omega,by omega⟩
def lensB (ns:List Nat):List Bool:=ns.flatMap fun n => bitsOf n 4
def partB (zs:List Int) (t:Nat × Nat):List Bool:=symB zs (t.1:Int)++bitsOf (t.2 - (spanP t.1).1) (spanP t.1).2
def partsB (zs:List Int) (ps:List (Nat × Nat)):List Bool:=ps.flatMap (partB zs)
def tabP (ls:List Nat):List Bool:=bitsOf ls.length 9++lensB (lnP (partsP ls 0))++partsB (zN (lnP (partsP ls 0))) (partsP ls 0)
theorem lensB_up {ns:List Nat} {k n:Nat} (h:ns[k]? = some n):lensB (ns.take (k + 1)) = lensB (ns.take k)++bitsOf n 4:=by
 rw [List.take_add_one,h]
 simp [lensB]
theorem lensB_len (ns:List Nat):(lensB ns).length = 4 * ns.length:=by
 induction ns with
 | nil => rfl
 | cons n ns ih =>
  show (bitsOf n 4++lensB ns).length = _
  rw [List.length_append,ih,bitsOf_length,List.length_cons]
  omega
theorem partsB_snoc (zs:List Int) (ps:List (Nat × Nat)) (t:Nat × Nat):partsB zs (ps++[t]) = partsB zs ps++partB zs t:=by simp [partsB]
theorem symB_len {zs:List Int} (hr:caR zs = true) (s:Int):(symB zs s).length ≤ 15:=by
 rcases lenAt_cases hr s with ⟨_,_,h⟩ | ⟨t,n,v,k,_,hy,_,_,h,_⟩
 ·rw [h];exact Nat.zero_le _
 ·rw [h,codeB_len];exact hy.few
theorem partB_len {zs:List Int} (hr:caR zs = true) (t:Nat × Nat):(partB zs t).length ≤ 22:=by
 have h1:=symB_len hr (t.1:Int)
 have h2:=(spanP_le t.1).2.2
 unfold partB
 rw [List.length_append,bitsOf_length]
 omega
theorem partsB_len {zs:List Int} (hr:caR zs = true) (ps:List (Nat × Nat)):(partsB zs ps).length ≤ 22 * ps.length:=by
 induction ps with
 | nil => exact Nat.zero_le _
 | cons t ps ih =>
  have h1:=partB_len hr t
  show (partB zs t++partsB zs ps).length ≤ _
  rw [List.length_append,List.length_cons]
  omega
theorem partsP_num (ls:List Nat) (hv:∀ x ∈ ls,x ≤ 15):∀ k p,ls.length - p ≤ k→∀ t ∈ partsP ls p,t.1 < 19
 | 0,p,h,t,ht => by rw [partsP_end (by omega)] at ht;cases ht
 | k + 1,p,h,t,ht => by
  by_cases hp:p < ls.length
  ·have h1:=manyP_pos hp
   have h2:=numP_le hv p
   rw [partsP_step hp] at ht
   rcases List.mem_cons.1 ht with rfl | ht
   ·show numP ls p < 19
    omega
   ·exact partsP_num ls hv k _ (by omega) t ht
  ·rw [partsP_end hp] at ht
   cases ht
theorem partsP_all {ls:List Nat} (hv:∀ x ∈ ls,x ≤ 15):∀ t ∈ partsP ls 0,t.1 < 19:=partsP_num ls hv ls.length 0 (by omega)
theorem partsP_ne {ls:List Nat} (h:0 < ls.length):∃ t,t ∈ partsP ls 0:=by
 rw [partsP_step h]
 exact ⟨_,List.mem_cons_self⟩
end Go.Proofs.YtaknladkodibaaaGreatDoor
namespace Go.Proofs.YtaknladkodibaaaGreatDoor
open BitsP SymP
def okT (t:Tk):Prop:=(t.2.1 = 0∧t.2.2 = 0) ∨ (3 ≤ t.2.1∧t.2.1 ≤ 258∧1 ≤ t.2.2∧t.2.2 ≤ 32768∧t.1 = 0)
def isM (t:Tk):Bool:=decide (t.2.1 ≠ 0)
def cls1 (t:Tk):Nat × Nat × Nat:=if t.2.1 = 0 then (t.1.toNat,0,0) else (classC (t.2.1 - 3) + 257,bitsC (classC (t.2.1 - 3)),(t.2.1 - 3) % 2 ^ bitsC (classC (t.2.1 - 3)))
def cls2 (t:Tk):Nat × Nat × Nat:=if t.2.1 = 0 then (0,0,0) else (classC (t.2.2 - 1),bitsC (classC (t.2.2 - 1)),(t.2.2 - 1) % 2 ^ bitsC (classC (t.2.2 - 1)))
theorem cls1_lt {t:Tk} (h:okT t):(cls1 t).1 < 273∧(cls1 t).2.1 ≤ 13∧(cls1 t).2.2 < 2 ^ (cls1 t).2.1:=by
 unfold cls1
 rcases h with ⟨h1,h2⟩ | ⟨h1,h2,h3,h4,_⟩
 ·rw [if_pos h1]
  have:=t.1.toNat_lt
  exact ⟨by dsimp only;omega,Nat.zero_le _,by show 0 < 2 ^ 0;decide⟩
 ·rw [if_neg (by omega)]
  have hc:=(class_is (t.2.1 - 3) (by omega)).1
  have hm:=class_mono (v:=t.2.1 - 3) (w:=255) (by omega) (by omega)
  have h255:classC 255 = 15:=by decide
  exact ⟨by dsimp only;omega,bitsC_le _ hc,Nat.mod_lt _ (Nat.two_pow_pos _)⟩
theorem cls2_lt {t:Tk} (h:okT t):(cls2 t).1 < 30∧(cls2 t).2.1 ≤ 13∧(cls2 t).2.2 < 2 ^ (cls2 t).2.1:=by
 unfold cls2
 rcases h with ⟨h1,h2⟩ | ⟨h1,h2,h3,h4,_⟩
 ·rw [if_pos h1]
  exact ⟨by show 0 < 30;decide,Nat.zero_le _,by show 0 < 2 ^ 0;decide⟩
 ·rw [if_neg (by omega)]
  have hc:=(class_is (t.2.2 - 1) (by omega)).1
  exact ⟨hc,bitsC_le _ hc,Nat.mod_lt _ (Nat.two_pow_pos _)⟩
def mts (ts:List Tk):List Nat:=(ts.filter isM).map fun t => (cls2 t).1
def fsts (ts:List Tk):List Nat:=ts.map fun t => (cls1 t).1
theorem mts_snoc (ts:List Tk) (t:Tk):mts (ts++[t]) = if isM t then mts ts++[(cls2 t).1] else mts ts:=by
 unfold mts
 rw [List.filter_append]
 cases h:isM t <;> simp [h]
theorem fsts_snoc (ts:List Tk) (t:Tk):fsts (ts++[t]) = fsts ts++[(cls1 t).1]:=by simp [fsts]
theorem fsts_len (ts:List Tk):(fsts ts).length = ts.length:=by rw [fsts,List.length_map]
theorem mts_len (ts:List Tk):(mts ts).length ≤ ts.length:=by
 unfold mts
 rw [List.length_map]
 exact List.length_filter_le _ _
def wt1 (ts:List Tk):List Nat:=incW (List.replicate 273 0) (fsts ts++[256])
def wt2 (ts:List Tk):List Nat:=incW (List.replicate 30 0) (if mts ts = [] then [0] else mts ts)
theorem wt1_len (ts:List Tk):(wt1 ts).length = 273:=by rw [wt1,incW_len,List.length_replicate]
theorem wt2_len (ts:List Tk):(wt2 ts).length = 30:=by rw [wt2,incW_len,List.length_replicate]
theorem incW_at (n:Nat) (ss:List Nat) {s:Nat} (h:s < n):(incW (List.replicate n 0) ss)[s]? = some (ss.count s):=by
 have hl:(incW (List.replicate n 0) ss).length = n:=by rw [incW_len,List.length_replicate]
 have h1:=incW_getD ss (List.replicate n 0) s (by rw [List.length_replicate];exact h)
 rw [List.getD,List.getElem?_eq_getElem (by rw [hl];exact h)] at h1
 rw [List.getElem?_eq_getElem (by rw [hl];exact h)]
 have h0:(List.replicate n 0).getD s 0 = 0:=by rw [List.getD,List.getElem?_replicate,if_pos h];rfl
 rw [h0] at h1
 congr 1
 have h2:(incW (List.replicate n 0) ss)[s] = 0 + ss.count s:=h1
 omega
theorem incW_le (n:Nat) (ss:List Nat):∀ x ∈ incW (List.replicate n 0) ss,x ≤ ss.length:=fun x hx => by
 obtain ⟨s,hs⟩:=List.mem_iff_getElem?.1 hx
 have hsn:s < n:=by have:=(List.getElem?_eq_some_iff.1 hs).1;rw [incW_len,List.length_replicate] at this;exact this
 rw [incW_at n ss hsn] at hs
 cases hs
 exact List.count_le_length
theorem lensW_caR {ws:List Nat} (hl:ws.length ≤ 320) {s x:Nat} (hx:ws[s]? = some x) (h0:0 < x):caR (zN (lensW ws)) = true:=by
 have hl2:ws.length ≤ 16384:=by omega
 have hs:=(List.getElem?_eq_some_iff.1 hx).1
 have h1:(zN (lensW ws)).all lenB = true:=List.all_eq_true.2 (lensW_right hl2)
 rw [caR,zN_len,lensW_len,h1]
 simp only [Bool.and_true,Bool.and_eq_true,decide_eq_true_eq,Bool.or_eq_true]
 refine ⟨by omega,?_⟩
 rcases items_cases ws with hi | ⟨x0,s0,hi⟩ | hi
 ·have:=itemsW_has hx h0
  rw [hi] at this
  cases this
 ·refine .inr ?_
  rw [zN_sum,lensW_one hi,sum_set_one _ _ ?_]
  ·rfl
  ·obtain ⟨h2,_,_⟩:=itemsW_mem (ns:=ws) (x:=(x0,s0)) (by rw [hi];simp)
   exact (List.getElem?_eq_some_iff.1 h2).1
 ·exact .inl ((lensW_kraft hl2).2 hi)
theorem lensW_sym {ws:List Nat} (hl:ws.length ≤ 320) {s x:Nat} (hx:ws[s]? = some x) (h0:0 < x):∃ n v k,Sym (zN (lensW ws)) s n v k∧(lensW ws)[s]? = some n∧symB (zN (lensW ws)) (s:Int) = codeB v n∧v < 32768∧n ≤ 15:=by
 have hr:=lensW_caR hl hx h0
 have hl2:ws.length ≤ 16384:=by omega
 have hs:=(List.getElem?_eq_some_iff.1 hx).1
 obtain ⟨h1,h2⟩:=lensW_pos hl2 hx
 have h3:=h1.2 h0
 obtain ⟨n0,hn0⟩:∃ n0,(lensW ws)[s]? = some n0:=⟨_,List.getElem?_eq_getElem (by rw [lensW_len];exact hs)⟩
 rw [List.getD,hn0] at h2 h3
 have h2':n0 ≤ 15:=h2
 have h3':0 < n0:=h3
 have hz:(zN (lensW ws))[s]? = some (n0:Int):=by rw [zN,List.getElem?_map,hn0];rfl
 rcases lenAt_cases hr (s:Int) with ⟨e1,_,_⟩ | ⟨s',n,v,k,hs',hy,_,_,e3,hv⟩
 ·rw [lenAt,if_pos (Int.natCast_nonneg _),Int.toNat_natCast,getD_of hz] at e1
  omega
 ·obtain rfl:s' = s:=by omega
  have h4:=Option.some.inj (hz.symm.trans hy.len)
  obtain rfl:n0 = n:=by omega
  exact ⟨n0,v,k,hy,hn0,e3,Nat.lt_of_lt_of_le hv (Nat.le_trans (Nat.pow_le_pow_right (by decide) h2') (by decide)),h2'⟩
def clsB (zs:List Int) (c:Nat × Nat × Nat):List Bool:=symB zs (c.1:Int)++bitsOf c.2.2 c.2.1
def tokB (z1 z2:List Int) (t:Tk):List Bool:=clsB z1 (cls1 t)++(if isM t then clsB z2 (cls2 t) else [])
def toksB (z1 z2:List Int) (ts:List Tk):List Bool:=ts.flatMap (tokB z1 z2)
def blkB (ts:List Tk):List Bool:=tabP (lensW (wt1 ts))++tabP (lensW (wt2 ts))++toksB (zN (lensW (wt1 ts))) (zN (lensW (wt2 ts))) ts++symB (zN (lensW (wt1 ts))) 256
theorem toksB_snoc (z1 z2:List Int) (ts:List Tk) (t:Tk):toksB z1 z2 (ts++[t]) = toksB z1 z2 ts++tokB z1 z2 t:=by simp [toksB]
theorem wt1_end (ts:List Tk):∃ x:Nat,(wt1 ts)[256]? = some x∧0 < x:=⟨_,incW_at 273 _ (by decide),List.count_pos_iff.2 (by simp)⟩
theorem wt2_some (ts:List Tk) (h:∀ t ∈ ts,okT t):∃ s x:Nat,(wt2 ts)[s]? = some x∧0 < x:=by
 unfold wt2
 by_cases hm:mts ts = []
 ·rw [if_pos hm]
  exact ⟨0,_,incW_at 30 _ (by decide),List.count_pos_iff.2 (by simp)⟩
 ·rw [if_neg hm]
  obtain ⟨s,hs⟩:=List.exists_mem_of_ne_nil _ hm
  have h30:s < 30:=by
   obtain ⟨t,ht,rfl⟩:=List.mem_map.1 hs
   exact (cls2_lt (h t ((List.mem_filter.1 ht).1))).1
  exact ⟨s,_,incW_at 30 _ h30,List.count_pos_iff.2 hs⟩
theorem wt1_has {ts:List Tk} {t:Tk} (h:t ∈ ts) (hk:okT t):∃ x,(wt1 ts)[(cls1 t).1]? = some x∧0 < x :=
 ⟨_,incW_at 273 _ (cls1_lt hk).1,List.count_pos_iff.2 (List.mem_append_left _ (List.mem_map_of_mem (f:=fun t => (cls1 t).1) h))⟩
theorem wt2_has {ts:List Tk} {t:Tk} (h:t ∈ ts) (hk:okT t) (hm:isM t = true):∃ x,(wt2 ts)[(cls2 t).1]? = some x∧0 < x:=by
 have hin:(cls2 t).1 ∈ mts ts:=List.mem_map_of_mem (f:=fun t => (cls2 t).1) (List.mem_filter.2 ⟨h,hm⟩)
 have hne:mts ts ≠ []:=fun e => by rw [e] at hin;cases hin
 unfold wt2
 rw [if_neg hne]
 exact ⟨_,incW_at 30 _ (cls2_lt hk).1,List.count_pos_iff.2 hin⟩
def wdF (zr s:Nat):Nat:=if zr ≤ s∧s - zr < 30 then bitsC (s - zr) else 0
theorem wdF_le (zr s:Nat):wdF zr s ≤ 13:=by
 unfold wdF
 split
 ·rename_i h;exact bitsC_le _ h.2
 ·omega
section
variable (F:List Int→List Bool→Int × Int × Nat)
def clsF (zs:List Int) (zr:Nat) (L:List Bool) (p:Nat):Int × (Nat × Nat × Nat) × Nat :=
 if (F zs (L.drop p)).2.1 ≠ 0 then ((F zs (L.drop p)).2.1,(0,0,0),0)
 else if L.length < p + (F zs (L.drop p)).2.2 + wdF zr (F zs (L.drop p)).1.toNat then (2,(0,0,0),0)
 else (0,((F zs (L.drop p)).1.toNat,wdF zr (F zs (L.drop p)).1.toNat,numA L (p + (F zs (L.drop p)).2.2) (wdF zr (F zs (L.drop p)).1.toNat)),(F zs (L.drop p)).2.2 + wdF zr (F zs (L.drop p)).1.toNat)
def blkL (z1 z2:List Int) (L:List Bool) (most:Int):Nat→List Tk→Nat→Nat→Int × List Tk × Nat
 | 0,_,_,_ => (2,[],0)
 | k + 1,ts,size,p =>
  if (clsF F z1 257 L p).1 ≠ 0 then ((clsF F z1 257 L p).1,[],0)
  else if (clsF F z1 257 L p).2.1.1 = 256 then (0,ts,p + (clsF F z1 257 L p).2.2)
  else if 256 < (clsF F z1 257 L p).2.1.1∧(clsF F z2 0 L (p + (clsF F z1 257 L p).2.2)).1 ≠ 0 then ((clsF F z2 0 L (p + (clsF F z1 257 L p).2.2)).1,[],0)
  else
   match (if 256 < (clsF F z1 257 L p).2.1.1 then
     joinR ((clsF F z1 257 L p).2.1.1:Nat) ((clsF F z1 257 L p).2.1.2.1:Nat) (clsF F z1 257 L p).2.1.2.2 ((clsF F z2 0 L (p + (clsF F z1 257 L p).2.2)).2.1.1:Nat) ((clsF F z2 0 L (p + (clsF F z1 257 L p).2.2)).2.1.2.1:Nat) (clsF F z2 0 L (p + (clsF F z1 257 L p).2.2)).2.1.2.2 true
    else joinR ((clsF F z1 257 L p).2.1.1:Nat) ((clsF F z1 257 L p).2.1.2.1:Nat) (clsF F z1 257 L p).2.1.2.2 0 0 0 false) with
   | none => (3,[],0)
   | some (y,l,d) =>
    if size < d then (3,[],0)
    else if most - (size:Int) < (max l 1:Nat) then (5,[],0)
    else blkL z1 z2 L most k (ts++[(UInt8.ofNat y,l,d)]) (size + max l 1) (p + (clsF F z1 257 L p).2.2 + (if 256 < (clsF F z1 257 L p).2.1.1 then (clsF F z2 0 L (p + (clsF F z1 257 L p).2.2)).2.2 else 0))
def blkF (L:List Bool) (p:Nat) (most:Int):Int × List Tk × Nat :=
 if (tkF F L p).1 ≠ 0 then ((tkF F L p).1,[],0)
 else if (tkF F L (tkF F L p).2.2).1 ≠ 0 then ((tkF F L (tkF F L p).2.2).1,[],0)
 else if (tkF F L p).2.1.length ≠ 273 ∨ (tkF F L (tkF F L p).2.2).2.1.length ≠ 30 then (3,[],0)
 else if caR ((tkF F L p).2.1.map fun n:Nat => (n:Int)) = false ∨ caR ((tkF F L (tkF F L p).2.2).2.1.map fun n:Nat => (n:Int)) = false then (13,[],0)
 else blkL F ((tkF F L p).2.1.map fun n:Nat => (n:Int)) ((tkF F L (tkF F L p).2.2).2.1.map fun n:Nat => (n:Int)) L most (L.length + 1 - (tkF F L (tkF F L p).2.2).2.2) [] 0 (tkF F L (tkF F L p).2.2).2.2
end
end Go.Proofs.YtaknladkodibaaaGreatDoor
namespace Go.Proofs.YtaknladkodibaaaGreatDoor
open BitsP
theorem lnP_sym {ps:List (Nat × Nat)} {t:Nat × Nat} (h:t ∈ ps) (h19:t.1 < 19):∃ n v k,Sym (zN (lnP ps)) t.1 n v k∧(lnP ps)[t.1]? = some n∧symB (zN (lnP ps)) (t.1:Int) = codeB v n∧v < 32768∧n ≤ 15:=by
 have hr:=lnP_right h h19
 obtain ⟨n0,hn0,h1,h2⟩:=lnP_pos h h19
 have hz:(zN (lnP ps))[t.1]? = some (n0:Int):=by rw [zN,List.getElem?_map,hn0];rfl
 rcases lenAt_cases hr (t.1:Int) with ⟨e1,_,_⟩ | ⟨s,n,v,k,hs,hy,_,_,e3,hv⟩
 ·rw [lenAt,if_pos (Int.natCast_nonneg _),Int.toNat_natCast,getD_of hz] at e1
  omega
 ·obtain rfl:s = t.1:=by omega
  have h3:=Option.some.inj (hz.symm.trans hy.len)
  obtain rfl:n0 = n:=by omega
  exact ⟨n0,v,k,hy,hn0,e3,Nat.lt_of_lt_of_le hv (Nat.le_trans (Nat.pow_le_pow_right (by decide) h2) (by decide)),h2⟩
theorem isMax_ex : ∀ {zs : List Int}, zs ≠ [] → ∃ m, isMax zs m
  | [], h => absurd rfl h
  | [z], _ => ⟨z, fun n hn => by obtain rfl : n = z := by simpa using hn
                                 exact Int.le_refl _, by simp⟩
  | z :: y :: zs, _ => by
    obtain ⟨m, h1, h2⟩ := isMax_ex (zs := y :: zs) (by simp)
    by_cases h : m ≤ z
    · exact ⟨z, fun n hn => by
        rcases List.mem_cons.1 hn with rfl | hn
        · exact Int.le_refl _
        · exact Int.le_trans (h1 n hn) h, List.mem_cons_self⟩
    · exact ⟨m, fun n hn => by
        rcases List.mem_cons.1 hn with rfl | hn
        · omega
        · exact h1 n hn, List.mem_cons_of_mem _ h2⟩
theorem caR_max {zs:List Int} (hr:caR zs = true):∃ m:Nat,isMax zs (m:Int):=by
 have h0:zs ≠ []:=by
  rintro rfl
  have h:=(caR_len hr).1
  have h2:caR [] = false:=by decide
  rw [h2] at hr
  cases hr
 obtain ⟨m,hm⟩:=isMax_ex h0
 obtain ⟨n,rfl,_⟩:=lc_max hr hm
 exact ⟨n,hm⟩
end Go.Proofs.YtaknladkodibaaaGreatDoor
