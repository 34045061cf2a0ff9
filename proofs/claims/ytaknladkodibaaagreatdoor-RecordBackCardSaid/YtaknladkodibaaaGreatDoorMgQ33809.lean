/- What a call may change, as a set of blocks: whatever else there was is as it was. -/
import Derived.Test.YtaknladkodibaaaGreatDoorMgQ33808
import Derived.Deep.Draws
import Derived.Lib.AppendZerosOnto
namespace Go.Proofs.YtaknladkodibaaaGreatDoor
open Go.RowKit
structure Mod (S:Nat→Prop) (w w':World):Prop where
 os:w'.os = w.os
 tape:w'.tape = w.tape
 output:w'.output = w.output
 size:w.heap.size ≤ w'.heap.size
 block:∀ k,k < w.heap.size→¬ S k→w'.heap[k]? = w.heap[k]?
theorem Below.drewN {B:Nat} {a w:World} (h:Below B a w) (n:Nat):Below B a (w.drewN n):=⟨h.os,h.tape,h.output,h.size,h.block⟩
def noB:Nat→Prop:=fun _ => False
def oneB (g:Nat):Nat→Prop:=fun k => k = g
def ownS (v:Value):Nat→Prop:=fun k => v.ownBlock = some k
def orS (S T:Nat→Prop):Nat→Prop:=fun k => S k ∨ T k
section
variable {S S1 S2 T:Nat→Prop} {w w1 w2:World}
theorem Mod.refl (S:Nat→Prop) (w:World):Mod S w w:=⟨rfl,rfl,rfl,Nat.le_refl _,fun _ _ _ => rfl⟩
theorem Mod.trans (h:Mod S w w1) (k:Mod S1 w1 w2) (hS:∀ k,S1 k→S k ∨ w.heap.size ≤ k):Mod S w w2 :=
 ⟨k.os.trans h.os,k.tape.trans h.tape,k.output.trans h.output,Nat.le_trans h.size k.size,fun j hj hn => by
  have:=h.size
  refine (k.block j (by omega) fun h1 => ?_).trans (h.block j hj hn)
  rcases hS j h1 with h2 | h2
  ·exact hn h2
  ·omega⟩
theorem Mod.mono (h:Mod S w w1) (hS:∀ k,S k→T k):Mod T w w1:=⟨h.os,h.tape,h.output,h.size,fun k hk hn => h.block k hk fun hs => hn (hS k hs)⟩
theorem Mod.fresh (h:Mod S w w1) (hS:∀ k,S k→T k ∨ w.heap.size ≤ k):Mod T w w1:=(Mod.refl T w).trans h hS
theorem Mod.then_ (h:Mod S w w1) (k:Mod S w1 w2):Mod S w w2:=h.trans k fun _ hk => .inl hk
theorem Mod.drew (h:Mod S w w1):Mod S w w1.drew:=⟨h.os,h.tape,h.output,h.size,h.block⟩
theorem Mod.drewN (h:Mod S w w1) (n:Nat):Mod S w (w1.drewN n):=⟨h.os,h.tape,h.output,h.size,h.block⟩
theorem Mod.alloc (h:Mod S w w1) (o:Obj):Mod S w (w1.alloc o) :=
 ⟨h.os,h.tape,h.output,Nat.le_trans h.size (by simp),fun k hk hn => (Below.heap_alloc w1 o k (Nat.lt_of_lt_of_le hk h.size)).trans (h.block k hk hn)⟩
theorem Mod.set (h:Mod S w w1) (a:Addr) (v:Value) (hS:S a.block ∨ w.heap.size ≤ a.block):Mod S w (w1.setCell a v) :=
 ⟨h.os,h.tape,h.output,by simpa [World.setCell] using h.size,fun k hk hn => (Below.heap_setCell w1 _ v k (fun e => by
  subst e
  rcases hS with h1 | h1
  ·exact hn h1
  ·omega)).trans (h.block k hk hn)⟩
theorem Mod.of_below (h:Below w.heap.size w w1):Mod noB w w1:=⟨h.os,h.tape,h.output,h.size,fun k hk _ => h.block k hk⟩
theorem Mod.of_grown {v:Value} (h:w.grownBy w1 v.ownBlock):Mod (ownS v) w w1:=⟨h.os,h.tape,h.output,h.size,fun k hk hn => h.block k hk fun e => hn e.symm⟩
theorem Mod.of_app {base:Nat} {e:TypeId} {size:Nat} {v v1:Value} {n:Nat} {xs:List Value} (h:App w base e size v n xs w1 v1):Mod (ownS v) w w1:=Mod.of_grown h.grow
theorem Mod.below {B:Nat} {W:World} (h:Mod S w w1) (hb:Below B W w) (hB:B ≤ w.heap.size) (hS:∀ k,S k→B ≤ k):Below B W w1 :=
 hb.trans ⟨h.os,h.tape,h.output,h.size,fun k hk => h.block k (by omega) fun hs => by have:=hS k hs;omega⟩
theorem Mod.keep (h:Mod S w w1) {k:Nat} {o:Obj} (hk:w.heap[k]? = some o) (hn:¬ S k):w1.heap[k]? = some o :=
 (h.block k (Array.getElem?_eq_some_iff.1 hk).1 hn).trans hk
theorem own_keep {base:Nat} {e:TypeId} {size:Nat} {v:Value} {n:Nat} {xs:List Value} (h:w.ownsRow base e size v n xs) (hm:Mod S w w1) (hd:∀ k,ownS v k→¬ S k):w1.ownsRow base e size v n xs:=by
 obtain ⟨h1,h2⟩:=h
 refine ⟨h1,?_⟩
 rcases h2 with h2 | ⟨g,cap,cur,rfl,hg,hh,h3⟩
 ·exact .inl h2
 ·exact .inr ⟨g,cap,cur,rfl,hg,hm.keep hh (hd g rfl),h3⟩
theorem own_lt {base:Nat} {e:TypeId} {size:Nat} {v:Value} {n:Nat} {xs:List Value} (h:w.ownsRow base e size v n xs):∀ k,ownS v k→k < w.heap.size:=fun k hk => (h.lt k hk).2
theorem App.place {base:Nat} {e:TypeId} {size:Nat} {v v1:Value} {n:Nat} {xs:List Value} (h:App w base e size v n xs w1 v1):∀ k,ownS v1 k→ownS v k ∨ w.heap.size ≤ k:=fun k hk => by
 rcases h.loc with hl | ⟨g,hl,hg⟩
 ·exact .inl (by unfold ownS at hk ⊢;rw [← hl];exact hk)
 ·unfold ownS at hk
  rw [hl] at hk
  injection hk with hk
  exact .inr (by omega)
theorem own_ne {base:Nat} {e t:TypeId} {size n g:Nat} {v:Value} {xs:List Value} {cs:Array Value} (h:w.ownsRow base e size v n xs) (hg:w.heap[g]? = some (.cells cs t (0,0))) (hne:e ≠ t):¬ ownS v g:=by
 intro he
 rcases h.2 with ⟨rfl,_⟩ | ⟨g',cap,cur,rfl,_,hh,_⟩
 ·cases he
 ·have:g' = g:=by simpa [ownS,Value.ownBlock] using he
  subst this
  rw [hg] at hh
  injection hh with hh
  injection hh with _ ht
  exact hne ht.symm
theorem Cells.mod {B:Nat} {A:Option Addr} {xs:List Value} (h:Cells w B A xs) (hm:Mod S w w1) (hB:B ≤ w.heap.size) (hS:∀ k,S k→B ≤ k):Cells w1 B A xs :=
 h.below (hm.below (Below.refl B w) hB hS) (Nat.le_refl _)
end
theorem still_of {P:Program} {f:FuncId} {args:Array Value} {w:World} {v:Value} (h:Calls P f args w fun e w' => e = .returned v∧w = w'):Calls P f args w fun e w'' => e = .returned v∧w'' = w :=
 h.mono fun _ _ ⟨he,hm⟩ => ⟨he,hm.symm⟩
theorem quiet_left' {P:Program} {f:FuncId} {args:Array Value} {w:World} {n:Nat} {v:Value}
  (h:Calls P f args (w.drewN n) fun e w' => e = .returned v∧w.drewN n = w'):Calls P f args (w.drewN n) fun e w'' => e = .returned v∧∃ m,w'' = w.drewN m :=
 h.mono fun _ _ ⟨he,hm⟩ => ⟨he,n,hm.symm⟩
theorem splice_nil {α:Type} (L:List α) (o:Nat):splice L o [] = L:=by unfold splice;simp
theorem take_splice {α:Type} {L:List α} {o n:Nat} {cs:List α} (h:o + cs.length ≤ n) (hn:n ≤ L.length):(splice L o cs).take n = splice (L.take n) o cs:=by
 apply List.ext_getElem?
 intro i
 unfold splice
 simp only [List.getElem?_take,List.getElem?_append,List.length_take,List.getElem?_drop]
 by_cases h1:i < n
 ·simp only [h1,if_true]
  have e1:min o L.length = o:=by omega
  have e2:min o (min n L.length) = o:=by omega
  rw [e1,e2]
  by_cases h2:i < o
  ·simp [h2]
  ·simp only [h2,if_false]
   by_cases h3:i - o < cs.length
   ·simp [h3]
   ·simp only [h3,if_false]
    have:o + cs.length + (i - o - cs.length) < n:=by omega
    simp [this]
 ·simp only [h1,if_false]
  have e2:min o (min n L.length) = o:=by omega
  rw [e2]
  have h2:¬ i < o:=by omega
  have h3:¬ i - o < cs.length:=by omega
  have h4:¬ o + cs.length + (i - o - cs.length) < n:=by omega
  simp [h2,h3,h4]
section
variable {w w':World} {base:Nat} {e:TypeId} {n c g:Nat} {xs:List Value}
theorem own_row (h:w.ownsRow base e 1 (.slice (some ⟨g,0,none⟩) n c) n xs):∃ cur:List Value,w.heap[g]? = some (.cells cur.toArray e (0,0))∧n ≤ cur.length∧cur.take n = xs∧base ≤ g∧n ≤ c∧c ≤ maxLen∧cur.length = c∧xs.length = n:=by
 obtain ⟨h1,h2⟩:=h
 rcases h2 with ⟨h2,_⟩ | ⟨g',cap,cur,hv,hg,hh,hnc,hcm,hcs,htake⟩
 ·cases h2
 ·simp only [Value.slice.injEq,Option.some.injEq,Addr.mk.injEq] at hv
  obtain ⟨⟨rfl,_,_⟩,_,rfl⟩:=hv
  exact ⟨cur.toList,hh,by simp;omega,by simpa using htake,hg,hnc,hcm,by simp;omega,by omega⟩
theorem own_of_row {cur:List Value} (h:w.heap[g]? = some (.cells cur.toArray e (0,0))) (hb:base ≤ g) (hn:n ≤ c) (hm:c ≤ maxLen) (hc:cur.length = c) (hx:cur.take n = xs):w.ownsRow base e 1 (.slice (some ⟨g,0,none⟩) n c) n xs :=
 ⟨by rw [← hx,List.length_take];omega,.inr ⟨g,c,cur.toArray,rfl,hb,h,hn,hm,by simp;omega,by simpa using hx⟩⟩
theorem own_splice (h:w.ownsRow base e 1 (.slice (some ⟨g,0,none⟩) n c) n xs) (o:Nat) (cs:List Value) (hf:o + cs.length ≤ n)
  (hw:∀ cur,w.heap[g]? = some (.cells cur e (0,0))→w'.heap[g]? = some (.cells (splice cur.toList o cs).toArray e (0,0))):w'.ownsRow base e 1 (.slice (some ⟨g,0,none⟩) n c) n (splice xs o cs):=by
 obtain ⟨cur,hh,h1,h2,h3,h4,h5,h6,h7⟩:=own_row h
 have:=hw _ hh
 refine own_of_row (by simpa using this) h3 h4 h5 (by rw [length_splice _ _ _ (by omega)];exact h6) ?_
 rw [take_splice hf h1,h2]
end
section
variable {P:Program} (w:World)
theorem run_copy_into {base:Nat} {e:TypeId} {v:Value} {n:Nat} {xs:List Value} (hown:w.ownsRow base e 1 v n xs) (dT sT ty:TypeId) (hu:P.underlying dT = some (.slice e)) (hsz:(P.info? e).map (·.size) = some 1)
  (dp sp:Option Addr) (dLen dCap sLen sCap:Nat) (o:Nat) (cs:List Value) (hn:cs.length = Nat.min sLen dLen) (hpos:0 < cs.length→∃ g,v.ownBlock = some g∧dp = some ⟨g,o,none⟩)
  (B:Nat) (xc:List Value) (hr:Cells w B sp xc) (hx:cs = xc.take cs.length) (hfit:o + cs.length ≤ n) (h1:∀ u ∈ cs,u.oneCell' = true) :
  ∃ w',(Builtin.copy_ #[dT,sT] ty #[.slice dp dLen dCap,.slice sp sLen sCap]).run P w = .ok (goInt cs.length) w'∧w'.ownsRow base e 1 v n (splice xs o cs)∧Mod (ownS v) w w':=by
 by_cases h0:cs.length = 0
 ·obtain rfl:cs = []:=List.eq_nil_of_length_eq_zero h0
  exact ⟨w,run_copy_none (P:=P) w dT sT ty e dp sp dLen dCap sLen sCap hu hsz (by simpa using hn.symm),by rw [splice_nil];exact hown,Mod.refl _ w⟩
 ·obtain ⟨g,hv,rfl⟩:=hpos (by omega)
  obtain ⟨b,p,rfl,_,hc⟩:=hr (by have:=congrArg List.length hx;rw [List.length_take] at this;omega)
  have hform:∃ c,v = .slice (some ⟨g,0,none⟩) n c:=by
   rcases hown.2 with ⟨rfl,_⟩ | ⟨g',cap,cur,rfl,_⟩
   ·simp [Value.ownBlock] at hv
   ·simp [Value.ownBlock] at hv
    subst hv
    exact ⟨cap,rfl⟩
  obtain ⟨c,rfl⟩:=hform
  obtain ⟨cur,hh,h2,h3,h4,h5,h6,h7,h8⟩:=own_row hown
  have hsrc:∀ j u,cs[j]? = some u→w.cell? ((⟨b,p,none⟩:Addr).add j) = some u:=fun j u hj => by
   have hj':xc[j]? = some u:=by
    rw [hx,List.getElem?_take] at hj
    split at hj
    ·exact hj
    ·cases hj
   have:=hc j u hj'
   clear hx hn
   unfold Addr.add
   split <;> simp_all
  refine ⟨_,run_copy_row (P:=P) w dT sT ty e g o dLen dCap ⟨b,p,none⟩ sLen sCap cur.toArray e cs hu hsz hh hn hsrc (by simp;omega) h1,own_splice hown o cs hfit fun cur' hc' => ?_,⟨rfl,rfl,rfl,by simp,fun k _ hk => setRow_other w g k _ (fun he => hk (by simp [ownS,Value.ownBlock,he]))⟩⟩
  rw [hh] at hc'
  injection hc' with hc'
  injection hc' with hc'
  subst hc'
  have:=setRow_heap w g _ (cur.toArray.toList.take o++(cs++cur.toArray.toList.drop (o + cs.length))).toArray e (0,0) hh
  simpa [splice] using this
theorem wpList_copy_into {ops:Array Oper} {rest:List Oper} {op:Oper} {a:Act} {Q:Exit→Act→World→Prop} (hgd:op.guard = none) (d s:Operand) (dT sT:TypeId)
  (ho:op.op = .call { callee:=.builtin .copy,args:=#[d,s],argTypes:=#[dT,sT] })
  {base:Nat} {e:TypeId} {v:Value} {n:Nat} {xs:List Value} (hown:w.ownsRow base e 1 v n xs) (hu:P.underlying dT = some (.slice e)) (hsz:(P.info? e).map (·.size) = some 1)
  (dp sp:Option Addr) (dLen dCap sLen sCap:Nat) (hd:a.eval d = .slice dp dLen dCap) (hs:a.eval s = .slice sp sLen sCap) (o:Nat) (cs:List Value) (hn:cs.length = Nat.min sLen dLen) (hpos:0 < cs.length→∃ g,v.ownBlock = some g∧dp = some ⟨g,o,none⟩)
  (B:Nat) (xc:List Value) (hr:Cells w B sp xc) (hx:cs = xc.take cs.length) (hfit:o + cs.length ≤ n) (h1:∀ u ∈ cs,u.oneCell' = true)
  (h:∀ w',w'.ownsRow base e 1 v n (splice xs o cs)→Mod (ownS v) w w'→wpList P ops Q rest (a.put op.dst (goInt cs.length)) w'):wpList P ops Q (op :: rest) a w:=by
 refine wpList_plain hgd fun K hK => ?_
 obtain ⟨w',hrun,h2,h3⟩:=run_copy_into (P:=P) w hown dT sT op.type hu hsz dp sp dLen dCap sLen sCap o cs hn hpos B xc hr hx hfit h1
 unfold Oper.wp execOp
 simp only [ho,resolve,invoke,builtin,Sem.run_bind,Sem.run_pure,Result.andThen_ok,List.map_toArray,List.map_cons,List.map_nil,hd,hs,hrun]
 exact hK _ _ (h w' h2 h3)
end
end Go.Proofs.YtaknladkodibaaaGreatDoor
