/- Slices in memory, said by the list of their cells: reading them, appending to a slice of the call's own, copying, making; slices of bytes among them. -/
import Derived.WalkKit
import Derived.WalkSpells
import Derived.Maps.AppendAt
import Derived.Lib.Hide
import Derived.Laws.CopyOwn
import Derived.Maps.Range
import Derived.OwnWalk
namespace Go.Proofs.YtaknladkodibaaaGreatDoor
open Go.RowKit
def Cells (w:World) (B:Nat) (A:Option Addr) (xs:List Value):Prop :=
 0 < xs.length→∃ b o,A = some ⟨b,o,none⟩∧b < B∧∀ j u,xs[j]? = some u→w.cell? ⟨b,o + j,none⟩ = some u
theorem Cells.nil (w:World) (B:Nat) (A:Option Addr):Cells w B A []:=fun h => absurd h (by simp)
theorem Cells.below {w w':World} {B B':Nat} {A:Option Addr} {xs:List Value} (h:Cells w B A xs) (hb:Below B' w w') (hB:B ≤ B'):Cells w' B A xs:=fun hp => by
 obtain ⟨b,o,e,hbB,hc⟩:=h hp
 exact ⟨b,o,e,hbB,fun j x hx => (hb.cell (p:=⟨b,o + j,none⟩) (by show b < B';omega)).trans (hc j x hx)⟩
theorem Cells.more {w:World} {B B':Nat} {A:Option Addr} {xs:List Value} (h:Cells w B A xs) (hB:B ≤ B'):Cells w B' A xs:=fun hp => by
 obtain ⟨b,o,e,hbB,hc⟩:=h hp
 exact ⟨b,o,e,by omega,hc⟩
theorem Cells.at_ {w:World} {B:Nat} {A:Option Addr} {xs:List Value} {k:Nat} (h:Cells w B A xs) (hk:k < xs.length) :
  ∃ b o u,A = some ⟨b,o,none⟩∧b < B∧xs[k]? = some u∧w.cell? ⟨b,o + k,none⟩ = some u:=by
 obtain ⟨b,o,e,hb,hc⟩:=h (by omega)
 exact ⟨b,o,xs[k],e,hb,List.getElem?_eq_getElem hk,hc k _ (List.getElem?_eq_getElem hk)⟩
theorem Cells.alloc {w:World} {B:Nat} {A:Option Addr} {xs:List Value} (h:Cells w B A xs) (hB:B ≤ w.heap.size) (o:Obj):Cells (w.alloc o) B A xs :=
 h.below ((Below.refl _ _).alloc hB o) (Nat.le_refl _)
theorem Cells.drew {w:World} {B:Nat} {A:Option Addr} {xs:List Value} (h:Cells w B A xs):Cells w.drew B A xs:=h
theorem Cells.of_own {w:World} {base:Nat} {e:TypeId} {A:Option Addr} {n c:Nat} {xs:List Value} (h:w.ownsRow base e 1 (.slice A n c) n xs):Cells w w.heap.size A xs:=fun hp => by
 obtain ⟨h1,h2⟩:=h
 rcases h2 with ⟨_,rfl⟩ | ⟨g,cap,cur,hv,hg,hh,hnc,hcm,hcs,htake⟩
 ·omega
 ·simp only [Value.slice.injEq] at hv
  obtain ⟨rfl,_,rfl⟩:=hv
  have hown:w.ownsRow base e 1 (.slice (some ⟨g,0,none⟩) n c) n xs:=⟨h1,.inr ⟨g,c,cur,rfl,hg,hh,hnc,hcm,hcs,htake⟩⟩
  refine ⟨g,0,rfl,(Array.getElem?_eq_some_iff.1 hh).1,fun j u hj => ?_⟩
  have hlt:=(List.getElem?_eq_some_iff.1 hj).1
  rw [Nat.zero_add,hown.cellAt j (by omega)]
  exact hj
theorem own_form {w:World} {base:Nat} {e:TypeId} {v:Value} {n:Nat} {xs:List Value} (h:w.ownsRow base e 1 v n xs):∃ A c,v = .slice A n c:=by
 rcases h.2 with ⟨rfl,rfl⟩ | ⟨g,cap,cur,rfl,_⟩
 ·exact ⟨none,0,rfl⟩
 ·exact ⟨_,_,rfl⟩
theorem own_empty (w:World) (e:TypeId) {base:Nat} (hb:base ≤ w.heap.size):(w.alloc (.cells #[] e)).ownsRow base e 1 (.slice (some ⟨w.heap.size,0,none⟩) 0 0) 0 [] :=
 World.ownsRow_lit w #[] 0 hb (Nat.zero_le _) rfl
section
variable {P:Program} (w:World)
end
def byteCells (bs:List UInt8):List Value:=bs.map fun x => Value.int .u8 (x.toNat:Int)
theorem byteCells_length (bs:List UInt8):(byteCells bs).length = bs.length:=by simp [byteCells]
theorem byteCells_append (a b:List UInt8):byteCells (a++b) = byteCells a++byteCells b:=by simp [byteCells]
theorem byteCells_get {bs:List UInt8} {j:Nat} {x:UInt8} (h:bs[j]? = some x):(byteCells bs)[j]? = some (.int .u8 (x.toNat:Int)):=by simp [byteCells,h]
theorem byteCells_one (bs:List UInt8):∀ u ∈ byteCells bs,u.oneCell' = true:=by
 intro u hu
 simp only [byteCells,List.mem_map] at hu
 obtain ⟨x,_,rfl⟩:=hu
 rfl
abbrev Bytes (w:World) (B:Nat) (A:Option Addr) (bs:List UInt8):Prop:=Cells w B A (byteCells bs)
abbrev OwnB (w:World) (base:Nat) (e:TypeId) (v:Value) (n:Nat) (bs:List UInt8):Prop:=w.ownsRow base e 1 v n (byteCells bs)
theorem get_lt {α:Type} {bs:List α} {k:Nat} (h:k < bs.length):∃ x,bs[k]? = some x:=⟨_,List.getElem?_eq_getElem h⟩
theorem run_string_of {P:Program} {w:World} {B:Nat} {A:Option Addr} {bs:List UInt8} {l c:Nat} (src dst e:TypeId) (hs:P.underlying src = some (.slice e)) (he:P.underlying e = some (.int .u8)) (hd:P.underlying dst = some .string)
  (h:Bytes w B A bs) (hl:bs.length = l):(convert src dst (.slice A l c)).run P w = .ok (.string ⟨bs.toArray⟩) w:=by
 have he2:strOfNums (bs.map fun x => (x.toNat:Int)) = ⟨bs.toArray⟩:=by
  unfold strOfNums
  congr 2
  rw [List.map_map]
  conv => rhs;rw [← List.map_id bs]
  apply List.map_congr_left
  intro x _
  simp
 rcases Nat.eq_zero_or_pos l with h0 | h0
 ·subst h0
  have hn:bs = []:=List.eq_nil_of_length_eq_zero hl
  subst hn
  cases A with
  | none => exact run_convert_bytes_nil w src e hs he 0 c dst hd
  | some ad =>
   rw [run_convert_bytes_string w src dst e (some ad) 0 c hs he hd,run_bytesToString w ad 0 c [] (by simp [loadCells,loadCellsFrom])]
   rfl
 ·obtain ⟨b,o,rfl,_,hc⟩:=h (by rw [byteCells_length];omega)
  rw [run_convert_bytes_arg (P:=P) w src e hs he b o l c (bs.map fun x => (x.toNat:Int)) (by simpa using hl) (fun j hj => ?_) dst hd,he2]
  have hj':j < bs.length:=by omega
  rw [hc j _ (byteCells_get (List.getElem?_eq_getElem hj'))]
  simp [List.getD,hj']
structure Elem (P:Program) (t e:TypeId) (z:Value) (size bytes:Nat):Prop where
 ht:P.underlying t = some (.slice e)
 inf:∃ i,P.info? e = some i∧i.zero = some z∧i.size = size∧i.bytes = bytes
 hz:z.cells.size = size
 hpos:0 < size
theorem Elem.of {P:Program} {t e:TypeId} {z:Value} {size bytes:Nat} (ht:P.underlying t = some (.slice e)) (hi:(P.info? e).map (fun i => (i.zero,i.size,i.bytes)) = some (some z,size,bytes)) (hz:z.cells.size = size) (hpos:0 < size):Elem P t e z size bytes:=by
 obtain ⟨i,h1,h2,h3,h4⟩:=info_parts hi
 exact ⟨ht,⟨i,h1,h2,h3,h4⟩,hz,hpos⟩
structure App (w:World) (base:Nat) (e:TypeId) (size:Nat) (v:Value) (n:Nat) (xs:List Value) (w':World) (v':Value):Prop where
 own:w'.ownsRow base e size v' n xs
 grow:w.grownBy w' v.ownBlock
 loc:v'.ownBlock = v.ownBlock ∨ ∃ g,v'.ownBlock = some g∧w.heap.size ≤ g
section
variable {w w1 w2:World} {base:Nat} {e:TypeId} {size:Nat} {v v1 v2:Value} {n m:Nat} {xs ys:List Value}
theorem App.start (h:w.ownsRow base e size v n xs):App w base e size v n xs w v:=⟨h,World.grownBy.refl _ _,.inl rfl⟩
theorem App.trans (h:App w base e size v n xs w1 v1) (k:App w1 base e size v1 m ys w2 v2):App w base e size v m ys w2 v2:=by
 have hs:=h.grow.size
 refine ⟨k.own,h.grow.andThen k.grow fun j hj => ?_,?_⟩
 ·rcases h.loc with hl | ⟨g,hl,hg⟩
  ·exact .inr (by rw [← hl];exact hj)
  ·rw [hl] at hj
   injection hj with hj
   exact .inl (by omega)
 ·rcases k.loc with hk | ⟨g,hk,hg⟩
  ·rcases h.loc with hl | ⟨g,hl,hg⟩
   ·exact .inl (hk.trans hl)
   ·exact .inr ⟨g,hk.trans hl,hg⟩
  ·exact .inr ⟨g,hk,by omega⟩
theorem App.behind (o:Obj) (k:App (w.alloc o) base e size v n xs w2 v2):App w base e size v n xs w2 v2:=by
 refine ⟨k.own,(World.grownBy_alloc w o v.ownBlock).andThen k.grow fun j hj => .inr hj,?_⟩
 rcases k.loc with hk | ⟨g,hk,hg⟩
 ·exact .inl hk
 ·exact .inr ⟨g,hk,by simp at hg;omega⟩
theorem App.alloc (h:App w base e size v n xs w1 v1) (o:Obj):App w base e size v n xs (w1.alloc o) v1 :=
 ⟨h.own.alloc o,h.grow.andThen (World.grownBy_alloc w1 o none) (fun _ hj => by cases hj),h.loc⟩
theorem App.drew (h:App w base e size v n xs w1 v1):App w base e size v n xs w1.drew v1 :=
 ⟨h.own.drew,⟨h.grow.os,h.grow.tape,h.grow.output,h.grow.size,h.grow.block⟩,h.loc⟩
theorem App.below {B:Nat} {W:World} (h:App w base e size v n xs w1 v1) (hb:Below B W w) (hB:B ≤ w.heap.size) (hv:∀ k,v.ownBlock = some k→B ≤ k):Below B W w1:=hb.grown h.grow hB hv
theorem App.form (h:App w base e 1 v n xs w1 v1):∃ A c,v1 = .slice A n c:=own_form h.own
theorem own_base (h:w.ownsRow base e size v n xs):∀ k,v.ownBlock = some k→base ≤ k:=fun k hk => (h.lt k hk).1
end
section
variable {P:Program} (w:World)
theorem own_form' {w:World} {base:Nat} {e:TypeId} {size:Nat} {v:Value} {n:Nat} {xs:List Value} (h:w.ownsRow base e size v n xs):∃ A c,v = .slice A n c:=by
 rcases h.2 with ⟨rfl,rfl⟩ | ⟨g,cap,cur,rfl,_⟩
 ·exact ⟨none,0,rfl⟩
 ·exact ⟨_,_,rfl⟩
theorem run_append_own_any {t e:TypeId} {z:Value} {size bytes:Nat} (E:Elem P t e z size bytes) (base:Nat) (ty:TypeId)
  (v:Value) (n:Nat) (xs:List Value) (hown:w.ownsRow base e size v n xs) (B:Nat) (A:Option Addr) (m c:Nat) (news:List Value) (hl:news.length = m * size) (hr:Cells w B A news)
  (h1:∀ u ∈ news,u.oneCell' = true) (h63:n + m ≤ maxLen) (hbytes:(n + m) * bytes ≤ 140737488355328) (hbase:base ≤ w.heap.size) :
  ∃ A' c' w',(Builtin.append_ #[t,t] ty #[v,.slice A m c]).run P w = .ok (.slice A' (n + m) c') w'∧App w base e size v (n + m) (xs++news) w' (.slice A' (n + m) c'):=by
 obtain ⟨ht,⟨i,hi,hz,hsize,hby⟩,hzs,hpos⟩:=E
 have key:∃ v' w',(Builtin.append_ #[t,t] ty #[v,.slice A m c]).run P w = .ok v' w'∧w'.ownsRow base e size v' (n + m) (xs++news)∧w.grownBy w' v.ownBlock ∧
   (v'.ownBlock = v.ownBlock ∨ v'.ownBlock = some w.heap.size):=by
  cases A with
  | none =>
   have hm:m = 0:=by
    rcases Nat.eq_zero_or_pos m with h0 | h0
    ·exact h0
    ·obtain ⟨_,_,h,_⟩:=hr (by rw [hl];exact Nat.mul_pos h0 hpos)
     cases h
   subst hm
   have hn:news = []:=List.eq_nil_of_length_eq_zero (by simpa using hl)
   subst hn
   refine ⟨v,w,?_,by simpa using hown,⟨rfl,rfl,rfl,Nat.le_refl _,fun _ _ _ => rfl⟩,.inl rfl⟩
   rcases hown.2 with ⟨rfl,rfl⟩ | ⟨g,cap,cur,rfl,_,_,hnc,_⟩
   ·simp [Builtin.append_,run_underlying ht,sizeOf,typeInfo,hi,Builtin.lenOf,Builtin.firstCells]
   ·simp [Builtin.append_,run_underlying ht,sizeOf,typeInfo,hi,Builtin.lenOf,Builtin.firstCells,hnc,storeCells]
  | some ad =>
   have hc:∀ j u,news[j]? = some u→w.cell? (ad.add j) = some u:=fun j u hj => by
    obtain ⟨b,o,e',_,hc⟩:=hr (by have:=(List.getElem?_eq_some_iff.1 hj).1;omega)
    injection e' with e'
    subst e'
    have:=hc j u hj
    unfold Addr.add
    split <;> simp_all
   obtain ⟨v',w',h1',h2,h3,_,h5⟩:=run_append_own_at (P:=P) w base t ty e i z size bytes ht hi hz hsize hby hzs hpos v n xs hown ad m c news hl hc h1 h63 hbytes hbase
   exact ⟨v',w',h1',h2,h3,h5⟩
 obtain ⟨v',w',hrun,h2,h3,h4⟩:=key
 obtain ⟨A',c',rfl⟩:=own_form' h2
 refine ⟨A',c',w',hrun,h2,h3,?_⟩
 rcases h4 with h4 | h4
 ·exact .inl h4
 ·exact .inr ⟨_,h4,Nat.le_refl _⟩
theorem wpList_app {ops:Array Oper} {rest:List Oper} {o:Oper} {a:Act} {Q:Exit→Act→World→Prop} {t e:TypeId} {z:Value} {size bytes:Nat} (E:Elem P t e z size bytes) (hgd:o.guard = none) (s x:Operand)
  (ho:o.op = .call { callee:=.builtin .append,args:=#[s,x],argTypes:=#[t,t] }) (base:Nat)
  (v:Value) (n:Nat) (xs:List Value) (hs:a.eval s = v) (hown:w.ownsRow base e size v n xs)
  (B:Nat) (A:Option Addr) (m c:Nat) (news:List Value) (hx:a.eval x = .slice A m c) (hl:news.length = m * size) (hr:Cells w B A news) (h1:∀ u ∈ news,u.oneCell' = true)
  (h63:n + m ≤ maxLen) (hbytes:(n + m) * bytes ≤ 140737488355328) (hbase:base ≤ w.heap.size)
  (h:∀ A' c' w',App w base e size v (n + m) (xs++news) w' (.slice A' (n + m) c')→wpList P ops Q rest (a.put o.dst (.slice A' (n + m) c')) w'):wpList P ops Q (o :: rest) a w:=by
 refine wpList_plain hgd fun K hK => ?_
 obtain ⟨A',c',w',hr,h2⟩:=run_append_own_any (P:=P) w E base o.type v n xs hown B A m c news hl hr h1 h63 hbytes hbase
 unfold Oper.wp execOp
 simp only [ho,resolve,invoke,builtin,Sem.run_bind,Sem.run_pure,Result.andThen_ok,List.map_toArray,List.map_cons,List.map_nil,hs,hx,hr]
 exact hK _ _ (h A' c' w' h2)
theorem wpList_app1 {ops:Array Oper} {rest:List Oper} {o:Oper} {a:Act} {Q:Exit→Act→World→Prop} {t e:TypeId} {z:Value} {size bytes:Nat} (E:Elem P t e z size bytes) (hgd:o.guard = none) (s x:Operand)
  (ho:o.op = .call { callee:=.builtin .append,args:=#[s,x],argTypes:=#[t,t] }) (base:Nat)
  (v:Value) (n:Nat) (xs:List Value) (hs:a.eval s = v) (hown:w.ownsRow base e size v n xs)
  (C:Array Value) (hx:a.eval x = .slice (some ⟨w.heap.size,0,none⟩) 1 1) (hC:C.size = size) (h1:∀ u ∈ C.toList,u.oneCell' = true)
  (h63:n + 1 ≤ maxLen) (hbytes:(n + 1) * bytes ≤ 140737488355328) (hbase:base ≤ w.heap.size)
  (h:∀ A' c' w',App w base e size v (n + 1) (xs++C.toList) w' (.slice A' (n + 1) c')→wpList P ops Q rest (a.put o.dst (.slice A' (n + 1) c')) w'):wpList P ops Q (o :: rest) a (w.alloc (.cells C e)):=by
 refine wpList_app (w.alloc (.cells C e)) E hgd s x ho base v n xs hs (hown.alloc _) (w.heap.size + 1) (some ⟨w.heap.size,0,none⟩) 1 1 C.toList hx (by rw [Nat.one_mul];exact hC) ?_ h1 h63 hbytes (by simp;omega)
  (fun A' c' w' hA => h A' c' w' hA.behind)
 refine fun _ => ⟨_,0,rfl,Nat.lt_succ_self _,fun j u hu => ?_⟩
 rw [cell_of_row _ _ _ _ _ _ (heap_alloc_new w _)]
 simpa using hu
theorem step_app {ops:Array Oper} {o:Oper} {a:Act} {K:Act→World→Prop} {Q:Exit→Act→World→Prop} {F:Prop} {t e:TypeId} {z:Value} {size bytes:Nat} (E:Elem P t e z size bytes) (hgd:o.guard = none) (s x:Operand)
  (ho:o.op = .call { callee:=.builtin .append,args:=#[s,x],argTypes:=#[t,t] }) (base:Nat)
  (v:Value) (n:Nat) (xs:List Value) (hs:a.eval s = v) (hown:w.ownsRow base e size v n xs)
  (B:Nat) (A:Option Addr) (m c:Nat) (news:List Value) (hx:a.eval x = .slice A m c) (hl:news.length = m * size) (hr:Cells w B A news) (h1:∀ u ∈ news,u.oneCell' = true)
  (h63:n + m ≤ maxLen) (hbytes:(n + m) * bytes ≤ 140737488355328) (hbase:base ≤ w.heap.size)
  (h:∀ A' c' w',App w base e size v (n + m) (xs++news) w' (.slice A' (n + m) c')→K (a.put o.dst (.slice A' (n + m) c')) w') :
  if Region.wanted o (yielded ops a.tmps) = true then Oper.wp P o a w K Q else F:=by
 have hw:Region.wanted o (yielded ops a.tmps) = true:=by simp [Region.wanted,hgd]
 rw [if_pos hw]
 obtain ⟨A',c',w',hr,h2⟩:=run_append_own_any (P:=P) w E base o.type v n xs hown B A m c news hl hr h1 h63 hbytes hbase
 unfold Oper.wp execOp
 simp only [ho,resolve,invoke,builtin,Sem.run_bind,Sem.run_pure,Result.andThen_ok,List.map_toArray,List.map_cons,List.map_nil,hs,hx,hr]
 exact h A' c' w' h2
theorem step_app1 {ops:Array Oper} {o:Oper} {a:Act} {K:Act→World→Prop} {Q:Exit→Act→World→Prop} {F:Prop} {t e:TypeId} {z:Value} {size bytes:Nat} (E:Elem P t e z size bytes) (hgd:o.guard = none) (s x:Operand)
  (ho:o.op = .call { callee:=.builtin .append,args:=#[s,x],argTypes:=#[t,t] }) (base:Nat)
  (v:Value) (n:Nat) (xs:List Value) (hs:a.eval s = v) (hown:w.ownsRow base e size v n xs)
  (C:Array Value) (hx:a.eval x = .slice (some ⟨w.heap.size,0,none⟩) 1 1) (hC:C.size = size) (h1:∀ u ∈ C.toList,u.oneCell' = true)
  (h63:n + 1 ≤ maxLen) (hbytes:(n + 1) * bytes ≤ 140737488355328) (hbase:base ≤ w.heap.size)
  (h:∀ A' c' w',App w base e size v (n + 1) (xs++C.toList) w' (.slice A' (n + 1) c')→K (a.put o.dst (.slice A' (n + 1) c')) w') :
  if Region.wanted o (yielded ops a.tmps) = true then Oper.wp P o a (w.alloc (.cells C e)).drew K Q else F:=by
 refine step_app (w.alloc (.cells C e)).drew E hgd s x ho base v n xs hs (hown.alloc _).drew (w.heap.size + 1) (some ⟨w.heap.size,0,none⟩) 1 1 C.toList hx (by rw [Nat.one_mul];exact hC) ?_ h1 h63 hbytes (by simp;omega)
  (fun A' c' w' hA => h A' c' w' (App.behind (.cells C e) ⟨hA.own,⟨hA.grow.os,hA.grow.tape,hA.grow.output,hA.grow.size,hA.grow.block⟩,hA.loc⟩))
 refine Cells.drew fun _ => ⟨_,0,rfl,Nat.lt_succ_self _,fun j u hu => ?_⟩
 rw [cell_of_row _ _ _ _ _ _ (heap_alloc_new w _)]
 simpa using hu
end
def runM (bs:List UInt8) (at_ d:Nat):Nat→Nat→Nat
 | 0,n => n
 | k + 1,n => if bs.getD (at_ + n) 0 = bs.getD (at_ + n - d) 0 then runM bs at_ d k (n + 1) else n
theorem runM_ge (bs:List UInt8) (at_ d:Nat):∀ k n,n ≤ runM bs at_ d k n
 | 0,n => Nat.le_refl n
 | k + 1,n => by
  rw [runM]
  split
  ·exact Nat.le_trans (Nat.le_succ n) (runM_ge bs at_ d k (n + 1))
  ·exact Nat.le_refl n
theorem runM_le (bs:List UInt8) (at_ d:Nat):∀ k n,runM bs at_ d k n ≤ n + k
 | 0,n => Nat.le_refl n
 | k + 1,n => by
  rw [runM]
  split
  ·exact Nat.le_trans (runM_le bs at_ d k (n + 1)) (by omega)
  ·omega
theorem runM_same (bs:List UInt8) (at_ d:Nat):∀ k n i,n ≤ i→i < runM bs at_ d k n→bs.getD (at_ + i) 0 = bs.getD (at_ + i - d) 0
 | 0,n,i,h1,h2 => by rw [runM] at h2;omega
 | k + 1,n,i,h1,h2 => by
  rw [runM] at h2
  split at h2
  ·rename_i h
   by_cases he:i = n
   ·rw [he];exact h
   ·exact runM_same bs at_ d k (n + 1) i (by omega) h2
  ·omega
theorem runM_many (bs:List UInt8) (at_ d:Nat):∀ k n m,m ≤ n + k→(∀ i,n ≤ i→i < m→bs.getD (at_ + i) 0 = bs.getD (at_ + i - d) 0)→m ≤ runM bs at_ d k n
 | 0,n,m,h1,h2 => by rw [runM];omega
 | k + 1,n,m,h1,h2 => by
  rw [runM]
  by_cases hm:m ≤ n
  ·split
   ·exact Nat.le_trans hm (Nat.le_trans (Nat.le_succ n) (runM_ge bs at_ d k (n + 1)))
   ·exact hm
  ·rw [if_pos (h2 n (Nat.le_refl n) (by omega))]
   exact runM_many bs at_ d k (n + 1) m (by omega) fun i hi => h2 i (by omega)
def capM (bs:List UInt8) (at_:Nat):Nat:=min 258 (bs.length - at_)
def lenI (bs:List UInt8) (a d:Int):Nat :=
 if 0 ≤ a∧a < (bs.length:Int)∧1 ≤ d∧d ≤ 32768∧d ≤ a then runM bs a.toNat d.toNat (capM bs a.toNat) 0 else 0
theorem lenI_le (bs:List UInt8) (a d:Int):lenI bs a d ≤ 258:=by
 unfold lenI
 split
 ·have:=runM_le bs a.toNat d.toNat (capM bs a.toNat) 0
  unfold capM at this ⊢
  omega
 ·omega
theorem lenI_no {bs:List UInt8} {a d:Int} (h:¬ (0 ≤ a∧a < (bs.length:Int)∧1 ≤ d∧d ≤ 32768∧d ≤ a)):lenI bs a d = 0:=if_neg h
theorem lenI_at (bs:List UInt8) {a d:Nat} (h0:a < bs.length) (h1:1 ≤ d) (h2:d ≤ 32768) (h3:d ≤ a):lenI bs (a:Int) (d:Int) = runM bs a d (capM bs a) 0:=by
 rw [lenI,if_pos (by omega)]
 simp
def three (bs:List UInt8) (a d:Nat):Bool:=bs.getD (a - d) 0 == bs.getD a 0 && bs.getD (a - d + 1) 0 == bs.getD (a + 1) 0 && bs.getD (a - d + 2) 0 == bs.getD (a + 2) 0
def candN (bs:List UInt8) (a m:Nat):List Nat:=((List.range m).map (· + 1)).filter (three bs a)
def cands (bs:List UInt8) (a:Int):List Nat:=if 0 ≤ a∧a + 3 ≤ (bs.length:Int) then candN bs a.toNat (min a.toNat 32768) else []
theorem candN_yes {bs:List UInt8} {a m:Nat} (h:three bs a (m + 1) = true):candN bs a (m + 1) = candN bs a m++[m + 1]:=by
 unfold candN
 rw [List.range_succ,List.map_append,List.filter_append]
 congr 1
 show (match three bs a (m + 1) with | true => [m + 1] | false => []) = _
 rw [h]
theorem candN_no {bs:List UInt8} {a m:Nat} (h:three bs a (m + 1) = false):candN bs a (m + 1) = candN bs a m:=by
 unfold candN
 rw [List.range_succ,List.map_append,List.filter_append]
 show _++(match three bs a (m + 1) with | true => [m + 1] | false => []) = _
 rw [h,List.append_nil]
theorem candN_pre (bs:List UInt8) (a:Nat) {m k:Nat} (h:m ≤ k):candN bs a m <+: candN bs a k:=by
 induction k with
 | zero => rw [show m = 0 by omega];exact List.prefix_refl _
 | succ k ih =>
  by_cases he:m = k + 1
  ·rw [he];exact List.prefix_refl _
  ·have:=ih (by omega)
   cases hc:three bs a (k + 1)
   ·rw [candN_no hc];exact this
   ·rw [candN_yes hc];exact this.trans (List.prefix_append _ _)
theorem candN_len (bs:List UInt8) (a m:Nat):(candN bs a m).length ≤ m:=by
 unfold candN
 exact Nat.le_trans (List.length_filter_le _ _) (by simp)
theorem cand_of {bs:List UInt8} {a:Int} {d:Nat} (h:d ∈ cands bs a):0 ≤ a∧a + 3 ≤ (bs.length:Int)∧1 ≤ d∧d ≤ 32768∧(d:Int) ≤ a∧three bs a.toNat d = true:=by
 unfold cands at h
 split at h
 ·unfold candN at h
  rw [List.mem_filter,List.mem_map] at h
  obtain ⟨⟨x,hx,rfl⟩,ht⟩:=h
  rw [List.mem_range] at hx
  refine ⟨by omega,by omega,by omega,by omega,by omega,ht⟩
 ·simp at h
theorem lenI_three {bs:List UInt8} {a:Int} {d:Nat} (h:d ∈ cands bs a):3 ≤ lenI bs a d:=by
 obtain ⟨h0,h1,h2,h3,h4,h5⟩:=cand_of h
 obtain ⟨n,rfl⟩:=Int.eq_ofNat_of_zero_le h0
 rw [lenI_at bs (by omega) h2 h3 (by omega)]
 unfold three at h5
 rw [Bool.and_eq_true,Bool.and_eq_true,beq_iff_eq,beq_iff_eq,beq_iff_eq,Int.toNat_natCast] at h5
 refine runM_many bs n d _ 0 3 (by unfold capM;omega) fun i _ hi => ?_
 rcases (show i = 0 ∨ i = 1 ∨ i = 2 by omega) with rfl | rfl | rfl
 ·exact h5.1.1.symm
 ·rw [show n + 1 - d = n - d + 1 by omega];exact h5.1.2.symm
 ·rw [show n + 2 - d = n - d + 2 by omega];exact h5.2.symm
def stepM (bs:List UInt8) (a:Int) (p:Nat × Nat) (x:Nat):Nat × Nat:=if p.1 < lenI bs a (x:Int) then (lenI bs a (x:Int),x) else p
def foldM (bs:List UInt8) (a:Int) (xs:List Nat):Nat × Nat:=xs.foldl (stepM bs a) (0,0)
def bestM (bs:List UInt8) (a depth:Int):Nat × Nat:=foldM bs a ((cands bs a).take depth.toNat)
theorem foldM_snoc (bs:List UInt8) (a:Int) (xs:List Nat) (x:Nat):foldM bs a (xs++[x]) = stepM bs a (foldM bs a xs) x:=by
 unfold foldM
 rw [List.foldl_append]
 rfl
theorem foldl_most (bs:List UInt8) (a:Int):∀ (xs:List Nat) (p:Nat × Nat),p.1 = 258→xs.foldl (stepM bs a) p = p
 | [],_,_ => rfl
 | x :: xs,p,h => by
  rw [List.foldl_cons,stepM,if_neg (by have:=lenI_le bs a x;omega)]
  exact foldl_most bs a xs p h
theorem foldM_of {bs:List UInt8} {a:Int} (xs:List Nat) (h:∀ x ∈ xs,x ∈ cands bs a):foldM bs a xs = (0,0) ∨ ((foldM bs a xs).2 ∈ cands bs a∧(foldM bs a xs).1 = lenI bs a ((foldM bs a xs).2:Nat)):=by
 have go:∀ (xs:List Nat) (p:Nat × Nat),(∀ x ∈ xs,x ∈ cands bs a)→(p = (0,0) ∨ (p.2 ∈ cands bs a∧p.1 = lenI bs a (p.2:Nat)))→(xs.foldl (stepM bs a) p = (0,0) ∨ ((xs.foldl (stepM bs a) p).2 ∈ cands bs a∧(xs.foldl (stepM bs a) p).1 = lenI bs a ((xs.foldl (stepM bs a) p).2:Nat))):=by
  intro xs
  induction xs with
  | nil => exact fun p _ hp => hp
  | cons x xs ih =>
   intro p hx hp
   rw [List.foldl_cons]
   refine ih _ (fun y hy => hx y (List.mem_cons_of_mem _ hy)) ?_
   unfold stepM
   split
   ·exact .inr ⟨hx x (by simp),rfl⟩
   ·exact hp
 exact go xs (0,0) h (.inl rfl)
theorem bestM_of (bs:List UInt8) (a depth:Int):bestM bs a depth = (0,0) ∨ ((bestM bs a depth).2 ∈ cands bs a∧(bestM bs a depth).1 = lenI bs a ((bestM bs a depth).2:Nat)) :=
 foldM_of _ fun _ hx => List.mem_of_mem_take hx
theorem bestM_end {bs:List UInt8} {a depth:Int} {pre:List Nat} (hp:pre <+: cands bs a) (hd:(pre.length:Int) ≤ depth) (he:pre = cands bs a ∨ (pre.length:Int) = depth ∨ (foldM bs a pre).1 = 258):foldM bs a pre = bestM bs a depth:=by
 unfold bestM
 obtain ⟨r,hr⟩:=hp
 rw [← hr,List.take_append]
 rw [List.take_of_length_le (by omega)]
 rcases he with he | he | he
 ·have:r = []:=by
   have h:=congrArg List.length hr
   rw [List.length_append,he] at h
   exact List.length_eq_zero_iff.1 (by omega)
  rw [this,List.take_nil,List.append_nil]
 ·rw [show depth.toNat - pre.length = 0 by omega,List.take_zero,List.append_nil]
 ·unfold foldM at he ⊢
  rw [List.foldl_append,foldl_most bs a _ _ he]
theorem bestM_le (bs:List UInt8) (a depth:Int):(bestM bs a depth).1 ≤ 258:=by
 rcases bestM_of bs a depth with h | ⟨_,h⟩
 ·rw [h];omega
 ·rw [h];exact lenI_le _ _ _
abbrev Tk:=UInt8 × Nat × Nat
def depthN (lv:Int):Int:=if lv ≤ 0 then 1 else if lv = 1 then 4 else if lv = 2 then 32 else 256
def tokAt (bs:List UInt8) (lv:Int) (p:Nat):Tk :=
 if (bestM bs (p:Int) (depthN lv)).1 = 0 ∨ (1 < lv∧(bestM bs (p:Int) (depthN lv)).1 < 258∧(bestM bs (p:Int) (depthN lv)).1 < (bestM bs ((p + 1:Nat):Int) (depthN lv)).1) then (bs.getD p 0,0,0)
 else (0,(bestM bs (p:Int) (depthN lv)).1,(bestM bs (p:Int) (depthN lv)).2)
def tsz (t:Tk):Nat:=max t.2.1 1
theorem tsz_pos (t:Tk):1 ≤ tsz t:=by unfold tsz;omega
def tokF (bs:List UInt8) (lv:Int):Nat→Nat→List Tk
 | 0,_ => []
 | k + 1,p => if p < bs.length then tokAt bs lv p :: tokF bs lv k (p + tsz (tokAt bs lv p)) else []
def toks (bs:List UInt8) (lv:Int) (p:Nat):List Tk:=tokF bs lv (bs.length - p) p
theorem tokF_more (bs:List UInt8) (lv:Int):∀ (k j p:Nat),bs.length - p ≤ k→bs.length - p ≤ j→tokF bs lv k p = tokF bs lv j p
 | 0,0,_,_,_ => rfl
 | 0,j + 1,p,h,_ => by rw [tokF,tokF,if_neg (by omega)]
 | k + 1,0,p,_,h => by rw [tokF,tokF,if_neg (by omega)]
 | k + 1,j + 1,p,h1,h2 => by
  rw [tokF,tokF]
  split
  ·have:=tsz_pos (tokAt bs lv p)
   rw [tokF_more bs lv k j _ (by omega) (by omega)]
  ·rfl
theorem toks_step {bs:List UInt8} {lv:Int} {p:Nat} (h:p < bs.length):toks bs lv p = tokAt bs lv p :: toks bs lv (p + tsz (tokAt bs lv p)):=by
 have:=tsz_pos (tokAt bs lv p)
 unfold toks
 obtain ⟨k,hk⟩:∃ k,bs.length - p = k + 1:=⟨bs.length - p - 1,by omega⟩
 rw [hk,tokF,if_pos h,tokF_more bs lv k (bs.length - (p + tsz (tokAt bs lv p))) _ (by omega) (by omega)]
theorem toks_end {bs:List UInt8} {lv:Int} {p:Nat} (h:bs.length ≤ p):toks bs lv p = []:=by
 unfold toks
 rw [show bs.length - p = 0 by omega]
 rfl
theorem toks_len (bs:List UInt8) (lv:Int) (p:Nat):(toks bs lv p).length ≤ bs.length - p:=by
 obtain ⟨k,hk⟩:∃ k,bs.length - p = k:=⟨_,rfl⟩
 unfold toks
 rw [hk]
 clear hk
 induction k generalizing p with
 | zero => exact Nat.le_refl 0
 | succ k ih =>
  rw [tokF]
  split
  ·have:=ih (p + tsz (tokAt bs lv p))
   simp
   omega
  ·simp
theorem tokAt_le (bs:List UInt8) (lv:Int) (p:Nat):(tokAt bs lv p).2.1 ≤ 258∧(tokAt bs lv p).2.2 ≤ 32768:=by
 unfold tokAt
 split
 ·exact ⟨by simp,by simp⟩
 ·refine ⟨bestM_le _ _ _,?_⟩
  rcases bestM_of bs (p:Int) (depthN lv) with h | ⟨h,_⟩
  ·rw [h];simp
  ·exact (cand_of h).2.2.2.1
abbrev Ti:=UInt8 × Int × Int
def okX (t:Ti):Bool:=if t.2.1 = 0 then decide (t.2.2 = 0) else decide (3 ≤ t.2.1∧t.2.1 ≤ 258∧1 ≤ t.2.2∧t.2.2 ≤ 32768∧t.1 = 0)
def szT (t:Ti):Int:=if t.2.1 < 1 then 1 else t.2.1
def copyN (d:Nat):Nat→List UInt8→List UInt8
 | 0,out => out
 | k + 1,out => copyN d k out++[(copyN d k out).getD ((copyN d k out).length - d) 0]
theorem copyN_len (d:Nat) (out:List UInt8):∀ k,(copyN d k out).length = out.length + k
 | 0 => rfl
 | k + 1 => by rw [copyN,List.length_append,copyN_len d out k];rfl
def putT (t:Ti) (out:List UInt8):List UInt8:=if t.2.1 = 0 then out++[t.1] else copyN t.2.2.toNat t.2.1.toNat out
theorem okX_cases {t:Ti} (h:okX t = true):(t.2.1 = 0∧t.2.2 = 0) ∨ (3 ≤ t.2.1∧t.2.1 ≤ 258∧1 ≤ t.2.2∧t.2.2 ≤ 32768∧t.1 = 0):=by
 unfold okX at h
 split at h
 ·exact .inl ⟨by assumption,by simpa using h⟩
 ·exact .inr (by simpa using h)
theorem szT_pos (t:Ti):1 ≤ szT t:=by unfold szT;split <;> omega
theorem szT_le {t:Ti} (h:okX t = true):szT t ≤ 258:=by
 unfold szT
 rcases okX_cases h with h | h <;> split <;> omega
theorem putT_len {t:Ti} (out:List UInt8) (h:okX t = true):((putT t out).length:Int) = (out.length:Int) + szT t:=by
 unfold putT szT
 rcases okX_cases h with ⟨h1,_⟩ | h1
 ·rw [if_pos h1,if_pos (by omega)];simp
 ·rw [if_neg (by omega),if_neg (by omega),copyN_len];omega
def expE (most:Int):List Ti→List UInt8→Int × List UInt8
 | [],out => (0,out)
 | t :: L,out => if okX t = false ∨ (out.length:Int) < t.2.2 then (3,[]) else if most - (out.length:Int) < szT t then (5,[]) else expE most L (putT t out)
def ti (t:Tk):Ti:=(t.1,(t.2.1:Int),(t.2.2:Int))
theorem ti_sz (t:Tk):szT (ti t) = (tsz t:Int):=by
 unfold szT ti tsz
 simp only
 split <;> omega
theorem tokAt_cases (bs:List UInt8) (lv:Int) (p:Nat):tokAt bs lv p = (bs.getD p 0,0,0) ∨
  ∃ n d:Nat,tokAt bs lv p = (0,n,d)∧3 ≤ n∧n ≤ 258∧1 ≤ d∧d ≤ 32768∧d ≤ p∧p + n ≤ bs.length∧∀ i,i < n→bs.getD (p + i) 0 = bs.getD (p + i - d) 0:=by
 unfold tokAt
 split
 ·exact .inl rfl
 ·rename_i h
  refine .inr ⟨_,_,rfl,?_⟩
  rcases bestM_of bs (p:Int) (depthN lv) with h0 | ⟨hd,hn⟩
  ·exact absurd (.inl (by rw [h0])) h
  ·have h3:=lenI_three hd
   have hb:=bestM_le bs (p:Int) (depthN lv)
   obtain ⟨_,hc1,hc2,hc3,hc4,_⟩:=cand_of hd
   rw [hn] at hb ⊢
   have hr:=lenI_at bs (a:=p) (d:=(bestM bs (p:Int) (depthN lv)).2) (by omega) hc2 hc3 (by omega)
   rw [hr] at h3 hb ⊢
   have hle:=runM_le bs p (bestM bs (p:Int) (depthN lv)).2 (capM bs p) 0
   have hcap:capM bs p ≤ bs.length - p:=by unfold capM;omega
   exact ⟨h3,hb,hc2,hc3,by omega,by omega,fun i hi => runM_same bs p _ _ 0 i (Nat.zero_le _) hi⟩
theorem take_snoc {bs:List UInt8} {p:Nat} (h:p < bs.length):bs.take p++[bs.getD p 0] = bs.take (p + 1):=by
 rw [List.take_add_one,List.getD,List.getElem?_eq_getElem h]
 rfl
theorem copyN_take {bs:List UInt8} {p d:Nat} (hd1:1 ≤ d) (hd:d ≤ p):∀ n,p + n ≤ bs.length→(∀ i,i < n→bs.getD (p + i) 0 = bs.getD (p + i - d) 0)→copyN d n (bs.take p) = bs.take (p + n)
 | 0,_,_ => rfl
 | n + 1,h,hs => by
  have ih:=copyN_take hd1 hd n (by omega) (fun i hi => hs i (by omega))
  have hlen:(bs.take (p + n)).length = p + n:=by rw [List.length_take];omega
  rw [copyN,ih,hlen,show p + (n + 1) = (p + n) + 1 by omega,← take_snoc (by omega),hs n (by omega)]
  congr 2
  rw [List.getD,List.getD,List.getElem?_take_of_lt (by omega)]
theorem tokAt_okX {bs:List UInt8} {lv:Int} {p:Nat}:okX (ti (tokAt bs lv p)) = true:=by
 rcases tokAt_cases bs lv p with h | ⟨n,d,h,h1,h2,h3,h4,_⟩
 ·rw [h];rfl
 ·rw [h]
  unfold okX ti
  simp only
  rw [if_neg (by omega)]
  simp
  omega
theorem tokAt_put {bs:List UInt8} {lv:Int} {p:Nat} (hp:p < bs.length):putT (ti (tokAt bs lv p)) (bs.take p) = bs.take (p + tsz (tokAt bs lv p))∧p + tsz (tokAt bs lv p) ≤ bs.length∧(tokAt bs lv p).2.2 ≤ p:=by
 rcases tokAt_cases bs lv p with h | ⟨n,d,h,h1,h2,h3,h4,h5,h6,h7⟩
 ·rw [h]
  refine ⟨?_,by show p + 1 ≤ _;omega,Nat.zero_le _⟩
  rw [putT,if_pos (by rfl)]
  exact take_snoc hp
 ·rw [h]
  have hsz:tsz (0,n,d) = n:=by unfold tsz;simp only;omega
  rw [hsz]
  refine ⟨?_,h6,h5⟩
  unfold putT ti
  simp only
  rw [if_neg (by omega),Int.toNat_natCast,Int.toNat_natCast]
  exact copyN_take h3 h5 n h6 h7
theorem toks_exp (bs:List UInt8) (lv most:Int):∀ (k p:Nat),bs.length - p ≤ k→p ≤ bs.length→expE most ((toks bs lv p).map ti) (bs.take p) = if (bs.length:Int) ≤ most ∨ bs.length = p then (0,bs) else (5,[])
 | 0,p,h,h2 => by rw [toks_end (by omega),if_pos (.inr (by omega)),show p = bs.length by omega,List.take_length];rfl
 | k + 1,p,h,h2 => by
  by_cases hp:p < bs.length
  ·obtain ⟨h4,h3,h5⟩:=tokAt_put (lv:=lv) hp
   have h1:=tsz_pos (tokAt bs lv p)
   have hlen:(bs.take p).length = p:=by rw [List.length_take];omega
   rw [toks_step hp,List.map_cons,expE,ti_sz,hlen,if_neg]
   ·by_cases hs:most - (p:Int) < ((tsz (tokAt bs lv p):Nat):Int)
    ·rw [if_pos hs,if_neg (by omega)]
    ·rw [if_neg hs,h4,toks_exp bs lv most k _ (by omega) h3]
     by_cases hq:(bs.length:Int) ≤ most
     ·rw [if_pos (.inl hq),if_pos (.inl hq)]
     ·rw [if_neg (by omega),if_neg (by omega)]
   ·rw [tokAt_okX]
    simp only [Bool.true_eq_false,false_or,ti]
    omega
  ·rw [toks_end (by omega),if_pos (.inr (by omega)),show p = bs.length by omega,List.take_length];rfl
end Go.Proofs.YtaknladkodibaaaGreatDoor
