/- Layer 7: elements in memory. -/
import Derived.Test.YtaknladkodibaaaGreatDoorMgQ33805
import Derived.Test.YtaknladkodibaaaGreatDoorRows
import Derived.Test.YtaknladkodibaaaGreatDoorMgQ33809
namespace Go.Proofs.YtaknladkodibaaaGreatDoor
open Go.RowKit
def elC (wt s:Nat) (p q:Option Addr):List Value:=[.int .i64 (wt:Int),.int .i64 (s:Int),.pointer p,.pointer q]
def At (w:World) (b o:Nat) (cs:List Value):Prop:=∀ r u,cs[r]? = some u→w.cell? ⟨b,o + r,none⟩ = some u
def El (w:World) (B:Nat):Nat→WE→List Value→Prop
 | 0,x,cs => ∃ s:Nat,x.2 = [s]∧s ≤ 1000∧cs = elC x.1 s none none
 | k + 1,x,cs => (∃ s:Nat,x.2 = [s]∧s ≤ 1000∧cs = elC x.1 s none none) ∨
  ∃ (a b:WE) (b1 o1 b2 o2:Nat) (c d:List Value),x = (a.1 + b.1,a.2++b.2)∧cs = elC x.1 0 (some ⟨b1,o1,none⟩) (some ⟨b2,o2,none⟩)∧b1 < B∧b2 < B∧El w B k a c∧El w B k b d∧At w b1 o1 c∧At w b2 o2 d
theorem dnBelow {B:Nat} {a w:World} (h:Below B a w) (n:Nat):Below B a (w.drewN n):=⟨h.os,h.tape,h.output,h.size,h.block⟩
theorem At.below {w w':World} {B b o:Nat} {cs:List Value} (h:At w b o cs) (hb:Below B w w') (hB:b < B):At w' b o cs:=fun r u hu => (hb.cell (p:=⟨b,o + r,none⟩) hB).trans (h r u hu)
theorem El.item {w:World} {B:Nat} {x:WE} {s:Nat} (h:x.2 = [s]) (hs:s ≤ 1000):∀ k,El w B k x (elC x.1 s none none)
 | 0 => ⟨s,h,hs,rfl⟩
 | _ + 1 => .inl ⟨s,h,hs,rfl⟩
theorem El.len {w:World} {B:Nat}:∀ {k:Nat} {x:WE} {cs:List Value},El w B k x cs→∃ (s:Nat) (p q:Option Addr),cs = elC x.1 s p q
 | 0,_,_,h => by
  obtain ⟨s,_,_,h⟩:=h
  exact ⟨s,none,none,h⟩
 | k + 1,_,_,h => by
  rcases h with ⟨s,_,_,h⟩ | ⟨a,b,b1,o1,b2,o2,c,d,_,h,_⟩
  ·exact ⟨s,none,none,h⟩
  ·exact ⟨0,_,_,h⟩
theorem El.below {w w':World} {B B' B2:Nat} (hb:Below B' w w') (h1:B ≤ B') (h2:B ≤ B2):∀ {k:Nat} {x:WE} {cs:List Value},El w B k x cs→El w' B2 k x cs
 | 0,_,_,h => h
 | k + 1,_,_,h => by
  rcases h with h | ⟨a,b,b1,o1,b2,o2,c,d,e1,e2,l1,l2,ha,hbb,a1,a2⟩
  ·exact .inl h
  ·exact .inr ⟨a,b,b1,o1,b2,o2,c,d,e1,e2,by omega,by omega,ha.below hb h1 h2,hbb.below hb h1 h2,a1.below hb (by omega),a2.below hb (by omega)⟩
theorem El.up {w:World} {B:Nat}:∀ {k:Nat} {x:WE} {cs:List Value},El w B k x cs→El w B (k + 1) x cs
 | 0,_,_,h => .inl h
 | k + 1,_,_,h => by
  rcases h with h | ⟨a,b,b1,o1,b2,o2,c,d,e1,e2,l1,l2,ha,hbb,a1,a2⟩
  ·exact .inl h
  ·exact .inr ⟨a,b,b1,o1,b2,o2,c,d,e1,e2,l1,l2,ha.up,hbb.up,a1,a2⟩
def RowE (w:World) (B k:Nat) (xs:List WE) (cs:List Value):Prop:=∃ E:List (WE × List Value),E.map (·.1) = xs∧E.flatMap (·.2) = cs∧∀ e ∈ E,El w B k e.1 e.2
theorem RowE.nil (w:World) (B k:Nat):RowE w B k [] []:=⟨[],rfl,rfl,fun _ h => by simp at h⟩
theorem RowE.below {w w':World} {B B' B2 k:Nat} {xs:List WE} {cs:List Value} (h:RowE w B k xs cs) (hb:Below B' w w') (h1:B ≤ B') (h2:B ≤ B2):RowE w' B2 k xs cs:=by
 obtain ⟨E,e1,e2,h⟩:=h
 exact ⟨E,e1,e2,fun e he => (h e he).below hb h1 h2⟩
theorem RowE.up {w:World} {B k:Nat} {xs:List WE} {cs:List Value} (h:RowE w B k xs cs):RowE w B (k + 1) xs cs:=by
 obtain ⟨E,e1,e2,h⟩:=h
 exact ⟨E,e1,e2,fun e he => (h e he).up⟩
theorem RowE.snoc {w:World} {B k:Nat} {xs:List WE} {cs:List Value} {x:WE} {c:List Value} (h:RowE w B k xs cs) (hx:El w B k x c):RowE w B k (xs++[x]) (cs++c):=by
 obtain ⟨E,rfl,rfl,h⟩:=h
 refine ⟨E++[(x,c)],by simp,by simp,fun e he => ?_⟩
 rcases List.mem_append.1 he with he | he
 ·exact h e he
 ·rw [List.mem_singleton.1 he]
  exact hx
theorem RowE.append {w:World} {B k:Nat} {xs ys:List WE} {cs ds:List Value} (h:RowE w B k xs cs) (h2:RowE w B k ys ds):RowE w B k (xs++ys) (cs++ds):=by
 obtain ⟨E,rfl,rfl,h⟩:=h
 obtain ⟨E2,rfl,rfl,h2⟩:=h2
 exact ⟨E++E2,by simp,by simp,fun e he => (List.mem_append.1 he).elim (h e) (h2 e)⟩
theorem RowE.cons {w:World} {B k:Nat} {x:WE} {xs:List WE} {cs:List Value} (h:RowE w B k (x :: xs) cs):∃ c d,cs = c++d∧El w B k x c∧RowE w B k xs d:=by
 obtain ⟨E,e1,rfl,h⟩:=h
 cases E with
 | nil => simp at e1
 | cons e E =>
  simp only [List.map_cons,List.cons.injEq] at e1
  obtain ⟨rfl,rfl⟩:=e1
  exact ⟨e.2,E.flatMap (·.2),by simp,h e (by simp),E,rfl,rfl,fun e' he => h e' (by simp [he])⟩
theorem El.four {w:World} {B k:Nat} {x:WE} {cs:List Value} (h:El w B k x cs):cs.length = 4:=by
 obtain ⟨s,p,q,rfl⟩:=h.len
 rfl
theorem RowE.len {w:World} {B k:Nat}:∀ {xs:List WE} {cs:List Value},RowE w B k xs cs→cs.length = xs.length * 4
 | [],cs,h => by
  obtain ⟨E,e1,rfl,_⟩:=h
  rw [List.map_eq_nil_iff.1 e1]
  rfl
 | x :: xs,cs,h => by
  obtain ⟨c,d,rfl,hx,hr⟩:=h.cons
  rw [List.length_append,hx.four,hr.len,List.length_cons]
  omega
theorem RowE.at_ {w:World} {B k:Nat}:∀ {xs:List WE} {cs:List Value} {i:Nat} {x:WE},RowE w B k xs cs→xs[i]? = some x→∃ c,El w B k x c∧∀ r u,c[r]? = some u→cs[i * 4 + r]? = some u
 | [],_,_,_,_,h => by simp at h
 | y :: xs,cs,i,x,hr,h => by
  obtain ⟨c,d,rfl,hx,hr⟩:=hr.cons
  cases i with
  | zero =>
   obtain rfl:y = x:=by simpa using h
   refine ⟨c,hx,fun r u hu => ?_⟩
   rw [Nat.zero_mul,Nat.zero_add,List.getElem?_append_left (List.getElem?_eq_some_iff.1 hu).1]
   exact hu
  | succ i =>
   obtain ⟨c',h1,h2⟩:=hr.at_ (i:=i) (by simpa using h)
   refine ⟨c',h1,fun r u hu => ?_⟩
   rw [List.getElem?_append_right (by rw [hx.four];omega),hx.four,show (i + 1) * 4 + r - 4 = i * 4 + r by omega]
   exact h2 r u hu
theorem RowE.one {w:World} {B k:Nat} {xs:List WE} {cs:List Value} (h:RowE w B k xs cs):∀ u ∈ cs,u.oneCell' = true:=by
 obtain ⟨E,_,rfl,h⟩:=h
 intro u hu
 obtain ⟨e,he,hu⟩:=List.mem_flatMap.1 hu
 obtain ⟨s,p,q,hc⟩:=(h e he).len
 rw [hc] at hu
 simp only [elC,List.mem_cons,List.not_mem_nil,or_false] at hu
 rcases hu with rfl | rfl | rfl | rfl <;> rfl
theorem RowE.drop {w:World} {B k:Nat}:∀ {xs:List WE} {cs:List Value} (i:Nat),RowE w B k xs cs→RowE w B k (xs.drop i) (cs.drop (i * 4))
 | _,_,0,h => by simpa using h
 | [],cs,i + 1,h => by
  have:=h.len
  rw [List.length_nil,Nat.zero_mul] at this
  rw [List.eq_nil_of_length_eq_zero this,List.drop_nil,List.drop_nil]
  exact RowE.nil _ _ _
 | x :: xs,cs,i + 1,h => by
  obtain ⟨c,d,rfl,hx,hr⟩:=h.cons
  rw [List.drop_succ_cons,show (i + 1) * 4 = c.length + i * 4 by rw [hx.four];omega,List.drop_length_add_append]
  exact hr.drop i
theorem row_at {w:World} {B k i b o:Nat} {xs:List WE} {cs:List Value} {x:WE} (h:RowE w B k xs cs) (hc:∀ j u,cs[j]? = some u→w.cell? ⟨b,o + j,none⟩ = some u) (hx:xs[i]? = some x):∃ c,El w B k x c∧At w b (o + i * 4) c:=by
 obtain ⟨c,h1,h2⟩:=h.at_ hx
 exact ⟨c,h1,fun r u hu => by
  rw [Nat.add_assoc]
  exact hc _ _ (h2 r u hu)⟩
theorem mg_step {x p:WE} {r ps:List WE} (h:x.1 ≤ p.1):mgW (x :: r) (p :: ps) = x :: mgW r (p :: ps):=by simp [mgW,h]
theorem mg_none (p:WE) (ps:List WE):mgW [] (p :: ps) = p :: mgW [] ps:=by simp [mgW]
theorem mg_stop {x p:WE} {r ps:List WE} (h:¬ x.1 ≤ p.1):mgW (x :: r) (p :: ps) = p :: mgW (x :: r) ps:=by simp [mgW,h]
theorem elElem:Elem Tryz.prog 265 269 (.agg #[.int .i64 0,.int .i64 0,.pointer none,.pointer none]) 4 32:=Elem.of Tryz.underlying265 (by kernel_rfl) (by kernel_rfl) (by omega)
theorem pr_at:∀ {xs:List WE} {j:Nat} {a b:WE},xs[2 * j]? = some a→xs[2 * j + 1]? = some b→(prW xs)[j]? = some (a.1 + b.1,a.2++b.2)
 | [],j,_,_,h,_ => by simp at h
 | [_],j,_,_,h,h2 => by simp at h2
 | a :: b :: r,0,x,y,h,h2 => by
  simp at h h2
  subst h h2
  rfl
 | a :: b :: r,j + 1,x,y,h,h2 => by
  rw [prW,List.getElem?_cons_succ]
  refine pr_at ?_ ?_
  ·rw [show 2 * (j + 1) = 2 * j + 1 + 1 by omega] at h
   simpa using h
  ·rw [show 2 * (j + 1) + 1 = 2 * j + 1 + 1 + 1 by omega] at h2
   simpa using h2
end Go.Proofs.YtaknladkodibaaaGreatDoor
