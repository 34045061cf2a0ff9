/- Layer 9: Put. -/
import Derived.Test.YtaknladkodibaaaGreatDoorMgQ19348
import Derived.Test.YtaknladkodibaaaGreatDoorMgQ19347
import Derived.Test.YtaknladkodibaaaGreatDoorMgQ19323
import Derived.Test.YtaknladkodibaaaGreatDoorMgQ19336
import Derived.Test.YtaknladkodibaaaGreatDoorMgQ19320
import Derived.Test.YtaknladkodibaaaGreatDoorMgQ19316
import Derived.Test.YtaknladkodibaaaGreatDoorMgQ19330
import Derived.Test.YtaknladkodibaaaGreatDoorMgQ19325
import Derived.Test.YtaknladkodibaaaGreatDoorMgQ19328
import Derived.WalkMore
import Derived.Test.YtaknladkodibaaaGreatDoorMgQ193SRnRJ
import Derived.Test.YtaknladkodibaaaGreatDoorMgQ19305
import Derived.Test.YtaknladkodibaaaGreatDoorMgQ19346
import Derived.Deep.RegionLaw
import Derived.Test.YtaknladkodibaaaGreatDoorMgQ19308
namespace Go.Proofs.YtaknladkodibaaaGreatDoor
open Go.RowKit Go.Shelf BitsP
attribute [local go_sem] Oper.semAt_some
theorem wr_own {W : World} {q base : Nat} {S : Nat → Prop} {L : List Bool} (h : WrS W q base S L) :
  ∃ v,W.cell? ⟨q,0,none⟩ = some v ∧ S = orS (oneB q) (ownS v) ∧ ¬ ownS v q ∧ (∀ k,ownS v k → base ≤ k) ∧ ∀ k,S k → ∃ o,W.heap[k]? = some o ∧ o.isCells = true := by
 obtain ⟨whole,R,hsp,A,c,hb,hown,rfl⟩ := h
 refine ⟨_,hb.cells.1,rfl,own_ne hown hb (by decide),own_base hown,fun k hk => ?_⟩
 rcases hk with rfl | hk
 ·exact ⟨_,hb,rfl⟩
 ·rcases hown.2 with ⟨h1,_⟩ | ⟨g,cap,cur,h1,_,hh,_⟩
  ·rw [h1] at hk;cases hk
  ·rw [h1] at hk
   cases hk
   exact ⟨_,hh,rfl⟩
theorem wr_kept {W W' : World} {q base : Nat} {S : Nat → Prop} {L : List Bool} (h : WrS W q base S L) (hm : Mod S W W') : KeepsOthers W W' := by
 obtain ⟨v,_,_,_,_,hc⟩ := wr_own h
 exact ⟨hm.size,fun k o hk ho => hm.keep hk (fun hs => by
  obtain ⟨o',h1,h2⟩ := hc k hs
  rw [hk] at h1
  cases h1
  rw [ho] at h2
  cases h2)⟩
theorem kpb_wr {W W' : World} {n q base : Nat} {S S' : Nat → Prop} {L L' : List Bool} (h : WrS W q base S L) (h' : WrS W' q base S' L') (hm : Mod S W W') (hs : ∀ k,S' k → S k ∨ W.heap.size ≤ k) (hn : n ≤ W.heap.size) (hq : n ≤ q) (hb : n ≤ base) : KpB n q W W' := by
 obtain ⟨v,h1,h2,h3,h4,_⟩ := wr_own h
 obtain ⟨v',k1,k2,k3,_,_⟩ := wr_own h'
 have e1 : ownOf q W = v.ownBlock := by unfold ownOf;rw [h1];rfl
 have e2 : ownOf q W' = v'.ownBlock := by unfold ownOf;rw [k1];rfl
 refine ⟨hm.below (Below.refl n W) hn (fun k hk => ?_),fun k o hk _ hkq hno => hm.keep hk (fun hsk => ?_),fun k hk => ?_,hm.size⟩
 ·rw [h2] at hk
  rcases hk with hk | hk
  ·have : k = q := hk;omega
  ·have := h4 k hk;omega
 ·rw [h2] at hsk
  rcases hsk with hsk | hsk
  ·exact hkq hsk
  ·exact hno (e1.trans hsk)
 ·rw [e2] at hk
  have hlt := h'.lt k (by rw [k2];exact .inr hk)
  refine ⟨?_,.inr hlt⟩
  rcases hs k (by rw [k2];exact .inr hk) with hsk | hsk
  ·rw [h2] at hsk
   rcases hsk with hsk | hsk
   ·have : k = q := hsk
    subst this
    exact absurd hk k3
   ·exact .inl (e1.trans hsk)
  ·exact .inr hsk
def ofI (N : Nat) (W1 : World) (pre : List (Nat × Nat)) (W : World) : Prop := NB W (N + 1) (oftP pre) ∧ Boxed W (N + 2) 156 (.slice (some ⟨N + 1,0,none⟩) 19 19) ∧ Below (N + 1) W1 W
theorem ofI_own (N M : Nat) (W1 : World) (h1 : N + 1 ≤ W1.heap.size) (h2 : N + 1 ≤ M) : OwnFrom M (ofI N W1) := by
 have h : OwnS M (fun _ => False) (ofI N W1) := (ownS_cells (cs := fun pre => (nCs (oftP pre)).toArray) (fun h => h)).and ((ownS_cells (cs := fun _ => #[.slice (some ⟨N + 1,0,none⟩) 19 19]) (fun h => h)).and (ownS_below h1 h2 (fun _ h => h.elim)))
 exact h.from
theorem ofI.alloc' {N : Nat} {W1 W : World} {pre : List (Nat × Nat)} (h : ofI N W1 pre W) (o : Obj) : ofI N W1 pre (W.alloc o) :=
 ⟨(Below.heap_alloc _ _ _ (Array.getElem?_eq_some_iff.1 h.1).1).trans h.1,h.2.1.alloc _,h.2.2.alloc (by have := h.2.1.lt;omega) o⟩
theorem ofI_step {N : Nat} {W1 W : World} {pre : List (Nat × Nat)} {t : Nat × Nat} {x : Nat} (h : ofI N W1 pre W) (hx : (oftP pre)[t.1]? = some x) :
  KeepsOthers W (W.setCell ⟨N + 1,t.1,none⟩ (.int .i64 ((x : Int) + 1))) ∧ KpB N (N + 2) W (W.setCell ⟨N + 1,t.1,none⟩ (.int .i64 ((x : Int) + 1))) ∧ ofI N W1 (pre ++ [t]) (W.setCell ⟨N + 1,t.1,none⟩ (.int .i64 ((x : Int) + 1))) := by
 have hg : (oftP pre).getD t.1 0 = x := by rw [List.getD,hx];rfl
 have hs : (W.setCell ⟨N + 1,t.1,none⟩ (.int .i64 ((x : Int) + 1))).heap[N + 2]? = W.heap[N + 2]? := Below.heap_setCell _ _ _ _ (by show N + 2 ≠ N + 1;omega)
 refine ⟨KeepsOthers.setCell _ _ _,⟨(Below.refl N W).setCell (p := ⟨N + 1,t.1,none⟩) (Nat.le_succ N) _,fun k o hk _ hkb hno => ?_,fun k hk => ?_,by simp [World.setCell]⟩,?_,hs.trans h.2.1,h.2.2.setCell (p := ⟨N + 1,t.1,none⟩) (Nat.le_refl _) _⟩
 ·refine (Below.heap_setCell _ _ _ k (fun e => hno ?_)).trans hk
  have e2 : k = N + 1 := e
  rw [ownOf_box h.2.1,e2]
  rfl
 ·rw [ownOf_block hs] at hk
  exact ⟨.inl hk,.inl hk⟩
 ·rw [oftP_snoc,hg]
  exact h.1.set _ _
theorem part_lt {ls : List Nat} (hv : ∀ x ∈ ls,x ≤ 15) {t : Nat × Nat} (h : t ∈ partsP ls 0) : t.1 < 19 := partsP_all hv t h
structure PutI (S : Nat → Prop) (W6 : World) (q base : Nat) (S' : Nat → Prop) (M : List Bool) (X : World) : Prop where
 wr : WrS X q base S' M
 mod : Mod S W6 X
 own : ∀ k,S' k → S k ∨ W6.heap.size ≤ k
section
variable {S S' S2 : Nat → Prop} {W6 X Y : World} {q base : Nat} {M M2 : List Bool}
theorem PutI.next (h : PutI S W6 q base S' M X) (hw : WrS Y q base S2 M2) (hm : Mod S' X Y) (hs : ∀ k,S2 k → S' k ∨ X.heap.size ≤ k) : PutI S W6 q base S2 M2 Y :=
 ⟨hw,h.mod.trans hm h.own,fun k hk => by
  rcases hs k hk with h1 | h1
  ·exact h.own k h1
  ·exact .inr (Nat.le_trans h.mod.size h1)⟩
theorem PutI.below (h : PutI S W6 q base S' M X) (hb : Below X.heap.size X Y) : PutI S W6 q base S' M Y :=
 ⟨h.wr.keep (Mod.of_below hb) (fun _ _ h => h),h.mod.trans (Mod.of_below hb) (fun _ h => h.elim),h.own⟩
theorem PutI.grown (h : PutI S W6 q base S' M X) {row : Option Nat} (hg : X.grownBy Y row) (hr : ∀ r,row = some r → W6.heap.size ≤ r ∧ ∃ o : Obj,X.heap[r]? = some o ∧ o.isCells = false) : PutI S W6 q base S' M Y := by
 have hm : Mod (fun k => row = some k) X Y := ⟨hg.os,hg.tape,hg.output,hg.size,fun k hk hn => hg.block k hk (fun e => hn e.symm)⟩
 obtain ⟨v,_,_,_,_,hc⟩ := wr_own h.wr
 refine ⟨h.wr.keep hm (fun k hk e => ?_),h.mod.trans hm (fun k e => .inr (hr k e).1),h.own⟩
 obtain ⟨o,h1,h2⟩ := hc k hk
 obtain ⟨_,o',h3,h4⟩ := hr k e
 rw [h1] at h3
 cases h3
 rw [h2] at h4
 cases h4
end
theorem PutI.base_ {S S' : Nat → Prop} {w W6 X : World} {q base : Nat} {M : List Bool} (h : PutI S W6 q base S' M X) (hb : Below w.heap.size w W6) : PutI S w q base S' M X :=
 ⟨h.wr,((Mod.of_below hb).mono (fun _ h => h.elim)).then_ h.mod,fun k hk => (h.own k hk).imp id (fun h1 => Nat.le_trans hb.size h1)⟩
theorem wr_ownOf {X : World} {q base k : Nat} {S : Nat → Prop} {M : List Bool} (h : WrS X q base S M) (hk : ownOf q X = some k) : S k := by
 obtain ⟨v,h1,h2,_⟩ := wr_own h
 unfold ownOf at hk
 rw [h1] at hk
 rw [h2]
 exact .inr hk
theorem wr_not {X : World} {q base k : Nat} {S : Nat → Prop} {M : List Bool} {cs : Array Value} {t : TypeId} (h : WrS X q base S M) (hk : X.heap[k]? = some (.cells cs t (0,0))) (h1 : 114 ≠ t) (h2 : 5 ≠ t) : ¬ S k := by
 obtain ⟨whole,R,hsp,A,c,hb,hown,rfl⟩ := h
 rintro (hs | hs)
 ·have e : k = q := hs
  subst e
  rw [show X.heap[k]? = _ from hb] at hk
  injection hk with hk
  injection hk with _ e2 _
  exact h1 e2
 ·exact own_ne hown hk h2 hs
theorem cells_mod {W X : World} {S : Nat → Prop} {A : Option Addr} {xs : List Value} (h : Cells W W.heap.size A xs) (hm : Mod S W X) (hA : ∀ a,A = some a → ¬ S a.block) : Cells X X.heap.size A xs := fun hp => by
 obtain ⟨b,o,e,hb,hc⟩ := h hp
 exact ⟨b,o,e,Nat.lt_of_lt_of_le hb hm.size,fun j u hj => (World.cell?_of_block (a := ⟨b,o + j,none⟩) (hm.block b hb (hA _ e))).trans (hc j u hj)⟩
def prI (S : Nat → Prop) (W6 : World) (q base : Nat) (M : List Bool) (zs : List Int) (pre : List (Nat × Nat)) (X : World) : Prop := ∃ S',PutI S W6 q base S' (M ++ partsB zs pre) X
theorem prI_own (B : Nat) (S : Nat → Prop) (W6 : World) (q base : Nat) (M : List Bool) (zs : List Int) (hB : W6.heap.size ≤ B) : OwnFrom B (prI S W6 q base M zs) := fun _ _ _ _ ⟨S',h⟩ hg hr =>
 ⟨S',h.grown hg (fun r e => ⟨Nat.le_trans hB (hr r e).1,(hr r e).2⟩)⟩
theorem lnP_le {ps : List (Nat × Nat)} {k n : Nat} (h : (lnP ps)[k]? = some n) : n ≤ 15 := by
 have h1 := lensW_right (ns := oftP ps) (by rw [oftP_len];omega) (n : Int) (List.mem_of_getElem? (zN_at h))
 have := (lenB_yes h1).2
 omega
theorem rnput_start {w W6 : World} {S : Nat → Prop} {q base : Nat} {L : List Bool} (h : WrS w q base S L) (hb : Below w.heap.size w W6) : PutI S W6 q base S L W6 :=
 ⟨h.keep (Mod.of_below hb) (fun _ _ h => h),Mod.refl _ _,fun _ h => .inl h⟩
theorem LCa.keep {w w' : World} {n g : Nat} {zs : List Int} {S : Nat → Prop} (h : LCa w n g zs) (hm : Mod S w w') (hS : ∀ k,S k → k < n) : LCa w' n g zs := by
 obtain ⟨A1,A2,A3,c1,c2,c3,m,hcb,hmx,h1,h2,h3,hg,ha⟩ := h
 have hgl := cb_lt hcb
 have key : ∀ {A : Option Addr} {xs : List Value},(∀ a,A = some a → n ≤ a.block) → Cells w g A xs → Cells w' g A xs := fun hA hc hp => by
  obtain ⟨b,o,e,hb,hcc⟩ := hc hp
  have hnb := hA _ e
  exact ⟨b,o,e,hb,fun j u hj => (World.cell?_of_block (a := ⟨b,o + j,none⟩) (hm.block b (by omega) (fun hs => by have := hS b hs;dsimp only at hnb;omega))).trans (hcc j u hj)⟩
 exact ⟨A1,A2,A3,c1,c2,c3,m,hm.keep hcb (fun hs => by have := hS g hs;omega),hmx,key (fun a e => ha a (.inl e)) h1,key (fun a e => ha a (.inr (.inl e))) h2,key (fun a e => ha a (.inr (.inr e))) h3,hg,ha⟩
theorem parts_mem {ls : List Nat} : ∀ k p,ls.length - p ≤ k → ∀ t ∈ partsP ls p,∃ j,j < ls.length ∧ t = (numP ls j,manyP ls j)
 | 0,p,h,t,ht => by rw [partsP_end (by omega)] at ht;cases ht
 | k + 1,p,h,t,ht => by
  by_cases hp : p < ls.length
  ·have h1 := manyP_pos hp
   rw [partsP_step hp] at ht
   rcases List.mem_cons.1 ht with rfl | ht
   ·exact ⟨p,hp,rfl⟩
   ·exact parts_mem k _ (by omega) t ht
  ·rw [partsP_end hp] at ht
   cases ht
theorem part_bd {ls : List Nat} (hv : ∀ x ∈ ls,x ≤ 15) {t : Nat × Nat} (h : t ∈ partsP ls 0) : t.1 < 19 ∧ (spanP t.1).1 ≤ t.2 ∧ t.2 ≤ ls.length ∧ t.2 - (spanP t.1).1 < 2 ^ (spanP t.1).2 := by
 obtain ⟨j,hj,rfl⟩ := parts_mem ls.length 0 (by omega) t h
 have h1 := numP_le hv j
 have h2 := many_le hj
 refine ⟨?_,span_le_many hv hj,?_,more_lt hv hj⟩
 ·show numP ls j < 19
  omega
 ·show manyP ls j ≤ ls.length
  omega
set_option maxRecDepth 100000 in
set_option maxHeartbeats 4000000 in
theorem rnput_any (A : Option Addr) (l c : Nat) (ls : List Nat) (q base : Nat) (S : Nat → Prop) (L : List Bool) (w : World) (hl : ls.length = l) (h1l : 1 ≤ l) (hm : l ≤ 320) (hv : ∀ x ∈ ls,x ≤ 15) (hb : Cells w w.heap.size A (nCs ls))
  (hA : ∀ a,A = some a → ¬ S a.block) (hw : WrS w q base S L) (hL : L.length ≤ 100000000) (hbase : base ≤ w.heap.size) :
  Calls Tryz.prog 151 #[.pointer (some ⟨q,0,none⟩),.slice A l c] w fun e w' => e = .returned (.int .i64 0) ∧ ∃ S',WrS w' q base S' (L ++ tabP ls) ∧ Mod S w w' ∧ ∀ k,S' k → S k ∨ w.heap.size ≤ k := by
 have HR := Lib.hid (rightL_any A l c (ls.map (fun n : Nat => (n : Int))) w.heap.size)
 have HL := Lib.hid hl
 have HC := Lib.hid hb
 have HV := Lib.hid hv
 have HW := Lib.hid hw
 have HA := Lib.hid hA
 have t1 : decide ((320 : Int) < (l : Int)) = false := decide_eq_false (by omega)
 have t2 : ((l : Int) == 0) = false := by simp;omega
 have HRW : Hid (∀ W,Below w.heap.size w W → _) := fun W (hW : Below w.heap.size w W) => HR.out W (by rw [List.length_map];exact hl) (by omega) (by rw [nCs_ic];exact (hb.below hW (Nat.le_refl _)))
 rw [all_right hv] at HRW
 clear hb hl hv hw hA HR
 refine (callsIn_wide (n := 6)).1 ?_
 refine callsIn_of_wp_marks Tryz.func151 rfl trivial ?_ rfl
 simp only [Tryz.ntmps151,List.size_toArray,List.length_cons,List.length_nil,Nat.reduceAdd,Nat.reduceSub,Array.replicate_succ,Array.replicate_zero,List.push_toArray,List.append_toArray,List.nil_append,List.cons_append]
 obtain ⟨W1,hW1⟩ : ∃ W1,w.alloc (.cells #[.pointer (some ⟨q,0,none⟩)] 116) = W1 := ⟨_,rfl⟩
 have HB1 : Hid (Below w.heap.size w W1) := by show Below _ _ _;rw [← hW1];exact (Below.refl _ w).alloc (Nat.le_refl _) _
 have HX1 : Hid (Boxed W1 w.heap.size 116 (.pointer (some ⟨q,0,none⟩))) := by show Boxed _ _ _ _;rw [← hW1];exact Boxed.new w _ _
 have HZ1 : Hid (W1.heap.size = w.heap.size + 1) := by show _ = _;rw [← hW1];simp
 have c1 := HX1.out.cell
 obtain ⟨W2,hW2⟩ : ∃ W2,W1.alloc (.cells (madeCells #[.int .i64 0] 19) 3) = W2 := ⟨_,rfl⟩
 have hmk : (Instr.makeSlice 156 (.int .i64 19) (.int .i64 19)).run Tryz.prog W1 = .ok (.slice (some ⟨W1.heap.size,0,none⟩) 19 19) W2 := by rw [← hW2];exact wei_make 19 (by omega) W1
 have HN2 : Hid (NB W2 W1.heap.size (List.replicate 19 0)) := by show NB _ _ _;rw [← hW2];exact wei_made W1 19
 have HB2 : Hid (Below W1.heap.size W1 W2) := by show Below _ _ _;rw [← hW2];exact (Below.refl _ _).alloc (Nat.le_refl _) _
 have HZ2 : Hid (W2.heap.size = W1.heap.size + 1) := by show _ = _;rw [← hW2];simp
 clear hW2
 gi_wp2_with (first
  | (refine ⟨trivial,?_⟩;gi_at_call 189;refine (callsIn_wide.2 (HRW.out _ HB1.out)).mono ?_;rintro e w' ⟨rfl,rfl⟩)
  | (refine ⟨trivial,?_⟩;gi_at_call 190;refine (callsIn_wide.2 (parts_any _ _ _ _)).mono ?_;rintro e w3 ⟨rfl,hw3⟩;have HW3 := Lib.hid hw3;clear hw3))
 obtain ⟨N,hN⟩ : ∃ N,w.heap.size = N := ⟨_,rfl⟩
 have HNN := Lib.hid hN
 have hz1 : W1.heap.size = N + 1 := by rw [HZ1.out,hN]
 have hz2 : W2.heap.size = N + 2 := by rw [HZ2.out,hz1]
 have hz3 : w3.heap.size = N + 4 := by rw [← HW3.out];simp [hz2]
 have hb23 : Below (N + 2) W2 w3 := by rw [← HW3.out,← hz2];exact ((Below.refl _ W2).alloc (Nat.le_refl _) _).alloc (by simp) _
 have HB13 : Hid (Below (N + 1) W1 w3) := by
  have h := HB2.out
  rw [hz1] at h
  exact h.trans (hb23.mono (by omega))
 have HV3 : Hid (Boxed w3 (N + 2) 156 (.slice (some ⟨N + 1,0,none⟩) 19 19)) := by
  show Boxed _ _ _ _
  rw [← HW3.out,← hz2,← hz1]
  exact (Boxed.new W2 _ _).alloc _
 have HC3 : Hid (Boxed w3 (N + 3) 156 (.slice A l c)) := by
  show Boxed _ _ _ _
  rw [← HW3.out]
  have h := Boxed.new (W2.alloc (.cells #[.slice (some ⟨W1.heap.size,0,none⟩) 19 19] 156)) 156 (.slice A l c)
  rw [World.size_alloc,hz2] at h
  exact h
 have HN3 : Hid (NB w3 (N + 1) (List.replicate 19 0)) := by
  have h := HN2.out
  rw [hz1] at h
  exact h.below hb23 (by omega)
 have hAN : ∀ a,A = some a → a.block < N := fun a ha => by
  obtain ⟨b,o,hab,hbl,_⟩ := HC.out (by rw [nCs_len,HL.out];omega)
  rw [ha] at hab
  cases hab
  rw [← hN]
  exact hbl
 have hb1 := HB1.out
 have HCW : Hid (∀ W,Below N w W → Cells W N A (nCs ls)) := fun W hW => by
  have h := HC.out
  rw [hN] at h
  exact h.below hW (Nat.le_refl _)
 have HBN : Hid (Below N w W1) := by rw [← hN];exact hb1
 have HSEQ := Lib.hid (parts_seqS N (N + 2) (N + 3) A l c ls w3 HL.out hm HV.out ((HCW.out w3 (HBN.out.trans (HB13.out.mono (by omega)))).more (by omega)) (by omega) (by omega) (by omega) (fun a ha => by have := hAN a ha;omega)
  (fun k hk => by
   have e : N + 1 = k := by rw [ownOf_box HV3.out] at hk;simpa [Value.ownBlock] using hk
   exact ⟨by omega,by omega,fun a ha => by have := hAN a ha;omega⟩) HC3.out)
 have HAN := Lib.hid hAN
 have HZ3 := Lib.hid hz3
 have HX1N : Hid (Boxed W1 N 116 (.pointer (some ⟨q,0,none⟩))) := by have h := HX1.out;rw [hN] at h;exact h
 have HS1 := Lib.hid hz1
 rw [hz2,hz1,hN,show N + 2 + 1 = N + 3 from rfl]
 clear hz1 hz2 hz3 hN hb1 hb23 hAN HW3 HB1 HB2 HX1 HZ1 HZ2 HN2 c1 HRW hmk hW1 HC
 refine wpIn_rangeFunc_ownH rfl (by omega) (gf := 220) (lb := #[.pointer (some ⟨N + 3,0,none⟩)]) rfl trivial (enters_of Tryz.func220 (by kernel_rfl) rfl) HSEQ.out
  (fun h k => h.trans k) (fun W l o o' hl ho hc _ => KpB.putObj W l o o' (by have := HZ3.out;omega) (by have := HZ3.out;omega) ho hc) (Below.refl _ _) (fun _ => rfl)
  (fun (pre : List (PtIn ls)) W => ofI N W1 (pre.map (·.1)) W) (fun _ _ _ => False) (fun s => ofI_own N _ W1 (by rw [HS1.out];exact Nat.le_refl _) (by have := HZ3.out;omega) _) (fun _ _ _ _ _ h _ _ => h)
  ⟨HN3.out,HV3.out,HB13.out⟩
  (fun (t : PtIn ls) a' W => ∃ Bx,W.heap[Bx]? = some (.cells #[.int .i64 (t.1.1 : Int),.int .i64 (t.1.2 : Int)] 277) ∧ a' = { tmps := (.pointer (some ⟨q,0,none⟩) :: .slice A l c :: .pointer (some ⟨N,0,none⟩) :: undef :: .int .i64 0 :: .pointer (some ⟨N + 2,0,none⟩) :: .pointer (some ⟨Bx,0,none⟩) :: undef :: undef :: undef :: undef :: undef :: undef :: undef :: undef :: undef :: .slice A l c :: .int .i64 (l : Int) :: .bool false :: .bool false :: .slice A l c :: .int .i64 (l : Int) :: .bool false :: .bool false :: .slice A l c :: .bool true :: .bool false :: .bool false :: .pointer (some ⟨q,0,none⟩) :: .bool false :: .bool false :: .slice (some ⟨N + 1,0,none⟩) 19 19 :: .slice A l c :: .func (.func 220) #[] #[.pointer (some ⟨N + 3,0,none⟩)] :: ptV t.1 :: undef :: undef :: undef :: undef :: undef :: undef :: undef :: undef :: undef :: undef :: undef :: undef :: undef :: undef :: undef :: undef :: undef :: undef :: undef :: undef :: undef :: undef :: undef :: undef :: undef :: undef :: undef :: undef :: undef :: undef :: undef :: undef :: undef :: undef :: undef :: undef :: undef :: undef :: undef :: undef :: undef :: undef :: undef :: undef :: undef :: undef :: undef :: undef :: undef :: undef :: undef :: undef :: undef :: undef :: undef :: []).toArray,defers := [] })
  (fun t a' _ X Y row hs hg hr => by
   obtain ⟨Bx,h1,h2⟩ := hs
   refine ⟨Bx,(hg.block Bx (Array.getElem?_eq_some_iff.1 h1).1 (fun e => ?_)).trans h1,h2⟩
   obtain ⟨_,o,ho,hc⟩ := hr Bx e.symm
   rw [h1] at ho;cases ho;cases hc)
  ?assign ?body ?done ?stop
 case assign =>
  rintro gy pre ⟨⟨tn,td⟩,hmem⟩ W K hi hK
  simp only [ptV]
  gi_wp2
  exact hK _ _ ((KeepsOthers.alloc _ _).from _) (kpb_alloc _ (by have := hi.2.1.lt;omega) hi.2.1.lt) (hi.alloc' _) ⟨W.heap.size,heap_alloc_new W _,rfl⟩
 case body =>
  rintro gy pre ⟨⟨tn,td⟩,hmem⟩ a' W hlb ⟨r,hr⟩ hi ⟨Bx,hx,rfl⟩ hlt
  have hv := hi.2.1
  have c5 := hv.cell
  have k0 : W.cell? ⟨Bx,0,none⟩ = some (.int .i64 (tn : Int)) := cell_of_row W _ 0 _ _ _ hx
  have hk := part_lt HV.out hmem
  obtain ⟨x,hx2⟩ : ∃ x,(oftP (pre.map (·.1)))[tn]? = some x := ⟨_,List.getElem?_eq_getElem (by rw [oftP_len];exact hk)⟩
  have k1 : W.cell? ⟨N + 1,tn,none⟩ = some (.int .i64 (x : Int)) := NB.cell hi.1 hx2
  have hf : W.frozen? ⟨N + 1,tn,none⟩ = false := NB.free hi.1
  have hxb : x ≤ 320 := by
   have h1 := oftP_le _ x (List.mem_of_getElem? hx2)
   rw [List.length_map] at h1
   omega
  have HI := Lib.hid (ofI_step (t := (tn,td)) hi hx2)
  clear hi hx hv hx2
  simp only [ptV]
  gi_wp2
  obtain ⟨h1,h2,h3⟩ := HI.out
  refine ⟨h1.from _,h2,?_⟩
  show ofI N W1 ((pre ++ [(⟨(tn,td),hmem⟩ : PtIn ls)]).map (·.1)) _
  rw [List.map_append]
  exact h3
 case done =>
  rintro D ys W hD hS hi hK
  rw [hS] at hi
  have HI := Lib.hid hi
  have HK := Lib.hid hK
  have c5 := hi.2.1.cell
  clear hi hK hS HSEQ HN3 HV3 HC3 HB13
  obtain ⟨ps,hps⟩ : ∃ ps,partsP ls 0 = ps := ⟨_,rfl⟩
  have HPS := Lib.hid hps
  rw [hps] at HI
  have HRT : Hid (caR (zN (lnP ps)) = true) := by
   show _ = _
   obtain ⟨t,ht⟩ := partsP_ne (ls := ls) (by rw [HL.out];omega)
   have h19 := part_lt HV.out ht
   rw [hps] at ht
   exact lnP_right ht h19
  have hpl : ps.length ≤ 320 := by
   rw [← hps]
   have := partsP_len ls ls.length 0 (by omega)
   have := HL.out
   omega
  clear hps
  have HIT := HI.out
  have hln := lengths_ok (some ⟨N + 1,0,none⟩) 19 19 (oftP ps) W.heap.size W (oftP_len ps) (by omega) (by
   have h := Cells.of_own (HIT.1.own (base := N + 1) (Nat.le_refl _) (by rw [oftP_len];decide))
   exact h) (Nat.le_refl _) (fun n hn => by have := oftP_le ps n hn;omega)
  have HLN := Lib.hid hln
  have hwl : IntKind.u32.wrap (l : Int) = (l : Int) := IntWalk.u32_in _ (by omega)
  have hln2 := HNN.out
  have hwN : N + 2 < W.heap.size := HIT.2.1.lt
  have HBW : Hid (Below N w W) := HBN.out.trans (HIT.2.2.mono (Nat.le_succ N))
  have HXW : Hid (Boxed W N 116 (.pointer (some ⟨q,0,none⟩))) := (HIT.2.2.block N (by omega)).trans HX1N.out
  clear HIT hln HX1N HI
  gi_wp2_with (first
   | (refine ⟨trivial,?_⟩;gi_at_call 150;refine (callsIn_wide.2 HLN.out).mono ?_;rintro e w4 ⟨A4,k4,rfl,hown4,hb4⟩;have HO4 := Lib.hid hown4;have HB4 := Lib.hid hb4;clear hown4 hb4)
   | (refine ⟨trivial,?_⟩;gi_at_call 152;refine (callsIn_wide.2 (new_low A4 19 k4 (zN (lnP ps)) w4.heap.size w4 (by rw [zN_len,lnP_len]) (by omega) (by rw [show (zN (lnP ps)).map ic = nCs (lnP ps) from nCs_ic _];exact Cells.of_own HO4.out) (Nat.le_refl _) HRT.out)).mono ?_;rintro e w5 ⟨g,rfl,hlc,hb5⟩;have HLC := Lib.hid hlc;have HB5 := Lib.hid hb5;clear hlc hb5;obtain ⟨W6,hW6⟩ : ∃ W6,w5.alloc (.cells #[.pointer (some ⟨g,0,none⟩)] 161) = W6 := ⟨_,rfl⟩;have hB56 : Below w5.heap.size w5 W6 := (by rw [← hW6];exact (Below.refl _ _).alloc (Nat.le_refl _) _);have HX9 : Hid (Boxed W6 w5.heap.size 161 (.pointer (some ⟨g,0,none⟩))) := (by show Boxed _ _ _ _;rw [← hW6];exact Boxed.new w5 _ _);have HZ6 : Hid (W6.heap.size = w5.heap.size + 1) := (by show _ = _;rw [← hW6];simp);have HS45 : Hid (W.heap.size ≤ w4.heap.size ∧ w4.heap.size ≤ w5.heap.size) := ⟨HB4.out.size,HB5.out.size⟩;have HBX : Hid (Below W.heap.size W W6) := (HB4.out.trans (HB5.out.mono HB4.out.size)).trans (hB56.mono (Nat.le_trans HB4.out.size HB5.out.size));have HX6 : Hid (Boxed W6 N 116 (.pointer (some ⟨q,0,none⟩))) := (HBX.out.block N (by omega)).trans HXW.out;have HLC6 := Lib.hid (HLC.out.keep (Mod.of_below hB56) (fun _ h => h.elim));have HO6 := Lib.hid (own_keep (own_keep HO4.out (Mod.of_below HB5.out) (fun _ _ h => h)) (Mod.of_below hB56) (fun _ _ h => h));have HK6 := Lib.hid ((HBX.out.block D (Array.getElem?_eq_some_iff.1 HK.out).1).trans HK.out);have HBW6 : Hid (Below N w W6) := HBW.out.trans (HBX.out.mono (by omega));have HPI := Lib.hid (rnput_start HW.out (by rw [HNN.out];exact HBW6.out));have c2 := HX6.out.cell;have HP6 := Lib.hid (wput_any q base S L (l : Int) 9 W6 HPI.out.wr (by omega) (by have := HBW6.out.size;omega) (by omega) (by omega) (by omega) (by omega));clear hB56 HLC HB4 HB5 HO4 c5)
   | (refine ⟨trivial,?_⟩;gi_at_call 155;refine (callsIn_wide.2 HP6.out).mono ?_;rintro e w7 ⟨rfl,S7,hw7,hm7,hs7⟩;rw [show cnt 9 = 9 from rfl,Int.toNat_natCast] at hw7;have HP7 := Lib.hid (HPI.out.next hw7 hm7 hs7);clear hw7 hm7 hs7 HP6 c2))
  obtain ⟨L1,hL1⟩ : ∃ L1,L ++ bitsOf l 9 = L1 := ⟨_,rfl⟩
  have HL1 := Lib.hid hL1
  have hl1 : L1.length ≤ 100000009 := by rw [← hL1,List.length_append,bitsOf_length];omega
  rw [hL1] at HP7
  obtain ⟨zs,hzs⟩ : ∃ zs,zN (lnP ps) = zs := ⟨_,rfl⟩
  have HZS := Lib.hid hzs
  rw [hzs] at HRT HLC6
  clear hL1 hzs
  have HSN : Hid (∀ k,S k → k < N) := fun k hk => by have := HW.out.lt k hk;omega
  have hz6 := HZ6.out
  have hs45 := HS45.out
  gi_loopw [59] (fun i wr => ∃ (k : Nat) (S' : Nat → Prop),k ≤ 19 ∧ i = .int .i64 (k : Int) ∧ PutI S W6 q base S' (L1 ++ lensB ((lnP ps).take k)) wr) (fun i _ => 19 - (intOf i).toNat)
  case atStart => exact ⟨0,S7,by omega,rfl,by simpa [lensB] using HP7.out⟩
  case round =>
   obtain ⟨k,S8,hk,rfl,hpi⟩ := hrel
   have HPI8 := Lib.hid hpi
   clear hpi HP7 HPI
   have c2 : wr.cell? ⟨N,0,none⟩ = some (.pointer (some ⟨q,0,none⟩)) := Boxed.cell (HPI8.out.mod.keep HX6.out (fun h => by have := HSN.out N h;omega))
   by_cases hk19 : k < 19
   ·obtain ⟨n,hn⟩ : ∃ n,(lnP ps)[k]? = some n := ⟨_,List.getElem?_eq_getElem (by rw [lnP_len];exact hk19)⟩
    have hn15 : n ≤ 15 := lnP_le hn
    have hO := Cells.of_own (own_keep HO6.out HPI8.out.mod (fun j hj hs => by have := HSN.out j hs;have := own_base HO6.out j hj;omega))
    obtain ⟨b,o,rfl,hbB,hc⟩ := hO (by rw [nCs_len];show 0 < (lnP ps).length;rw [lnP_len];omega)
    have c0 : wr.cell? ⟨b,o + k,none⟩ = some (.int .i64 (n : Int)) := hc k _ (nCs_at hn)
    have hwn : IntKind.u32.wrap (n : Int) = (n : Int) := IntWalk.u32_in _ (by omega)
    have hlb : (lensB ((lnP ps).take k)).length ≤ 76 := by rw [lensB_len,List.length_take];omega
    have HP8 := Lib.hid (wput_any q base S8 (L1 ++ lensB ((lnP ps).take k)) (n : Int) 4 wr HPI8.out.wr (by rw [List.length_append];omega) (by have := HPI8.out.mod.size;have := HBW6.out.size;omega) (by omega) (by omega) (by omega) (by omega))
    rw [show cnt 4 = 4 from rfl,Int.toNat_natCast,List.append_assoc,← lensB_up hn] at HP8
    clear hc hn hO
    gi_wp2_with (refine ⟨trivial,?_⟩;gi_at_call 155;refine (callsIn_wide.2 HP8.out).mono ?_;rintro e w9 ⟨rfl,S9,hw9,hm9,hs9⟩;have HP9 := Lib.hid (HPI8.out.next hw9 hm9 hs9);clear hw9 hm9 hs9)
    exact ⟨⟨k + 1,S9,by omega,by go_num,HP9.out⟩,by simp [intOf];omega⟩
   ·obtain rfl : k = 19 := by omega
    rw [show (lnP ps).take 19 = lnP ps from List.take_of_length_le (by rw [lnP_len];exact Nat.le_refl _)] at HPI8
    obtain ⟨wq,hwq⟩ : ∃ wq,wq = wr := ⟨_,rfl⟩
    subst hwq
    gi_wp2_with (refine ⟨trivial,?_⟩;gi_at_call 190;refine (callsIn_wide.2 (parts_any _ _ _ _)).mono ?_;rintro e w8 ⟨rfl,hw8⟩;have HW8 := Lib.hid hw8;clear hw8)
    obtain ⟨bx,hbx⟩ : ∃ bx,wq.heap.size = bx := ⟨_,rfl⟩
    have hz8 : w8.heap.size = bx + 1 := by rw [← HW8.out,← hbx];simp
    have hb8 : Below wq.heap.size wq w8 := by rw [← HW8.out];exact (Below.refl _ _).alloc (Nat.le_refl _) _
    have HX8 : Hid (Boxed w8 bx 156 (.slice A l c)) := by show Boxed _ _ _ _;rw [← HW8.out,← hbx];exact Boxed.new wq _ _
    have HP8 := Lib.hid (HPI8.out.below hb8)
    obtain ⟨M2,hM2⟩ : ∃ M2,L1 ++ lensB (lnP ps) = M2 := ⟨_,rfl⟩
    have HM2 := Lib.hid hM2
    have hm2 : M2.length ≤ 100000085 := by rw [← hM2,List.length_append,lensB_len,lnP_len];omega
    rw [hM2] at HP8
    have hq8 : q < bx := by rw [← hbx];exact HPI8.out.wr.lt q (by obtain ⟨v,_,h2,_⟩ := wr_own HPI8.out.wr;rw [h2];exact .inl rfl)
    have hsq : S q := by obtain ⟨v,_,h2,_⟩ := wr_own HW.out;rw [h2];exact .inl rfl
    have h68 : W6.heap.size ≤ bx := by rw [← hbx];exact HPI8.out.mod.size
    have hSEQ := parts_seqS 0 q bx A l c ls w8 HL.out hm HV.out (cells_mod ((HCW.out W6 HBW6.out).more (by have := HBW6.out.size;omega)) HP8.out.mod HA.out) (Nat.zero_le _) (by omega) (by omega)
     (fun a ha e => HA.out a ha (e ▸ hsq)) (fun k hk => by
      have h1 := wr_ownOf HP8.out.wr hk
      have h2 := HPI8.out.wr.lt k h1
      refine ⟨by omega,by omega,fun a ha e => ?_⟩
      rcases HPI8.out.own k h1 with h3 | h3
      ·exact HA.out a ha (e ▸ h3)
      ·have := HAN.out a ha
       have := HBW6.out.size
       omega) HX8.out
    have HSEQ := Lib.hid hSEQ
    have HZ8 := Lib.hid hz8
    rw [hbx]
    clear hSEQ hz8 hb8 hM2 hbx HW8 HPI8 HX8 hq8
    refine wpIn_rangeFunc_ownH rfl (by omega) (gf := 220) (lb := #[.pointer (some ⟨bx,0,none⟩)]) rfl trivial (enters_of Tryz.func220 (by kernel_rfl) rfl) HSEQ.out
     (fun h k => h.trans k) (fun W l o o' hl ho hc _ => KpB.putObj W l o o' (Nat.zero_le _) (by have := HZ8.out;have := HSN.out q hsq;omega) ho hc) (Below.refl _ _) (fun _ => rfl)
     (fun (pre : List (PtIn ls)) X => prI S W6 q base M2 zs (pre.map (·.1)) X) (fun _ _ _ => False) (fun s => prI_own _ S W6 q base M2 zs (by have := HZ8.out;omega) _) (fun _ _ _ _ _ h _ _ => h)
     ⟨S8,by simpa [partsB] using HP8.out⟩
     (fun (t : PtIn ls) a' W => ∃ Bx,W.heap[Bx]? = some (.cells #[.int .i64 (t.1.1 : Int),.int .i64 (t.1.2 : Int)] 277) ∧ a' = { tmps := (.pointer (some ⟨q,0,none⟩) :: .slice A l c :: .pointer (some ⟨N,0,none⟩) :: undef :: .int .i64 0 :: .pointer (some ⟨N + 2,0,none⟩) :: undef :: .slice A4 19 k4 :: .int .i64 0 :: .pointer (some ⟨w5.heap.size,0,none⟩) :: .int .i64 0 :: undef :: u12 :: .pointer (some ⟨Bx,0,none⟩) :: undef :: undef :: .slice A l c :: .int .i64 (l : Int) :: .bool false :: .bool false :: .slice A l c :: .int .i64 (l : Int) :: .bool false :: .bool false :: .slice A l c :: .bool true :: .bool false :: .bool false :: .pointer (some ⟨q,0,none⟩) :: .bool false :: .bool false :: .slice (some ⟨N + 1,0,none⟩) 19 19 :: .slice A l c :: .func (.func 220) #[] #[.pointer (some ⟨N + 3,0,none⟩)] :: undef :: undef :: undef :: undef :: undef :: undef :: undef :: undef :: .tuple #[.slice A4 19 k4,.int .i64 0] :: .slice (some ⟨N + 1,0,none⟩) 19 19 :: .tuple #[.slice A4 19 k4,.int .i64 0] :: .slice A4 19 k4 :: .int .i64 0 :: .tuple #[.pointer (some ⟨g,0,none⟩),.int .i64 0] :: .slice A4 19 k4 :: .tuple #[.pointer (some ⟨g,0,none⟩),.int .i64 0] :: .pointer (some ⟨g,0,none⟩) :: .int .i64 0 :: .pointer (some ⟨q,0,none⟩) :: .slice A l c :: .int .i64 (l : Int) :: .int .u32 (l : Int) :: .tuple #[] :: .slice A4 19 k4 :: .int .i64 19 :: .int .i64 19 :: .bool false :: u61 :: u62 :: u63 :: u64 :: u65 :: u66 :: u67 :: .slice A l c :: .func (.func 220) #[] #[.pointer (some ⟨bx,0,none⟩)] :: ptV t.1 :: undef :: undef :: undef :: undef :: undef :: undef :: undef :: undef :: undef :: undef :: undef :: undef :: undef :: undef :: undef :: undef :: undef :: undef :: undef :: []).toArray,defers := [] })
     (fun t a' _ X Y row hs hg hr => by
      obtain ⟨Bx,h1,h2⟩ := hs
      refine ⟨Bx,(hg.block Bx (Array.getElem?_eq_some_iff.1 h1).1 (fun e => ?_)).trans h1,h2⟩
      obtain ⟨_,o,ho,hc⟩ := hr Bx e.symm
      rw [h1] at ho;cases ho;cases hc)
     ?assign2 ?body2 ?done2 ?stop2
    case assign2 =>
     rintro gy pre ⟨⟨tn,td⟩,hmem⟩ W K ⟨S9,h9⟩ hK
     have hqW : q < W.heap.size := h9.wr.lt q (by obtain ⟨v,_,h2,_⟩ := wr_own h9.wr;rw [h2];exact .inl rfl)
     simp only [ptV]
     gi_wp2
     exact hK _ _ ((KeepsOthers.alloc _ _).from _) (kpb_alloc _ (Nat.zero_le _) hqW) ⟨S9,h9.below ((Below.refl _ _).alloc (Nat.le_refl _) _)⟩ ⟨W.heap.size,heap_alloc_new W _,rfl⟩
    case body2 =>
     rintro gy pre ⟨⟨tn,td⟩,hmem⟩ a' W hlb ⟨r,hr⟩ ⟨S9,h9⟩ ⟨Bx,hx,rfl⟩ hlt
     obtain ⟨ha19,ha1,ha2,ha3⟩ := part_bd HV.out hmem
     have hsp := spanP_le tn
     have HSP := Lib.hid (fun V => span_any tn V)
     have HBT : Hid (partB zs (tn,td) = symB zs (tn : Int) ++ bitsOf (td - (spanP tn).1) (spanP tn).2) := rfl
     dsimp only at ha19 ha1 ha2 ha3
     obtain ⟨⟨sa,sb⟩,hab⟩ : ∃ ab,spanP tn = ab := ⟨_,rfl⟩
     rw [hab] at ha1 ha3 hsp HSP HBT
     dsimp only at ha1 ha3 hsp HSP HBT
     obtain ⟨dm,hdm⟩ : ∃ dm,td - sa = dm := ⟨_,rfl⟩
     have hdm2 : (td : Int) - (sa : Int) = (dm : Int) := by omega
     rw [hdm] at HBT
     have hdl : dm ≤ 320 := by have := HL.out;omega
     have hwd : IntKind.u32.wrap (dm : Int) = (dm : Int) := IntWalk.u32_in _ (by omega)
     have c9 : W.cell? ⟨w5.heap.size,0,none⟩ = some (.pointer (some ⟨g,0,none⟩)) := Boxed.cell (h9.mod.keep HX9.out (fun h => by have := HSN.out _ h;omega))
     have c2 : W.cell? ⟨N,0,none⟩ = some (.pointer (some ⟨q,0,none⟩)) := Boxed.cell (h9.mod.keep HX6.out (fun h => by have := HSN.out N h;omega))
     have k0 : W.cell? ⟨Bx,0,none⟩ = some (.int .i64 (tn : Int)) := cell_of_row W _ 0 _ _ _ hx
     have hml : (M2 ++ partsB zs (pre.map (·.1))).length ≤ 100010000 := by
      have h1 := partsB_len HRT.out (pre.map (·.1))
      rw [List.length_map] at h1
      rw [List.length_append]
      omega
     have hbW : base ≤ W.heap.size := by have := h9.mod.size;have := HBW6.out.size;omega
     have HP8 := Lib.hid (put8_any g q base zs S9 _ (tn : Int) W HRT.out (HLC6.out.keep h9.mod (fun k hk => by have := HSN.out k hk;omega)).lc h9.wr (by omega) hbW)
     have HSL := symB_len HRT.out (tn : Int)
     have H9 := Lib.hid h9
     have HX := Lib.hid hx
     clear h9 hx hab hdm ha1 ha3
     simp only [ptV]
     gi_wp2_with (first
      | (refine ⟨trivial,?_⟩;gi_at_call 111;refine (CallsIn.inRound gy (callsIn_wide.2 HP8.out)).mono ?_;rintro e X2 ⟨rfl,S2,hw2,hm2,hs2⟩;have hp2 := H9.out.next hw2 hm2 hs2;have hx2 := hm2.keep HX.out (wr_not H9.out.wr HX.out (by decide) (by decide));have HK2 := Lib.hid (kpb_wr H9.out.wr hw2 hm2 hs2 (Nat.zero_le _) (Nat.zero_le _) (Nat.zero_le _));have HO2 := Lib.hid (wr_kept H9.out.wr hm2);have k0' : X2.cell? ⟨Bx,0,none⟩ = some (.int .i64 (tn : Int)) := cell_of_row X2 _ 0 _ _ _ hx2;have k1' : X2.cell? ⟨Bx,1,none⟩ = some (.int .i64 (td : Int)) := cell_of_row X2 _ 1 _ _ _ hx2;have c2' : X2.cell? ⟨N,0,none⟩ = some (.pointer (some ⟨q,0,none⟩)) := Boxed.cell (hp2.mod.keep HX6.out (fun h => by have := HSN.out N h;omega));have HWP := Lib.hid (wput_any q base S2 _ (dm : Int) (sb : Int) X2 hw2 (by rw [List.length_append];omega) (by have := hm2.size;omega) (by omega) (by omega) (by omega) (by omega));rw [cnt_nat (k := sb) (by omega),Int.toNat_natCast,List.append_assoc,← HBT.out,List.append_assoc] at HWP;have HP2 := Lib.hid hp2;clear hw2 hm2 hs2 hp2 hx2 c2 c9 k0)
      | (refine ⟨trivial,?_⟩;gi_at_call 191;refine (CallsIn.inRound gy (callsIn_wide.2 (HSP.out _))).mono ?_;rintro e w' ⟨rfl,rfl⟩)
      | (refine ⟨trivial,?_⟩;gi_at_call 155;refine (CallsIn.inRound gy (callsIn_wide.2 HWP.out)).mono ?_;rintro e X3 ⟨rfl,S3,hw3,hm3,hs3⟩;have HP3 := Lib.hid (HP2.out.next hw3 hm3 hs3);have HK3 := Lib.hid (HK2.out.trans (kpb_wr HP2.out.wr hw3 hm3 hs3 (Nat.zero_le _) (Nat.zero_le _) (Nat.zero_le _)));have HO3 := Lib.hid (HO2.out.trans (wr_kept HP2.out.wr hm3));clear hw3 hm3 hs3))
     refine ⟨HO3.out.from _,HK3.out,S3,?_⟩
     rw [List.map_append,List.map_cons,List.map_nil,partsB_snoc]
     exact HP3.out
    case stop2 =>
     rintro D c pre W _ _ h _
     exact h.elim
    case done2 =>
     rintro D2 ys2 X hD2 hS2 ⟨S9,h9⟩ hK2
     rw [hS2,HPS.out] at h9
     have H9 := Lib.hid h9
     have HK2 := Lib.hid hK2
     have HKD := Lib.hid (h9.mod.keep HK6.out (fun h => by have := HSN.out _ h;have := HZ3.out;omega))
     clear h9 hS2 hK2
     have hd6 := (Array.getElem?_eq_some_iff.1 HK6.out).1
     have hne : D ≠ D2 := by have := HZ8.out;omega
     gi_wp2
     refine ⟨by simp,.inl ⟨_,_,rfl,run_takeDeferred HK2.out,⟨by simp,.inl ⟨_,_,rfl,run_takeDeferred ((World.putObj_heap_other hne).trans HKD.out),?_⟩⟩⟩⟩
     refine ⟨_,results_tmp rfl _ _ _,rfl,S9,?_⟩
     have hb0 : Below w.heap.size w W6 := by rw [HNN.out];exact HBW6.out
     have h1 := H9.out.base_ hb0
     have h2 := h1.grown (grownBy_putObj' X D2 (.deferred none)) (fun r e => by cases e;exact ⟨by have := HZ8.out;have := HBW6.out.size;omega,_,HK2.out,rfl⟩)
     have h3 := h2.grown (grownBy_putObj' _ D (.deferred none)) (fun r e => by cases e;exact ⟨by have := HZ3.out;omega,_,(World.putObj_heap_other hne).trans HKD.out,rfl⟩)
     refine ⟨?_,h3.mod,fun k hk => by rw [← HNN.out];exact h3.own k hk⟩
     have h4 := h3.wr
     rw [← HM2.out,← HL1.out] at h4
     rw [tabP,HL.out,HPS.out,HZS.out,← List.append_assoc,← List.append_assoc]
     exact h4
 case stop =>
  rintro D c pre W _ _ h _
  exact h.elim
end Go.Proofs.YtaknladkodibaaaGreatDoor
namespace Go.Proofs.YtaknladkodibaaaGreatDoor
open Go.RowKit BitsP
theorem ib_nb {w : World} {g : Nat} {ns : List Nat} (h : IntBlock w g (ns.map fun n : Nat => (n : Int))) : NB w g ns := by
 have h2 : w.heap[g]? = some (.cells ((ns.map fun n : Nat => (n : Int)).map ic).toArray 3 (0,0)) := h
 rw [nCs_ic] at h2
 exact h2
theorem rep_nat (m x : Nat) : (List.replicate m x).map (fun n : Nat => (n : Int)) = List.replicate m (x : Int) := by simp
theorem ic_cell (W : World) (x : Int) : (W.alloc (.cells #[.int .i64 x] 3)).cell? ⟨W.heap.size,0,none⟩ = some (.int .i64 x) := cell_of_row _ _ 0 _ _ _ (heap_alloc_new W _)
set_option maxHeartbeats 1000000 in
theorem follow_no (c many : Nat) (A : Option Addr) (w : World) :
  Calls Tryz.prog 231 #[.slice A 0 c,.agg #[.int .i64 16,.int .i64 (many : Int)]] w fun e w' => e = .returned (.tuple #[.slice none 0 0,.int .i64 3]) ∧ Below w.heap.size w w' := by
 go_enter Tryz.func231,Tryz.ntmps231
 go_wp2
 go_ret2
 exact ⟨rfl,(Below.refl _ w).alloc (Nat.le_refl _) _⟩
theorem last_cell {ls : List Nat} {l : Nat} (hl : ls.length = l) (h : 0 < l) : ls[l - 1]? = some (saysP ls 16) := by
 rcases List.eq_nil_or_concat ls with rfl | ⟨l',a,rfl⟩
 ·simp at hl;omega
 ·rw [List.concat_eq_append] at hl ⊢
  rw [List.length_append,List.length_singleton] at hl
  rw [show l - 1 = l'.length by omega,List.getElem?_append_right (Nat.le_refl _),Nat.sub_self,saysP,if_pos rfl,List.getLastD_concat]
  rfl
set_option maxRecDepth 100000 in
set_option maxHeartbeats 1000000 in
theorem follow_any (A : Option Addr) (l c : Nat) (ls : List Nat) (num many B : Nat) (w : World) (hl : ls.length = l) (hm : l ≤ 1000) (hb : Cells w B A (nCs ls)) (hB : B ≤ w.heap.size) (h16 : num = 16 → 0 < l) (h1 : 1 ≤ many) (h4 : many < 400) :
  Calls Tryz.prog 231 #[.slice A l c,.agg #[.int .i64 (num : Int),.int .i64 (many : Int)]] w fun e w' => ∃ g,e = .returned (.tuple #[.slice (some ⟨g,0,none⟩) many many,.int .i64 0]) ∧ w.heap.size ≤ g ∧ NB w' g (List.replicate many (saysP ls num)) ∧ Below w.heap.size w w' := by
 obtain ⟨x,hx⟩ : ∃ x,saysP ls num = x := ⟨_,rfl⟩
 rw [hx]
 have HREP : Hid (∀ o : Obj,Calls Tryz.prog 246 #[.slice (some ⟨w.heap.size + 1,0,none⟩) 1 1,.int .i64 (many : Int)] ((w.alloc o).alloc (.cells #[.int .i64 (x : Int)] 3)) fun e w' => ∃ g,e = .returned (.slice (some ⟨g,0,none⟩) many many) ∧ w.heap.size ≤ g ∧ NB w' g (List.replicate many x) ∧ Below w.heap.size w w') := fun o => by
  have hc := ic_cell (w.alloc o) (x : Int)
  rw [World.size_alloc] at hc
  refine (repeat_any (w.heap.size + 1) 0 1 many (x : Int) _ h1 h4 (by simp) hc).mono ?_
  rintro e w2 ⟨rfl,h2,h3⟩
  exact ⟨_,rfl,by simp;omega,ib_nb (by rw [rep_nat];exact h2),(((Below.refl w.heap.size w).alloc (Nat.le_refl _) o).alloc (by simp) _).trans (h3.mono (by simp;omega))⟩
 by_cases e16 : num = 16
 ·subst e16
  have h0 := h16 rfl
  have HLC := Lib.hid (last_cell hl h0)
  rw [hx] at HLC
  obtain ⟨b,o,rfl,hbB,hc⟩ := hb (by rw [nCs_len];omega)
  have t0 : ((l : Int) == 0) = false := by simp;omega
  have hw1 : IntKind.i64.wrap ((l : Int) - 1) = ((l - 1 : Nat) : Int) := by rw [IntWalk.i64_in _ (by omega)];omega
  have hlt : ((l - 1 : Nat) : Int) < (l : Int) := by omega
  have hge : (0 : Int) ≤ ((l - 1 : Nat) : Int) := by omega
  have c0 : (w.alloc (.cells #[.int .i64 16,.int .i64 (many : Int)] 277)).cell? ⟨b,o + (l - 1),none⟩ = some (.int .i64 (x : Int)) := (((Below.refl w.heap.size w).alloc (Nat.le_refl _) _).cell (p := ⟨b,o + (l - 1),none⟩) (by show b < _;omega)).trans (hc (l - 1) _ (nCs_at HLC.out))
  clear hx hl hb hc h16 h0
  go_enter Tryz.func231,Tryz.ntmps231
  go_wp2_with (go_at_call 246;refine (HREP.out _).mono ?_;rintro e w2 ⟨g,rfl,hg,hn2,hb2⟩;have HN2 := Lib.hid (And.intro hg (And.intro hn2 hb2));clear hg hn2 hb2)
  go_ret2
  exact ⟨g,rfl,HN2.out⟩
 by_cases e17 : num = 17
 ·subst e17
  obtain rfl : 0 = x := by rw [← hx];rfl
  clear hx hl hb h16
  go_enter Tryz.func231,Tryz.ntmps231
  go_wp2_with (go_at_call 246;refine (HREP.out _).mono ?_;rintro e w2 ⟨g,rfl,hg,hn2,hb2⟩;have HN2 := Lib.hid (And.intro hg (And.intro hn2 hb2));clear hg hn2 hb2)
  go_ret2
  exact ⟨g,rfl,HN2.out⟩
 by_cases e18 : num = 18
 ·subst e18
  obtain rfl : 0 = x := by rw [← hx];rfl
  clear hx hl hb h16
  go_enter Tryz.func231,Tryz.ntmps231
  go_wp2_with (go_at_call 246;refine (HREP.out _).mono ?_;rintro e w2 ⟨g,rfl,hg,hn2,hb2⟩;have HN2 := Lib.hid (And.intro hg (And.intro hn2 hb2));clear hg hn2 hb2)
  go_ret2
  exact ⟨g,rfl,HN2.out⟩
 ·obtain rfl : num = x := by rw [← hx,saysP,if_neg e16,if_neg (by omega)]
  have t1 : ((num : Int) == 16) = false := by simp;omega
  have t2 : ((num : Int) == 17) = false := by simp;omega
  have t3 : ((num : Int) == 18) = false := by simp;omega
  clear hx hl hb h16 e16 e17 e18
  go_enter Tryz.func231,Tryz.ntmps231
  go_wp2_with (go_at_call 246;refine (HREP.out _).mono ?_;rintro e w2 ⟨g,rfl,hg,hn2,hb2⟩;have HN2 := Lib.hid (And.intro hg (And.intro hn2 hb2));clear hg hn2 hb2)
  go_ret2
  exact ⟨g,rfl,HN2.out⟩
theorem kindsT {F : List Int → List Bool → Int × Int × Nat} (hF : FunT F) {zs : List Int} {U : List Bool} {s e : Int} {on m : Nat} (hm : isMax zs (m : Int)) (h : TakeR zs m U s e on) : (e = 0 ∧ ∃ t : Nat,s = (t : Int) ∧ t < zs.length ∧ on ≤ U.length ∧ F zs U = (s,e,on)) ∨ (e ≠ 0 ∧ on = 0 ∧ F zs U = (s,e,on)) := by
 have hf := hF zs U s e on m hm h
 rcases h with ⟨t,v,k,hy,hl,_,rfl,rfl⟩ | ⟨rfl,rfl,_,he⟩
 ·exact .inl ⟨rfl,t,rfl,(List.getElem?_eq_some_iff.1 hy.len).1,hl,hf⟩
 ·refine .inr ⟨?_,rfl,hf⟩
  rw [he]
  split <;> decide
set_option maxRecDepth 100000 in
set_option maxHeartbeats 1000000 in
theorem rtpart_any (F : List Int → List Bool → Int × Int × Nat) (hF : FunT F) (g r base : Nat) (zs : List Int) (S : Nat → Prop) (bs : List UInt8) (p : Nat) (w : World) (hr : caR zs = true) (h : LC w g zs) (hrd : RdS w r base S bs p) (hbl : bs.length ≤ 1000000) :
  Calls Tryz.prog 230 #[.pointer (some ⟨r,0,none⟩),.pointer (some ⟨g,0,none⟩)] w
   fun e w' => ∃ p',e = .returned (.tuple #[.agg #[.int .i64 ((partF F zs ((unpack bs).drop p)).2.1 : Nat),.int .i64 ((partF F zs ((unpack bs).drop p)).2.2.1 : Nat)],.int .i64 (partF F zs ((unpack bs).drop p)).1]) ∧ RdS w' r base S bs p' ∧ ((partF F zs ((unpack bs).drop p)).1 = 0 → p' = p + (partF F zs ((unpack bs).drop p)).2.2.2) ∧ Mod (oneB r) w w' := by
 have HT := Lib.hid (take8_any g r base zs S bs p (w.alloc (.cells #[.int .i64 0,.int .i64 0] 277)) hr (h.below ((Below.refl w.heap.size w).alloc (Nat.le_refl _) _)) (hrd.keep (Mod.of_below ((Below.refl w.heap.size w).alloc (Nat.le_refl _) _)) (fun _ _ h => h)) hbl)
 have HM : Hid (Mod (oneB r) w (w.alloc (.cells #[.int .i64 0,.int .i64 0] 277))) := (Mod.of_below ((Below.refl w.heap.size w).alloc (Nat.le_refl _) _)).mono (fun _ h => h.elim)
 have HRL : Hid (r < w.heap.size) := by obtain ⟨A,c,hb,_⟩ := hrd;exact (Array.getElem?_eq_some_iff.1 hb).1
 have HTK : Hid (∀ (W : World) (p b : Nat),RdS W r base S bs p → b ≤ 100 → _) := fun W p b hW h1 => rtake_any r base S bs p (b : Int) W hW (by omega) (by omega) (by omega)
 have HSL : Hid (∀ k,S k → k < w.heap.size) := hrd.lt
 have hp8 : p ≤ 8 * bs.length := by obtain ⟨_,_,_,_,_,h,_⟩ := hrd;exact h
 clear h hrd
 obtain ⟨U,hU⟩ : ∃ U,(unpack bs).drop p = U := ⟨_,rfl⟩
 have HU := Lib.hid hU
 have hUl : U.length = 8 * bs.length - p := by rw [← hU,List.length_drop,unpack_length]
 have HUL := Lib.hid hUl
 rw [hU] at HT ⊢
 clear hU hUl
 have HST : Hid (∀ W : World,Mod (oneB r) w W → ∀ i v j u,Mod (oneB r) w ((W.setCell ⟨w.heap.size,i,none⟩ v).setCell ⟨w.heap.size,j,none⟩ u)) := fun W hW i v j u => (hW.set _ _ (.inr (Nat.le_refl _))).set _ _ (.inr (Nat.le_refl _))
 have HSR : Hid (∀ (W : World) (q : Nat),RdS W r base S bs q → ∀ i v j u,RdS ((W.setCell ⟨w.heap.size,i,none⟩ v).setCell ⟨w.heap.size,j,none⟩ u) r base S bs q) := fun W q hW i v j u => hW.keep (T := oneB w.heap.size) (((Mod.refl (oneB w.heap.size) W).set ⟨w.heap.size,i,none⟩ v (.inl rfl)).set ⟨w.heap.size,j,none⟩ u (.inl rfl)) (fun k hk h => by have h2 : k = w.heap.size := h;have := HSL.out k hk;omega)
 go_enter Tryz.func230,Tryz.ntmps230
 go_wp2_with fail
 refine HT.out.mono ?_
 rintro e w2 ⟨m,on,s,er,rfl,hmx,htk,hrd,hmod⟩
 have hbx : w2.heap[w.heap.size]? = some (.cells #[.int .i64 0,.int .i64 0] 277 (0,0)) := hmod.keep (heap_alloc_new w _) (fun h => by have h2 : w.heap.size = r := h;have := HRL.out;omega)
 have HK := Lib.hid (kindsT hF hmx htk)
 have HM2 := Lib.hid (HM.out.then_ hmod)
 have HRD := Lib.hid hrd
 have HBX := Lib.hid hbx
 have b0 : w2.cell? ⟨w.heap.size,0,none⟩ = some (.int .i64 0) := cell_of_row _ _ 0 _ _ _ hbx
 have b1 : w2.cell? ⟨w.heap.size,1,none⟩ = some (.int .i64 0) := cell_of_row _ _ 1 _ _ _ hbx
 have f0 : w2.frozen? ⟨w.heap.size,0,none⟩ = false := frozen_of_row _ _ 0 _ _ hbx
 have f1 : w2.frozen? ⟨w.heap.size,1,none⟩ = false := frozen_of_row _ _ 1 _ _ hbx
 clear hmx htk hrd hmod hbx
 rcases HK.out with ⟨rfl,t,rfl,htl,hon,hf⟩ | ⟨hne,rfl,hf⟩
 ·have HF := Lib.hid hf
  have hz := (caR_len hr).1
  have HSP := Lib.hid (fun W => span_any t W)
  obtain ⟨⟨sa,sb⟩,hab⟩ : ∃ ab,spanP t = ab := ⟨_,rfl⟩
  have hsp := spanP_le t
  have HAB := Lib.hid hab
  rw [hab] at HSP hsp
  dsimp only at HSP hsp
  have HTK2 := Lib.hid (HTK.out w2 (p + on) sb HRD.out (by omega))
  rw [cnt_nat (by omega)] at HTK2
  clear HK HTK hf htl hab
  by_cases hfit : p + on + sb ≤ 8 * bs.length
  ·obtain ⟨y,hy⟩ : ∃ y,num ((U.drop on).take sb) = y := ⟨_,rfl⟩
   have hylt : y < 128 := by
    have h1 := numA_lt U on sb
    unfold numA at h1
    have h2 : 2 ^ sb ≤ 2 ^ 7 := Nat.pow_le_pow_right (by decide) hsp.2.2
    omega
   have HP : Hid (partF F zs U = (0,t,sa + y,on + sb)) := by
    show _ = _
    unfold partF
    rw [HF.out]
    dsimp only
    rw [if_neg (by simp),if_neg (by rw [Int.toNat_natCast,HAB.out,HUL.out];dsimp only;omega),Int.toNat_natCast,HAB.out]
    dsimp only
    rw [hy]
   have hty : takes bs (p + on) sb = y := by rw [takes_yes hfit,← hy,← HU.out,List.drop_drop]
   rw [(fits_yes hfit).1,(fits_yes hfit).2,hty] at HTK2
   have HA := Lib.hid (show p + on + sb = p + (on + sb) by omega)
   clear hfit hy hty
   go_wp2_with (first
    | (go_at_call 191;refine (HSP.out _).mono ?_;rintro e w' ⟨rfl,rfl⟩)
    | (go_at_call 228;refine HTK2.out.mono ?_;rintro e w3 ⟨rfl,hrd3,hm3⟩;have hbx3 := hm3.keep HBX.out (fun h => by have h2 : w.heap.size = r := h;have := HRL.out;omega);have HR3 := Lib.hid hrd3;have HM3 := Lib.hid (HM2.out.then_ hm3);have HBX3 := Lib.hid hbx3;have b0' : w3.cell? ⟨w.heap.size,0,none⟩ = some (.int .i64 0) := cell_of_row _ _ 0 _ _ _ hbx3;have b1' : w3.cell? ⟨w.heap.size,1,none⟩ = some (.int .i64 0) := cell_of_row _ _ 1 _ _ _ hbx3;have f0' : w3.frozen? ⟨w.heap.size,0,none⟩ = false := frozen_of_row _ _ 0 _ _ hbx3;have f1' : w3.frozen? ⟨w.heap.size,1,none⟩ = false := frozen_of_row _ _ 1 _ _ hbx3;clear hrd3 hm3 hbx3))
   refine bodyPost_ret (v := .tuple #[.agg #[.int .i64 (t : Int),.int .i64 ((sa + y : Nat) : Int)],.int .i64 0]) ?_ rfl ⟨p + (on + sb),by rw [HP.out],?_,fun _ => by rw [HP.out],?_⟩
   ·rw [results_cell_tmp rfl]
    go_simp
    try rfl
   ·rw [← HA.out]
    exact HSR.out _ _ HR3.out _ _ _ _
   ·exact HST.out _ HM3.out _ _ _ _
  ·have HP : Hid (partF F zs U = (2,0,0,0)) := by
    show _ = _
    unfold partF
    rw [HF.out]
    dsimp only
    rw [if_neg (by simp),if_pos (by rw [Int.toNat_natCast,HAB.out,HUL.out];dsimp only;omega)]
   rw [(fits_no hfit).1,(fits_no hfit).2] at HTK2
   clear hfit
   go_wp2_with (first
    | (go_at_call 191;refine (HSP.out _).mono ?_;rintro e w' ⟨rfl,rfl⟩)
    | (go_at_call 228;refine HTK2.out.mono ?_;rintro e w3 ⟨rfl,hrd3,hm3⟩;have hbx3 := hm3.keep HBX.out (fun h => by have h2 : w.heap.size = r := h;have := HRL.out;omega);have HR3 := Lib.hid hrd3;have HM3 := Lib.hid (HM2.out.then_ hm3);have HBX3 := Lib.hid hbx3;have b0' : w3.cell? ⟨w.heap.size,0,none⟩ = some (.int .i64 0) := cell_of_row _ _ 0 _ _ _ hbx3;have b1' : w3.cell? ⟨w.heap.size,1,none⟩ = some (.int .i64 0) := cell_of_row _ _ 1 _ _ _ hbx3;have f0' : w3.frozen? ⟨w.heap.size,0,none⟩ = false := frozen_of_row _ _ 0 _ _ hbx3;have f1' : w3.frozen? ⟨w.heap.size,1,none⟩ = false := frozen_of_row _ _ 1 _ _ hbx3;clear hrd3 hm3 hbx3))
   refine bodyPost_ret (v := .tuple #[.agg #[.int .i64 0,.int .i64 0],.int .i64 2]) ?_ rfl ⟨_,by rw [HP.out];rfl,HSR.out _ _ HR3.out _ _ _ _,fun h => (by rw [HP.out] at h;cases h),HST.out _ HM3.out _ _ _ _⟩
   rw [results_cell_tmp rfl]
   go_simp
   try rfl
 ·have HP : Hid (partF F zs U = (er,0,0,0)) := by
   show _ = _
   unfold partF
   rw [hf]
   exact if_pos hne
  have t1 : (er != 0) = true := by simpa using hne
  have HNE := Lib.hid hne
  clear HK hf hne
  ·skip
   go_wp2
   refine bodyPost_ret (v := .tuple #[.agg #[.int .i64 0,.int .i64 0],.int .i64 er]) ?_ rfl ⟨_,by rw [HP.out];rfl,HSR.out _ _ HRD.out _ _ _ _,fun h => absurd (by rw [HP.out] at h;exact h) HNE.out,HST.out _ HM2.out _ _ _ _⟩
   rw [results_cell_tmp rfl]
   go_simp
   try rfl
theorem set_pad (A : List Nat) (j y : Nat) : (A ++ List.replicate (j + 1) 0).set A.length y = (A ++ [y]) ++ List.replicate j 0 := by
 rw [List.set_append_right _ _ (Nat.le_refl _),Nat.sub_self,List.replicate_succ,List.set_cons_zero,List.append_assoc]
 rfl
theorem LCa.lower {w : World} {n n' g : Nat} {zs : List Int} (h : LCa w n g zs) (hn : n' ≤ n) : LCa w n' g zs := by
 obtain ⟨A1,A2,A3,c1,c2,c3,m,hcb,hmx,h1,h2,h3,hg,ha⟩ := h
 exact ⟨A1,A2,A3,c1,c2,c3,m,hcb,hmx,h1,h2,h3,Nat.le_trans hn hg,fun a h => Nat.le_trans hn (ha a h)⟩
theorem NB.cellsT {w : World} {g : Nat} {ns : List Nat} (h : NB w g ns) : Cells w w.heap.size (some ⟨g,0,none⟩) (nCs ns) := fun _ =>
 ⟨g,0,rfl,h.lt,fun j u hu => by
  rw [Nat.zero_add,cell_of_row w g j _ _ _ h,← Array.getElem?_toList]
  exact hu⟩
theorem numA_takes {bs : List UInt8} {p q : Nat} (h : p + q ≤ 8 * bs.length) : takes bs p q = numA (unpack bs) p q := takes_yes h
theorem rd_low {w : World} {r base : Nat} {S : Nat → Prop} {bs : List UInt8} {p : Nat} (h : RdS w r base S bs p) : r < w.heap.size ∧ p ≤ 8 * bs.length ∧ S r := by
 obtain ⟨A,c,hb,_,rfl,hp,_⟩ := h
 exact ⟨(Array.getElem?_eq_some_iff.1 hb).1,hp,.inl rfl⟩
set_option maxRecDepth 100000 in
set_option maxHeartbeats 1000000 in
theorem rtcode_any (r base : Nat) (S : Nat → Prop) (bs : List UInt8) (p : Nat) (w : World) (hrd : RdS w r base S bs p) (hbl : bs.length ≤ 1000000) :
    Calls Tryz.prog 229 #[.pointer (some ⟨r, 0, none⟩)] w
      fun e w' => ∃ p' g, RdS w' r base S bs p' ∧ Mod (oneB r) w w' ∧
        ((¬ p + 76 ≤ 8 * bs.length ∧ e = .returned (.tuple #[.pointer none, .int .i64 2])) ∨
         (p + 76 ≤ 8 * bs.length ∧ caR ((lensA (unpack bs) p 19).map fun n : Nat => (n : Int)) = false ∧ e = .returned (.tuple #[.pointer none, .int .i64 13])) ∨
         (p + 76 ≤ 8 * bs.length ∧ caR ((lensA (unpack bs) p 19).map fun n : Nat => (n : Int)) = true ∧ e = .returned (.tuple #[.pointer (some ⟨g, 0, none⟩), .int .i64 0]) ∧ p' = p + 76 ∧ LCa w' w.heap.size g ((lensA (unpack bs) p 19).map fun n : Nat => (n : Int)))) := by
  obtain ⟨hrl, hp8, hSr⟩ := rd_low hrd
  have HTK : Hid (∀ (W : World) (p : Nat), RdS W r base S bs p → _) := fun W p hW => rtake_any r base S bs p 4 W hW (by omega) (by omega) (by omega)
  have mk0 : ∀ W, (Instr.makeSlice 156 (.int .i64 19) (.int .i64 19)).run Tryz.prog W = .ok (.slice (some ⟨W.heap.size, 0, none⟩) 19 19) (W.alloc (.cells (madeCells #[.int .i64 0] 19) 3)) := fun W => make_ints 19 (by omega) W
  obtain ⟨W1, hW1⟩ : ∃ W1, w.alloc (.cells (madeCells #[.int .i64 0] 19) 3) = W1 := ⟨_, rfl⟩
  have HB1 : Hid (Below w.heap.size w W1) := by show Below _ _ _; rw [← hW1]; exact (Below.refl _ w).alloc (Nat.le_refl _) _
  have HN1 : Hid (NB W1 w.heap.size (lensA (unpack bs) p 0 ++ List.replicate 19 0)) := by show NB _ _ _; rw [← hW1]; exact wei_made w 19
  have HM1 : Hid (Mod (oneB r) w W1) := (Mod.of_below HB1.out).mono (fun _ h => h.elim)
  have HR1 : Hid (RdS W1 r base S bs p) := hrd.keep (Mod.of_below HB1.out) (fun _ _ h => h)
  have HSL : Hid (∀ k, S k → k < w.heap.size) := hrd.lt
  rw [show cnt 4 = 4 from rfl] at HTK
  go_enter Tryz.func229, Tryz.ntmps229
  go_wp2
  clear hW1 mk0 hrd HB1
  go_loopg [11] 19 (fun gk i wr => ∃ k : Nat, k + gk = 19 ∧ i = .int .i64 (k : Int) ∧ NB wr w.heap.size (lensA (unpack bs) p k ++ List.replicate gk 0) ∧ RdS wr r base S bs (p + 4 * k) ∧ Mod (oneB r) w wr)
  case atStart => exact ⟨0, by omega, rfl, HN1.out, HR1.out, HM1.out⟩
  case round =>
    obtain ⟨k, hk, rfl, hnb, hrd, hmod⟩ := hrel
    have HNB := Lib.hid hnb
    have HRD := Lib.hid hrd
    have HMD := Lib.hid hmod
    clear hnb hrd hmod HN1 HR1 HM1
    by_cases hk19 : k < 19
    · have HT2 := Lib.hid (HTK.out wr _ HRD.out)
      by_cases hfit : p + 4 * k + 4 ≤ 8 * bs.length
      · rw [(fits_yes hfit).1, (fits_yes hfit).2, numA_takes hfit] at HT2
        have hy := numA_lt (unpack bs) (p + 4 * k) 4
        have HUP : Hid (lensA (unpack bs) p (k + 1) ++ List.replicate (gk - 1) 0 = (lensA (unpack bs) p k ++ List.replicate gk 0).set k (numA (unpack bs) (p + 4 * k) 4)) := by
          show _ = _
          have h := set_pad (lensA (unpack bs) p k) (gk - 1) (numA (unpack bs) (p + 4 * k) 4)
          rw [lensA_len, show gk - 1 + 1 = gk by omega] at h
          rw [h, lensA_up]
        obtain ⟨y, hyy⟩ : ∃ y, numA (unpack bs) (p + 4 * k) 4 = y := ⟨_, rfl⟩
        rw [hyy] at HT2 hy HUP
        have hy16 : y < 16 := hy
        have HE := Lib.hid (show p + 4 * k + 4 = p + 4 * (k + 1) by omega)
        clear hyy hy hfit
        go_wp2_with (go_at_call 228; refine HT2.out.mono ?_; rintro e w2 ⟨rfl, hrd2, hm2⟩; have HN2 := Lib.hid (show NB w2 w.heap.size _ from hm2.keep HNB.out (fun h => by have h2 : w.heap.size = r := h; omega)); have f0 : w2.frozen? ⟨w.heap.size, k, none⟩ = false := HN2.out.free; have q0 : w2.cell? ⟨w.heap.size, k, none⟩ = some (.int .i64 ((0 : Nat) : Int)) := HN2.out.cell (by rw [List.getElem?_append_right (by rw [lensA_len]; omega), lensA_len, Nat.sub_self, List.getElem?_replicate, if_pos (by omega)]); have HR2 := Lib.hid hrd2; have HM2 := Lib.hid (HMD.out.then_ hm2); clear hrd2 hm2)
        go_roundg (gk - 1)
        case measure => omega
        case rel =>
          refine ⟨k + 1, by omega, by go_num, ?_, ?_, HM2.out.set _ _ (.inr (Nat.le_refl _))⟩
          · rw [HUP.out]
            exact HN2.out.set k y
          · rw [← HE.out]
            exact HR2.out.keep (T := oneB w.heap.size) ((Mod.refl (oneB w.heap.size) w2).set ⟨w.heap.size, k, none⟩ _ (.inl rfl)) (fun j hj h => by have h2 : j = w.heap.size := h; have := HSL.out j hj; omega)
      · rw [(fits_no hfit).1, (fits_no hfit).2] at HT2
        go_wp2_with (go_at_call 228; refine HT2.out.mono ?_; rintro e w2 ⟨rfl, hrd2, hm2⟩; have HR2 := Lib.hid hrd2; have HM2 := Lib.hid (HMD.out.then_ hm2); clear hrd2 hm2)
        go_ret2
        exact ⟨_, 0, HR2.out, HM2.out, .inl ⟨by omega, rfl⟩⟩
    · obtain rfl : k = 19 := by omega
      obtain rfl : gk = 0 := by omega
      have HN := Lib.hid (show NB wr w.heap.size (lensA (unpack bs) p 19) by have h := HNB.out; rw [List.replicate_zero, List.append_nil] at h; exact h)
      have HC : Hid (Cells wr wr.heap.size (some ⟨w.heap.size, 0, none⟩) (((lensA (unpack bs) p 19).map fun n : Nat => (n : Int)).map ic)) := by
        show Cells _ _ _ _
        rw [nCs_ic]
        exact NB.cellsT HN.out
      have hp76 := (rd_low HRD.out).2.1
      cases hr : caR ((lensA (unpack bs) p 19).map fun n : Nat => (n : Int)) with
      | false =>
        have HNO := Lib.hid (new_no (some ⟨w.heap.size, 0, none⟩) 19 19 _ wr.heap.size wr (by rw [List.length_map, lensA_len]) (by omega) HC.out hr)
        have HRR := Lib.hid hr
        clear hr
        go_wp2_with (go_at_call 152; refine HNO.out.mono ?_; rintro e w2 ⟨rfl, rfl⟩)
        go_ret2
        exact ⟨_, 0, HRD.out, HMD.out, .inr (.inl ⟨by omega, HRR.out, rfl⟩)⟩
      | true =>
        have HNO := Lib.hid (new_low (some ⟨w.heap.size, 0, none⟩) 19 19 _ wr.heap.size wr (by rw [List.length_map, lensA_len]) (by omega) HC.out (Nat.le_refl _) hr)
        have HRR := Lib.hid hr
        clear hr
        go_wp2_with (go_at_call 152; refine HNO.out.mono ?_; rintro e w2 ⟨g, rfl, hlc, hb2⟩; have HL2 := Lib.hid hlc; have HB2 := Lib.hid hb2; clear hlc hb2)
        go_ret2
        exact ⟨_, g, HRD.out.keep (Mod.of_below HB2.out) (fun _ _ h => h), HMD.out.then_ ((Mod.of_below HB2.out).mono (fun _ h => h.elim)), .inr (.inr ⟨by omega, HRR.out, rfl, by omega, HL2.out.lower HMD.out.size⟩)⟩
theorem own_leT {w : World} {base base' : Nat} {e : TypeId} {size n : Nat} {v : Value} {xs : List Value} (h : w.ownsRow base e size v n xs) (hb : base' ≤ base) : w.ownsRow base' e size v n xs := by
 obtain ⟨h1,h2⟩ := h
 refine ⟨h1,?_⟩
 rcases h2 with h2 | ⟨g,c,cur,hv,hg,h3⟩
 ·exact .inl h2
 ·exact .inr ⟨g,c,cur,hv,Nat.le_trans hb hg,h3⟩
theorem nCs_one (ns : List Nat) : ∀ u ∈ nCs ns,u.oneCell' = true := fun u hu => by
 obtain ⟨n,_,rfl⟩ := List.mem_map.1 hu
 rfl
theorem LCa.keep2 {w w' : World} {n g : Nat} {zs : List Int} {S : Nat → Prop} (h : LCa w n g zs) (hm : Mod S w w') (hS : ∀ k,S k → k < n ∨ g < k) : LCa w' n g zs := by
 obtain ⟨A1,A2,A3,c1,c2,c3,m,hcb,hmx,h1,h2,h3,hg,ha⟩ := h
 have hgl := cb_lt hcb
 have key : ∀ {A : Option Addr} {xs : List Value},(∀ a,A = some a → n ≤ a.block) → Cells w g A xs → Cells w' g A xs := fun hA hc hp => by
  obtain ⟨b,o,e,hb,hcc⟩ := hc hp
  have hnb := hA _ e
  exact ⟨b,o,e,hb,fun j u hj => (World.cell?_of_block (a := ⟨b,o + j,none⟩) (hm.block b (by omega) (fun hs => by have := hS b hs;dsimp only at hnb;omega))).trans (hcc j u hj)⟩
 exact ⟨A1,A2,A3,c1,c2,c3,m,hm.keep hcb (fun hs => by have := hS g hs;omega),hmx,key (fun a e => ha a (.inl e)) h1,key (fun a e => ha a (.inr (.inl e))) h2,key (fun a e => ha a (.inr (.inr e))) h3,hg,ha⟩
structure TkI (w W : World) (r base B : Nat) (S : Nat → Prop) (bs : List UInt8) (p g : Nat) (zs : List Int) (v : Value) (ls : List Nat) : Prop where
 row : W.ownsRow B 3 1 v ls.length (nCs ls)
 rd : RdS W r base S bs p
 mod : Mod (oneB r) w W
 code : LCa W w.heap.size g zs
 big : B ≤ W.heap.size
section
variable {w W W' : World} {r base B p p' g : Nat} {S : Nat → Prop} {bs : List UInt8} {zs : List Int} {v v' : Value} {ls ls' : List Nat}
theorem TkI.part (h : TkI w W r base B S bs p g zs v ls) (hr : r < w.heap.size) (hB : w.heap.size ≤ B) (hm : Mod (oneB r) W W') (hrd : RdS W' r base S bs p') : TkI w W' r base B S bs p' g zs v ls :=
 ⟨own_keep h.row hm (fun k hk hs => by have h2 : k = r := hs;have := own_base h.row k hk;omega),hrd,h.mod.then_ hm,h.code.keep2 hm (fun k hs => by have h2 : k = r := hs;omega),Nat.le_trans h.big hm.size⟩
theorem TkI.below (h : TkI w W r base B S bs p g zs v ls) (hb : Below W.heap.size W W') : TkI w W' r base B S bs p g zs v ls :=
 ⟨own_keep h.row (Mod.of_below hb) (fun _ _ h => h),h.rd.keep (Mod.of_below hb) (fun _ _ h => h),h.mod.then_ ((Mod.of_below hb).mono fun _ h => h.elim),h.code.keep2 (Mod.of_below hb) (fun _ h => h.elim),Nat.le_trans h.big hb.size⟩
theorem TkI.app {m : Nat} {xs : List Value} (h : TkI w W r base B S bs p g zs v ls) (hSL : ∀ k,S k → k < w.heap.size) (hB : w.heap.size ≤ B) (hg : g < B) (ha : App W B 3 1 v m xs W' v') (hm : m = ls'.length) (hx : xs = nCs ls') : TkI w W' r base B S bs p g zs v' ls' := by
 subst hm hx
 exact ⟨ha.own,h.rd.keep (Mod.of_app ha) (fun k hk hs => by have := hSL k hk;have := own_base h.row k hs;omega),h.mod.trans (Mod.of_app ha) (fun k hk => .inr (by have := own_base h.row k hk;omega)),h.code.keep2 (Mod.of_app ha) (fun k hk => .inr (by have := own_base h.row k hk;omega)),Nat.le_trans h.big (Mod.of_app ha).size⟩
end
set_option maxRecDepth 100000 in
set_option maxHeartbeats 2000000 in
theorem rntake_any (F : List Int → List Bool → Int × Int × Nat) (hF : FunT F) (r base : Nat) (S : Nat → Prop) (bs : List UInt8) (p : Nat) (w : World) (hrd : RdS w r base S bs p) (hbl : bs.length ≤ 1000000) :
  Calls Tryz.prog 204 #[.pointer (some ⟨r,0,none⟩)] w
   fun e w' => ∃ A c p',e = .returned (.tuple #[.slice A (tkF F (unpack bs) p).2.1.length c,.int .i64 (tkF F (unpack bs) p).1]) ∧ w'.ownsRow w.heap.size 3 1 (.slice A (tkF F (unpack bs) p).2.1.length c) (tkF F (unpack bs) p).2.1.length (nCs (tkF F (unpack bs) p).2.1) ∧ RdS w' r base S bs p' ∧ ((tkF F (unpack bs) p).1 = 0 → p' = (tkF F (unpack bs) p).2.2) ∧ Mod (oneB r) w w' := by
 obtain ⟨hrl,hp8,hSr⟩ := rd_low hrd
 have HT := Lib.hid (rtake_any r base S bs p 9 w hrd (by omega) (by omega) (by omega))
 rw [show cnt 9 = 9 from rfl] at HT
 have HRD := Lib.hid hrd
 have HSL : Hid (∀ k,S k → k < w.heap.size) := hrd.lt
 have HBACK : Hid (∀ (e : Ending) (w' : World) (t : Int × List Nat × Nat),tkF F (unpack bs) p = t → (∃ A c p',e = .returned (.tuple #[.slice A t.2.1.length c,.int .i64 t.1]) ∧ w'.ownsRow w.heap.size 3 1 (.slice A t.2.1.length c) t.2.1.length (nCs t.2.1) ∧ RdS w' r base S bs p' ∧ (t.1 = 0 → p' = t.2.2) ∧ Mod (oneB r) w w') →
  ∃ A c p',e = .returned (.tuple #[.slice A (tkF F (unpack bs) p).2.1.length c,.int .i64 (tkF F (unpack bs) p).1]) ∧ w'.ownsRow w.heap.size 3 1 (.slice A (tkF F (unpack bs) p).2.1.length c) (tkF F (unpack bs) p).2.1.length (nCs (tkF F (unpack bs) p).2.1) ∧ RdS w' r base S bs p' ∧ ((tkF F (unpack bs) p).1 = 0 → p' = (tkF F (unpack bs) p).2.2) ∧ Mod (oneB r) w w') := fun e w' t ht h => by rw [ht];exact h
 have HERR : Hid (∀ (e : Ending) (w' : World) (er : Int) (p' : Nat),e = .returned (.tuple #[.slice none 0 0,.int .i64 er]) → er ≠ 0 → tkF F (unpack bs) p = (er,[],0) → RdS w' r base S bs p' → Mod (oneB r) w w' → _) := fun e w' er p' he hne ht hr hm => HBACK.out e w' _ ht ⟨none,0,p',he,World.ownsRow_nil _ _ _ _,hr,fun h => absurd h hne,hm⟩
 have hLl := unpack_length bs
 obtain ⟨L,hL⟩ : ∃ L,unpack bs = L := ⟨_,rfl⟩
 have HL := Lib.hid hL
 rw [hL] at hLl
 clear hrd HBACK
 go_enter Tryz.func204,Tryz.ntmps204
 by_cases h9 : p + 9 ≤ 8 * bs.length
 ·rw [(fits_yes h9).1,(fits_yes h9).2,numA_takes h9,hL] at HT
  have hn512 := numA_lt L p 9
  obtain ⟨n,hn⟩ : ∃ n,numA L p 9 = n := ⟨_,rfl⟩
  have HN := Lib.hid hn
  rw [hn] at HT hn512
  have hn512' : n < 512 := hn512
  clear hn hn512
  by_cases hbad : n = 0 ∨ 320 < n
  ·have HTK : Hid (tkF F (unpack bs) p = (5,[],0)) := by show _ = _;rw [hL,tkF,if_neg (by omega),HN.out,if_pos hbad]
   clear hL
   rcases hbad with h0 | h0
   ·subst h0
    go_wp2_with (go_at_call 228;refine HT.out.mono ?_;rintro e w2 ⟨rfl,hrd2,hm2⟩;have HR2 := Lib.hid hrd2;have HM2 := Lib.hid hm2;clear hrd2 hm2)
    refine bodyPost_ret (results_tmp2 rfl _ _ _) rfl (HERR.out _ _ 5 _ rfl (by decide) HTK.out HR2.out HM2.out)
   ·have t1 : ((n : Int) == 0) = false := by simp;omega
    have t2 : decide ((320 : Int) < (n : Int)) = true := decide_eq_true (by omega)
    go_wp2_with (go_at_call 228;refine HT.out.mono ?_;rintro e w2 ⟨rfl,hrd2,hm2⟩;have HR2 := Lib.hid hrd2;have HM2 := Lib.hid hm2;clear hrd2 hm2)
    refine bodyPost_ret (results_tmp2 rfl _ _ _) rfl (HERR.out _ _ 5 _ rfl (by decide) HTK.out HR2.out HM2.out)
  ·have t1 : ((n : Int) == 0) = false := by simp;omega
   have t2 : decide ((320 : Int) < (n : Int)) = false := decide_eq_false (by omega)
   go_wp2_with (first
    | (go_at_call 228;refine HT.out.mono ?_;rintro e w2 ⟨rfl,hrd2,hm2⟩;have HR2 := Lib.hid hrd2;have HM2 := Lib.hid hm2;clear hrd2 hm2))
   refine (rtcode_any r base S bs (p + 9) w2 HR2.out hbl).mono ?_
   rintro e w3 ⟨p3,g,hrd3,hm3,h3⟩
   have HR3 := Lib.hid hrd3
   have HM3 := Lib.hid (HM2.out.then_ hm3)
   clear hrd3 hm3
   rw [hL] at h3
   obtain ⟨zs,hzs⟩ : ∃ zs : List Int,((lensA L (p + 9) 19).map fun n : Nat => (n : Int)) = zs := ⟨_,rfl⟩
   rw [hzs] at h3
   have hS2 := HM2.out.size
   rcases h3 with ⟨hno,rfl⟩ | ⟨hy,hca,rfl⟩ | ⟨hy,hca,rfl,rfl,hlc⟩
   ·have HTK : Hid (tkF F (unpack bs) p = (2,[],0)) := by show _ = _;rw [hL,tkF,if_neg (by omega),HN.out,if_neg hbad,if_pos (by omega)]
    clear hL hno hbad hzs
    go_wp2
    refine bodyPost_ret (results_tmp2 rfl _ _ _) rfl (HERR.out _ _ 2 _ rfl (by decide) HTK.out HR3.out HM3.out)
   ·have HTK : Hid (tkF F (unpack bs) p = (13,[],0)) := by show _ = _;rw [hL,tkF,if_neg (by omega),HN.out,if_neg hbad,if_neg (by omega),hzs,if_pos hca]
    clear hL hbad hzs hca
    go_wp2
    refine bodyPost_ret (results_tmp2 rfl _ _ _) rfl (HERR.out _ _ 13 _ rfl (by decide) HTK.out HR3.out HM3.out)
   ·have HTK : Hid (tkF F (unpack bs) p = lensF F zs n L n [] (p + 85)) := by show _ = _;rw [hL,tkF,if_neg (by omega),HN.out,if_neg hbad,if_neg (by omega),hzs,if_neg (by rw [hca];simp)]
    have HCA := Lib.hid hca
    have HG : Hid (g < w3.heap.size) := by obtain ⟨_,_,_,_,_,_,_,h,_⟩ := hlc;exact cb_lt h
    have HI3 : Hid (TkI w w3 r base w3.heap.size S bs (p + 9 + 76) g zs (.slice none 0 0) []) := ⟨World.ownsRow_nil _ _ _ _,HR3.out,HM3.out,hlc.lower hS2,Nat.le_refl _⟩
    have HB3 : Hid (w.heap.size ≤ w3.heap.size) := HM3.out.size
    have hn320 : n ≤ 320 := by omega
    clear hbad hca hlc hzs HR3 HM3 hy
    go_wp2
    go_loopg [8] n (fun gk v wr => ∃ (ls : List Nat) (p' : Nat),lensF F zs n L n [] (p + 85) = lensF F zs n L gk ls p' ∧ n ≤ ls.length + gk ∧ ls.length ≤ n ∧ TkI w wr r base w3.heap.size S bs p' g zs v ls)
    case atStart => exact ⟨[],p + 9 + 76,rfl,by simp,by simp,HI3.out⟩
    case round =>
     obtain ⟨ls,p',hle,hfu,hln,hti⟩ := hrel
     obtain ⟨Av,cv,rfl⟩ := own_form hti.row
     have HLE := Lib.hid hle
     have HTI := Lib.hid hti
     clear hle hti HI3
     obtain ⟨ll,hll⟩ : ∃ ll,ls.length = ll := ⟨_,rfl⟩
     have HLL := Lib.hid hll
     rw [hll] at hfu hln ⊢
     by_cases hlt : ll < n
     ·obtain ⟨j,rfl⟩ : ∃ j,gk = j + 1 := ⟨gk - 1,by omega⟩
      have HP := Lib.hid (rtpart_any F hF g r base zs S bs p' wr HCA.out HTI.out.code.lc HTI.out.rd hbl)
      have HPM := Lib.hid (partF_many F zs (L.drop p'))
      have HLF : Hid (lensF F zs n L (j + 1) ls p' = if (partF F zs (L.drop p')).1 ≠ 0 then ((partF F zs (L.drop p')).1,[],0) else if (partF F zs (L.drop p')).2.1 = 16 ∧ ls = [] then (3,[],0) else if n < ls.length + (partF F zs (L.drop p')).2.2.1 then (3,[],0) else lensF F zs n L j (ls ++ List.replicate (partF F zs (L.drop p')).2.2.1 (saysP ls (partF F zs (L.drop p')).2.1)) (p' + (partF F zs (L.drop p')).2.2.2)) := by
       show _ = _
       rw [lensF,if_neg (by omega)]
      rw [hL] at HP
      obtain ⟨P,hP⟩ : ∃ P,partF F zs (L.drop p') = P := ⟨_,rfl⟩
      rw [hP] at HP HPM HLF
      obtain ⟨er,num,many,on⟩ := P
      dsimp only at HP HPM HLF
      clear hP
      by_cases her : er = 0
      ·subst her
       obtain ⟨hm1,hm4⟩ := HPM.out rfl
       rw [if_neg (by simp)] at HLF
       by_cases h16 : num = 16 ∧ ls = []
       ·rw [if_pos h16] at HLF
        obtain ⟨rfl,rfl⟩ := h16
        obtain rfl : 0 = ll := HLL.out
        have HFO := Lib.hid (fun W => follow_no cv many Av W)
        clear hfu
        go_wp2_with (first
         | (go_at_call 230;refine HP.out.mono ?_;rintro e w4 ⟨p4,rfl,hrd4,hpe,hm4'⟩;have HI5 := Lib.hid (fun o => (HTI.out.part hrl HB3.out hm4' hrd4).below ((Below.refl _ w4).alloc (Nat.le_refl _) o));clear hrd4 hpe hm4')
         | (go_at_call 231;refine (HFO.out _).mono ?_;rintro e w6 ⟨rfl,hb6⟩;have HI6 := Lib.hid ((HI5.out _).below hb6);clear hb6))
        refine bodyPost_ret (results_tmp2 rfl _ _ _) rfl (HERR.out _ _ 3 _ rfl (by decide) (by rw [HTK.out,HLE.out,HLF.out]) HI6.out.rd HI6.out.mod)
       ·rw [if_neg h16] at HLF
        have hsn : num = 16 → 0 < ll := fun h => by
         rcases Nat.eq_zero_or_pos ll with h0 | h0
         ·exact absurd ⟨h,List.eq_nil_of_length_eq_zero (by rw [HLL.out];exact h0)⟩ h16
         ·exact h0
        have HFO : Hid (∀ W : World,W.ownsRow w3.heap.size 3 1 (.slice Av ls.length cv) ls.length (nCs ls) → _) := fun W hW => follow_any Av ll cv ls num many W.heap.size W HLL.out (by omega) (Cells.of_own hW) (Nat.le_refl _) hsn hm1 hm4
        rw [HLL.out] at HLF
        by_cases hbig : n < ll + many
        ·rw [if_pos hbig] at HLF
         clear hfu h16 hsn
         go_wp2_with (first
          | (go_at_call 230;refine HP.out.mono ?_;rintro e w4 ⟨p4,rfl,hrd4,hpe,hm4'⟩;have HI5 := Lib.hid (fun o => (HTI.out.part hrl HB3.out hm4' hrd4).below ((Below.refl _ w4).alloc (Nat.le_refl _) o));clear hrd4 hpe hm4')
          | (go_at_call 231;refine (HFO.out _ (HI5.out _).row).mono ?_;rintro e w6 ⟨g6,rfl,hg6,hn6,hb6⟩;have HI6 := Lib.hid ((HI5.out _).below hb6);clear hb6 hn6 hg6))
         refine bodyPost_ret (results_tmp2 rfl _ _ _) rfl (HERR.out _ _ 3 _ rfl (by decide) (by rw [HTK.out,HLE.out,HLF.out]) HI6.out.rd HI6.out.mod)
        ·rw [if_neg hbig] at HLF
         obtain ⟨x,hx⟩ : ∃ x,saysP ls num = x := ⟨_,rfl⟩
         rw [hx] at HLF HFO
         have HNC : Hid (nCs (ls ++ List.replicate many x) = nCs ls ++ nCs (List.replicate many x)) := by show _ = _;simp [nCs]
         have HNL : Hid ((ls ++ List.replicate many x).length = ll + many) := by show _ = _;rw [List.length_append,HLL.out,List.length_replicate]
         have hadd : ll + many ≤ n := by omega
         have HFU := Lib.hid hfu
         clear h16 hsn hx hfu
         go_wp2_with (first
          | (go_at_call 230;refine HP.out.mono ?_;rintro e w4 ⟨p4,rfl,hrd4,hpe,hm4'⟩;have HI5 := Lib.hid (fun o => (HTI.out.part hrl HB3.out hm4' hrd4).below ((Below.refl _ w4).alloc (Nat.le_refl _) o));have HPE := Lib.hid (hpe rfl);clear hrd4 hpe hm4')
          | (go_at_call 231;refine (HFO.out _ (HI5.out _).row).mono ?_;rintro e w6 ⟨g6,rfl,hg6,hn6,hb6⟩;have HI6 := Lib.hid ((HI5.out _).below hb6);have HN6 := Lib.hid hn6;clear hb6 hn6 hg6)
          | (at_builtin;refine wpList_app w6 intElem rfl (.tmp 66) (.tmp 67) rfl w3.heap.size (.slice Av ll cv) ll (nCs ls) rfl (by have h := HI6.out.row;rw [HLL.out] at h;exact h) w6.heap.size (some ⟨g6,0,none⟩) many many (nCs (List.replicate many x)) rfl (by rw [nCs_len,List.length_replicate,Nat.mul_one]) (NB.cellsT HN6.out) (nCs_one _) (by unfold maxLen;omega) (by omega) HI6.out.big ?_;intro A7 c7 w7 hA;have HI7 := Lib.hid (HI6.out.app (ls' := ls ++ List.replicate many x) HSL.out HB3.out HG.out (by rw [HLL.out];exact hA) HNL.out.symm HNC.out.symm);clear hA))
         go_roundg j
         case measure => omega
         case rel => exact ⟨ls ++ List.replicate many x,p' + on,by rw [HLE.out,HLF.out],by rw [HNL.out];have := HFU.out;omega,by rw [HNL.out];omega,by rw [← HPE.out];exact HI7.out⟩
      ·rw [if_pos her] at HLF
       have t3 : (er != 0) = true := by simpa using her
       have HER := Lib.hid her
       clear hfu her
       go_wp2_with (go_at_call 230;refine HP.out.mono ?_;rintro e w4 ⟨p4,rfl,hrd4,hpe,hm4'⟩;have HI5 := Lib.hid (fun o => (HTI.out.part hrl HB3.out hm4' hrd4).below ((Below.refl _ w4).alloc (Nat.le_refl _) o));clear hrd4 hpe hm4')
       refine bodyPost_ret (results_tmp2 rfl _ _ _) rfl (HERR.out _ _ er _ rfl HER.out (by rw [HTK.out,HLE.out,HLF.out]) (HI5.out _).rd (HI5.out _).mod)
     ·have HE : Hid (tkF F (unpack bs) p = (0,ls,p')) := by
       show _ = _
       rw [HTK.out,HLE.out]
       cases gk with
       | zero => rfl
       | succ j => rw [lensF,if_pos (by omega)]
      have HHH := Lib.hid hll
      clear hfu
      go_wp2
      refine bodyPost_ret (results_tmp2 rfl _ _ _) rfl ?_
      rw [HE.out]
      dsimp only
      rw [HLL.out]
      exact ⟨Av,cv,p',rfl,own_leT (by have h := HTI.out.row;rw [HLL.out] at h;exact h) HB3.out,HTI.out.rd,fun _ => rfl,HTI.out.mod⟩
 ·rw [(fits_no h9).1,(fits_no h9).2] at HT
  have HTK : Hid (tkF F (unpack bs) p = (2,[],0)) := by show _ = _;rw [hL,tkF,if_pos (by omega)]
  clear hL
  go_wp2_with (go_at_call 228;refine HT.out.mono ?_;rintro e w2 ⟨rfl,hrd2,hm2⟩;have HR2 := Lib.hid hrd2;have HM2 := Lib.hid hm2;clear hrd2 hm2)
  refine bodyPost_ret (results_tmp2 rfl _ _ _) rfl (HERR.out _ _ 2 _ rfl (by decide) HTK.out HR2.out HM2.out)
end Go.Proofs.YtaknladkodibaaaGreatDoor
namespace Go.Proofs.YtaknladkodibaaaGreatDoor
open Go.RowKit BitsP SymP
theorem takeR_one {zs : List Int} {m : Nat} {U : List Bool} {s e : Int} {on : Nat} (h : TakeR zs m U s e on) (he : e = 0) : 1 ≤ on := by
 rcases h with ⟨t,v,k,hy,_,_,_,_⟩ | ⟨_,_,_,he2⟩
 ·exact hy.one
 ·rw [he2] at he
  split at he <;> cases he
set_option maxRecDepth 100000 in
set_option maxHeartbeats 1000000 in
theorem tkclass_any (F : List Int → List Bool → Int × Int × Nat) (hF : FunT F) (g r base zr : Nat) (zs : List Int) (S : Nat → Prop) (bs : List UInt8) (p : Nat) (w : World) (hr : caR zs = true) (hz0 : zr ≤ 1000) (h : LC w g zs) (hrd : RdS w r base S bs p) (hbl : bs.length ≤ 1000000) :
  Calls Tryz.prog 205 #[.pointer (some ⟨r,0,none⟩),.agg #[.pointer (some ⟨g,0,none⟩),.int .i64 (zr : Int)]] w
   fun e w' => ∃ p',e = .returned (.tuple #[.agg #[.int .i64 ((clsF F zs zr (unpack bs) p).2.1.1 : Nat),.int .i64 ((clsF F zs zr (unpack bs) p).2.1.2.1 : Nat),.int .u32 ((clsF F zs zr (unpack bs) p).2.1.2.2 : Nat)],.int .i64 (clsF F zs zr (unpack bs) p).1]) ∧ RdS w' r base S bs p' ∧ ((clsF F zs zr (unpack bs) p).1 = 0 → p' = p + (clsF F zs zr (unpack bs) p).2.2 ∧ 1 ≤ (clsF F zs zr (unpack bs) p).2.2 ∧ (clsF F zs zr (unpack bs) p).2.1.1 < zs.length ∧ (clsF F zs zr (unpack bs) p).2.1.2.1 ≤ 13 ∧ (clsF F zs zr (unpack bs) p).2.1.2.2 < 8192) ∧ Mod (oneB r) w w' := by
 obtain ⟨hrl0,hp8,_⟩ := rd_low hrd
 have hb0 : Below w.heap.size w (w.alloc (.cells #[.pointer (some ⟨g,0,none⟩),.int .i64 (zr : Int)] 250)) := (Below.refl w.heap.size w).alloc (Nat.le_refl _) _
 have hb1 := hb0.alloc (o := .cells #[.int .i64 0,.int .i64 0,.int .u32 0] 166) (by simp)
 obtain ⟨W1,hW1⟩ : ∃ W1,(w.alloc (.cells #[.pointer (some ⟨g,0,none⟩),.int .i64 (zr : Int)] 250)).alloc (.cells #[.int .i64 0,.int .i64 0,.int .u32 0] 166) = W1 := ⟨_,rfl⟩
 rw [hW1] at hb1
 have HX1 : Hid (W1.heap[w.heap.size]? = some (.cells #[.pointer (some ⟨g,0,none⟩),.int .i64 (zr : Int)] 250 (0,0))) := by show _ = _;rw [← hW1];exact row3_alloc (heap_alloc_new w _) _
 have HY1 : Hid (W1.heap[w.heap.size + 1]? = some (.cells #[.int .i64 0,.int .i64 0,.int .u32 0] 166 (0,0))) := by show _ = _;rw [← hW1];have h := heap_alloc_new (w.alloc (.cells #[.pointer (some ⟨g,0,none⟩),.int .i64 (zr : Int)] 250)) (.cells #[.int .i64 0,.int .i64 0,.int .u32 0] 166);rw [World.size_alloc] at h;exact h
 have c0 : W1.cell? ⟨w.heap.size,0,none⟩ = some (.pointer (some ⟨g,0,none⟩)) := cell_of_row _ _ 0 _ _ _ HX1.out
 have HT := Lib.hid (take8_any g r base zs S bs p W1 hr (h.below hb1) (hrd.keep (Mod.of_below hb1) (fun _ _ h => h)) hbl)
 have HM : Hid (Mod (oneB r) w W1) := (Mod.of_below hb1).mono (fun _ h => h.elim)
 have HRL : Hid (r < w.heap.size) := hrl0
 have HTK : Hid (∀ (W : World) (p b : Nat),RdS W r base S bs p → b ≤ 100 → _) := fun W p b hW h1 => rtake_any r base S bs p (b : Int) W hW (by omega) (by omega) (by omega)
 have HSL : Hid (∀ k,S k → k < w.heap.size) := hrd.lt
 clear h hrd hb0 hb1 hrl0
 obtain ⟨L,hL⟩ : ∃ L,unpack bs = L := ⟨_,rfl⟩
 have hLl : L.length = 8 * bs.length := by rw [← hL,unpack_length]
 have HLL := Lib.hid hLl
 have HLE := Lib.hid hL
 rw [hL] at HT ⊢
 clear hL hLl
 have HST : Hid (∀ W : World,Mod (oneB r) w W → ∀ v u x,Mod (oneB r) w (((W.setCell ⟨w.heap.size + 1,0,none⟩ v).setCell ⟨w.heap.size + 1,1,none⟩ u).setCell ⟨w.heap.size + 1,2,none⟩ x)) := fun W hW v u x => ((hW.set _ _ (.inr (Nat.le_succ _))).set _ _ (.inr (Nat.le_succ _))).set _ _ (.inr (Nat.le_succ _))
 have HSR : Hid (∀ (W : World) (q : Nat),RdS W r base S bs q → ∀ v u x,RdS (((W.setCell ⟨w.heap.size + 1,0,none⟩ v).setCell ⟨w.heap.size + 1,1,none⟩ u).setCell ⟨w.heap.size + 1,2,none⟩ x) r base S bs q) := fun W q hW v u x => hW.keep (T := oneB (w.heap.size + 1)) ((((Mod.refl (oneB (w.heap.size + 1)) W).set ⟨w.heap.size + 1,0,none⟩ v (.inl rfl)).set ⟨w.heap.size + 1,1,none⟩ u (.inl rfl)).set ⟨w.heap.size + 1,2,none⟩ x (.inl rfl)) (fun k hk h => by have h2 : k = w.heap.size + 1 := h;have := HSL.out k hk;omega)
 go_enter Tryz.func205,Tryz.ntmps205
 go_wp2_with fail
 refine HT.out.mono ?_
 rintro e w2 ⟨m,on,s,er,rfl,hmx,htk,hrd,hmod⟩
 have hx2 := hmod.keep HX1.out (fun h => by have h2 : w.heap.size = r := h;have := HRL.out;omega)
 have hy2 := hmod.keep HY1.out (fun h => by have h2 : w.heap.size + 1 = r := h;have := HRL.out;omega)
 have HK := Lib.hid (kindsT hF hmx htk)
 have HONE : Hid (er = 0 → 1 ≤ on) := fun h => takeR_one htk h
 have HM2 := Lib.hid (HM.out.then_ hmod)
 have HRD := Lib.hid hrd
 have HY2 := Lib.hid hy2
 have d1 : w2.cell? ⟨w.heap.size,1,none⟩ = some (.int .i64 (zr : Int)) := cell_of_row _ _ 1 _ _ _ hx2
 have b0 : w2.cell? ⟨w.heap.size + 1,0,none⟩ = some (.int .i64 0) := cell_of_row _ _ 0 _ _ _ hy2
 have b1 : w2.cell? ⟨w.heap.size + 1,1,none⟩ = some (.int .i64 0) := cell_of_row _ _ 1 _ _ _ hy2
 have b2 : w2.cell? ⟨w.heap.size + 1,2,none⟩ = some (.int .u32 0) := cell_of_row _ _ 2 _ _ _ hy2
 have f0 : w2.frozen? ⟨w.heap.size + 1,0,none⟩ = false := frozen_of_row _ _ 0 _ _ hy2
 have f1 : w2.frozen? ⟨w.heap.size + 1,1,none⟩ = false := frozen_of_row _ _ 1 _ _ hy2
 have f2 : w2.frozen? ⟨w.heap.size + 1,2,none⟩ = false := frozen_of_row _ _ 2 _ _ hy2
 clear hmx htk hrd hmod hx2 hy2
 rcases HK.out with ⟨rfl,t,rfl,htl,hon,hf⟩ | ⟨hne,rfl,hf⟩
 ·have HF := Lib.hid hf
  have hz := (caR_len hr).1
  have hUl : (L.drop p).length = 8 * bs.length - p := by rw [List.length_drop,HLL.out]
  rw [hUl] at hon
  obtain ⟨sb,hsb⟩ : ∃ sb,wdF zr t = sb := ⟨_,rfl⟩
  have hsb13 : sb ≤ 13 := by rw [← hsb];exact wdF_le zr t
  have HSB := Lib.hid hsb
  have HBA : Hid (∀ W : World,∃ v ok,Calls Tryz.prog 233 #[.int .i64 ((t : Int) - (zr : Int))] W fun e w' => e = .returned (.tuple #[.int .i64 v,.int .i64 (sb : Int),.bool ok]) ∧ W = w') := fun W => by
   by_cases h30 : zr ≤ t ∧ t - zr < 30
   ·have h := base_in (t - zr) W h30.2
    have e1 : ((t - zr : Nat) : Int) = (t : Int) - (zr : Int) := by omega
    have e2 : bitsC (t - zr) = sb := by rw [← HSB.out,wdF,if_pos h30]
    rw [e1,e2] at h
    exact ⟨_,_,h⟩
   ·have h := base_out ((t : Int) - (zr : Int)) W (by omega)
    have e2 : sb = 0 := by rw [← HSB.out,wdF,if_neg h30]
    rw [e2]
    exact ⟨_,_,h⟩
  have hwr : IntKind.i64.wrap ((t : Int) - (zr : Int)) = (t : Int) - (zr : Int) := IntWalk.i64_in _ (by omega)
  obtain ⟨bv,bok,hba⟩ := HBA.out w2
  have HBA2 := Lib.hid hba
  have HTK2 := Lib.hid (HTK.out w2 (p + on) sb HRD.out (by omega))
  rw [cnt_nat (by omega)] at HTK2
  clear HK HTK hf hsb HBA hba
  by_cases hfit : p + on + sb ≤ 8 * bs.length
  ·obtain ⟨y,hy⟩ : ∃ y,numA L (p + on) sb = y := ⟨_,rfl⟩
   have hyb : y < 8192 := by
    have h1 := numA_lt L (p + on) sb
    have h2 : 2 ^ sb ≤ 2 ^ 13 := Nat.pow_le_pow_right (by decide) hsb13
    omega
   have HP : Hid (clsF F zs zr L p = (0,(t,sb,y),on + sb)) := by
    show _ = _
    unfold clsF
    rw [HF.out]
    dsimp only
    rw [if_neg (by simp),Int.toNat_natCast,HSB.out,if_neg (by rw [HLL.out];omega),hy]
   have hty : takes bs (p + on) sb = y := by rw [numA_takes hfit,HLE.out,hy]
   rw [(fits_yes hfit).1,(fits_yes hfit).2,hty] at HTK2
   have HA := Lib.hid (show p + on + sb = p + (on + sb) by omega)
   clear hfit hy hty
   go_wp2_with (first
    | (go_at_call 233;refine HBA2.out.mono ?_;rintro e w' ⟨rfl,rfl⟩)
    | (go_at_call 228;refine HTK2.out.mono ?_;rintro e w3 ⟨rfl,hrd3,hm3⟩;have hy3 := hm3.keep HY2.out (fun h => by have h2 : w.heap.size + 1 = r := h;have := HRL.out;omega);have HR3 := Lib.hid hrd3;have HM3 := Lib.hid (HM2.out.then_ hm3);have b0' : w3.cell? ⟨w.heap.size + 1,0,none⟩ = some (.int .i64 0) := cell_of_row _ _ 0 _ _ _ hy3;have b1' : w3.cell? ⟨w.heap.size + 1,1,none⟩ = some (.int .i64 0) := cell_of_row _ _ 1 _ _ _ hy3;have b2' : w3.cell? ⟨w.heap.size + 1,2,none⟩ = some (.int .u32 0) := cell_of_row _ _ 2 _ _ _ hy3;have f0' : w3.frozen? ⟨w.heap.size + 1,0,none⟩ = false := frozen_of_row _ _ 0 _ _ hy3;have f1' : w3.frozen? ⟨w.heap.size + 1,1,none⟩ = false := frozen_of_row _ _ 1 _ _ hy3;have f2' : w3.frozen? ⟨w.heap.size + 1,2,none⟩ = false := frozen_of_row _ _ 2 _ _ hy3;clear hrd3 hm3 hy3))
   refine bodyPost_ret (v := .tuple #[.agg #[.int .i64 (t : Int),.int .i64 (sb : Int),.int .u32 (y : Int)],.int .i64 0]) ?_ rfl ⟨p + (on + sb),by rw [HP.out],?_,fun _ => by rw [HP.out];exact ⟨rfl,Nat.le_trans (HONE.out trivial) (Nat.le_add_right _ _),htl,hsb13,hyb⟩,?_⟩
   ·rw [results_cell_tmp rfl]
    go_simp
    try rfl
   ·rw [← HA.out]
    exact HSR.out _ _ HR3.out _ _ _
   ·exact HST.out _ HM3.out _ _ _
  ·have HP : Hid (clsF F zs zr L p = (2,(0,0,0),0)) := by
    show _ = _
    unfold clsF
    rw [HF.out]
    dsimp only
    rw [if_neg (by simp),Int.toNat_natCast,HSB.out,if_pos (by rw [HLL.out];omega)]
   rw [(fits_no hfit).1,(fits_no hfit).2] at HTK2
   clear hfit
   go_wp2_with (first
    | (go_at_call 233;refine HBA2.out.mono ?_;rintro e w' ⟨rfl,rfl⟩)
    | (go_at_call 228;refine HTK2.out.mono ?_;rintro e w3 ⟨rfl,hrd3,hm3⟩;have hy3 := hm3.keep HY2.out (fun h => by have h2 : w.heap.size + 1 = r := h;have := HRL.out;omega);have HR3 := Lib.hid hrd3;have HM3 := Lib.hid (HM2.out.then_ hm3);have b0' : w3.cell? ⟨w.heap.size + 1,0,none⟩ = some (.int .i64 0) := cell_of_row _ _ 0 _ _ _ hy3;have b1' : w3.cell? ⟨w.heap.size + 1,1,none⟩ = some (.int .i64 0) := cell_of_row _ _ 1 _ _ _ hy3;have b2' : w3.cell? ⟨w.heap.size + 1,2,none⟩ = some (.int .u32 0) := cell_of_row _ _ 2 _ _ _ hy3;have f0' : w3.frozen? ⟨w.heap.size + 1,0,none⟩ = false := frozen_of_row _ _ 0 _ _ hy3;have f1' : w3.frozen? ⟨w.heap.size + 1,1,none⟩ = false := frozen_of_row _ _ 1 _ _ hy3;have f2' : w3.frozen? ⟨w.heap.size + 1,2,none⟩ = false := frozen_of_row _ _ 2 _ _ hy3;clear hrd3 hm3 hy3))
   refine bodyPost_ret (v := .tuple #[.agg #[.int .i64 0,.int .i64 0,.int .u32 0],.int .i64 2]) ?_ rfl ⟨_,by rw [HP.out];rfl,HSR.out _ _ HR3.out _ _ _,fun h => (by rw [HP.out] at h;cases h),HST.out _ HM3.out _ _ _⟩
   rw [results_cell_tmp rfl]
   go_simp
   try rfl
 ·have HP : Hid (clsF F zs zr L p = (er,(0,0,0),0)) := by
   show _ = _
   unfold clsF
   rw [hf]
   exact if_pos hne
  have t1 : (er != 0) = true := by simpa using hne
  have HNE := Lib.hid hne
  clear HK hf hne
  go_wp2
  refine bodyPost_ret (v := .tuple #[.agg #[.int .i64 0,.int .i64 0,.int .u32 0],.int .i64 er]) ?_ rfl ⟨_,by rw [HP.out];rfl,HSR.out _ _ HRD.out _ _ _,fun h => absurd (by rw [HP.out] at h;exact h) HNE.out,HST.out _ HM2.out _ _ _⟩
  rw [results_cell_tmp rfl]
  go_simp
  try rfl
theorem results_cellTT {fn : Func} {p u v : Tmp} {ty : TypeId} (h : fn.results = #[.cell p ty,.tmp u,.tmp v]) (tmps : Array Value) (P : Program) (w : World) :
  (results fn tmps).run P w = ((asAddr (tmps.getD p undef)).run P w).andThen fun a w₁ => ((loadVar ty a).run P w₁).andThen fun x w₂ => .ok (.tuple #[x,tmps.getD u undef,tmps.getD v undef]) w₂ := by
 simp only [results,h]
 simp [Sem.run_bind,Result.andThen]
def ClsR (F : List Int → List Bool → Int × Int × Nat) (zs : List Int) (zr : Nat) (L : List Bool) (p lr : Nat) (s b : Int) (x nx : Nat) (er : Int) : Prop :=
 er = (clsF F zs zr L p).1 ∧ (er = 0 → s = ((clsF F zs zr L p).2.1.1 : Nat) ∧ b = ((clsF F zs zr L p).2.1.2.1 : Nat) ∧ x = (clsF F zs zr L p).2.1.2.2 ∧ nx = p + (clsF F zs zr L p).2.2 ∧ nx ≤ lr ∧ 1 ≤ (clsF F zs zr L p).2.2 ∧ (clsF F zs zr L p).2.1.1 < zs.length ∧ (clsF F zs zr L p).2.1.2.1 ≤ 13 ∧ (clsF F zs zr L p).2.1.2.2 < 8192)
set_option maxRecDepth 100000 in
set_option maxHeartbeats 1000000 in
theorem rclass13_any (F : List Int → List Bool → Int × Int × Nat) (hF : FunT F) (A1 A2 A3 : Option Addr) (l c1 c2 lr c3 zr : Nat) (zs : List Int) (L : List Bool) (p : Nat) (w : World) (hr : caR zs = true) (hl : zs.length = l) (h1 : Cells w w.heap.size A1 (zs.map ic)) (h2 : Cells w w.heap.size A2 ((caV zs).map ic)) (hL : L.length = lr) (hlr : lr ≤ 1000000) (hc : lr ≤ c3) (h3 : Bytes w w.heap.size A3 (bitBytes L)) (hp : p ≤ lr) (hz : l ≤ zr + 30) :
  Calls Tryz.prog 143 #[.slice A1 l c1,.slice A2 l c2,.slice A3 lr c3,.int .i64 (p : Int),.int .i64 (zr : Int)] w
   fun e w' => ∃ (s b : Int) (x nx : Nat) (er : Int),e = .returned (.tuple #[agC s b (x : Int),.int .i64 (nx : Int),.int .i64 er]) ∧ ClsR F zs zr L p lr s b x nx er ∧ Below w.heap.size w w' := by
 have hb1 : Below w.heap.size w (w.alloc (.cells #[.int .i64 0,.int .i64 0,.int .u32 0] 181)) := (Below.refl _ w).alloc (Nat.le_refl _) _
 obtain ⟨W1,hW1⟩ : ∃ W1,w.alloc (.cells #[.int .i64 0,.int .i64 0,.int .u32 0] 181) = W1 := ⟨_,rfl⟩
 have HX1 : Hid (W1.heap[w.heap.size]? = some (.cells #[.int .i64 0,.int .i64 0,.int .u32 0] 181 (0,0))) := by show _ = _;rw [← hW1];exact heap_alloc_new w _
 rw [hW1] at hb1
 have HB1 := Lib.hid hb1
 have hs1 := hb1.size
 have HT := Lib.hid (refTake8_any A1 A2 A3 l c1 c2 lr c3 zs L p W1 hr hl ((h1.below hb1 (Nat.le_refl _)).more hs1) ((h2.below hb1 (Nat.le_refl _)).more hs1) hL hlr hc ((h3.below hb1 (Nat.le_refl _)).more hs1) hp)
 have HNUM : Hid (∀ (W : World) (a b : Nat),Below w.heap.size w W → a ≤ 2000000 → b ≤ 32 → Calls Tryz.prog 101 #[.slice A3 lr c3,.int .i64 (a : Int),.int .i64 (b : Int)] W fun e w' => e = .returned (.int .u32 (numA L a b : Nat)) ∧ W = w') := fun W a b hW ha hb32 => by
  have h := refNumber_any A3 lr c3 w.heap.size L a (b : Int) W hL (by omega) (by omega) (by omega) (by omega) (h3.below hW (Nat.le_refl _))
  rw [cnt_nat hb32] at h
  exact h
 have HMX := Lib.hid (caR_max hr)
 have HLL := Lib.hid hL
 have HZL := Lib.hid hl
 have HCR := Lib.hid (caR_len hr).1
 have HW1 := Lib.hid hW1
 clear h1 h2 h3 hb1 hr hL hl hW1
 go_enter Tryz.func143,Tryz.ntmps143
 go_upto_region 1 with fail
 rw [HW1.out]
 go_wp2_with fail
 refine HT.out.mono ?_
 rintro e w2 ⟨on,s,er,rfl,htk,hb2⟩
 have hb12 := HB1.out.trans (hb2.mono hs1)
 have HB2 := Lib.hid hb12
 have hx2 := (hb2.block _ (Array.getElem?_eq_some_iff.1 HX1.out).1).trans HX1.out
 have HX2 := Lib.hid hx2
 obtain ⟨mx,hmx⟩ := HMX.out
 have HK := Lib.hid (kindsT hF hmx (htk mx hmx))
 have HONE : Hid (er = 0 → 1 ≤ on) := fun h => takeR_one (htk mx hmx) h
 have b0 : w2.cell? ⟨w.heap.size,0,none⟩ = some (.int .i64 0) := cell_of_row _ _ 0 _ _ _ hx2
 have b1 : w2.cell? ⟨w.heap.size,1,none⟩ = some (.int .i64 0) := cell_of_row _ _ 1 _ _ _ hx2
 have b2 : w2.cell? ⟨w.heap.size,2,none⟩ = some (.int .u32 0) := cell_of_row _ _ 2 _ _ _ hx2
 have f0 : w2.frozen? ⟨w.heap.size,0,none⟩ = false := frozen_of_row _ _ 0 _ _ hx2
 have f1 : w2.frozen? ⟨w.heap.size,1,none⟩ = false := frozen_of_row _ _ 1 _ _ hx2
 have f2 : w2.frozen? ⟨w.heap.size,2,none⟩ = false := frozen_of_row _ _ 2 _ _ hx2
 have HST : Hid (∀ v u x,Below w.heap.size w (((w2.setCell ⟨w.heap.size,0,none⟩ v).setCell ⟨w.heap.size,1,none⟩ u).setCell ⟨w.heap.size,2,none⟩ x)) := fun v u x => ((HB2.out.setCell (Nat.le_refl _) v).setCell (Nat.le_refl _) u).setCell (Nat.le_refl _) x
 clear hb2 hb12 htk hmx HT hx2
 rcases HK.out with ⟨rfl,t,rfl,htl,hon,hf⟩ | ⟨hne,rfl,hf⟩
 ·have HF := Lib.hid hf
  have hz320 := HCR.out
  have hUl : (L.drop p).length = lr - p := by rw [List.length_drop,HLL.out]
  rw [hUl] at hon
  rw [HZL.out] at htl hz320
  have HTL := Lib.hid htl
  obtain ⟨q,hq⟩ : ∃ q,p + on = q := ⟨_,rfl⟩
  have e1 : (p : Int) + (on : Int) = (q : Int) := by omega
  have HQ := Lib.hid hq
  have hql : q ≤ lr := by omega
  have ho := HONE.out rfl
  clear HK hf hq hUl HONE
  by_cases hz0 : zr ≤ t
  ·obtain ⟨k,hk⟩ : ∃ k,t - zr = k := ⟨_,rfl⟩
   have hk30 : k < 30 := by omega
   obtain ⟨sb,hsb⟩ : ∃ sb,bitsC k = sb := ⟨_,rfl⟩
   have hsb13 : sb ≤ 13 := by rw [← hsb];exact bitsC_le _ hk30
   have HW : Hid (wdF zr t = sb) := by show _ = _;rw [wdF,if_pos ⟨hz0,by omega⟩,hk,hsb]
   have e2 : (t : Int) - (zr : Int) = (k : Int) := by omega
   have HBI := Lib.hid (fun W => bits12_any k W hk30)
   rw [hsb] at HBI
   have t1 : decide ((t : Int) < (zr : Int)) = false := decide_eq_false (by omega)
   have t1n : decide (t < zr) = false := decide_eq_false (by omega)
   clear hk hsb
   by_cases hfit : q + sb ≤ lr
   ·obtain ⟨y,hy⟩ : ∃ y,numA L q sb = y := ⟨_,rfl⟩
    have hyb : y < 8192 := by
     have h1 := numA_lt L q sb
     have h2 : 2 ^ sb ≤ 2 ^ 13 := Nat.pow_le_pow_right (by decide) hsb13
     omega
    have HN := Lib.hid (HNUM.out w2 q sb HB2.out (by omega) (by omega))
    rw [hy] at HN
    have HP : Hid (clsF F zs zr L p = (0,(t,sb,y),on + sb)) := by
     show _ = _
     unfold clsF
     rw [HF.out]
     dsimp only
     rw [if_neg (by simp),Int.toNat_natCast,HW.out,if_neg (by rw [HLL.out];have := HQ.out;omega),HQ.out,hy]
    have HQ2 : Hid (q + sb = p + (on + sb)) := by have := HQ.out;show _ = _;omega
    have t2 : decide ((lr : Int) - (q : Int) < (sb : Int)) = false := decide_eq_false (by omega)
    have HFI := Lib.hid hfit
    clear hfit hy HNUM
    go_wp2_with (first
     | (go_at_call 181;refine (HBI.out _).mono ?_;rintro e w' ⟨rfl,rfl⟩)
     | (go_at_call 101;refine HN.out.mono ?_;rintro e w' ⟨rfl,rfl⟩))
    refine bodyPost_ret (v := .tuple #[agC (t : Int) (sb : Int) (y : Int),.int .i64 ((q + sb : Nat) : Int),.int .i64 0]) ?_ rfl ⟨t,sb,y,q + sb,0,rfl,?_,HST.out _ _ _⟩
    ·rw [results_cellTT rfl]
     go_simp
     try rfl
    ·unfold ClsR
     rw [HP.out,HZL.out]
     have hfi := HFI.out
     dsimp only
     exact ⟨rfl,fun _ => ⟨rfl,rfl,rfl,HQ2.out,hfi,by omega,HTL.out,hsb13,hyb⟩⟩
   ·have HP : Hid (clsF F zs zr L p = (2,(0,0,0),0)) := by
     show _ = _
     unfold clsF
     rw [HF.out]
     dsimp only
     rw [if_neg (by simp),Int.toNat_natCast,HW.out,if_pos (by rw [HLL.out];have := HQ.out;omega)]
    have t2 : decide ((lr : Int) - (q : Int) < (sb : Int)) = true := decide_eq_true (by omega)
    clear hfit
    go_wp2_with (go_at_call 181;refine (HBI.out _).mono ?_;rintro e w' ⟨rfl,rfl⟩)
    refine bodyPost_ret (v := .tuple #[agC 0 0 0,.int .i64 (q : Int),.int .i64 2]) ?_ rfl ⟨0,0,0,q,2,rfl,?_,HST.out _ _ _⟩
    ·rw [results_cellTT rfl]
     go_simp
     try rfl
    ·unfold ClsR
     rw [HP.out]
     exact ⟨rfl,fun h => by cases h⟩
  ·have HW : Hid (wdF zr t = 0) := by show _ = _;rw [wdF,if_neg (by omega)]
   have HP : Hid (clsF F zs zr L p = (0,(t,0,numA L q 0),on)) := by
    show _ = _
    unfold clsF
    rw [HF.out]
    dsimp only
    rw [if_neg (by simp),Int.toNat_natCast,HW.out,if_neg (by rw [HLL.out];have := HQ.out;omega),HQ.out]
    rfl
   have HN0 : Hid (numA L q 0 = 0) := by have h := numA_lt L q 0;show _ = _;omega
   have t1 : decide ((t : Int) < (zr : Int)) = true := decide_eq_true (by omega)
   have t1n : decide (t < zr) = true := decide_eq_true (by omega)
   clear hz0
   go_wp2
   refine bodyPost_ret (v := .tuple #[agC (t : Int) 0 0,.int .i64 (q : Int),.int .i64 0]) ?_ rfl ⟨t,0,0,q,0,rfl,?_,HST.out _ _ _⟩
   ·rw [results_cellTT rfl]
    go_simp
    try rfl
   ·unfold ClsR
    rw [HP.out,HN0.out,HZL.out]
    dsimp only
    exact ⟨rfl,fun _ => ⟨rfl,rfl,rfl,HQ.out.symm,hql,ho,HTL.out,by omega,by omega⟩⟩
 ·have HP : Hid (clsF F zs zr L p = (er,(0,0,0),0)) := by
   show _ = _
   unfold clsF
   rw [hf]
   exact if_pos hne
  have t1 : (er != 0) = true := by simpa using hne
  have HNE := Lib.hid hne
  clear HK hf hne
  go_wp2
  refine bodyPost_ret (v := .tuple #[agC s 0 0,.int .i64 (p : Int),.int .i64 er]) ?_ rfl ⟨s,0,0,p,er,rfl,?_,HST.out _ _ _⟩
  ·rw [results_cellTT rfl]
   go_simp
   try rfl
  ·unfold ClsR
   rw [HP.out]
   exact ⟨rfl,fun h => absurd h HNE.out⟩
def alC (a : Value) (n : Int) (b : Value) (m : Int) : Array Value := #[a,.int .i64 n,b,.int .i64 m]
theorem row4_facts {w : World} {g : Nat} {a : Value} {n : Int} {b : Value} {m : Int} (h : w.heap[g]? = some (.cells (alC a n b m) 251 (0,0))) :
  (w.cell? ⟨g,0,none⟩ = some a ∧ w.cell? ⟨g,1,none⟩ = some (.int .i64 n) ∧ w.cell? ⟨g,2,none⟩ = some b ∧ w.cell? ⟨g,3,none⟩ = some (.int .i64 m)) ∧ (w.frozen? ⟨g,0,none⟩ = false ∧ w.frozen? ⟨g,1,none⟩ = false ∧ w.frozen? ⟨g,2,none⟩ = false ∧ w.frozen? ⟨g,3,none⟩ = false) :=
 ⟨⟨cell_of_row _ _ 0 _ _ _ h,cell_of_row _ _ 1 _ _ _ h,cell_of_row _ _ 2 _ _ _ h,cell_of_row _ _ 3 _ _ _ h⟩,frozen_of_row _ _ 0 _ _ h,frozen_of_row _ _ 1 _ _ h,frozen_of_row _ _ 2 _ _ h,frozen_of_row _ _ 3 _ _ h⟩
def AlPost (F : List Int → List Bool → Int × Int × Nat) (w w' : World) (r base : Nat) (S : Nat → Prop) (bs : List UInt8) (p : Nat) (e : Ending) : Prop :=
  ∃ (a b : Option Addr) (n m er : Int) (p' : Nat), e = .returned (.tuple #[.agg (alC (.pointer a) n (.pointer b) m), .int .i64 er]) ∧ RdS w' r base S bs p' ∧ Mod (oneB r) w w' ∧
    ((er ≠ 0 ∧ ∀ most, blkF F (unpack bs) p most = (er, [], 0)) ∨
     (er = 0 ∧ ∃ (z1 z2 : List Int) (ga gb : Nat), a = some ⟨ga, 0, none⟩ ∧ b = some ⟨gb, 0, none⟩ ∧ n = 257 ∧ m = 0 ∧ caR z1 = true ∧ caR z2 = true ∧ z1.length = 273 ∧ z2.length = 30 ∧ LCa w' w.heap.size ga z1 ∧ LCa w' w.heap.size gb z2 ∧
       ∀ most, blkF F (unpack bs) p most = blkL F z1 z2 (unpack bs) most ((unpack bs).length + 1 - p') [] 0 p'))
set_option maxRecDepth 100000 in
set_option maxHeartbeats 2000000 in
theorem tkalph_any (F : List Int → List Bool → Int × Int × Nat) (hF : FunT F) (r base : Nat) (S : Nat → Prop) (bs : List UInt8) (p : Nat) (w : World) (hrd : RdS w r base S bs p) (hbl : bs.length ≤ 1000000) :
  Calls Tryz.prog 172 #[.pointer (some ⟨r,0,none⟩)] w fun e w' => AlPost F w w' r base S bs p e := by
 obtain ⟨hrl0,hp8,_⟩ := rd_low hrd
 obtain ⟨W1,hW1⟩ : ∃ W1,w.alloc (.cells #[.pointer none,.int .i64 0,.pointer none,.int .i64 0] 251) = W1 := ⟨_,rfl⟩
 have hb1 : Below w.heap.size w W1 := by rw [← hW1];exact (Below.refl _ w).alloc (Nat.le_refl _) _
 have HX1 : Hid (W1.heap[w.heap.size]? = some (.cells (alC (.pointer none) 0 (.pointer none) 0) 251 (0,0))) := by show _ = _;rw [← hW1];exact heap_alloc_new w _
 have HM : Hid (Mod (oneB r) w W1) := (Mod.of_below hb1).mono (fun _ h => h.elim)
 have HRL : Hid (r < w.heap.size) := hrl0
 have hs1 : w.heap.size < W1.heap.size := by rw [← hW1];simp
 have HT := Lib.hid (rntake_any F hF r base S bs p W1 (hrd.keep (Mod.of_below hb1) (fun _ _ h => h)) hbl)
 have HT2 : Hid (∀ (W : World) (p' : Nat),RdS W r base S bs p' → _) := fun W p' hW => rntake_any F hF r base S bs p' W hW hbl
 have HSL : Hid (∀ k,S k → k < w.heap.size) := hrd.lt
 have HKP : Hid (∀ (W W' : World),W.heap[w.heap.size]? = some (.cells (alC (.pointer none) 0 (.pointer none) 0) 251 (0,0)) → Mod (oneB r) W W' → W'.heap[w.heap.size]? = some (.cells (alC (.pointer none) 0 (.pointer none) 0) 251 (0,0))) := fun W W' h hm => hm.keep h (fun h => by have h2 : w.heap.size = r := h;have := HRL.out;omega)
 have HST : Hid (∀ W : World,Mod (oneB r) w W → ∀ a b c d,Mod (oneB r) w ((((W.setCell ⟨w.heap.size,0,none⟩ a).setCell ⟨w.heap.size,1,none⟩ b).setCell ⟨w.heap.size,2,none⟩ c).setCell ⟨w.heap.size,3,none⟩ d)) := fun W hW a b c d => (((hW.set _ _ (.inr (Nat.le_refl _))).set _ _ (.inr (Nat.le_refl _))).set _ _ (.inr (Nat.le_refl _))).set _ _ (.inr (Nat.le_refl _))
 have HSM : Hid (∀ (W : World) a b c d,Mod (oneB w.heap.size) W ((((W.setCell ⟨w.heap.size,0,none⟩ a).setCell ⟨w.heap.size,1,none⟩ b).setCell ⟨w.heap.size,2,none⟩ c).setCell ⟨w.heap.size,3,none⟩ d)) := fun W a b c d => ((((Mod.refl (oneB w.heap.size) W).set ⟨w.heap.size,0,none⟩ a (.inl rfl)).set ⟨w.heap.size,1,none⟩ b (.inl rfl)).set ⟨w.heap.size,2,none⟩ c (.inl rfl)).set ⟨w.heap.size,3,none⟩ d (.inl rfl)
 have HSR : Hid (∀ (W : World) (q : Nat),RdS W r base S bs q → ∀ a b c d,RdS ((((W.setCell ⟨w.heap.size,0,none⟩ a).setCell ⟨w.heap.size,1,none⟩ b).setCell ⟨w.heap.size,2,none⟩ c).setCell ⟨w.heap.size,3,none⟩ d) r base S bs q) := fun W q hW a b c d => hW.keep (HSM.out W a b c d) (fun k hk h => by have h2 : k = w.heap.size := h;have := HSL.out k hk;omega)
 have HBK : Hid (∀ most,blkF F (unpack bs) p most = blkF F (unpack bs) p most) := fun _ => rfl
 clear hrd hb1
 go_enter Tryz.func172,Tryz.ntmps172
 go_wp2_with fail
 refine HT.out.mono ?_
 rintro e w2 ⟨A2,c2,p2,rfl,hown2,hrd2,hpe2,hm2⟩
 have HO2 := Lib.hid hown2
 have HR2 := Lib.hid hrd2
 have HM2 := Lib.hid (HM.out.then_ hm2)
 have HX2 := Lib.hid (HKP.out _ _ HX1.out hm2)
 have HPE2 := Lib.hid hpe2
 have hs2 := hm2.size
 obtain ⟨⟨c20,c21,c22,c23⟩,f20,f21,f22,f23⟩ := row4_facts HX2.out
 clear hown2 hrd2 hm2 hpe2 HT
 obtain ⟨ta,hta⟩ : ∃ ta,tkF F (unpack bs) p = ta := ⟨_,rfl⟩
 have HTA := Lib.hid hta
 rw [hta] at HO2 HPE2 ⊢
 clear hta
 obtain ⟨er1,ns1,pe1⟩ := ta
 dsimp only at HO2 HPE2 ⊢
 by_cases he1 : er1 = 0
 ·subst he1
  obtain rfl := HPE2.out rfl
  have HT3 := Lib.hid (HT2.out w2 _ HR2.out)
  clear HPE2
  go_wp2_with fail
  refine HT3.out.mono ?_
  rintro e w3 ⟨A3,c3,p3,rfl,hown3,hrd3,hpe3,hm3⟩
  have HO3 := Lib.hid hown3
  have HR3 := Lib.hid hrd3
  have HM3 := Lib.hid (HM2.out.then_ hm3)
  have HX3 := Lib.hid (HKP.out _ _ HX2.out hm3)
  have HPE3 := Lib.hid hpe3
  have HO23 := Lib.hid (own_keep HO2.out hm3 (fun k hk hS => by have h2 : k = r := hS;have := own_base HO2.out k hk;have := HRL.out;omega))
  have hs3 := hm3.size
  obtain ⟨⟨c30,c31,c32,c33⟩,f30,f31,f32,f33⟩ := row4_facts HX3.out
  clear hown3 hrd3 hm3 hpe3 HT3 HT2 c20 c21 c22 c23 f20 f21 f22 f23
  obtain ⟨tb,htb⟩ : ∃ tb,tkF F (unpack bs) p2 = tb := ⟨_,rfl⟩
  have HTB := Lib.hid htb
  rw [htb] at HO3 HPE3 ⊢
  clear htb
  obtain ⟨er2,ns2,pe2⟩ := tb
  dsimp only at HO3 HPE3 ⊢
  by_cases he2 : er2 = 0
  ·subst he2
   obtain rfl := HPE3.out rfl
   clear HPE3
   obtain ⟨l1,hl1⟩ : ∃ l1,ns1.length = l1 := ⟨_,rfl⟩
   obtain ⟨l2,hl2⟩ : ∃ l2,ns2.length = l2 := ⟨_,rfl⟩
   have HL1 := Lib.hid hl1
   have HL2 := Lib.hid hl2
   rw [hl1] at HO2 HO23 ⊢
   rw [hl2] at HO3 ⊢
   clear hl1 hl2
   by_cases hlen : l1 ≠ 273 ∨ l2 ≠ 30
   ·have HB : Hid (∀ most,blkF F (unpack bs) p most = (3,[],0)) := fun most => by
     unfold blkF
     rw [HTA.out]
     dsimp only
     rw [if_neg (by simp),HTB.out]
     dsimp only
     rw [if_neg (by simp),HL1.out,HL2.out,if_pos hlen]
    have t1 : ((l1 : Int) != 273) = true ∨ (((l1 : Int) != 273) = false ∧ ((l2 : Int) != 30) = true) := by
     by_cases h1 : l1 = 273
     ·exact .inr ⟨by simp;omega,by simp;omega⟩
     ·exact .inl (by simp;omega)
    clear hlen
    rcases t1 with t1 | ⟨t1,t2⟩
    ·go_wp2
     refine bodyPost_ret (v := .tuple #[.agg (alC (.pointer none) 0 (.pointer none) 0),.int .i64 3]) ?_ rfl ⟨_,_,_,_,3,p3,rfl,?_,?_,.inl ⟨by decide,HB.out⟩⟩
     ·rw [results_cell_tmp rfl]
      go_simp
      try rfl
     ·first | exact HR3.out | exact HSR.out _ _ HR3.out _ _ _ _
     ·first | exact HM3.out | exact HST.out _ HM3.out _ _ _ _
    ·go_wp2
     refine bodyPost_ret (v := .tuple #[.agg (alC (.pointer none) 0 (.pointer none) 0),.int .i64 3]) ?_ rfl ⟨_,_,_,_,3,p3,rfl,?_,?_,.inl ⟨by decide,HB.out⟩⟩
     ·rw [results_cell_tmp rfl]
      go_simp
      try rfl
     ·first | exact HR3.out | exact HSR.out _ _ HR3.out _ _ _ _
     ·first | exact HM3.out | exact HST.out _ HM3.out _ _ _ _
   ·obtain ⟨rfl,rfl⟩ : l1 = 273 ∧ l2 = 30 := by omega
    clear hlen
    obtain ⟨z1,hz1⟩ : ∃ z1 : List Int,(ns1.map fun n : Nat => (n : Int)) = z1 := ⟨_,rfl⟩
    obtain ⟨z2,hz2⟩ : ∃ z2 : List Int,(ns2.map fun n : Nat => (n : Int)) = z2 := ⟨_,rfl⟩
    have HZ1 := Lib.hid hz1
    have HZ2 := Lib.hid hz2
    have hzl1 : z1.length = 273 := by rw [← hz1,List.length_map];exact HL1.out
    have hzl2 : z2.length = 30 := by rw [← hz2,List.length_map];exact HL2.out
    have HC1 : Hid (Cells w3 w3.heap.size A2 (z1.map ic)) := by show Cells _ _ _ _;rw [← hz1,nCs_ic];exact Cells.of_own HO23.out
    have HC2 : Hid (Cells w3 w3.heap.size A3 (z2.map ic)) := by show Cells _ _ _ _;rw [← hz2,nCs_ic];exact Cells.of_own HO3.out
    have HB : Hid (∀ most,blkF F (unpack bs) p most = if caR z1 = false ∨ caR z2 = false then (13,[],0) else blkL F z1 z2 (unpack bs) most ((unpack bs).length + 1 - p3) [] 0 p3) := fun most => by
     unfold blkF
     rw [HTA.out]
     dsimp only
     rw [if_neg (by simp),HTB.out]
     dsimp only
     rw [if_neg (by simp),HL1.out,HL2.out,if_neg (by omega),HZ1.out,HZ2.out]
    clear hz1 hz2
    cases hr1 : caR z1 with
    | false =>
     have HN := Lib.hid (new_no A2 273 c2 z1 w3.heap.size w3 hzl1 (by omega) HC1.out hr1)
     have HB2 : Hid (∀ most,blkF F (unpack bs) p most = (13,[],0)) := fun most => by rw [HB.out,if_pos (.inl hr1)]
     clear hr1 HB
     go_wp2_with (go_at_call 152;refine HN.out.mono ?_;rintro e w4 ⟨rfl,rfl⟩)
     refine bodyPost_ret (v := .tuple #[.agg (alC (.pointer none) 0 (.pointer none) 0),.int .i64 13]) ?_ rfl ⟨_,_,_,_,13,p3,rfl,?_,?_,.inl ⟨by decide,HB2.out⟩⟩
     ·rw [results_cell_tmp rfl]
      go_simp
      try rfl
     ·first | exact HR3.out | exact HSR.out _ _ HR3.out _ _ _ _
     ·first | exact HM3.out | exact HST.out _ HM3.out _ _ _ _
    | true =>
     have HN := Lib.hid (new_low A2 273 c2 z1 w3.heap.size w3 hzl1 (by omega) HC1.out (Nat.le_refl _) hr1)
     have HR1 := Lib.hid hr1
     rw [hr1] at HB
     clear hr1
     go_wp2_with fail
     refine HN.out.mono ?_
     rintro e w4 ⟨ga,rfl,hla,hb4⟩
     have HLA := Lib.hid hla
     have HM4 := Lib.hid (HM3.out.then_ ((Mod.of_below hb4).mono fun _ h => h.elim))
     have HR4 := Lib.hid (HR3.out.keep (Mod.of_below hb4) (fun _ _ h => h))
     have HC4 := Lib.hid (HC2.out.below hb4 (Nat.le_refl _))
     have HX4 := Lib.hid (show w4.heap[w.heap.size]? = _ from (hb4.block w.heap.size (Array.getElem?_eq_some_iff.1 HX3.out).1).trans HX3.out)
     have hs4 := hb4.size
     obtain ⟨⟨c40,c41,c42,c43⟩,f40,f41,f42,f43⟩ := row4_facts HX4.out
     clear hla hb4 HN c30 c31 c32 c33 f30 f31 f32 f33
     cases hr2 : caR z2 with
     | false =>
      have HN := Lib.hid (new_no A3 30 c3 z2 w3.heap.size w4 hzl2 (by omega) HC4.out hr2)
      have HB2 : Hid (∀ most,blkF F (unpack bs) p most = (13,[],0)) := fun most => by rw [HB.out,if_pos (.inr hr2)]
      clear hr2 HB
      go_wp2_with (go_at_call 152;refine HN.out.mono ?_;rintro e w5 ⟨rfl,rfl⟩)
      refine bodyPost_ret (v := .tuple #[.agg (alC (.pointer (some ⟨ga,0,none⟩)) 257 (.pointer none) 0),.int .i64 13]) ?_ rfl ⟨_,_,_,_,13,p3,rfl,?_,?_,.inl ⟨by decide,HB2.out⟩⟩
      ·rw [results_cell_tmp rfl]
       go_simp
       try rfl
      ·exact HSR.out _ _ HR4.out _ _ _ _
      ·exact HST.out _ HM4.out _ _ _ _
     | true =>
      have HN := Lib.hid (new_low A3 30 c3 z2 w3.heap.size w4 hzl2 (by omega) HC4.out hs4 hr2)
      have HR2' := Lib.hid hr2
      have HB2 : Hid (∀ most,blkF F (unpack bs) p most = blkL F z1 z2 (unpack bs) most ((unpack bs).length + 1 - p3) [] 0 p3) := fun most => by rw [HB.out,if_neg (by rw [hr2];simp)]
      clear hr2 HB
      go_wp2_with (go_at_call 152;refine HN.out.mono ?_;rintro e w5 ⟨gb,rfl,hlb,hb5⟩;have HLB := Lib.hid hlb;have HLA5 := Lib.hid (HLA.out.keep2 (Mod.of_below hb5) (fun _ h => h.elim));have HM5 := Lib.hid (HM4.out.then_ ((Mod.of_below hb5).mono fun _ h => h.elim));have HR5 := Lib.hid (HR4.out.keep (Mod.of_below hb5) (fun _ _ h => h));obtain ⟨⟨c50,c51,c52,c53⟩,f50,f51,f52,f53⟩ := row4_facts ((hb5.block w.heap.size (Array.getElem?_eq_some_iff.1 HX4.out).1).trans HX4.out);clear hlb hb5)
      refine bodyPost_ret (v := .tuple #[.agg (alC (.pointer (some ⟨ga,0,none⟩)) 257 (.pointer (some ⟨gb,0,none⟩)) 0),.int .i64 0]) ?_ rfl ⟨_,_,_,_,0,p3,rfl,?_,?_,.inr ⟨rfl,z1,z2,ga,gb,rfl,rfl,rfl,rfl,HR1.out,HR2'.out,hzl1,hzl2,?_,?_,HB2.out⟩⟩
      ·rw [results_cell_tmp rfl]
       go_simp
       try rfl
      ·exact HSR.out _ _ HR5.out _ _ _ _
      ·exact HST.out _ HM5.out _ _ _ _
      ·exact (HLA5.out.keep2 (HSM.out _ _ _ _ _) (fun k hk => by have h2 : k = w.heap.size := hk;omega)).lower (by omega)
      ·exact (HLB.out.keep2 (HSM.out _ _ _ _ _) (fun k hk => by have h2 : k = w.heap.size := hk;omega)).lower (by omega)
  ·have HB : Hid (∀ most,blkF F (unpack bs) p most = (er2,[],0)) := fun most => by
    unfold blkF
    rw [HTA.out]
    dsimp only
    rw [if_neg (by simp),HTB.out]
    exact if_pos he2
   have t1 : (er2 != 0) = true := by simpa using he2
   have HE2 := Lib.hid he2
   clear he2 HPE3
   go_wp2
   refine bodyPost_ret (v := .tuple #[.agg (alC (.pointer none) 0 (.pointer none) 0),.int .i64 er2]) ?_ rfl ⟨_,_,_,_,er2,p3,rfl,?_,?_,.inl ⟨HE2.out,HB.out⟩⟩
   ·rw [results_cell_tmp rfl]
    go_simp
    try rfl
   ·first | exact HR3.out | exact HSR.out _ _ HR3.out _ _ _ _
   ·first | exact HM3.out | exact HST.out _ HM3.out _ _ _ _
 ·have HB : Hid (∀ most,blkF F (unpack bs) p most = (er1,[],0)) := fun most => by
   unfold blkF
   rw [HTA.out]
   exact if_pos he1
  have t1 : (er1 != 0) = true := by simpa using he1
  have HE1 := Lib.hid he1
  clear he1 HPE2
  go_wp2
  refine bodyPost_ret (v := .tuple #[.agg (alC (.pointer none) 0 (.pointer none) 0),.int .i64 er1]) ?_ rfl ⟨_,_,_,_,er1,p2,rfl,?_,?_,.inl ⟨HE1.out,HB.out⟩⟩
  ·rw [results_cell_tmp rfl]
   go_simp
   try rfl
  ·first | exact HR2.out | exact HSR.out _ _ HR2.out _ _ _ _
  ·first | exact HM2.out | exact HST.out _ HM2.out _ _ _ _
def tcC (t : Tk) : List Value := [.int .u8 (t.1.toNat : Int),.int .i64 (t.2.1 : Int),.int .i64 (t.2.2 : Int)]
theorem tcElem : Elem Tryz.prog 117 164 (.agg #[.int .u8 0,.int .i64 0,.int .i64 0]) 3 24 := Elem.of Tryz.underlying117 (by kernel_rfl) (by kernel_rfl) (by omega)
structure TsI (w W : World) (r base : Nat) (S : Nat → Prop) (bs : List UInt8) (p ga gb : Nat) (v : Value) (ts : List Tk) : Prop where
 row : W.ownsRow (w.heap.size + 1) 164 3 v ts.length (ts.flatMap tcC)
 rd : RdS W r base S bs p
 mod : Mod (oneB r) w W
 box : W.heap[w.heap.size]? = some (.cells (alC (.pointer (some ⟨ga,0,none⟩)) 257 (.pointer (some ⟨gb,0,none⟩)) 0) 251 (0,0))
section
variable {w W W' : World} {r base p p' ga gb : Nat} {S : Nat → Prop} {bs : List UInt8} {v v' : Value} {ts ts' : List Tk}
theorem TsI.part (h : TsI w W r base S bs p ga gb v ts) (hr : r < w.heap.size) (hm : Mod (oneB r) W W') (hrd : RdS W' r base S bs p') : TsI w W' r base S bs p' ga gb v ts :=
 ⟨own_keep h.row hm (fun k hk hs => by have h2 : k = r := hs;have := own_base h.row k hk;omega),hrd,h.mod.then_ hm,hm.keep h.box (fun hs => by have h2 : w.heap.size = r := hs;omega)⟩
theorem TsI.below (h : TsI w W r base S bs p ga gb v ts) (hb : Below W.heap.size W W') : TsI w W' r base S bs p ga gb v ts :=
 ⟨own_keep h.row (Mod.of_below hb) (fun _ _ h => h),h.rd.keep (Mod.of_below hb) (fun _ _ h => h),h.mod.then_ ((Mod.of_below hb).mono fun _ h => h.elim),(hb.block _ (Array.getElem?_eq_some_iff.1 h.box).1).trans h.box⟩
theorem TsI.other {g : Nat} (h : TsI w W r base S bs p ga gb v ts) (hSL : ∀ k,S k → k < w.heap.size) (hg : w.heap.size < g) (hv : v.ownBlock ≠ some g) (hm : Mod (oneB g) W W') : TsI w W' r base S bs p ga gb v ts :=
 ⟨own_keep h.row hm (fun k hk hs => by have h2 : k = g := hs;exact hv (h2 ▸ hk)),h.rd.keep hm (fun k hk hs => by have h2 : k = g := hs;have := hSL k hk;omega),h.mod.trans hm (fun k hs => .inr (by have h2 : k = g := hs;omega)),hm.keep h.box (fun hs => by have h2 : w.heap.size = g := hs;omega)⟩
theorem TsI.app {m : Nat} {xs : List Value} (h : TsI w W r base S bs p ga gb v ts) (hSL : ∀ k,S k → k < w.heap.size) (ha : App W (w.heap.size + 1) 164 3 v m xs W' v') (hm : m = ts'.length) (hx : xs = ts'.flatMap tcC) : TsI w W' r base S bs p ga gb v' ts' := by
 subst hm hx
 exact ⟨ha.own,h.rd.keep (Mod.of_app ha) (fun k hk hs => by have := hSL k hk;have := own_base h.row k hs;omega),h.mod.trans (Mod.of_app ha) (fun k hk => .inr (by have := own_base h.row k hk;omega)),(Mod.of_app ha).keep h.box (fun hk => by have := own_base h.row _ hk;omega)⟩
end
def RowB (W : World) (R : Nat) (c1 c2 : Nat × Nat × Nat) (m : Bool) : Prop := W.heap[R]? = some (.cells #[.int .i64 (c1.1 : Int),.int .i64 (c1.2.1 : Int),.int .u32 (c1.2.2 : Int),.int .i64 (c2.1 : Int),.int .i64 (c2.2.1 : Int),.int .u32 (c2.2.2 : Int),.bool m] 168 (0,0))
def PtrB (W : World) (R : Nat) : Prop := W.heap[R + 1]? = some (.cells #[.pointer (some ⟨R,0,none⟩),.pointer (some ⟨R,3,none⟩)] 289 (0,0))
theorem rowB_cells {W : World} {R : Nat} {c1 c2 : Nat × Nat × Nat} {m : Bool} (h : RowB W R c1 c2 m) : W.cell? ⟨R,0,none⟩ = some (.int .i64 (c1.1 : Int)) ∧ W.cell? ⟨R,1,none⟩ = some (.int .i64 (c1.2.1 : Int)) ∧ W.cell? ⟨R,2,none⟩ = some (.int .u32 (c1.2.2 : Int)) ∧ W.cell? ⟨R,3,none⟩ = some (.int .i64 (c2.1 : Int)) ∧ W.cell? ⟨R,4,none⟩ = some (.int .i64 (c2.2.1 : Int)) ∧ W.cell? ⟨R,5,none⟩ = some (.int .u32 (c2.2.2 : Int)) ∧ W.cell? ⟨R,6,none⟩ = some (.bool m) :=
 ⟨cell_of_row _ _ 0 _ _ _ h,cell_of_row _ _ 1 _ _ _ h,cell_of_row _ _ 2 _ _ _ h,cell_of_row _ _ 3 _ _ _ h,cell_of_row _ _ 4 _ _ _ h,cell_of_row _ _ 5 _ _ _ h,cell_of_row _ _ 6 _ _ _ h⟩
theorem rowB_free {W : World} {R : Nat} {c1 c2 : Nat × Nat × Nat} {m : Bool} (h : RowB W R c1 c2 m) : W.frozen? ⟨R,0,none⟩ = false ∧ W.frozen? ⟨R,1,none⟩ = false ∧ W.frozen? ⟨R,2,none⟩ = false ∧ W.frozen? ⟨R,3,none⟩ = false ∧ W.frozen? ⟨R,4,none⟩ = false ∧ W.frozen? ⟨R,5,none⟩ = false ∧ W.frozen? ⟨R,6,none⟩ = false :=
 ⟨frozen_of_row _ _ 0 _ _ h,frozen_of_row _ _ 1 _ _ h,frozen_of_row _ _ 2 _ _ h,frozen_of_row _ _ 3 _ _ h,frozen_of_row _ _ 4 _ _ h,frozen_of_row _ _ 5 _ _ h,frozen_of_row _ _ 6 _ _ h⟩
theorem RowB.first {W : World} {R : Nat} {c1 c2 : Nat × Nat × Nat} {m : Bool} (h : RowB W R c1 c2 m) (c : Nat × Nat × Nat) : RowB (((W.setCell ⟨R,0,none⟩ (.int .i64 (c.1 : Int))).setCell ⟨R,1,none⟩ (.int .i64 (c.2.1 : Int))).setCell ⟨R,2,none⟩ (.int .u32 (c.2.2 : Int))) R c c2 m :=
 heap_setCell_same _ R 2 _ _ _ (heap_setCell_same _ R 1 _ _ _ (heap_setCell_same W R 0 _ _ _ h))
theorem RowB.second {W : World} {R : Nat} {c1 c2 : Nat × Nat × Nat} {m : Bool} (h : RowB W R c1 c2 m) (c : Nat × Nat × Nat) : RowB (((W.setCell ⟨R,3,none⟩ (.int .i64 (c.1 : Int))).setCell ⟨R,4,none⟩ (.int .i64 (c.2.1 : Int))).setCell ⟨R,5,none⟩ (.int .u32 (c.2.2 : Int))) R c1 c m :=
 heap_setCell_same _ R 5 _ _ _ (heap_setCell_same _ R 4 _ _ _ (heap_setCell_same W R 3 _ _ _ h))
theorem RowB.third {W : World} {R : Nat} {c1 c2 : Nat × Nat × Nat} {m : Bool} (h : RowB W R c1 c2 m) (b : Bool) : RowB (W.setCell ⟨R,6,none⟩ (.bool b)) R c1 c2 b :=
 heap_setCell_same W R 6 _ _ _ h
theorem set3_mod (W : World) (R i j k : Nat) (a b c : Value) : Mod (oneB R) W (((W.setCell ⟨R,i,none⟩ a).setCell ⟨R,j,none⟩ b).setCell ⟨R,k,none⟩ c) :=
 (((Mod.refl (oneB R) W).set ⟨R,i,none⟩ a (.inl rfl)).set ⟨R,j,none⟩ b (.inl rfl)).set ⟨R,k,none⟩ c (.inl rfl)
theorem set1_mod (W : World) (R i : Nat) (a : Value) : Mod (oneB R) W (W.setCell ⟨R,i,none⟩ a) := (Mod.refl (oneB R) W).set ⟨R,i,none⟩ a (.inl rfl)
theorem cells3_new (W : World) (o : Obj) (a b c : Value) (T : TypeId) : Cells ((W.alloc o).alloc (.cells #[a,b,c] T)) (W.heap.size + 2) (some ⟨W.heap.size + 1,0,none⟩) [a,b,c] := fun _ =>
 ⟨W.heap.size + 1,0,rfl,by omega,fun j u hu => by
  have h := heap_alloc_new (W.alloc o) (.cells #[a,b,c] T)
  rw [World.size_alloc] at h
  rw [Nat.zero_add,cell_of_row _ (W.heap.size + 1) j _ _ _ h,← Array.getElem?_toList]
  exact hu⟩
theorem joinR_bd {n1 b1 : Int} {x1 : Nat} {n2 b2 : Int} {x2 : Nat} {m : Bool} {J : Option (Nat × Nat × Nat)} (h : joinR n1 b1 x1 n2 b2 x2 m = J) : ∀ y l d,J = some (y,l,d) → y < 256 ∧ l ≤ 258 ∧ d ≤ 32768 := by
 rintro y l d rfl
 unfold joinR at h
 split at h
 ·split at h
  ·rename_i hc
   cases h
   omega
  ·cases h
 ·split at h
  ·rename_i hc
   cases h
   have h1 := valC_low (n := n1 - 257) (b := b1) (x := x1) (by omega)
   have h2 := vN_lt n2 b2 x2
   omega
  ·cases h
set_option maxRecDepth 100000 in
set_option maxHeartbeats 4000000 in
theorem tktoks_any (F : List Int → List Bool → Int × Int × Nat) (hF : FunT F) (r base n0 ga gb : Nat) (S : Nat → Prop) (bs : List UInt8) (p : Nat) (most : Int) (z1 z2 : List Int) (w : World) (h1 : caR z1 = true) (h2 : caR z2 = true) (hzl1 : z1.length = 273) (hzl2 : z2.length = 30) (ha : LCa w n0 ga z1) (hb : LCa w n0 gb z2) (hr0 : r < n0) (hrd : RdS w r base S bs p) (hbl : bs.length ≤ 1000000) (m0 : -9223372036854775808 ≤ most) (m1 : most ≤ 9223372036854775807) :
    Calls Tryz.prog 173 #[.pointer (some ⟨r, 0, none⟩), .agg (alC (.pointer (some ⟨ga, 0, none⟩)) 257 (.pointer (some ⟨gb, 0, none⟩)) 0), .int .i64 most] w
      fun e w' => ∃ (A : Option Addr) (c p' : Nat) (t : Int × List Tk × Nat), blkL F z1 z2 (unpack bs) most ((unpack bs).length + 1 - p) [] 0 p = t ∧ e = .returned (.tuple #[.slice A t.2.1.length c, .int .i64 t.1]) ∧ w'.ownsRow (w.heap.size + 1) 164 3 (.slice A t.2.1.length c) t.2.1.length (t.2.1.flatMap tcC) ∧ RdS w' r base S bs p' ∧ (t.1 = 0 → p' = t.2.2) ∧ Mod (oneB r) w w' := by
  obtain ⟨hrl0, hp8, _⟩ := rd_low hrd
  obtain ⟨W1, hW1⟩ : ∃ W1, w.alloc (.cells (alC (.pointer (some ⟨ga, 0, none⟩)) 257 (.pointer (some ⟨gb, 0, none⟩)) 0) 251) = W1 := ⟨_, rfl⟩
  have hb1 : Below w.heap.size w W1 := by rw [← hW1]; exact (Below.refl _ w).alloc (Nat.le_refl _) _
  have HX1 : Hid (W1.heap[w.heap.size]? = some (.cells (alC (.pointer (some ⟨ga, 0, none⟩)) 257 (.pointer (some ⟨gb, 0, none⟩)) 0) 251 (0, 0))) := by show _ = _; rw [← hW1]; exact heap_alloc_new w _
  have HSL : Hid (∀ k, S k → k < w.heap.size) := hrd.lt
  have HRL : Hid (r < w.heap.size) := hrl0
  obtain ⟨L, hL⟩ : ∃ L, unpack bs = L := ⟨_, rfl⟩
  have hLl : L.length = 8 * bs.length := by rw [← hL, unpack_length]
  have HI1 : Hid (TsI w W1 r base S bs p ga gb (.slice none 0 0) []) := ⟨World.ownsRow_nil _ _ _ _, hrd.keep (Mod.of_below hb1) (fun _ _ h => h), (Mod.of_below hb1).mono (fun _ h => h.elim), HX1.out⟩
  have HCA : Hid (∀ W, Mod (oneB r) w W → LCa W n0 ga z1) := fun W hW => ha.keep2 hW (fun k hk => by have h2 : k = r := hk; omega)
  have HCB : Hid (∀ W, Mod (oneB r) w W → LCa W n0 gb z2) := fun W hW => hb.keep2 hW (fun k hk => by have h2 : k = r := hk; omega)
  have HTC : Hid (∀ (g zr : Nat) (zs : List Int) (W : World) (p' : Nat), caR zs = true → zr ≤ 1000 → LCa W n0 g zs → RdS W r base S bs p' → _) := fun g zr zs W p' hr hz hc hrd => tkclass_any F hF g r base zr zs S bs p' W hr hz hc.lc hrd hbl
  rw [hL] at HTC ⊢
  obtain ⟨T, hT⟩ : ∃ T, blkL F z1 z2 L most (L.length + 1 - p) [] 0 p = T := ⟨_, rfl⟩
  have HT := Lib.hid hT
  rw [hT]
  have HERR : Hid (∀ (e : Ending) (w' : World) (er : Int) (p' : Nat), T = (er, [], 0) → er ≠ 0 → e = .returned (.tuple #[.slice none 0 0, .int .i64 er]) → RdS w' r base S bs p' → Mod (oneB r) w w' → ∃ (A : Option Addr) (c p' : Nat) (t : Int × List Tk × Nat), T = t ∧ e = .returned (.tuple #[.slice A t.2.1.length c, .int .i64 t.1]) ∧ w'.ownsRow (w.heap.size + 1) 164 3 (.slice A t.2.1.length c) t.2.1.length (t.2.1.flatMap tcC) ∧ RdS w' r base S bs p' ∧ (t.1 = 0 → p' = t.2.2) ∧ Mod (oneB r) w w') := fun e w' er p' ht hne he hr hm => ⟨none, 0, p', _, ht, he, World.ownsRow_nil _ _ _ _, hr, fun h => absurd h hne, hm⟩
  have HR1 := Lib.hid h1
  have HR2 := Lib.hid h2
  have HLL := Lib.hid hLl
  have hp8L : p ≤ L.length := by omega
  clear ha hb hrd hb1 hL h1 h2 hT HX1
  unfold alC at hW1 ⊢
  go_enter Tryz.func173, Tryz.ntmps173
  go_wp2
  go_step3
  go_wp2
  go_step3
  go_wp2
  go_loopg [6, 7, 8] (L.length + 1 - p) (fun gk v s7 s8 wr => ∃ (ts : List Tk) (size p' : Nat), s7 = .int .i64 0 ∧ s8 = .int .i64 (size : Int) ∧ T = blkL F z1 z2 L most gk ts size p' ∧ L.length + 1 ≤ p' + gk ∧ p' ≤ L.length ∧ (size = 0 ∨ (size : Int) ≤ most) ∧ size ≤ 258 * p' ∧ ts.length ≤ p' ∧ (∃ A c, v = .slice A ts.length c) ∧ TsI w wr r base S bs p' ga gb v ts)
  case atStart => exact ⟨[], 0, p, rfl, rfl, HT.out.symm, by omega, by omega, .inl rfl, by omega, Nat.zero_le _, ⟨none, 0, rfl⟩, HI1.out⟩
  case round =>
    obtain ⟨ts, size, p', rfl, rfl, hte, hpg, hpl, hsm, hs258, hlp, ⟨Av, cv, rfl⟩, hti⟩ := hrel
    have HTE := Lib.hid hte
    have HTI := Lib.hid hti
    obtain ⟨j, rfl⟩ : ∃ j, gk = j + 1 := ⟨gk - 1, by omega⟩
    obtain ⟨ll, hll⟩ : ∃ ll, ts.length = ll := ⟨_, rfl⟩
    have HLN := Lib.hid hll
    rw [hll] at HTI hlp ⊢
    have hlmax : ll ≤ 8000000 := by have := HLL.out; omega
    obtain ⟨W0, hW0⟩ : ∃ W0, W0 = wr := ⟨_, rfl⟩
    subst hW0
    obtain ⟨R, hR⟩ : ∃ R, W0.heap.size = R := ⟨_, rfl⟩
    have hNR : w.heap.size < R := by rw [← hR]; exact (Array.getElem?_eq_some_iff.1 hti.box).1
    clear hte hti hll HI1
    have HRB0 : Hid (RowB ((W0.alloc (.cells #[.int .i64 0, .int .i64 0, .int .u32 0, .int .i64 0, .int .i64 0, .int .u32 0, .bool false] 168)).alloc (.cells #[.pointer (some ⟨R, 0, none⟩), .pointer (some ⟨R, 3, none⟩)] 289)) R (0, 0, 0) (0, 0, 0) false) := by
      show RowB _ _ _ _ _
      rw [← hR]
      exact row3_alloc (heap_alloc_new W0 _) _
    have HPB0 : Hid (PtrB ((W0.alloc (.cells #[.int .i64 0, .int .i64 0, .int .u32 0, .int .i64 0, .int .i64 0, .int .u32 0, .bool false] 168)).alloc (.cells #[.pointer (some ⟨R, 0, none⟩), .pointer (some ⟨R, 3, none⟩)] 289)) R) := by
      show PtrB _ _
      have h := heap_alloc_new (W0.alloc (.cells #[.int .i64 0, .int .i64 0, .int .u32 0, .int .i64 0, .int .i64 0, .int .u32 0, .bool false] 168)) (.cells #[.pointer (some ⟨R, 0, none⟩), .pointer (some ⟨R, 3, none⟩)] 289)
      rw [World.size_alloc, hR] at h
      exact h
    have HI0 := Lib.hid (HTI.out.below (((Below.refl W0.heap.size W0).alloc (Nat.le_refl _) (.cells #[.int .i64 0, .int .i64 0, .int .u32 0, .int .i64 0, .int .i64 0, .int .u32 0, .bool false] 168)).alloc (by simp) (.cells #[.pointer (some ⟨R, 0, none⟩), .pointer (some ⟨R, 3, none⟩)] 289)))
    have HAV : Hid (∀ g, W0.heap.size ≤ g → (Value.slice Av ll cv).ownBlock ≠ some g) := fun g hg e => by
      have := (HTI.out.row.lt g e).2
      omega
    have hs0 := HTI.out.mod.size
    go_wp2
    rw [hR] at HAV
    go_loopg [7, 10, 11, 19] 2 (fun gk s7 s10 s11 i W => s7 = .int .i64 0 ∧ ∃ (k pp : Nat) (c1 c2 : Nat × Nat × Nat) (m : Bool), k + gk = 2 ∧ i = .int .i64 (k : Int) ∧ TsI w W r base S bs pp ga gb (.slice Av ll cv) ts ∧ RowB W R c1 c2 m ∧ PtrB W R ∧ R + 1 < W.heap.size ∧
      ((k = 0 ∧ c1 = (0, 0, 0) ∧ c2 = (0, 0, 0) ∧ m = false ∧ pp = p') ∨
       (k = 1 ∧ c2 = (0, 0, 0) ∧ m = true ∧ 256 < c1.1 ∧ c1.1 < 273 ∧ c1.2.1 ≤ 13 ∧ c1.2.2 < 8192 ∧ ∃ on1, clsF F z1 257 L p' = (0, c1, on1) ∧ pp = p' + on1 ∧ 1 ≤ on1) ∨
       (k = 2 ∧ m = true ∧ 256 < c1.1 ∧ c1.1 < 273 ∧ c1.2.1 ≤ 13 ∧ c1.2.2 < 8192 ∧ c2.1 < 30 ∧ c2.2.1 ≤ 13 ∧ c2.2.2 < 8192 ∧ ∃ on1 on2, clsF F z1 257 L p' = (0, c1, on1) ∧ clsF F z2 0 L (p' + on1) = (0, c2, on2) ∧ pp = p' + on1 + on2 ∧ 1 ≤ on1)))
    case atStart => exact ⟨rfl, 0, p', _, _, _, rfl, rfl, HI0.out, HRB0.out, HPB0.out, by simp; omega, .inl ⟨rfl, rfl, rfl, rfl, rfl⟩⟩
    case round =>
      obtain ⟨rfl, k, pp, c1, c2, m, hkg, rfl, hti, hrb, hpb, hRs, hcase⟩ := hrel
      have HTI2 := Lib.hid hti
      have HRB := Lib.hid hrb
      have HPB := Lib.hid hpb
      have g0 : wr.cell? ⟨R + 1, 0, none⟩ = some (.pointer (some ⟨R, 0, none⟩)) := cell_of_row _ _ 0 _ _ _ hpb
      have g1 : wr.cell? ⟨R + 1, 1, none⟩ = some (.pointer (some ⟨R, 3, none⟩)) := cell_of_row _ _ 1 _ _ _ hpb
      obtain ⟨⟨x0, x1, x2, x3⟩, _⟩ := row4_facts hti.box
      clear hti hrb hpb HRB0 HPB0 HI0
      rcases hcase with ⟨rfl, rfl, rfl, rfl, rfl⟩ | ⟨rfl, rfl, rfl, h256, h273, hcb, hcx, on1, hc1, rfl, hon⟩ | ⟨rfl, rfl, h256, h273, hcb, hcx, h30, hdb, hdx, on1, on2, hc1, hc2, rfl, hon⟩
      · have hgk : gk = 2 := by omega
        have HCL := Lib.hid (HTC.out ga 257 z1 wr pp HR1.out (by omega) (HCA.out wr HTI2.out.mod) HTI2.out.rd)
        obtain ⟨C, hC⟩ : ∃ C, clsF F z1 257 L pp = C := ⟨_, rfl⟩
        rw [hC] at HCL
        obtain ⟨er, ⟨n, b, x⟩, on⟩ := C
        dsimp only at HCL
        by_cases her : er = 0
        · subst her
          by_cases h256 : n = 256
          · have HTQ : Hid (T = (0, ts, pp + on)) := by show _ = _; rw [HTE.out, blkL, hC]; dsimp only; rw [if_neg (by simp), if_pos h256]
            have v1 : ((n : Int) == 256) = true := by simp; omega
            clear hC h256
            go_wp2_with (go_at_call 205; refine HCL.out.mono ?_; rintro e w5 ⟨p5, rfl, hrd5, hpe5, hm5⟩; have HI5 := Lib.hid (HTI2.out.part HRL.out hm5 hrd5); have hrb5 : RowB w5 R _ _ _ := hm5.keep HRB.out (fun h => by have h2 : R = r := h; have := HRL.out; omega); have hpb5 : PtrB w5 R := hm5.keep HPB.out (fun h => by have h2 : R + 1 = r := h; have := HRL.out; omega); have HPB5 := Lib.hid hpb5; have hs5 := hm5.size; obtain ⟨rfl, hon1, hnz, hb13, hx81⟩ := hpe5 (by first | rfl | trivial); obtain ⟨q0, q1, q2, q3, q4, q5, q6⟩ := rowB_cells hrb5; obtain ⟨f0, f1, f2, f3, f4, f5, f6⟩ := rowB_free hrb5; obtain ⟨W6, hW6⟩ : ∃ W6, (((w5.setCell ⟨R, 0, none⟩ (.int .i64 (n : Int))).setCell ⟨R, 1, none⟩ (.int .i64 (b : Int))).setCell ⟨R, 2, none⟩ (.int .u32 (x : Int))) = W6 := ⟨_, rfl⟩; have hrb6 := hrb5.first (n, b, x); dsimp only at hrb6; rw [hW6] at hrb6; have hm6 : Mod (oneB R) w5 W6 := (by rw [← hW6]; exact set3_mod _ _ _ _ _ _ _ _); have HI6 := Lib.hid (HI5.out.other HSL.out (by omega) (HAV.out R (Nat.le_refl _)) hm6); have HRB6 := Lib.hid hrb6; have HPB6 := Lib.hid (show PtrB W6 R from hm6.keep HPB5.out (fun h => by have h2 : R + 1 = R := h; omega)); have hs6 := hm6.size; obtain ⟨s0, s1, s2, s3, s4, s5, s6⟩ := rowB_cells hrb6; obtain ⟨e0, e1, e2, e3, e4, e5, e6⟩ := rowB_free hrb6; clear hrd5 hpe5 hm5 hrb5 hpb5 hrb6 hm6)
            try rw [Exit.noGoto_ret]
            refine bodyPost_ret (results_tmp2 rfl _ _ _) rfl ?_
            refine ⟨Av, cv, _, _, HTQ.out, by rw [HLN.out]; rfl, ?_, HI6.out.rd, fun _ => rfl, HI6.out.mod⟩
            have h := HI6.out.row
            rw [HLN.out]
            rw [HLN.out] at h
            exact h
          · by_cases hm : 256 < n
            · have HCC := Lib.hid hC
              clear hC
              have v1 : ((n : Int) == 256) = false := by simp; omega
              have v2 : decide ((256 : Int) < (n : Int)) = true := decide_eq_true (by omega)
              have v2n : decide (256 < n) = true := decide_eq_true hm
              go_wp2_with (go_at_call 205; refine HCL.out.mono ?_; rintro e w5 ⟨p5, rfl, hrd5, hpe5, hm5⟩; have HI5 := Lib.hid (HTI2.out.part HRL.out hm5 hrd5); have hrb5 : RowB w5 R _ _ _ := hm5.keep HRB.out (fun h => by have h2 : R = r := h; have := HRL.out; omega); have hpb5 : PtrB w5 R := hm5.keep HPB.out (fun h => by have h2 : R + 1 = r := h; have := HRL.out; omega); have HPB5 := Lib.hid hpb5; have hs5 := hm5.size; obtain ⟨rfl, hon1, hnz, hb13, hx81⟩ := hpe5 (by first | rfl | trivial); obtain ⟨q0, q1, q2, q3, q4, q5, q6⟩ := rowB_cells hrb5; obtain ⟨f0, f1, f2, f3, f4, f5, f6⟩ := rowB_free hrb5; obtain ⟨W6, hW6⟩ : ∃ W6, (((w5.setCell ⟨R, 0, none⟩ (.int .i64 (n : Int))).setCell ⟨R, 1, none⟩ (.int .i64 (b : Int))).setCell ⟨R, 2, none⟩ (.int .u32 (x : Int))) = W6 := ⟨_, rfl⟩; have hrb6 := hrb5.first (n, b, x); dsimp only at hrb6; rw [hW6] at hrb6; have hm6 : Mod (oneB R) w5 W6 := (by rw [← hW6]; exact set3_mod _ _ _ _ _ _ _ _); have HI6 := Lib.hid (HI5.out.other HSL.out (by omega) (HAV.out R (Nat.le_refl _)) hm6); have HRB6 := Lib.hid hrb6; have HPB6 := Lib.hid (show PtrB W6 R from hm6.keep HPB5.out (fun h => by have h2 : R + 1 = R := h; omega)); have hs6 := hm6.size; obtain ⟨s0, s1, s2, s3, s4, s5, s6⟩ := rowB_cells hrb6; obtain ⟨e0, e1, e2, e3, e4, e5, e6⟩ := rowB_free hrb6; obtain ⟨W7, hW7⟩ : ∃ W7, W6.setCell ⟨R, 6, none⟩ (.bool true) = W7 := ⟨_, rfl⟩; have hrb7 := hrb6.third true; rw [hW7] at hrb7; have hm7 : Mod (oneB R) W6 W7 := (by rw [← hW7]; exact set1_mod _ _ _ _); have HI7 := Lib.hid (HI6.out.other HSL.out (by omega) (HAV.out R (Nat.le_refl _)) hm7); have HRB7 := Lib.hid hrb7; have HPB7 := Lib.hid (show PtrB W7 R from hm7.keep HPB6.out (fun h => by have h2 : R + 1 = R := h; omega)); have hs7 := hm7.size; obtain ⟨t0, t1, t2, t3, t4, t5, t6⟩ := rowB_cells hrb7; clear hrb7 hm7; clear hrd5 hpe5 hm5 hrb5 hpb5 hrb6 hm6)
              go_roundg 1
              case measure => omega
              case rel => exact ⟨rfl, 1, _, _, _, _, rfl, by go_num, HI7.out, HRB7.out, HPB7.out, by omega, .inr (.inl ⟨rfl, rfl, rfl, hm, by show n < 273; omega, hb13, hx81, on, HCC.out, rfl, hon1⟩)⟩
            · have HTQ : Hid (T = match (joinR (n : Int) (b : Int) x 0 0 0 false) with
                | none => (3, [], 0)
                | some (y, l, d) => if size < d then (3, [], 0) else if most - (size : Int) < (max l 1 : Nat) then (5, [], 0) else blkL F z1 z2 L most j (ts ++ [(UInt8.ofNat y, l, d)]) (size + max l 1) (pp + on)) := by
                show _ = _
                rw [HTE.out, blkL, hC]
                dsimp only
                rw [if_neg (by simp), if_neg h256, if_neg (by omega), if_neg hm, if_neg hm, Nat.add_zero]
                rfl
              clear hC
              have v1 : ((n : Int) == 256) = false := by simp; omega
              have v2 : decide ((256 : Int) < (n : Int)) = false := decide_eq_false (by omega)
              have v2n : decide (256 < n) = false := decide_eq_false hm
              go_upto_region 11 with (go_at_call 205; refine HCL.out.mono ?_; rintro e w5 ⟨p5, rfl, hrd5, hpe5, hm5⟩; have HI5 := Lib.hid (HTI2.out.part HRL.out hm5 hrd5); have hrb5 : RowB w5 R _ _ _ := hm5.keep HRB.out (fun h => by have h2 : R = r := h; have := HRL.out; omega); have hpb5 : PtrB w5 R := hm5.keep HPB.out (fun h => by have h2 : R + 1 = r := h; have := HRL.out; omega); have HPB5 := Lib.hid hpb5; have hs5 := hm5.size; obtain ⟨rfl, hon1, hnz, hb13, hx81⟩ := hpe5 (by first | rfl | trivial); obtain ⟨q0, q1, q2, q3, q4, q5, q6⟩ := rowB_cells hrb5; obtain ⟨f0, f1, f2, f3, f4, f5, f6⟩ := rowB_free hrb5; obtain ⟨W6, hW6⟩ : ∃ W6, (((w5.setCell ⟨R, 0, none⟩ (.int .i64 (n : Int))).setCell ⟨R, 1, none⟩ (.int .i64 (b : Int))).setCell ⟨R, 2, none⟩ (.int .u32 (x : Int))) = W6 := ⟨_, rfl⟩; have hrb6 := hrb5.first (n, b, x); dsimp only at hrb6; rw [hW6] at hrb6; have hm6 : Mod (oneB R) w5 W6 := (by rw [← hW6]; exact set3_mod _ _ _ _ _ _ _ _); have HI6 := Lib.hid (HI5.out.other HSL.out (by omega) (HAV.out R (Nat.le_refl _)) hm6); have HRB6 := Lib.hid hrb6; have HPB6 := Lib.hid (show PtrB W6 R from hm6.keep HPB5.out (fun h => by have h2 : R + 1 = R := h; omega)); have hs6 := hm6.size; obtain ⟨s0, s1, s2, s3, s4, s5, s6⟩ := rowB_cells hrb6; obtain ⟨e0, e1, e2, e3, e4, e5, e6⟩ := rowB_free hrb6; obtain ⟨W7, hW7⟩ : ∃ W7, W6.setCell ⟨R, 6, none⟩ (.bool false) = W7 := ⟨_, rfl⟩; have hrb7 := hrb6.third false; rw [hW7] at hrb7; have hm7 : Mod (oneB R) W6 W7 := (by rw [← hW7]; exact set1_mod _ _ _ _); have HI7 := Lib.hid (HI6.out.other HSL.out (by omega) (HAV.out R (Nat.le_refl _)) hm7); have HRB7 := Lib.hid hrb7; have HPB7 := Lib.hid (show PtrB W7 R from hm7.keep HPB6.out (fun h => by have h2 : R + 1 = R := h; omega)); have hs7 := hm7.size; obtain ⟨t0, t1, t2, t3, t4, t5, t6⟩ := rowB_cells hrb7; clear hrb7 hm7; clear hrd5 hpe5 hm5 hrb5 hpb5 hrb6 hm6)
              have hpl2 := (rd_low HI7.out.rd).2.1
              have hLL := HLL.out
              obtain ⟨r0, r1, r2, r3, r4, r5, r6⟩ := rowB_cells HRB7.out
              dsimp only at r0 r1 r2 r3 r4 r5 r6
              have HJ := Lib.hid (fun W => join_all (n1 := (n : Int)) (b1 := (b : Int)) (x1 := x) (n2 := 0) (b2 := 0) (x2 := 0) false W (by omega) (by omega) (by omega) (by omega))
              obtain ⟨J, hJ⟩ : ∃ J, joinR (n : Int) (b : Int) x 0 0 0 false = J := ⟨_, rfl⟩
              rw [hJ] at HJ HTQ
              have HJB := Lib.hid (joinR_bd hJ)
              unfold agR at HJ
              clear hJ
              cases J with
              | none =>
                unfold joinV agT at HJ
                go_wp2_with (go_at_call 206; refine (HJ.out _).mono ?_; rintro e w8 ⟨rfl, hb8⟩; have HI8 := Lib.hid (HI7.out.below hb8); have HI9 := Lib.hid (HI8.out.below ((Below.refl w8.heap.size w8).alloc (Nat.le_refl _) (.cells #[.int .u8 0, .int .i64 0, .int .i64 0] 164))); clear hb8)
                try rw [Exit.noGoto_ret]
                refine bodyPost_ret (results_tmp2 rfl _ _ _) rfl ?_
                exact HERR.out _ _ 3 _ HTQ.out (by first | decide | assumption) (by rfl) HI9.out.rd HI9.out.mod
              | some q =>
                obtain ⟨y, l, d⟩ := q
                unfold joinV agT at HJ
                dsimp only at HTQ
                obtain ⟨hy256, hl258, hd⟩ := HJB.out y l d rfl
                have HYY : Hid ((UInt8.ofNat y).toNat = y) := by show _ = _; simp; omega
                have hmax : max (l : Int) 1 = ((max l 1 : Nat) : Int) := by omega
                obtain ⟨sz, hsz⟩ : ∃ sz, max l 1 = sz := ⟨_, rfl⟩
                rw [hsz] at HTQ hmax
                have hsz1 : 1 ≤ sz ∧ sz ≤ 258 := by omega
                have hsub : IntKind.i64.wrap (most - (size : Int)) = most - (size : Int) := IntWalk.i64_in _ (by omega)
                clear hsz
                by_cases hdd : size < d
                · rw [if_pos hdd] at HTQ
                  have u1 : decide ((size : Int) < (d : Int)) = true := decide_eq_true (by omega)
                  have u1n : decide (size < d) = true := decide_eq_true hdd
                  clear hdd hmax hsub
                  go_wp2_with (go_at_call 206; refine (HJ.out _).mono ?_; rintro e w8 ⟨rfl, hb8⟩; have HI8 := Lib.hid (HI7.out.below hb8); have HI9 := Lib.hid (HI8.out.below ((Below.refl w8.heap.size w8).alloc (Nat.le_refl _) (.cells #[.int .u8 (y : Int), .int .i64 (l : Int), .int .i64 (d : Int)] 164))); clear hb8)
                  try rw [Exit.noGoto_ret]
                  refine bodyPost_ret (results_tmp2 rfl _ _ _) rfl ?_
                  exact HERR.out _ _ 3 _ HTQ.out (by first | decide | assumption) (by rfl) HI9.out.rd HI9.out.mod
                · rw [if_neg hdd] at HTQ
                  have u1 : decide ((size : Int) < (d : Int)) = false := decide_eq_false (by omega)
                  have u1n : decide (size < d) = false := decide_eq_false hdd
                  by_cases hbig : most - (size : Int) < (sz : Int)
                  · rw [if_pos hbig] at HTQ
                    have u2 : decide (most - (size : Int) < (sz : Int)) = true := decide_eq_true hbig
                    clear hdd hbig
                    go_wp2_with (go_at_call 206; refine (HJ.out _).mono ?_; rintro e w8 ⟨rfl, hb8⟩; have HI8 := Lib.hid (HI7.out.below hb8); have HI9 := Lib.hid (HI8.out.below ((Below.refl w8.heap.size w8).alloc (Nat.le_refl _) (.cells #[.int .u8 (y : Int), .int .i64 (l : Int), .int .i64 (d : Int)] 164))); clear hb8)
                    try rw [Exit.noGoto_ret]
                    refine bodyPost_ret (results_tmp2 rfl _ _ _) rfl ?_
                    exact HERR.out _ _ 5 _ HTQ.out (by first | decide | assumption) (by rfl) HI9.out.rd HI9.out.mod
                  · rw [if_neg hbig] at HTQ
                    have u2 : decide (most - (size : Int) < (sz : Int)) = false := decide_eq_false hbig
                    have hsm2 : ((size + sz : Nat) : Int) ≤ most := by omega
                    have HFM : Hid ((ts ++ [(UInt8.ofNat y, l, d)]).flatMap tcC = ts.flatMap tcC ++ [.int .u8 (y : Int), .int .i64 (l : Int), .int .i64 (d : Int)]) := by show _ = _; rw [List.flatMap_append]; simp only [List.flatMap_cons, List.flatMap_nil, List.append_nil, tcC, HYY.out]
                    have HFL : Hid ((ts ++ [(UInt8.ofNat y, l, d)]).length = ll + 1) := by show _ = _; rw [List.length_append, HLN.out]; rfl
                    clear hdd hbig
                    go_wp2_with (first
                      | (go_at_call 206; refine (HJ.out _).mono ?_; rintro e w8 ⟨rfl, hb8⟩; have HI8 := Lib.hid (HI7.out.below hb8); have HI9 := Lib.hid (HI8.out.below ((Below.refl w8.heap.size w8).alloc (Nat.le_refl _) (.cells #[.int .u8 (y : Int), .int .i64 (l : Int), .int .i64 (d : Int)] 164))); clear hb8)
                      | (at_builtin; refine wpList_app ((w8.alloc (.cells #[.int .u8 (y : Int), .int .i64 (l : Int), .int .i64 (d : Int)] 164)).alloc (.cells #[.int .u8 (y : Int), .int .i64 (l : Int), .int .i64 (d : Int)] 164)) tcElem rfl (.tmp 75) (.tmp 77) rfl (w.heap.size + 1) (.slice Av ll cv) ll (ts.flatMap tcC) rfl (by have h := HI9.out.row; rw [HLN.out] at h; exact h.alloc _) (w8.heap.size + 2) (some ⟨w8.heap.size + 1, 0, none⟩) 1 1 [.int .u8 (y : Int), .int .i64 (l : Int), .int .i64 (d : Int)] rfl rfl (cells3_new w8 _ _ _ _ _) (by simp [Value.oneCell']) (by unfold maxLen; omega) (by omega) (by have := HI8.out.mod.size; have := (Array.getElem?_eq_some_iff.1 HI8.out.box).1; simp; omega) ?_; intro A7 c7 w9 hA; have HA7 := Lib.hid hA; clear hA))
                    have HI10 := Lib.hid ((HI9.out.below ((Below.refl _ _).alloc (Nat.le_refl _) _)).app (ts' := ts ++ [(UInt8.ofNat y, l, d)]) HSL.out HA7.out HFL.out.symm HFM.out.symm)
                    go_roundg j
                    case measure => omega
                    case rel => exact ⟨ts ++ [(UInt8.ofNat y, l, d)], size + sz, pp + on, rfl, by go_num, HTQ.out, by omega, by omega, .inr hsm2, by omega, by rw [HFL.out]; omega, ⟨A7, c7, by rw [HFL.out]⟩, HI10.out⟩
        · have HTQ : Hid (T = (er, [], 0)) := by show _ = _; rw [HTE.out, blkL, hC]; dsimp only; rw [if_pos her]
          have v1 : (er != 0) = true := by simpa using her
          clear hC
          go_wp2_with (go_at_call 205; refine HCL.out.mono ?_; rintro e w5 ⟨p5, rfl, hrd5, hpe5, hm5⟩; have HI5 := Lib.hid (HTI2.out.part HRL.out hm5 hrd5); have hrb5 : RowB w5 R _ _ _ := hm5.keep HRB.out (fun h => by have h2 : R = r := h; have := HRL.out; omega); have hpb5 : PtrB w5 R := hm5.keep HPB.out (fun h => by have h2 : R + 1 = r := h; have := HRL.out; omega); have HPB5 := Lib.hid hpb5; have hs5 := hm5.size; obtain ⟨q0, q1, q2, q3, q4, q5, q6⟩ := rowB_cells hrb5; obtain ⟨f0, f1, f2, f3, f4, f5, f6⟩ := rowB_free hrb5; obtain ⟨W6, hW6⟩ : ∃ W6, (((w5.setCell ⟨R, 0, none⟩ (.int .i64 (n : Int))).setCell ⟨R, 1, none⟩ (.int .i64 (b : Int))).setCell ⟨R, 2, none⟩ (.int .u32 (x : Int))) = W6 := ⟨_, rfl⟩; have hrb6 := hrb5.first (n, b, x); dsimp only at hrb6; rw [hW6] at hrb6; have hm6 : Mod (oneB R) w5 W6 := (by rw [← hW6]; exact set3_mod _ _ _ _ _ _ _ _); have HI6 := Lib.hid (HI5.out.other HSL.out (by omega) (HAV.out R (Nat.le_refl _)) hm6); have HRB6 := Lib.hid hrb6; have HPB6 := Lib.hid (show PtrB W6 R from hm6.keep HPB5.out (fun h => by have h2 : R + 1 = R := h; omega)); have hs6 := hm6.size; obtain ⟨s0, s1, s2, s3, s4, s5, s6⟩ := rowB_cells hrb6; obtain ⟨e0, e1, e2, e3, e4, e5, e6⟩ := rowB_free hrb6; clear hrd5 hpe5 hm5 hrb5 hpb5 hrb6 hm6)
          try rw [Exit.noGoto_ret]
          refine bodyPost_ret (results_tmp2 rfl _ _ _) rfl ?_
          exact HERR.out _ _ er _ HTQ.out (by first | decide | assumption) (by rfl) HI6.out.rd HI6.out.mod
      · have hgk : gk = 1 := by omega
        have HCL := Lib.hid (HTC.out gb 0 z2 wr (p' + on1) HR2.out (by omega) (HCB.out wr HTI2.out.mod) HTI2.out.rd)
        obtain ⟨C, hC⟩ : ∃ C, clsF F z2 0 L (p' + on1) = C := ⟨_, rfl⟩
        rw [hC] at HCL
        obtain ⟨er, ⟨n, b, x⟩, on⟩ := C
        dsimp only at HCL
        by_cases her : er = 0
        · subst her
          have HCC := Lib.hid hC
          have HC1 := Lib.hid hc1
          clear hC hc1
          have v1 : ((c1.1 : Int) == 256) = false := by simp; omega
          have v2 : decide ((256 : Int) < (c1.1 : Int)) = true := decide_eq_true (by omega)
          have v2n : decide (256 < c1.1) = true := decide_eq_true h256
          go_wp2_with (go_at_call 205; refine HCL.out.mono ?_; rintro e w5 ⟨p5, rfl, hrd5, hpe5, hm5⟩; have HI5 := Lib.hid (HTI2.out.part HRL.out hm5 hrd5); have hrb5 : RowB w5 R _ _ _ := hm5.keep HRB.out (fun h => by have h2 : R = r := h; have := HRL.out; omega); have hpb5 : PtrB w5 R := hm5.keep HPB.out (fun h => by have h2 : R + 1 = r := h; have := HRL.out; omega); have HPB5 := Lib.hid hpb5; have hs5 := hm5.size; obtain ⟨rfl, hon1, hnz, hb13, hx81⟩ := hpe5 (by first | rfl | trivial); obtain ⟨q0, q1, q2, q3, q4, q5, q6⟩ := rowB_cells hrb5; obtain ⟨f0, f1, f2, f3, f4, f5, f6⟩ := rowB_free hrb5; obtain ⟨W6, hW6⟩ : ∃ W6, (((w5.setCell ⟨R, 3, none⟩ (.int .i64 (n : Int))).setCell ⟨R, 4, none⟩ (.int .i64 (b : Int))).setCell ⟨R, 5, none⟩ (.int .u32 (x : Int))) = W6 := ⟨_, rfl⟩; have hrb6 := hrb5.second (n, b, x); dsimp only at hrb6; rw [hW6] at hrb6; have hm6 : Mod (oneB R) w5 W6 := (by rw [← hW6]; exact set3_mod _ _ _ _ _ _ _ _); have HI6 := Lib.hid (HI5.out.other HSL.out (by omega) (HAV.out R (Nat.le_refl _)) hm6); have HRB6 := Lib.hid hrb6; have HPB6 := Lib.hid (show PtrB W6 R from hm6.keep HPB5.out (fun h => by have h2 : R + 1 = R := h; omega)); have hs6 := hm6.size; obtain ⟨s0, s1, s2, s3, s4, s5, s6⟩ := rowB_cells hrb6; obtain ⟨e0, e1, e2, e3, e4, e5, e6⟩ := rowB_free hrb6; obtain ⟨W7, hW7⟩ : ∃ W7, W6.setCell ⟨R, 6, none⟩ (.bool true) = W7 := ⟨_, rfl⟩; have hrb7 := hrb6.third true; rw [hW7] at hrb7; have hm7 : Mod (oneB R) W6 W7 := (by rw [← hW7]; exact set1_mod _ _ _ _); have HI7 := Lib.hid (HI6.out.other HSL.out (by omega) (HAV.out R (Nat.le_refl _)) hm7); have HRB7 := Lib.hid hrb7; have HPB7 := Lib.hid (show PtrB W7 R from hm7.keep HPB6.out (fun h => by have h2 : R + 1 = R := h; omega)); have hs7 := hm7.size; obtain ⟨t0, t1, t2, t3, t4, t5, t6⟩ := rowB_cells hrb7; clear hrb7 hm7; clear hrd5 hpe5 hm5 hrb5 hpb5 hrb6 hm6)
          go_roundg 0
          case measure => omega
          case rel => exact ⟨rfl, 2, _, _, _, _, rfl, by go_num, HI7.out, HRB7.out, HPB7.out, by omega, .inr (.inr ⟨rfl, rfl, h256, h273, hcb, hcx, by show n < 30; omega, hb13, hx81, on1, on, HC1.out, HCC.out, rfl, hon⟩)⟩
        · have HTQ : Hid (T = (er, [], 0)) := by show _ = _; rw [HTE.out, blkL, hc1]; dsimp only; rw [if_neg (by simp), if_neg (by omega), hC]; dsimp only; rw [if_pos ⟨h256, her⟩]
          have v1 : (er != 0) = true := by simpa using her
          clear hC hc1
          go_wp2_with (go_at_call 205; refine HCL.out.mono ?_; rintro e w5 ⟨p5, rfl, hrd5, hpe5, hm5⟩; have HI5 := Lib.hid (HTI2.out.part HRL.out hm5 hrd5); have hrb5 : RowB w5 R _ _ _ := hm5.keep HRB.out (fun h => by have h2 : R = r := h; have := HRL.out; omega); have hpb5 : PtrB w5 R := hm5.keep HPB.out (fun h => by have h2 : R + 1 = r := h; have := HRL.out; omega); have HPB5 := Lib.hid hpb5; have hs5 := hm5.size; obtain ⟨q0, q1, q2, q3, q4, q5, q6⟩ := rowB_cells hrb5; obtain ⟨f0, f1, f2, f3, f4, f5, f6⟩ := rowB_free hrb5; obtain ⟨W6, hW6⟩ : ∃ W6, (((w5.setCell ⟨R, 3, none⟩ (.int .i64 (n : Int))).setCell ⟨R, 4, none⟩ (.int .i64 (b : Int))).setCell ⟨R, 5, none⟩ (.int .u32 (x : Int))) = W6 := ⟨_, rfl⟩; have hrb6 := hrb5.second (n, b, x); dsimp only at hrb6; rw [hW6] at hrb6; have hm6 : Mod (oneB R) w5 W6 := (by rw [← hW6]; exact set3_mod _ _ _ _ _ _ _ _); have HI6 := Lib.hid (HI5.out.other HSL.out (by omega) (HAV.out R (Nat.le_refl _)) hm6); have HRB6 := Lib.hid hrb6; have HPB6 := Lib.hid (show PtrB W6 R from hm6.keep HPB5.out (fun h => by have h2 : R + 1 = R := h; omega)); have hs6 := hm6.size; obtain ⟨s0, s1, s2, s3, s4, s5, s6⟩ := rowB_cells hrb6; obtain ⟨e0, e1, e2, e3, e4, e5, e6⟩ := rowB_free hrb6; clear hrd5 hpe5 hm5 hrb5 hpb5 hrb6 hm6)
          try rw [Exit.noGoto_ret]
          refine bodyPost_ret (results_tmp2 rfl _ _ _) rfl ?_
          exact HERR.out _ _ er _ HTQ.out (by first | decide | assumption) (by rfl) HI6.out.rd HI6.out.mod
      · have hgk : gk = 0 := by omega
        obtain ⟨n1, b1, x1⟩ := c1
        obtain ⟨n2, b2, x2⟩ := c2
        dsimp only at h256 h273 hcb hcx h30 hdb hdx
        have HTQ : Hid (T = match (joinR (n1 : Int) (b1 : Int) x1 (n2 : Int) (b2 : Int) x2 true) with
          | none => (3, [], 0)
          | some (y, l, d) => if size < d then (3, [], 0) else if most - (size : Int) < (max l 1 : Nat) then (5, [], 0) else blkL F z1 z2 L most j (ts ++ [(UInt8.ofNat y, l, d)]) (size + max l 1) (p' + on1 + on2)) := by
          show _ = _
          rw [HTE.out, blkL, hc1]
          dsimp only
          rw [if_neg (by simp), if_neg (by omega), hc2]
          dsimp only
          rw [if_neg (by simp), if_pos h256, if_pos h256]
          rfl
        clear hc1 hc2
        have hpl2 := (rd_low HTI2.out.rd).2.1
        have hLL := HLL.out
        obtain ⟨r0, r1, r2, r3, r4, r5, r6⟩ := rowB_cells HRB.out
        dsimp only at r0 r1 r2 r3 r4 r5 r6
        have HJ := Lib.hid (fun W => join_all (n1 := (n1 : Int)) (b1 := (b1 : Int)) (x1 := x1) (n2 := (n2 : Int)) (b2 := (b2 : Int)) (x2 := x2) true W (by omega) (by omega) (by omega) (by omega))
        obtain ⟨J, hJ⟩ : ∃ J, joinR (n1 : Int) (b1 : Int) x1 (n2 : Int) (b2 : Int) x2 true = J := ⟨_, rfl⟩
        rw [hJ] at HJ HTQ
        have HJB := Lib.hid (joinR_bd hJ)
        unfold agR at HJ
        clear hJ
        cases J with
        | none =>
          unfold joinV agT at HJ
          go_wp2_with (go_at_call 206; refine (HJ.out _).mono ?_; rintro e w8 ⟨rfl, hb8⟩; have HI8 := Lib.hid (HTI2.out.below hb8); have HI9 := Lib.hid (HI8.out.below ((Below.refl w8.heap.size w8).alloc (Nat.le_refl _) (.cells #[.int .u8 0, .int .i64 0, .int .i64 0] 164))); clear hb8)
          try rw [Exit.noGoto_ret]
          refine bodyPost_ret (results_tmp2 rfl _ _ _) rfl ?_
          exact HERR.out _ _ 3 _ HTQ.out (by first | decide | assumption) (by rfl) HI9.out.rd HI9.out.mod
        | some q =>
          obtain ⟨y, l, d⟩ := q
          unfold joinV agT at HJ
          dsimp only at HTQ
          obtain ⟨hy256, hl258, hd⟩ := HJB.out y l d rfl
          have HYY : Hid ((UInt8.ofNat y).toNat = y) := by show _ = _; simp; omega
          have hmax : max (l : Int) 1 = ((max l 1 : Nat) : Int) := by omega
          obtain ⟨sz, hsz⟩ : ∃ sz, max l 1 = sz := ⟨_, rfl⟩
          rw [hsz] at HTQ hmax
          have hsz1 : 1 ≤ sz ∧ sz ≤ 258 := by omega
          have hsub : IntKind.i64.wrap (most - (size : Int)) = most - (size : Int) := IntWalk.i64_in _ (by omega)
          clear hsz
          by_cases hdd : size < d
          · rw [if_pos hdd] at HTQ
            have u1 : decide ((size : Int) < (d : Int)) = true := decide_eq_true (by omega)
            have u1n : decide (size < d) = true := decide_eq_true hdd
            clear hdd hmax hsub
            go_wp2_with (go_at_call 206; refine (HJ.out _).mono ?_; rintro e w8 ⟨rfl, hb8⟩; have HI8 := Lib.hid (HTI2.out.below hb8); have HI9 := Lib.hid (HI8.out.below ((Below.refl w8.heap.size w8).alloc (Nat.le_refl _) (.cells #[.int .u8 (y : Int), .int .i64 (l : Int), .int .i64 (d : Int)] 164))); clear hb8)
            try rw [Exit.noGoto_ret]
            refine bodyPost_ret (results_tmp2 rfl _ _ _) rfl ?_
            exact HERR.out _ _ 3 _ HTQ.out (by first | decide | assumption) (by rfl) HI9.out.rd HI9.out.mod
          · rw [if_neg hdd] at HTQ
            have u1 : decide ((size : Int) < (d : Int)) = false := decide_eq_false (by omega)
            have u1n : decide (size < d) = false := decide_eq_false hdd
            by_cases hbig : most - (size : Int) < (sz : Int)
            · rw [if_pos hbig] at HTQ
              have u2 : decide (most - (size : Int) < (sz : Int)) = true := decide_eq_true hbig
              clear hdd hbig
              go_wp2_with (go_at_call 206; refine (HJ.out _).mono ?_; rintro e w8 ⟨rfl, hb8⟩; have HI8 := Lib.hid (HTI2.out.below hb8); have HI9 := Lib.hid (HI8.out.below ((Below.refl w8.heap.size w8).alloc (Nat.le_refl _) (.cells #[.int .u8 (y : Int), .int .i64 (l : Int), .int .i64 (d : Int)] 164))); clear hb8)
              try rw [Exit.noGoto_ret]
              refine bodyPost_ret (results_tmp2 rfl _ _ _) rfl ?_
              exact HERR.out _ _ 5 _ HTQ.out (by first | decide | assumption) (by rfl) HI9.out.rd HI9.out.mod
            · rw [if_neg hbig] at HTQ
              have u2 : decide (most - (size : Int) < (sz : Int)) = false := decide_eq_false hbig
              have hsm2 : ((size + sz : Nat) : Int) ≤ most := by omega
              have HFM : Hid ((ts ++ [(UInt8.ofNat y, l, d)]).flatMap tcC = ts.flatMap tcC ++ [.int .u8 (y : Int), .int .i64 (l : Int), .int .i64 (d : Int)]) := by show _ = _; rw [List.flatMap_append]; simp only [List.flatMap_cons, List.flatMap_nil, List.append_nil, tcC, HYY.out]
              have HFL : Hid ((ts ++ [(UInt8.ofNat y, l, d)]).length = ll + 1) := by show _ = _; rw [List.length_append, HLN.out]; rfl
              clear hdd hbig
              go_wp2_with (first
                | (go_at_call 206; refine (HJ.out _).mono ?_; rintro e w8 ⟨rfl, hb8⟩; have HI8 := Lib.hid (HTI2.out.below hb8); have HI9 := Lib.hid (HI8.out.below ((Below.refl w8.heap.size w8).alloc (Nat.le_refl _) (.cells #[.int .u8 (y : Int), .int .i64 (l : Int), .int .i64 (d : Int)] 164))); clear hb8)
                | (at_builtin; refine wpList_app ((w8.alloc (.cells #[.int .u8 (y : Int), .int .i64 (l : Int), .int .i64 (d : Int)] 164)).alloc (.cells #[.int .u8 (y : Int), .int .i64 (l : Int), .int .i64 (d : Int)] 164)) tcElem rfl (.tmp 75) (.tmp 77) rfl (w.heap.size + 1) (.slice Av ll cv) ll (ts.flatMap tcC) rfl (by have h := HI9.out.row; rw [HLN.out] at h; exact h.alloc _) (w8.heap.size + 2) (some ⟨w8.heap.size + 1, 0, none⟩) 1 1 [.int .u8 (y : Int), .int .i64 (l : Int), .int .i64 (d : Int)] rfl rfl (cells3_new w8 _ _ _ _ _) (by simp [Value.oneCell']) (by unfold maxLen; omega) (by omega) (by have := HI8.out.mod.size; have := (Array.getElem?_eq_some_iff.1 HI8.out.box).1; simp; omega) ?_; intro A7 c7 w9 hA; have HA7 := Lib.hid hA; clear hA))
              have HI10 := Lib.hid ((HI9.out.below ((Below.refl _ _).alloc (Nat.le_refl _) _)).app (ts' := ts ++ [(UInt8.ofNat y, l, d)]) HSL.out HA7.out HFL.out.symm HFM.out.symm)
              go_roundg j
              case measure => omega
              case rel => exact ⟨ts ++ [(UInt8.ofNat y, l, d)], size + sz, p' + on1 + on2, rfl, by go_num, HTQ.out, by omega, by omega, .inr hsm2, by omega, by rw [HFL.out]; omega, ⟨A7, c7, by rw [HFL.out]⟩, HI10.out⟩
end Go.Proofs.YtaknladkodibaaaGreatDoor
namespace Go.Proofs.YtaknladkodibaaaGreatDoor
open Go.RowKit BitsP
set_option maxRecDepth 100000 in
set_option maxHeartbeats 4000000 in
theorem rrtake_le (F : List Int → List Bool → Int × Int × Nat) (hF : FunT F) (A : Option Addr) (l c : Nat) (L : List Bool) (p : Nat) (w : World) (hl : L.length = l) (hm : l ≤ 1000000) (hlc : l ≤ c) (hb : Bytes w w.heap.size A (bitBytes L)) (hp : p ≤ l) :
  Calls Tryz.prog 141 #[.slice A l c,.int .i64 (p : Int)] w
   fun e w' => ∃ A c,e = .returned (.tuple #[.slice A (tkF F L p).2.1.length c,.int .i64 ((tkF F L p).2.2 : Nat),.int .i64 (tkF F L p).1]) ∧ w'.ownsRow w.heap.size 3 1 (.slice A (tkF F L p).2.1.length c) (tkF F L p).2.1.length (nCs (tkF F L p).2.1) ∧ Below w.heap.size w w' ∧ ((tkF F L p).1 = 0 → (tkF F L p).2.2 ≤ l) := by
 have HBACK : Hid (∀ (e : Ending) (w' : World) (t : Int × List Nat × Nat),tkF F L p = t → (∃ A c,e = .returned (.tuple #[.slice A t.2.1.length c,.int .i64 (t.2.2 : Nat),.int .i64 t.1]) ∧ w'.ownsRow w.heap.size 3 1 (.slice A t.2.1.length c) t.2.1.length (nCs t.2.1) ∧ Below w.heap.size w w' ∧ (t.1 = 0 → t.2.2 ≤ l)) →
  ∃ A c,e = .returned (.tuple #[.slice A (tkF F L p).2.1.length c,.int .i64 ((tkF F L p).2.2 : Nat),.int .i64 (tkF F L p).1]) ∧ w'.ownsRow w.heap.size 3 1 (.slice A (tkF F L p).2.1.length c) (tkF F L p).2.1.length (nCs (tkF F L p).2.1) ∧ Below w.heap.size w w' ∧ ((tkF F L p).1 = 0 → (tkF F L p).2.2 ≤ l)) := fun e w' t ht h => by rw [ht];exact h
 have HERR : Hid (∀ (e : Ending) (w' : World) (er : Int),e = .returned (.tuple #[.slice none 0 0,.int .i64 0,.int .i64 er]) → tkF F L p = (er,[],0) → Below w.heap.size w w' → _) := fun e w' er he ht hr => HBACK.out e w' _ ht ⟨none,0,he,World.ownsRow_nil _ _ _ _,hr,fun _ => Nat.zero_le _⟩
 have HNUM : Hid (∀ (W : World) (a b : Nat),Below w.heap.size w W → a ≤ 2000000 → b ≤ 32 → Calls Tryz.prog 101 #[.slice A l c,.int .i64 (a : Int),.int .i64 (b : Int)] W fun e w' => e = .returned (.int .u32 (numA L a b : Nat)) ∧ W = w') := fun W a b hW ha hb32 => by
  have h := refNumber_any A l c w.heap.size L a (b : Int) W hl (by omega) (by omega) (by omega) (by omega) (hb.below hW (Nat.le_refl _))
  rw [cnt_nat hb32] at h
  exact h
 have mk0 : ∀ W,(Instr.makeSlice 156 (.int .i64 19) (.int .i64 19)).run Tryz.prog W = .ok (.slice (some ⟨W.heap.size,0,none⟩) 19 19) (W.alloc (.cells (madeCells #[.int .i64 0] 19) 3)) := fun W => make_ints 19 (by omega) W
 have HLL := Lib.hid hl
 have HBY : Hid (∀ W,Below w.heap.size w W → Bytes W w.heap.size A (bitBytes L)) := fun W hW => hb.below hW (Nat.le_refl _)
 clear hb hl HBACK
 go_enter Tryz.func141,Tryz.ntmps141
 by_cases h9 : l < p + 9
 ·have HTK : Hid (tkF F L p = (2,[],0)) := by show _ = _;rw [tkF,if_pos (by rw [HLL.out];exact h9)]
  have t0 : (l : Int) - (p : Int) < 9 := by omega
  go_wp2
  refine bodyPost_ret (results_tmp3 rfl _ _ _) rfl (HERR.out _ _ 2 rfl HTK.out (Below.refl _ _))
 have t0 : decide ((l : Int) - (p : Int) < 9) = false := decide_eq_false (by omega)
 obtain ⟨n,hn⟩ : ∃ n,numA L p 9 = n := ⟨_,rfl⟩
 have HN := Lib.hid hn
 have hn512 : n < 512 := by rw [← hn];exact numA_lt L p 9
 have HN9 := Lib.hid (fun W hW => HNUM.out W p 9 hW (by omega) (by omega))
 rw [hn] at HN9
 clear hn
 by_cases hbad : n = 0 ∨ 320 < n
 ·have HTK : Hid (tkF F L p = (5,[],0)) := by show _ = _;rw [tkF,if_neg (by rw [HLL.out];exact h9),HN.out,if_pos hbad]
  clear h9
  rcases hbad with h0 | h0
  ·subst h0
   go_wp2_with (go_at_call 101;refine (HN9.out _ (Below.refl _ _)).mono ?_;rintro e w2 ⟨rfl,rfl⟩)
   refine bodyPost_ret (results_tmp3 rfl _ _ _) rfl (HERR.out _ _ 5 rfl HTK.out (Below.refl _ _))
  ·have t1 : decide ((n : Int) < 1) = false := decide_eq_false (by omega)
   have t2 : decide ((320 : Int) < (n : Int)) = true := decide_eq_true (by omega)
   go_wp2_with (go_at_call 101;refine (HN9.out _ (Below.refl _ _)).mono ?_;rintro e w2 ⟨rfl,rfl⟩)
   refine bodyPost_ret (results_tmp3 rfl _ _ _) rfl (HERR.out _ _ 5 rfl HTK.out (Below.refl _ _))
 have t1 : decide ((n : Int) < 1) = false := decide_eq_false (by omega)
 have t2 : decide ((320 : Int) < (n : Int)) = false := decide_eq_false (by omega)
 by_cases h85 : l < p + 85
 ·have HTK : Hid (tkF F L p = (2,[],0)) := by show _ = _;rw [tkF,if_neg (by rw [HLL.out];exact h9),HN.out,if_neg hbad,if_pos (by rw [HLL.out];exact h85)]
  have t3 : decide ((l : Int) - ((p : Int) + 9) < 76) = true := decide_eq_true (by omega)
  clear h9 hbad h85
  go_wp2_with (go_at_call 101;refine (HN9.out _ (Below.refl _ _)).mono ?_;rintro e w2 ⟨rfl,rfl⟩)
  refine bodyPost_ret (results_tmp3 rfl _ _ _) rfl (HERR.out _ _ 2 rfl HTK.out (Below.refl _ _))
 have t3 : decide ((l : Int) - ((p : Int) + 9) < 76) = false := decide_eq_false (by omega)
 go_wp2_with (go_at_call 101;refine (HN9.out _ (Below.refl _ _)).mono ?_;rintro e w2 ⟨rfl,rfl⟩)
 obtain ⟨W1,hW1⟩ : ∃ W1,w.alloc (.cells (madeCells #[.int .i64 0] 19) 3) = W1 := ⟨_,rfl⟩
 have HB1 : Hid (Below w.heap.size w W1) := by show Below _ _ _;rw [← hW1];exact (Below.refl _ w).alloc (Nat.le_refl _) _
 have HN1 : Hid (NB W1 w.heap.size (lensA L (p + 9) 0 ++ List.replicate 19 0)) := by show NB _ _ _;rw [← hW1];exact wei_made w 19
 rw [hW1]
 clear hW1 mk0 t0 t3 HN9
 go_loopg [1,9] 19 (fun gk a i wr => ∃ k : Nat,k + gk = 19 ∧ i = .int .i64 (k : Int) ∧ a = .int .i64 ((p + 9 + 4 * k : Nat) : Int) ∧ NB wr w.heap.size (lensA L (p + 9) k ++ List.replicate gk 0) ∧ Below w.heap.size w wr)
 case atStart => exact ⟨0,by omega,rfl,by go_num,HN1.out,HB1.out⟩
 case round =>
  obtain ⟨k,hk,rfl,rfl,hnb,hbel⟩ := hrel
  have HNB := Lib.hid hnb
  have HBEL := Lib.hid hbel
  clear hnb hbel HN1 HB1
  by_cases hk19 : k < 19
  ·have HT2 := Lib.hid (HNUM.out wr (p + 9 + 4 * k) 4 HBEL.out (by omega) (by omega))
   have hy := numA_lt L (p + 9 + 4 * k) 4
   have HUP : Hid (lensA L (p + 9) (k + 1) ++ List.replicate (gk - 1) 0 = (lensA L (p + 9) k ++ List.replicate gk 0).set k (numA L (p + 9 + 4 * k) 4)) := by
    show _ = _
    have h := set_pad (lensA L (p + 9) k) (gk - 1) (numA L (p + 9 + 4 * k) 4)
    rw [lensA_len,show gk - 1 + 1 = gk by omega] at h
    rw [h,lensA_up]
   obtain ⟨y,hyy⟩ : ∃ y,numA L (p + 9 + 4 * k) 4 = y := ⟨_,rfl⟩
   rw [hyy] at HT2 hy HUP
   have hy16 : y < 16 := hy
   have f0 : wr.frozen? ⟨w.heap.size,k,none⟩ = false := HNB.out.free
   have q0 : wr.cell? ⟨w.heap.size,k,none⟩ = some (.int .i64 ((0 : Nat) : Int)) := HNB.out.cell (by rw [List.getElem?_append_right (by rw [lensA_len];omega),lensA_len,Nat.sub_self,List.getElem?_replicate,if_pos (by omega)])
   clear hyy hy
   obtain ⟨a,ha⟩ : ∃ a,p + 9 + 4 * k = a := ⟨_,rfl⟩
   have HA4 := Lib.hid ha
   have hal : a ≤ l := by omega
   rw [ha] at HT2 ⊢
   clear ha
   go_wp2_with (go_at_call 101;refine HT2.out.mono ?_;rintro e w2 ⟨rfl,rfl⟩)
   go_roundg (gk - 1)
   case measure => omega
   case rel => exact ⟨k + 1,by omega,by go_num,by have := HA4.out;rw [show p + 9 + 4 * (k + 1) = a + 4 by omega];go_num,by rw [HUP.out];exact HNB.out.set k y,HBEL.out.setCell (Nat.le_refl _) _⟩
  ·obtain rfl : k = 19 := by omega
   obtain rfl : gk = 0 := by omega
   have HN2 := Lib.hid (show NB wr w.heap.size (lensA L (p + 9) 19) by have h := HNB.out;rw [List.replicate_zero,List.append_nil] at h;exact h)
   obtain ⟨zs,hzs⟩ : ∃ zs : List Int,((lensA L (p + 9) 19).map fun n : Nat => (n : Int)) = zs := ⟨_,rfl⟩
   have hzl : zs.length = 19 := by rw [← hzs,List.length_map,lensA_len]
   have HC2 : Hid (Cells wr wr.heap.size (some ⟨w.heap.size,0,none⟩) (zs.map ic)) := by
    show Cells _ _ _ _
    rw [← hzs,nCs_ic]
    exact NB.cellsT HN2.out
   have HRI := Lib.hid (ref8Right_any (some ⟨w.heap.size,0,none⟩) 19 19 zs wr.heap.size wr hzl (by omega) HC2.out)
   cases hca : caR zs with
   | false =>
    have HTK : Hid (tkF F L p = (13,[],0)) := by show _ = _;rw [tkF,if_neg (by rw [HLL.out];exact h9),HN.out,if_neg hbad,if_neg (by rw [HLL.out];exact h85),hzs,if_pos hca]
    rw [hca] at HRI
    clear h9 hbad h85 hzs hca
    go_wp2_with (go_at_call 142;refine HRI.out.mono ?_;rintro e w2 ⟨rfl,rfl⟩)
    refine bodyPost_ret (results_tmp3 rfl _ _ _) rfl (HERR.out _ _ 13 rfl HTK.out HBEL.out)
   | true =>
    have HTK : Hid (tkF F L p = lensF F zs n L n [] (p + 85)) := by show _ = _;rw [tkF,if_neg (by rw [HLL.out];exact h9),HN.out,if_neg hbad,if_neg (by rw [HLL.out];exact h85),hzs,if_neg (by rw [hca];simp)]
    rw [hca] at HRI
    have HCA := Lib.hid hca
    have HMX := Lib.hid (caR_max hca)
    have HVA := Lib.hid (ref8Values_any (some ⟨w.heap.size,0,none⟩) 19 19 zs wr.heap.size wr hzl (by omega) HC2.out (Nat.le_refl _))
    have hp85 : p + 85 ≤ l := by omega
    have hn320 : n ≤ 320 := by omega
    clear h9 hbad h85 hzs hca
    go_wp2_with (first
     | (go_at_call 142;refine HRI.out.mono ?_;rintro e w2 ⟨rfl,rfl⟩)
     | (go_at_call 117;refine HVA.out.mono ?_;rintro e w4 ⟨rfl,hi4,hb4⟩;have HI4 := Lib.hid hi4;have HB4 := Lib.hid (HBEL.out.trans (hb4.mono HBEL.out.size));have HC4 := Lib.hid (HC2.out.below hb4 (Nat.le_refl _));have HZ4 : Hid (wr.heap.size < w4.heap.size) := ib_lt hi4;clear hi4 hb4))
    obtain ⟨gv,hgv⟩ : ∃ gv,wr.heap.size = gv := ⟨_,rfl⟩
    rw [hgv] at HI4 HC4 HZ4 ⊢
    have hw4s := HB4.out.size
    have hnb4 : w.heap.size < gv := by rw [← hgv];exact HN2.out.lt
    have HCZ : Hid (∀ W,Below w4.heap.size w4 W → Cells W W.heap.size (some ⟨w.heap.size,0,none⟩) (zs.map ic)) := fun W hW => (HC4.out.below hW (Nat.le_of_lt HZ4.out)).more (by have := HZ4.out;have := hW.size;omega)
    have HCV : Hid (∀ W,Below w4.heap.size w4 W → Cells W W.heap.size (some ⟨gv,0,none⟩) ((caV zs).map ic)) := fun W hW => ((ib_cells HI4.out HZ4.out).below hW (Nat.le_refl _)).more hW.size
    have HBYW : Hid (∀ W,Below w4.heap.size w4 W → Bytes W W.heap.size A (bitBytes L)) := fun W hW => by
     have h := HBY.out W (HB4.out.trans (hW.mono hw4s))
     exact h.more (Nat.le_trans hw4s hW.size)
    have HNUW : Hid (∀ (W : World) (a b : Nat),Below w4.heap.size w4 W → a ≤ 2000000 → b ≤ 32 → _) := fun W a b hW ha hb => HNUM.out W a b (HB4.out.trans (hW.mono hw4s)) ha hb
    have HW4 : Hid (Below w.heap.size w w4) := HB4.out
    clear HN2 HC2 HRI HVA HNUM HBY HBEL HNB HI4 HC4 HZ4 HB4 hgv hnb4 hw4s
    go_loopg [1,11] n (fun gk a v wr => ∃ (ls : List Nat) (p' : Nat),a = .int .i64 (p' : Int) ∧ lensF F zs n L n [] (p + 85) = lensF F zs n L gk ls p' ∧ n ≤ ls.length + gk ∧ ls.length ≤ n ∧ p' ≤ l ∧ wr.ownsRow w4.heap.size 3 1 v ls.length (nCs ls) ∧ Below w4.heap.size w4 wr)
    case atStart => exact ⟨[],p + 85,by go_num,rfl,by simp,by simp,hp85,World.ownsRow_nil _ _ _ _,Below.refl _ _⟩
    case round =>
     obtain ⟨ls,p',rfl,hle,hfu,hln,hpl,hrow,hbel⟩ := hrel
     obtain ⟨Av,cv,rfl⟩ := own_form hrow
     have HLE := Lib.hid hle
     have HBEL := Lib.hid hbel
     obtain ⟨ll,hll⟩ : ∃ ll,ls.length = ll := ⟨_,rfl⟩
     have HLN := Lib.hid hll
     have HROW : Hid (wr.ownsRow w4.heap.size 3 1 (.slice Av ll cv) ll (nCs ls)) := by rw [hll] at hrow;exact hrow
     rw [hll] at hfu hln ⊢
     clear hle hbel hrow hll
     by_cases hlt : ll < n
     ·obtain ⟨j,rfl⟩ : ∃ j,gk = j + 1 := ⟨gk - 1,by omega⟩
      have HT8 := Lib.hid (refTake8_any (some ⟨w.heap.size,0,none⟩) (some ⟨gv,0,none⟩) A 19 19 19 l c zs L p' wr HCA.out hzl (HCZ.out wr HBEL.out) (HCV.out wr HBEL.out) HLL.out hm hlc (HBYW.out wr HBEL.out) hpl)
      have HLF0 : Hid (∀ P : Int × Nat × Nat × Nat,partF F zs (L.drop p') = P → lensF F zs n L (j + 1) ls p' = if P.1 ≠ 0 then (P.1,[],0) else if P.2.1 = 16 ∧ ls = [] then (3,[],0) else if n < ll + P.2.2.1 then (3,[],0) else lensF F zs n L j (ls ++ List.replicate P.2.2.1 (saysP ls P.2.1)) (p' + P.2.2.2)) := fun P hP => by
       rw [lensF,if_neg (by have := HLN.out;omega),hP,HLN.out]
      go_wp2_with fail
      refine HT8.out.mono ?_
      rintro e w5 ⟨on,s,er,rfl,htk,hb5⟩
      have HB5 := Lib.hid (HBEL.out.trans (hb5.mono HBEL.out.size))
      have HROW5 := Lib.hid (own_keep HROW.out (Mod.of_below hb5) (fun _ _ h => h))
      obtain ⟨mx,hmx⟩ := HMX.out
      have HK := Lib.hid (kindsT hF hmx (htk mx hmx))
      have hUl : (L.drop p').length = l - p' := by rw [List.length_drop,HLL.out]
      have HUL := Lib.hid hUl
      clear hb5 htk hmx HT8 hUl
      rcases HK.out with ⟨rfl,t,rfl,htl,hon,hf⟩ | ⟨hne,rfl,hf⟩
      ·have HF := Lib.hid hf
       rw [hzl] at htl
       rw [HUL.out] at hon
       have HEX := Lib.hid (fun W => rextra_any t W)
       obtain ⟨⟨sa,sb⟩,hab⟩ : ∃ ab,spanP t = ab := ⟨_,rfl⟩
       have hsp := spanP_le t
       have hms := mostP_span t
       have HAB := Lib.hid hab
       rw [hab] at HEX hsp hms
       dsimp only at HEX hsp hms
       obtain ⟨q,hq⟩ : ∃ q,p' + on = q := ⟨_,rfl⟩
       have e1 : (p' : Int) + (on : Int) = (q : Int) := by omega
       have HQ := Lib.hid hq
       have hql : q ≤ l := by omega
       clear HK hf hab hq hon
       by_cases hfit : l < q + sb
       ·have HLF := HLF0.out (2,0,0,0) (by
         unfold partF
         rw [HF.out]
         dsimp only
         rw [if_neg (by simp),if_pos (by rw [Int.toNat_natCast,HAB.out,HUL.out];dsimp only;have := HQ.out;omega)])
        rw [if_pos (by simp)] at HLF
        dsimp only at HLF
        have HLF := Lib.hid HLF
        have t5 : decide ((l : Int) - (q : Int) < (sb : Int)) = true := decide_eq_true (by omega)
        clear hfit hms hfu
        go_wp2_with (go_at_call 167;refine (HEX.out _).mono ?_;rintro e w2 ⟨rfl,rfl⟩)
        refine bodyPost_ret (results_tmp3 rfl _ _ _) rfl (HERR.out _ _ 2 rfl (by rw [HTK.out,HLE.out,HLF.out]) (HW4.out.trans (HB5.out.mono HW4.out.size)))
       ·have t5 : decide ((l : Int) - (q : Int) < (sb : Int)) = false := decide_eq_false (by omega)
        obtain ⟨y,hy⟩ : ∃ y,numA L q sb = y := ⟨_,rfl⟩
        have hyl : y < 2 ^ sb := by rw [← hy];exact numA_lt L q sb
        have HNY : Hid (∀ W,Below w4.heap.size w4 W → _) := fun W hW => HNUW.out W q sb hW (by omega) (by omega)
        rw [hy] at HNY
        obtain ⟨many,hmany⟩ : ∃ many,sa + y = many := ⟨_,rfl⟩
        have e2 : (sa : Int) + (y : Int) = (many : Int) := by omega
        have h7 : 2 ^ sb ≤ 128 := Nat.pow_le_pow_right (n := 2) (by decide) hsp.2.2
        have hmm : sa ≤ many ∧ many ≤ mostP t := by omega
        have hm138 := (mostP_le t).2
        have hmb : many ≤ 138 := by omega
        have HLF := HLF0.out (0,t,many,on + sb) (by
         unfold partF
         rw [HF.out]
         dsimp only
         rw [if_neg (by simp),if_neg (by rw [Int.toNat_natCast,HAB.out,HUL.out];dsimp only;have := HQ.out;omega),Int.toNat_natCast,HAB.out,List.drop_drop,HQ.out]
         dsimp only
         rw [show num ((L.drop q).take sb) = y from hy,hmany])
        rw [if_neg (by simp)] at HLF
        dsimp only at HLF
        have hyb : y ≤ 128 := by omega
        have HMM : Hid ((spanP t).1 ≤ many ∧ many ≤ mostP t) := by rw [HAB.out];exact hmm
        have hpn : p' + (on + sb) ≤ l := by have := HQ.out;omega
        have e3 : (q : Int) + (sb : Int) = ((p' + (on + sb) : Nat) : Int) := by have := HQ.out;omega
        clear hy hmany hms hyl hfit hm138 hmm h7 HLF0
        by_cases h16 : t = 16
        ·subst h16
         have hab : ((3,2) : Nat × Nat) = (sa,sb) := HAB.out
         obtain ⟨rfl,rfl⟩ : 3 = sa ∧ 2 = sb := by simpa using hab
         have hmm3 : 3 ≤ many ∧ many ≤ 6 := HMM.out
         have e2' : (3 : Int) + (y : Int) = (many : Int) := by omega
         have e3' : (q : Int) + 2 = ((p' + (on + 2) : Nat) : Int) := by omega
         by_cases hll0 : ll = 0
         ·have hnil : ls = [] := List.eq_nil_of_length_eq_zero (by rw [HLN.out];exact hll0)
          subst hll0
          rw [if_pos ⟨rfl,hnil⟩] at HLF
          have HLF := Lib.hid HLF
          have HJ := Lib.hid (fun W : World => rjoin_no W.heap.size 1 many (W.alloc (.cells #[.int .i64 16,.int .i64 (many : Int)] 242)) (by simp) hmm3.1 hmm3.2 (row2_0 W _ _ _) (row2_1 W _ _ _))
          have t4 : decide ((0 : Int) < ((0 : Nat) : Int)) = false := by simp
          clear hab hnil hfu
          go_wp2_with (first
           | (go_at_call 167;refine (HEX.out _).mono ?_;rintro e w2 ⟨rfl,rfl⟩)
           | (go_at_call 101;refine (HNY.out _ HB5.out).mono ?_;rintro e w2 ⟨rfl,rfl⟩)
           | (go_at_call 178;refine (HJ.out w5).mono ?_;rintro e w6 ⟨rfl,hb6⟩;have HB6 := Lib.hid (HB5.out.trans ((((Below.refl w5.heap.size w5).alloc (Nat.le_refl _) _).trans (hb6.mono (by simp))).mono HB5.out.size));have HROW6 := Lib.hid (own_keep HROW5.out (Mod.of_below ((((Below.refl w5.heap.size w5).alloc (Nat.le_refl _) _).trans (hb6.mono (by simp))))) (fun _ _ h => h));clear hb6)
           | (at_builtin;refine wpList_app w6 intElem rfl (.tmp 132) (.tmp 133) rfl w4.heap.size (.slice Av 0 cv) 0 (nCs ls) rfl HROW6.out w6.heap.size none 0 0 [] rfl (by simp) (Cells.nil _ _ _) (by first | exact nCs_one _ | simp) (by unfold maxLen;omega) (by omega) HB6.out.size ?_;intro A7 c7 w7 hA;have HA7 := Lib.hid hA;clear hA))
          refine bodyPost_ret (results_tmp3 rfl _ _ _) rfl (HERR.out _ _ 3 rfl (by rw [HTK.out,HLE.out,HLF.out]) (HW4.out.trans ((HA7.out.below HB6.out HB6.out.size (own_base HROW.out)).mono HW4.out.size)))
         ·have h0 : 0 < ll := by omega
          rw [if_neg (by rintro ⟨_,h⟩;rw [h] at HLN;exact hll0 HLN.out.symm)] at HLF
          have HLC := Lib.hid (last_cell HLN.out h0)
          obtain ⟨x,hx⟩ : ∃ x,saysP ls 16 = x := ⟨_,rfl⟩
          rw [hx] at HLF HLC
          have HJ := Lib.hid (fun W : World => rjoin_no W.heap.size 1 many (W.alloc (.cells #[.int .i64 16,.int .i64 (many : Int)] 242)) (by simp) hmm3.1 hmm3.2 (row2_0 W _ _ _) (row2_1 W _ _ _))
          have HUP : Hid (∀ k,nCs (List.replicate (k + 1) x) = nCs (List.replicate k x) ++ [.int .i64 (x : Int)]) := fun k => by
           rw [List.replicate_succ',nCs,List.map_append]
           rfl
          have HNC : Hid (nCs (ls ++ List.replicate many x) = nCs ls ++ nCs (List.replicate many x)) := by show _ = _;simp [nCs]
          have HNL : Hid ((ls ++ List.replicate many x).length = ll + many) := by show _ = _;rw [List.length_append,HLN.out,List.length_replicate]
          have t4 : decide ((0 : Int) < (ll : Int)) = true := decide_eq_true (by omega)
          have t4n : decide (0 < ll) = true := decide_eq_true h0
          have hw1 : IntKind.i64.wrap ((ll : Int) - 1) = ((ll - 1 : Nat) : Int) := by rw [IntWalk.i64_in _ (by omega)];omega
          have hlt1 : ((ll - 1 : Nat) : Int) < (ll : Int) := by omega
          have hge1 : (0 : Int) ≤ ((ll - 1 : Nat) : Int) := by omega
          have HFU := Lib.hid hfu
          clear hab hll0 hx hfu h0
          go_wp2_with (first
           | (go_at_call 167;refine (HEX.out _).mono ?_;rintro e w2 ⟨rfl,rfl⟩)
           | (go_at_call 101;refine (HNY.out _ HB5.out).mono ?_;rintro e w2 ⟨rfl,rfl⟩)
           | (go_at_call 178;refine (HJ.out w5).mono ?_;rintro e w6 ⟨rfl,hb6⟩;have HB6 := Lib.hid (HB5.out.trans ((((Below.refl w5.heap.size w5).alloc (Nat.le_refl _) _).trans (hb6.mono (by simp))).mono HB5.out.size));have HROW6 := Lib.hid (own_keep HROW5.out (Mod.of_below ((((Below.refl w5.heap.size w5).alloc (Nat.le_refl _) _).trans (hb6.mono (by simp))))) (fun _ _ h => h));clear hb6))
          obtain ⟨b,o,rfl,hbB,hc⟩ := (Cells.of_own HROW6.out) (by rw [nCs_len,HLN.out];omega)
          have HCX : Hid (∀ W,Below w6.heap.size w6 W → W.cell? ⟨b,o + (ll - 1),none⟩ = some (.int .i64 (x : Int))) := fun W hW => (hW.cell (p := ⟨b,o + (ll - 1),none⟩) hbB).trans (hc _ _ (nCs_at HLC.out))
          clear hc hbB HB5 HROW5 HBEL t4 t4n
          go_loopg [17,18] many (fun gk v i wr => ∃ k2 : Nat,k2 + gk = many ∧ i = .int .i64 (k2 : Int) ∧ (∃ A c,v = .slice A k2 c) ∧ wr.ownsRow w6.heap.size 3 1 v k2 (nCs (List.replicate k2 x)) ∧ Below w6.heap.size w6 wr)
          case atStart => exact ⟨0,by omega,rfl,⟨none,0,rfl⟩,World.ownsRow_nil _ _ _ _,Below.refl _ _⟩
          case round =>
           obtain ⟨k2,hk2,rfl,⟨A3,c3,rfl⟩,hrow,hbel⟩ := hrel
           have HROW3 := Lib.hid hrow
           have HBEL3 := Lib.hid hbel
           have HB63 := Lib.hid (HB6.out.trans (hbel.mono HB6.out.size))
           have HROWL := Lib.hid (own_keep HROW6.out (Mod.of_below hbel) (fun _ _ h => h))
           have q2 := HCX.out wr hbel
           clear hrow hbel
           by_cases hkm : k2 < many
           ·go_wp2_with (first
             | (go_at_call 101;refine (HNY.out _ HB63.out).mono ?_;rintro e w2 ⟨rfl,rfl⟩)
             | (at_builtin;refine wpList_app1 wr intElem rfl (.tmp 120) (.tmp 127) rfl w6.heap.size (.slice A3 k2 c3) k2 (nCs (List.replicate k2 x)) rfl HROW3.out _ rfl rfl (by simp [Value.oneCell']) (by unfold maxLen;omega) (by omega) HBEL3.out.size ?_;intro A' c' w8 hA;have HA := Lib.hid hA;clear hA))
            go_roundg (gk - 1)
            case measure => omega
            case rel =>
             refine ⟨k2 + 1,by omega,by go_num,⟨A',c',rfl⟩,?_,HA.out.below HBEL3.out HBEL3.out.size (own_base HROW3.out)⟩
             have h := HA.out.own
             rw [HUP.out]
             exact h
           ·obtain rfl : k2 = many := by omega
            have HC3 := Lib.hid (Cells.of_own HROW3.out)
            by_cases hbig : n < ll + k2
            ·rw [if_pos hbig] at HLF
             have HLF := Lib.hid HLF
             go_wp2_with (first
              | (go_at_call 101;refine (HNY.out _ HB63.out).mono ?_;rintro e w2 ⟨rfl,rfl⟩)
              | (at_builtin;refine wpList_app wr intElem rfl (.tmp 132) (.tmp 133) rfl w4.heap.size (.slice (some ⟨b,o,none⟩) ll cv) ll (nCs ls) rfl HROWL.out wr.heap.size A3 k2 c3 (nCs (List.replicate k2 x)) rfl (by simp [nCs]) HC3.out (by first | exact nCs_one _ | simp) (by unfold maxLen;omega) (by omega) HB63.out.size ?_;intro A7 c7 w7 hA;have HA7 := Lib.hid hA;clear hA))
             refine bodyPost_ret (results_tmp3 rfl _ _ _) rfl (HERR.out _ _ 3 rfl (by rw [HTK.out,HLE.out,HLF.out]) (HW4.out.trans ((HA7.out.below HB63.out HB63.out.size (own_base HROW.out)).mono HW4.out.size)))
            ·rw [if_neg hbig] at HLF
             have HLF := Lib.hid HLF
             have hadd : ll + k2 ≤ n := by omega
             go_wp2_with (first
              | (go_at_call 101;refine (HNY.out _ HB63.out).mono ?_;rintro e w2 ⟨rfl,rfl⟩)
              | (at_builtin;refine wpList_app wr intElem rfl (.tmp 132) (.tmp 133) rfl w4.heap.size (.slice (some ⟨b,o,none⟩) ll cv) ll (nCs ls) rfl HROWL.out wr.heap.size A3 k2 c3 (nCs (List.replicate k2 x)) rfl (by simp [nCs]) HC3.out (by first | exact nCs_one _ | simp) (by unfold maxLen;omega) (by omega) HB63.out.size ?_;intro A7 c7 w7 hA;have HA7 := Lib.hid hA;clear hA))
             go_roundg j
             case measure => omega
             case rel => exact ⟨ls ++ List.replicate k2 x,p' + (on + 2),by go_num,by rw [HLE.out,HLF.out],by rw [HNL.out];have := HFU.out;omega,by rw [HNL.out];omega,by omega,by rw [HNL.out,HNC.out];exact HA7.out.own,HA7.out.below HB63.out HB63.out.size (own_base HROW.out)⟩
        ·rw [if_neg (by rintro ⟨h,_⟩;exact h16 h)] at HLF
         have t16 : ((t : Int) == 16) = false := by simp;omega
         obtain ⟨x,hx⟩ : ∃ x,saysP ls t = x := ⟨_,rfl⟩
         rw [hx] at HLF
         have hx0 : saysP [] t = x := by rw [← hx];unfold saysP;rw [if_neg h16,if_neg h16]
         have HJ := Lib.hid (fun W : World => rjoin_any W.heap.size 1 t many x (W.alloc (.cells #[.int .i64 (t : Int),.int .i64 (many : Int)] 242)) (by simp) (by omega) h16 HMM.out.1 HMM.out.2 hx0 (row2_0 W _ _ _) (row2_1 W _ _ _))
         have HNC : Hid (nCs (ls ++ List.replicate many x) = nCs ls ++ nCs (List.replicate many x)) := by show _ = _;simp [nCs]
         have HNL : Hid ((ls ++ List.replicate many x).length = ll + many) := by show _ = _;rw [List.length_append,HLN.out,List.length_replicate]
         have HFU := Lib.hid hfu
         clear hx hx0 h16 hfu
         by_cases hbig : n < ll + many
         ·rw [if_pos hbig] at HLF
          have HLF := Lib.hid HLF
          go_wp2_with (first
           | (go_at_call 167;refine (HEX.out _).mono ?_;rintro e w2 ⟨rfl,rfl⟩)
           | (go_at_call 101;refine (HNY.out _ HB5.out).mono ?_;rintro e w2 ⟨rfl,rfl⟩)
           | (go_at_call 178;refine (HJ.out w5).mono ?_;rintro e w6 ⟨A6,c6,rfl,hown6,hb6⟩;have HB6 := Lib.hid (HB5.out.trans ((((Below.refl w5.heap.size w5).alloc (Nat.le_refl _) _).trans (hb6.mono (by simp))).mono HB5.out.size));have HROW6 := Lib.hid (own_keep HROW5.out (Mod.of_below ((((Below.refl w5.heap.size w5).alloc (Nat.le_refl _) _).trans (hb6.mono (by simp))))) (fun _ _ h => h));have HC6 := Lib.hid (Cells.of_own hown6);clear hb6 hown6)
           | (at_builtin;refine wpList_app w6 intElem rfl (.tmp 132) (.tmp 133) rfl w4.heap.size (.slice Av ll cv) ll (nCs ls) rfl HROW6.out w6.heap.size A6 many c6 (nCs (List.replicate many x)) rfl (by simp [nCs]) HC6.out (by first | exact nCs_one _ | simp) (by unfold maxLen;omega) (by omega) HB6.out.size ?_;intro A7 c7 w7 hA;have HA7 := Lib.hid hA;clear hA))
          refine bodyPost_ret (results_tmp3 rfl _ _ _) rfl (HERR.out _ _ 3 rfl (by rw [HTK.out,HLE.out,HLF.out]) (HW4.out.trans ((HA7.out.below HB6.out HB6.out.size (own_base HROW.out)).mono HW4.out.size)))
         ·rw [if_neg hbig] at HLF
          have HLF := Lib.hid HLF
          have hadd : ll + many ≤ n := by omega
          go_wp2_with (first
           | (go_at_call 167;refine (HEX.out _).mono ?_;rintro e w2 ⟨rfl,rfl⟩)
           | (go_at_call 101;refine (HNY.out _ HB5.out).mono ?_;rintro e w2 ⟨rfl,rfl⟩)
           | (go_at_call 178;refine (HJ.out w5).mono ?_;rintro e w6 ⟨A6,c6,rfl,hown6,hb6⟩;have HB6 := Lib.hid (HB5.out.trans ((((Below.refl w5.heap.size w5).alloc (Nat.le_refl _) _).trans (hb6.mono (by simp))).mono HB5.out.size));have HROW6 := Lib.hid (own_keep HROW5.out (Mod.of_below ((((Below.refl w5.heap.size w5).alloc (Nat.le_refl _) _).trans (hb6.mono (by simp))))) (fun _ _ h => h));have HC6 := Lib.hid (Cells.of_own hown6);clear hb6 hown6)
           | (at_builtin;refine wpList_app w6 intElem rfl (.tmp 132) (.tmp 133) rfl w4.heap.size (.slice Av ll cv) ll (nCs ls) rfl HROW6.out w6.heap.size A6 many c6 (nCs (List.replicate many x)) rfl (by simp [nCs]) HC6.out (by first | exact nCs_one _ | simp) (by unfold maxLen;omega) (by omega) HB6.out.size ?_;intro A7 c7 w7 hA;have HA7 := Lib.hid hA;clear hA))
          go_roundg j
          case measure => omega
          case rel => exact ⟨ls ++ List.replicate many x,p' + (on + sb),by go_num,by rw [HLE.out,HLF.out],by rw [HNL.out];have := HFU.out;omega,by rw [HNL.out];omega,by omega,by rw [HNL.out,HNC.out];exact HA7.out.own,HA7.out.below HB6.out HB6.out.size (own_base HROW.out)⟩
      ·have HLF := HLF0.out (er,0,0,0) (by unfold partF;rw [hf];exact if_pos hne)
       rw [if_pos (by simpa using hne)] at HLF
       dsimp only at HLF
       have HLF := Lib.hid HLF
       have t3 : (er != 0) = true := by simpa using hne
       clear HK hne hf hfu
       go_wp2
       refine bodyPost_ret (results_tmp3 rfl _ _ _) rfl (HERR.out _ _ er rfl (by rw [HTK.out,HLE.out,HLF.out]) (HW4.out.trans (HB5.out.mono HW4.out.size)))
     ·have HE : Hid (tkF F L p = (0,ls,p')) := by
       show _ = _
       rw [HTK.out,HLE.out]
       cases gk with
       | zero => rfl
       | succ j => rw [lensF,if_pos (by rw [HLN.out];omega)]
      clear hfu
      go_wp2
      refine bodyPost_ret (results_tmp3 rfl _ _ _) rfl ?_
      rw [HE.out]
      dsimp only
      rw [HLN.out]
      exact ⟨Av,cv,rfl,own_leT HROW.out HW4.out.size,HW4.out.trans (HBEL.out.mono HW4.out.size),fun _ => hpl⟩
end Go.Proofs.YtaknladkodibaaaGreatDoor
namespace Go.Proofs.YtaknladkodibaaaGreatDoor
open Go.RowKit BitsP
attribute [local go_sem ↓] Go.wp_at_zero Go.wp_at_succ
theorem own_leP {w : World} {base base' : Nat} {e : TypeId} {size n : Nat} {v : Value} {xs : List Value} (h : w.ownsRow base e size v n xs) (hb : base' ≤ base) : w.ownsRow base' e size v n xs := by
 obtain ⟨h1,h2⟩ := h
 refine ⟨h1,?_⟩
 rcases h2 with h2 | ⟨g,c,cur,hv,hg,h3⟩
 ·exact .inl h2
 ·exact .inr ⟨g,c,cur,hv,Nat.le_trans hb hg,h3⟩
end Go.Proofs.YtaknladkodibaaaGreatDoor
namespace Go.Proofs.YtaknladkodibaaaGreatDoor
open Go.RowKit BitsP SymP
attribute [local go_sem ↓] Go.wp_at_zero Go.wp_at_succ
def szs (ts : List Tk) : Nat := (ts.map fun t => max t.2.1 1).sum
theorem szs_snoc (ts : List Tk) (t : Tk) : szs (ts ++ [t]) = szs ts + max t.2.1 1 := by simp [szs]
structure RTI (w3 W : World) (G : Nat) (v : Value) (size pp : Nat) (ts : List Tk) : Prop where
 box : W.heap[G]? = some (.cells #[v,.int .i64 (size : Int),.int .i64 (pp : Int),.int .i64 0] 150 (0,0))
 row : W.ownsRow (G + 1) 164 3 v ts.length (ts.flatMap tcC)
 bel : Below G w3 W
theorem RTI.lt {w3 W : World} {G : Nat} {v : Value} {size pp : Nat} {ts : List Tk} (h : RTI w3 W G v size pp ts) : G < W.heap.size := (Array.getElem?_eq_some_iff.1 h.box).1
theorem RTI.below {w3 W W' : World} {G : Nat} {v : Value} {size pp : Nat} {ts : List Tk} (h : RTI w3 W G v size pp ts) (hb : Below W.heap.size W W') : RTI w3 W' G v size pp ts :=
 ⟨(hb.block _ h.lt).trans h.box,own_keep h.row (Mod.of_below hb) (fun _ _ h => h),h.bel.trans (hb.mono (Nat.le_of_lt h.lt))⟩
theorem rti_row {w : World} {G : Nat} {base : Nat} {e : TypeId} {size n : Nat} {v : Value} {xs : List Value} (h : w.ownsRow base e size v n xs) (hb : G < base) (i : Nat) (u : Value) : (w.setCell ⟨G,i,none⟩ u).ownsRow base e size v n xs :=
 own_keep h (set1_mod w G i u) (fun k hk h2 => by have h3 := own_base h k hk;have h4 : k = G := h2;omega)
theorem row3_set {W : World} {G : Nat} {a b c : Value} {t : TypeId} (h : W.heap[G]? = some (.cells #[a,b,c] t (0,0))) (u v x : Value) : (((W.setCell ⟨G,0,none⟩ u).setCell ⟨G,1,none⟩ v).setCell ⟨G,2,none⟩ x).heap[G]? = some (.cells #[u,v,x] t (0,0)) :=
 heap_setCell_same _ G 2 _ _ _ (heap_setCell_same _ G 1 _ _ _ (heap_setCell_same W G 0 _ _ _ h))
theorem RTI.at_ {w3 W : World} {G : Nat} {v : Value} {size pp : Nat} {ts : List Tk} (h : RTI w3 W G v size pp ts) (q : Nat) : RTI w3 (W.setCell ⟨G,2,none⟩ (.int .i64 (q : Int))) G v size q ts :=
 ⟨heap_setCell_same W G 2 _ _ _ h.box,rti_row h.row (Nat.lt_succ_self _) 2 _,h.bel.setCell (Nat.le_refl _) _⟩
theorem RTI.more {w3 W w10 : World} {G : Nat} {v v' : Value} {size pp m : Nat} {ts ts' : List Tk} {xs : List Value} (h : RTI w3 W G v size pp ts) (ha : App W (G + 1) 164 3 v m xs w10 v') (hm : m = ts'.length) (hx : xs = ts'.flatMap tcC) (z : Nat) :
  RTI w3 ((w10.setCell ⟨G,0,none⟩ v').setCell ⟨G,1,none⟩ (.int .i64 (z : Int))) G v' z pp ts' := by
 have hv : ∀ k,ownS v k → G + 1 ≤ k := fun k hk => own_base h.row k hk
 have hb := (Mod.of_app ha).keep h.box (fun hk => by have := hv _ hk;omega)
 refine ⟨heap_setCell_same _ G 1 _ _ _ (heap_setCell_same w10 G 0 _ _ _ hb),?_,?_⟩
 ·have hr := ha.own
  rw [hm,hx] at hr
  exact rti_row (rti_row hr (Nat.lt_succ_self _) 0 _) (Nat.lt_succ_self _) 1 _
 ·exact ((ha.below h.bel (Nat.le_of_lt h.lt) (fun k hk => by have := hv k hk;omega)).setCell (Nat.le_refl _) _).setCell (Nat.le_refl _) _
theorem rti_cells {w3 W : World} {G : Nat} {v : Value} {size pp : Nat} {ts : List Tk} (h : RTI w3 W G v size pp ts) : W.cell? ⟨G,0,none⟩ = some v ∧ W.cell? ⟨G,1,none⟩ = some (.int .i64 (size : Int)) ∧ W.cell? ⟨G,2,none⟩ = some (.int .i64 (pp : Int)) ∧ W.cell? ⟨G,3,none⟩ = some (.int .i64 0) ∧ W.frozen? ⟨G,0,none⟩ = false ∧ W.frozen? ⟨G,1,none⟩ = false ∧ W.frozen? ⟨G,2,none⟩ = false :=
 ⟨cell_of_row _ _ 0 _ _ _ h.box,cell_of_row _ _ 1 _ _ _ h.box,cell_of_row _ _ 2 _ _ _ h.box,cell_of_row _ _ 3 _ _ _ h.box,frozen_of_row _ _ 0 _ _ h.box,frozen_of_row _ _ 1 _ _ h.box,frozen_of_row _ _ 2 _ _ h.box⟩
def ResB (W : World) (R : Nat) : Prop := W.heap[R]? = some (.cells #[.slice none 0 0,.int .i64 0,.int .i64 0,.int .i64 0] 150 (0,0))
theorem res_cells {W : World} {R : Nat} (h : ResB W R) : W.cell? ⟨R,0,none⟩ = some (.slice none 0 0) ∧ W.cell? ⟨R,1,none⟩ = some (.int .i64 0) ∧ W.cell? ⟨R,2,none⟩ = some (.int .i64 0) ∧ W.cell? ⟨R,3,none⟩ = some (.int .i64 0) ∧ W.frozen? ⟨R,0,none⟩ = false ∧ W.frozen? ⟨R,1,none⟩ = false ∧ W.frozen? ⟨R,2,none⟩ = false ∧ W.frozen? ⟨R,3,none⟩ = false :=
 ⟨cell_of_row _ _ 0 _ _ _ h,cell_of_row _ _ 1 _ _ _ h,cell_of_row _ _ 2 _ _ _ h,cell_of_row _ _ 3 _ _ _ h,frozen_of_row _ _ 0 _ _ h,frozen_of_row _ _ 1 _ _ h,frozen_of_row _ _ 2 _ _ h,frozen_of_row _ _ 3 _ _ h⟩
def RtQ (w : World) (lr : Nat) (t : Int × List Tk × Nat) (e : Ending) (w' : World) : Prop :=
 ∃ (A : Option Addr) (c sz at_ : Nat),e = .returned (.agg #[.slice A t.2.1.length c,.int .i64 (sz : Int),.int .i64 (at_ : Int),.int .i64 t.1]) ∧ (t.1 = 0 → sz = szs t.2.1 ∧ at_ = t.2.2 ∧ at_ ≤ lr) ∧ w'.ownsRow w.heap.size 164 3 (.slice A t.2.1.length c) t.2.1.length (t.2.1.flatMap tcC) ∧ Below w.heap.size w w'
theorem set4_below {w W : World} {B R : Nat} (h : Below B w W) (hR : B ≤ R) (a b c d : Value) : Below B w ((((W.setCell ⟨R,0,none⟩ a).setCell ⟨R,1,none⟩ b).setCell ⟨R,2,none⟩ c).setCell ⟨R,3,none⟩ d) :=
 (((h.setCell hR _).setCell hR _).setCell hR _).setCell hR _
theorem RtQ.err {w W : World} {lr R : Nat} {t : Int × List Tk × Nat} {er : Int} (ht : t = (er,[],0)) (h0 : er ≠ 0) (hR : w.heap.size = R) (hb : Below R w W) (a b c d : Value) :
  RtQ w lr t (.returned (.agg #[.slice none 0 0,.int .i64 0,.int .i64 0,.int .i64 er])) ((((W.setCell ⟨R,0,none⟩ a).setCell ⟨R,1,none⟩ b).setCell ⟨R,2,none⟩ c).setCell ⟨R,3,none⟩ d) := by
 subst ht
 subst hR
 exact ⟨none,0,0,0,rfl,fun h => absurd h h0,World.ownsRow_nil _ _ _ _,set4_below hb (Nat.le_refl _) _ _ _ _⟩
theorem RTI.set3 {w3 W : World} {G S1 : Nat} {v : Value} {size pp : Nat} {ts : List Tk} (h : RTI w3 W G v size pp ts) (hk : G < S1) (hv : ∀ k,ownS v k → k ≠ S1) (a b c : Value) : RTI w3 (((W.setCell ⟨S1,0,none⟩ a).setCell ⟨S1,1,none⟩ b).setCell ⟨S1,2,none⟩ c) G v size pp ts :=
 ⟨(set3_mod W S1 0 1 2 a b c).keep h.box (fun h2 => by have h3 : G = S1 := h2;omega),own_keep h.row (set3_mod W S1 0 1 2 a b c) (fun k hk2 h2 => hv k hk2 h2),((h.bel.setCell (Nat.le_of_lt hk) _).setCell (Nat.le_of_lt hk) _).setCell (Nat.le_of_lt hk) _⟩
theorem cells3_one (W : World) (a b c : Value) (T : TypeId) : Cells (W.alloc (.cells #[a,b,c] T)) (W.heap.size + 1) (some ⟨W.heap.size,0,none⟩) [a,b,c] := fun _ =>
 ⟨W.heap.size,0,rfl,Nat.lt_succ_self _,fun j u hu => by rw [Nat.zero_add,cell_of_row _ _ j _ _ _ (heap_alloc_new W _),← Array.getElem?_toList];exact hu⟩
theorem set4_row {w : World} {R base : Nat} {e : TypeId} {size n : Nat} {v : Value} {xs : List Value} (h : w.ownsRow base e size v n xs) (hb : R < base) (a b c d : Value) : ((((w.setCell ⟨R,0,none⟩ a).setCell ⟨R,1,none⟩ b).setCell ⟨R,2,none⟩ c).setCell ⟨R,3,none⟩ d).ownsRow base e size v n xs :=
 rti_row (rti_row (rti_row (rti_row h hb 0 _) hb 1 _) hb 2 _) hb 3 _
set_option maxRecDepth 100000 in
set_option maxHeartbeats 8000000 in
theorem rtake13_any (F : List Int → List Bool → Int × Int × Nat) (hF : FunT F) (A : Option Addr) (lr c3 : Nat) (L : List Bool) (p : Nat) (most : Int) (w : World) (hL : L.length = lr) (hlr : lr ≤ 1000000) (hc : lr ≤ c3) (h3 : Bytes w w.heap.size A (bitBytes L)) (hp : p ≤ lr) (m0 : -9223372036854775808 ≤ most) (m1 : most ≤ 9223372036854775807) :
  Calls Tryz.prog 100 #[.slice A lr c3,.int .i64 (p : Int),.int .i64 most] w (RtQ w lr (blkF F L p most)) := by
 obtain ⟨T,hT⟩ : ∃ T,blkF F L p most = T := ⟨_,rfl⟩
 have HT := Lib.hid hT
 rw [hT]
 obtain ⟨R,hR⟩ : ∃ R,w.heap.size = R := ⟨_,rfl⟩
 obtain ⟨W1,hW1⟩ : ∃ W1,w.alloc (.cells #[.slice none 0 0,.int .i64 0,.int .i64 0,.int .i64 0] 150) = W1 := ⟨_,rfl⟩
 have hb1 : Below R w W1 := by rw [← hW1,← hR];exact (Below.refl _ w).alloc (Nat.le_refl _) _
 have HR1 : Hid (ResB W1 R) := by show ResB _ _;rw [← hW1,← hR];exact heap_alloc_new w _
 have hz1 : W1.heap.size = R + 1 := by rw [← hW1,← hR];simp
 have HZ1 := Lib.hid hz1
 have HB1 := Lib.hid hb1
 have HBY : Hid (∀ W,Below R w W → Bytes W W.heap.size A (bitBytes L)) := fun W hW => by
  have h := h3.below (B' := R) hW (by omega)
  exact h.more (by have := hW.size;omega)
 have HLL := Lib.hid hL
 have HRR := Lib.hid hR
 have HW1 := Lib.hid hW1
 have HRES : Hid (∀ W,Below (R + 1) W1 W → ResB W R) := fun W hW => (hW.block R (Nat.lt_succ_self _)).trans HR1.out
 clear h3 hL hT hW1 hR hb1 hz1
 go_enter Tryz.func100,Tryz.ntmps100
 go_upto_region 1 with fail
 rw [HW1.out,HRR.out]
 have HT1 := Lib.hid (rrtake_le F hF A lr c3 L p W1 HLL.out hlr hc (HBY.out W1 HB1.out) hp)
 obtain ⟨T1,hT1⟩ : ∃ T1,tkF F L p = T1 := ⟨_,rfl⟩
 rw [hT1] at HT1
 obtain ⟨er1,a,p1⟩ := T1
 dsimp only at HT1
 go_wp2_with fail
 refine HT1.out.mono ?_
 rintro e w2 ⟨A2,c2,rfl,hown2,hb2,hle2⟩
 have HBL2 : Hid (Below (R + 1) W1 w2) := hb2.mono (by rw [HZ1.out];exact Nat.le_refl _)
 have HB2 : Hid (Below R w w2) := HB1.out.trans (HBL2.out.mono (Nat.le_succ _))
 have HO2 := Lib.hid hown2
 obtain ⟨r0,r1,r2,r3,f0,f1,f2,f3⟩ := res_cells (HRES.out w2 HBL2.out)
 by_cases her1 : er1 = 0
 rotate_left
 ·have HTQ : Hid (T = (er1,[],0)) := by show _ = _;rw [← HT.out,blkF,hT1];dsimp only;rw [if_pos her1]
  have HNE := Lib.hid her1
  have v1 : (er1 != 0) = true := by simpa using her1
  clear hT1 her1 hown2 hb2 hle2 HT
  go_wp2
  refine bodyPost_ret (v := .agg #[.slice none 0 0,.int .i64 0,.int .i64 0,.int .i64 er1]) ?_ rfl (RtQ.err HTQ.out HNE.out HRR.out HB2.out _ _ _ _)
  rw [results_cell1 rfl]
  go_simp
  try rfl
 subst her1
 have hp1 := hle2 rfl
 have HT2 := Lib.hid (rrtake_le F hF A lr c3 L p1 w2 HLL.out hlr hc (HBY.out w2 HB2.out) hp1)
 obtain ⟨T2,hT2⟩ : ∃ T2,tkF F L p1 = T2 := ⟨_,rfl⟩
 rw [hT2] at HT2
 obtain ⟨er2,b,p2⟩ := T2
 dsimp only at HT2
 have HT1E := Lib.hid hT1
 have HT2E := Lib.hid hT2
 clear hown2 hb2 hle2 hT1 hT2
 go_wp2_with fail
 refine HT2.out.mono ?_
 rintro e w3 ⟨A3,c4,rfl,hown3,hb3,hle3⟩
 have HBL3 : Hid (Below (R + 1) W1 w3) := HBL2.out.trans (hb3.mono (by have := HBL2.out.size;have := HZ1.out;omega))
 have HB3 : Hid (Below R w w3) := HB1.out.trans (HBL3.out.mono (Nat.le_succ _))
 have HC3 : Hid (Cells w3 w3.heap.size A3 ((zN b).map ic)) := by have h := Cells.of_own hown3;rw [zN_cs] at h;exact h
 have HC2 : Hid (Cells w3 w3.heap.size A2 ((zN a).map ic)) := by have h := Cells.of_own (own_keep HO2.out (Mod.of_below hb3) (fun _ _ h => h));rw [zN_cs] at h;exact h
 obtain ⟨r0,r1,r2,r3,f0,f1,f2,f3⟩ := res_cells (HRES.out w3 HBL3.out)
 by_cases her2 : er2 = 0
 rotate_left
 ·have HTQ : Hid (T = (er2,[],0)) := by show _ = _;rw [← HT.out,blkF,HT1E.out];dsimp only;rw [if_neg (by simp),HT2E.out];dsimp only;rw [if_pos her2]
  have HNE := Lib.hid her2
  have v1 : (er2 != 0) = true := by simpa using her2
  clear her2 hown3 hb3 hle3 HT
  go_wp2
  refine bodyPost_ret (v := .agg #[.slice none 0 0,.int .i64 0,.int .i64 0,.int .i64 er2]) ?_ rfl (RtQ.err HTQ.out HNE.out HRR.out HB3.out _ _ _ _)
  rw [results_cell1 rfl]
  go_simp
  try rfl
 subst her2
 have hp2 := hle3 rfl
 clear hown3 hb3 hle3
 have HT0 : Hid (T = if a.length ≠ 273 ∨ b.length ≠ 30 then (3,[],0) else if caR (zN a) = false ∨ caR (zN b) = false then (13,[],0) else blkL F (zN a) (zN b) L most (L.length + 1 - p2) [] 0 p2) := by
  show _ = _
  rw [← HT.out,blkF,HT1E.out]
  dsimp only
  rw [if_neg (by simp),HT2E.out]
  dsimp only
  rw [if_neg (by simp)]
  rfl
 obtain ⟨na,hna⟩ : ∃ na,a.length = na := ⟨_,rfl⟩
 obtain ⟨nb,hnb⟩ : ∃ nb,b.length = nb := ⟨_,rfl⟩
 have HZA : Hid ((zN a).length = na) := by show _ = _;rw [zN_len,hna]
 have HZB : Hid ((zN b).length = nb) := by show _ = _;rw [zN_len,hnb]
 rw [hna,hnb] at HT0
 rw [hna,hnb]
 obtain ⟨z1,hz1⟩ : ∃ z1,zN a = z1 := ⟨_,rfl⟩
 obtain ⟨z2,hz2⟩ : ∃ z2,zN b = z2 := ⟨_,rfl⟩
 rw [hz1,hz2] at HT0
 rw [hz1] at HZA HC2
 rw [hz2] at HZB HC3
 clear hna hnb hz1 hz2 HT HT1E HT2E
 by_cases h273 : na = 273
 rotate_left
 ·have HTQ : Hid (T = (3,[],0)) := by show _ = _;rw [HT0.out,if_pos (.inl h273)]
  have v1 : ((na : Int) != 273) = true := by simp;omega
  clear h273
  go_wp2
  refine bodyPost_ret (v := .agg #[.slice none 0 0,.int .i64 0,.int .i64 0,.int .i64 3]) ?_ rfl (RtQ.err HTQ.out (by decide) HRR.out HB3.out _ _ _ _)
  rw [results_cell1 rfl]
  go_simp
  try rfl
 subst h273
 by_cases h30 : nb = 30
 rotate_left
 ·have HTQ : Hid (T = (3,[],0)) := by show _ = _;rw [HT0.out,if_pos (.inr h30)]
  have v1 : ((nb : Int) != 30) = true := by simp;omega
  clear h30
  go_wp2
  refine bodyPost_ret (v := .agg #[.slice none 0 0,.int .i64 0,.int .i64 0,.int .i64 3]) ?_ rfl (RtQ.err HTQ.out (by decide) HRR.out HB3.out _ _ _ _)
  rw [results_cell1 rfl]
  go_simp
  try rfl
 subst h30
 have HRA := Lib.hid (ref8Right_any A2 273 c2 z1 w3.heap.size w3 HZA.out (by omega) HC2.out)
 have HRB := Lib.hid (ref8Right_any A3 30 c4 z2 w3.heap.size w3 HZB.out (by omega) HC3.out)
 cases hca : caR z1 with
 | false =>
  have HTQ : Hid (T = (13,[],0)) := by show _ = _;rw [HT0.out,if_neg (by omega),if_pos (.inl hca)]
  rw [hca] at HRA
  clear hca
  go_wp2_with (go_at_call 142;refine HRA.out.mono ?_;rintro e w' ⟨rfl,rfl⟩)
  refine bodyPost_ret (v := .agg #[.slice none 0 0,.int .i64 0,.int .i64 0,.int .i64 13]) ?_ rfl (RtQ.err HTQ.out (by decide) HRR.out HB3.out _ _ _ _)
  rw [results_cell1 rfl]
  go_simp
  try rfl
 | true =>
 cases hcb : caR z2 with
 | false =>
  have HTQ : Hid (T = (13,[],0)) := by show _ = _;rw [HT0.out,if_neg (by omega),if_pos (.inr hcb)]
  rw [hca] at HRA
  rw [hcb] at HRB
  clear hca hcb
  go_wp2_with (first
   | (go_at_call 142;refine HRA.out.mono ?_;clear HRA;rintro e w' ⟨rfl,rfl⟩)
   | (go_at_call 142;refine HRB.out.mono ?_;rintro e w' ⟨rfl,rfl⟩))
  refine bodyPost_ret (v := .agg #[.slice none 0 0,.int .i64 0,.int .i64 0,.int .i64 13]) ?_ rfl (RtQ.err HTQ.out (by decide) HRR.out HB3.out _ _ _ _)
  rw [results_cell1 rfl]
  go_simp
  try rfl
 | true =>
 have HTE : Hid (T = blkL F z1 z2 L most (lr + 1 - p2) [] 0 p2) := by show _ = _;rw [HT0.out,if_neg (by omega),if_neg (by rw [hca,hcb];simp),HLL.out]
 have HCRA := Lib.hid hca
 have HCRB := Lib.hid hcb
 rw [hca] at HRA
 rw [hcb] at HRB
 have HVA := Lib.hid (ref8Values_any A2 273 c2 z1 w3.heap.size w3 HZA.out (by omega) HC2.out (Nat.le_refl _))
 have HVB : Hid (∀ W,Below w3.heap.size w3 W → _) := fun W hW => ref8Values_any A3 30 c4 z2 w3.heap.size W HZB.out (by omega) (HC3.out.below hW (Nat.le_refl _)) hW.size
 clear hca hcb HT0 HRES
 have HRES3 : Hid (ResB w3 R) := (HBL3.out.block R (Nat.lt_succ_self _)).trans HR1.out
 go_wp2_with (first
  | (go_at_call 142;refine HRA.out.mono ?_;clear HRA;rintro e w' ⟨rfl,rfl⟩)
  | (go_at_call 142;refine HRB.out.mono ?_;rintro e w' ⟨rfl,rfl⟩)
  | (go_at_call 117;refine HVA.out.mono ?_;clear HVA;rintro e w4 ⟨rfl,hi4,hb4⟩;have HI4 := Lib.hid hi4;have HB4 := Lib.hid hb4;clear hi4 hb4)
  | (go_at_call 117;refine (HVB.out w4 HB4.out).mono ?_;rintro e w5 ⟨rfl,hi5,hb5⟩;have HI5 := Lib.hid hi5;have HB5 := Lib.hid hb5;clear hi5 hb5))
 have hs3 : R < w3.heap.size := (Array.getElem?_eq_some_iff.1 HRES3.out).1
 have hs4 : w3.heap.size < w4.heap.size := ib_lt HI4.out
 have hs5 : w4.heap.size < w5.heap.size := ib_lt HI5.out
 have HB35 : Hid (Below w3.heap.size w3 w5) := HB4.out.trans (HB5.out.mono (by omega))
 obtain ⟨G,hG⟩ : ∃ G,w5.heap.size = G := ⟨_,rfl⟩
 obtain ⟨gv1,hg1⟩ : ∃ g,w3.heap.size = g := ⟨_,rfl⟩
 obtain ⟨gv2,hg2⟩ : ∃ g,w4.heap.size = g := ⟨_,rfl⟩
 have HBW : Hid (∀ W,Below G w5 W → Below R w W) := fun W hW => HB3.out.trans ((HB35.out.mono (by omega)).trans (hW.mono (by omega)))
 have HRW : Hid (∀ W,Below G w5 W → ResB W R) := fun W hW => (hW.block R (by omega)).trans ((HB35.out.block R hs3).trans HRES3.out)
 have HK1 : Hid (∀ (W : World) (q : Nat),Below G w5 W → q ≤ lr → Calls Tryz.prog 143 #[.slice A2 273 c2,.slice (some ⟨gv1,0,none⟩) 273 273,.slice A lr c3,.int .i64 (q : Int),.int .i64 257] W fun e w' => ∃ (s b : Int) (x nx : Nat) (er : Int),e = .returned (.tuple #[agC s b (x : Int),.int .i64 (nx : Int),.int .i64 er]) ∧ ClsR F z1 257 L q lr s b x nx er ∧ Below W.heap.size W w') := fun W q hW hq => rclass13_any F hF A2 (some ⟨gv1,0,none⟩) A 273 c2 273 lr c3 257 z1 L q W HCRA.out HZA.out
  (((HC2.out.below HB35.out (Nat.le_refl _)).below hW (by omega)).more (by have := hW.size;omega))
  (by
   have h := ib_cells HI4.out hs4
   rw [hg1] at h
   exact ((h.below HB5.out (Nat.le_refl _)).below hW (by omega)).more (by have := hW.size;omega))
  HLL.out hlr hc (HBY.out W (HBW.out W hW)) hq (by omega)
 have HK2 : Hid (∀ (W : World) (q : Nat),Below G w5 W → q ≤ lr → Calls Tryz.prog 143 #[.slice A3 30 c4,.slice (some ⟨gv2,0,none⟩) 30 30,.slice A lr c3,.int .i64 (q : Int),.int .i64 0] W fun e w' => ∃ (s b : Int) (x nx : Nat) (er : Int),e = .returned (.tuple #[agC s b (x : Int),.int .i64 (nx : Int),.int .i64 er]) ∧ ClsR F z2 0 L q lr s b x nx er ∧ Below W.heap.size W w') := fun W q hW hq => rclass13_any F hF A3 (some ⟨gv2,0,none⟩) A 30 c4 30 lr c3 0 z2 L q W HCRB.out HZB.out
  (((HC3.out.below HB35.out (Nat.le_refl _)).below hW (by omega)).more (by have := hW.size;omega))
  (by
   have h := ib_cells HI5.out hs5
   rw [hg2] at h
   exact (h.below hW (by omega)).more (by have := hW.size;omega))
  HLL.out hlr hc (HBY.out W (HBW.out W hW)) hq (by omega)
 have hRG : R < G := by omega
 obtain ⟨W6,hW6⟩ : ∃ W6,w5.alloc (.cells #[.slice none 0 0,.int .i64 0,.int .i64 (p2 : Int),.int .i64 0] 150) = W6 := ⟨_,rfl⟩
 have HI6 : Hid (RTI w5 W6 G (.slice none 0 0) 0 p2 []) := by
  show RTI _ _ _ _ _ _ _
  rw [← hW6,← hG]
  exact ⟨heap_alloc_new w5 _,World.ownsRow_nil _ _ _ _,(Below.refl _ _).alloc (Nat.le_refl _) _⟩
 have HW6 := Lib.hid hW6
 have HLR : Hid (∀ (s b : Int) (x nx : Nat) (er : Int) (z : List Int) (zr q : Nat) (C : Int × (Nat × Nat × Nat) × Nat),clsF F z zr L q = C → ClsR F z zr L q lr s b x nx er → er = C.1 ∧ (er = 0 → s = (C.2.1.1 : Nat) ∧ b = (C.2.1.2.1 : Nat) ∧ C.2.1.2.2 = x ∧ nx = q + C.2.2 ∧ nx ≤ lr ∧ 1 ≤ C.2.2 ∧ C.2.1.1 < z.length ∧ C.2.1.2.1 ≤ 13 ∧ C.2.1.2.2 < 8192)) := fun s b x nx er z zr q C hC h => by unfold ClsR at h;rw [hC] at h;exact ⟨h.1,fun h0 => by obtain ⟨a1,a2,a3,a4⟩ := h.2 h0;exact ⟨a1,a2,a3.symm,a4⟩⟩
 have hp2' := hp2
 rw [hG,hg1,hg2,HW6.out]
 clear hW6 hs3 hs4 hs5 hG hg1 hg2 HB4 HB5 HI4 HI5 HB35 HC2 HC3 HRB HVB HRES3 HBL3 HBL2 HB3 HB2 HO2 HBY HB1 HR1 HZ1 HW1 HT1 HT2 r0 r1 r2 r3 f0 f1 f2 f3
 go_loopg [] (lr + 1 - p2) (fun gk wr => ∃ (ts : List Tk) (size pp : Nat) (A0 : Option Addr) (c0 : Nat),T = blkL F z1 z2 L most gk ts size pp ∧ pp ≤ lr ∧ lr + 1 ≤ pp + gk ∧ (size = 0 ∨ (size : Int) ≤ most) ∧ size = szs ts ∧ ts.length ≤ pp ∧ size ≤ 258 * ts.length ∧ RTI w5 wr G (.slice A0 ts.length c0) size pp ts)
 case atStart => exact ⟨[],0,p2,none,0,HTE.out,hp2',by omega,.inl rfl,rfl,Nat.zero_le _,Nat.zero_le _,HI6.out⟩
 case round =>
  obtain ⟨ts,size,pp,Av,cv,hte,hpp,hfu,hsm,hsz,hll,hsb,hrti⟩ := hrel
  obtain ⟨j,rfl⟩ : ∃ j,gk = j + 1 := ⟨gk - 1,by omega⟩
  have HTE2 := Lib.hid hte
  have HSZ := Lib.hid hsz
  have HI := Lib.hid hrti
  obtain ⟨ll,hlln⟩ : ∃ ll,ts.length = ll := ⟨_,rfl⟩
  have HLN := Lib.hid hlln
  rw [hlln] at hrti hll hsb
  obtain ⟨g0,g1,g2,g3,k0,k1,k2⟩ := rti_cells hrti
  have t13 : decide ((pp : Int) ≤ (lr : Int)) = true := decide_eq_true (by omega)
  have t13n : decide (pp ≤ lr) = true := decide_eq_true hpp
  have HCL := Lib.hid (HK1.out wr pp hrti.bel hpp)
  obtain ⟨⟨er1,⟨n1,b1,x1⟩,on1⟩,hc1⟩ : ∃ C,clsF F z1 257 L pp = C := ⟨_,rfl⟩
  have HC1 := Lib.hid hc1
  clear hte hsz hlln hrti hc1 HTE HI6
  go_wp2_with fail
  refine HCL.out.mono ?_
  rintro e w6 ⟨s,b,x,nx,er,rfl,hcl,hb6⟩
  obtain ⟨hcl1,hcl2⟩ := HLR.out _ _ _ _ _ _ _ _ _ HC1.out hcl
  dsimp only at hcl1 hcl2
  subst hcl1
  unfold agC
  have HI6 := Lib.hid (HI.out.below hb6)
  obtain ⟨W7,hW7⟩ : ∃ W7,w6.alloc (.cells #[.int .i64 s,.int .i64 b,.int .u32 (x : Int)] 181) = W7 := ⟨_,rfl⟩
  have HI7 : Hid (RTI w5 W7 G (.slice Av ts.length cv) size pp ts) := by show RTI _ _ _ _ _ _ _;rw [← hW7];exact HI6.out.below ((Below.refl _ w6).alloc (Nat.le_refl _) _)
  have hx7 : W7.heap[w6.heap.size]? = some (.cells #[.int .i64 s,.int .i64 b,.int .u32 (x : Int)] 181 (0,0)) := by rw [← hW7];exact heap_alloc_new w6 _
  have hG6 : G < w6.heap.size := HI6.out.lt
  have HW7 := Lib.hid hW7
  clear hW7 hb6 hcl g0 g1 g2 g3 k0 k1 k2
  go_upto_region 15 with fail
  rw [HW7.out]
  clear HW7
  by_cases her : er = 0
  rotate_left
  ·have HTQ : Hid (T = (er,[],0)) := by show _ = _;rw [HTE2.out,blkL,HC1.out];dsimp only;rw [if_pos her]
   have HNE := Lib.hid her
   have v1 : (er != 0) = true := by simpa using her
   obtain ⟨r0,r1,r2,r3,f0,f1,f2,f3⟩ := res_cells (HRW.out W7 HI7.out.bel)
   clear her hcl2 hx7
   go_wp2
   refine bodyPost_ret (v := .agg #[.slice none 0 0,.int .i64 0,.int .i64 0,.int .i64 er]) ?_ rfl (RtQ.err HTQ.out HNE.out HRR.out (HBW.out W7 HI7.out.bel) _ _ _ _)
   rw [results_cell1 rfl]
   go_simp
   try rfl
  subst her
  obtain ⟨rfl,rfl,rfl,rfl,hnx,hon,hn1,hb13,hx81⟩ := hcl2 rfl
  rw [HZA.out] at hn1
  obtain ⟨nx,hnxe⟩ : ∃ nx,pp + on1 = nx := ⟨_,rfl⟩
  rw [hnxe] at hnx
  rw [hnxe]
  have HNX := Lib.hid hnxe
  have HTL1 : Hid (T = if n1 = 256 then (0,ts,nx) else if 256 < n1 ∧ (clsF F z2 0 L nx).1 ≠ 0 then ((clsF F z2 0 L nx).1,[],0) else
   match (if 256 < n1 then joinR (n1 : Int) (b1 : Int) x1 ((clsF F z2 0 L nx).2.1.1 : Nat) ((clsF F z2 0 L nx).2.1.2.1 : Nat) (clsF F z2 0 L nx).2.1.2.2 true else joinR (n1 : Int) (b1 : Int) x1 0 0 0 false) with
   | none => (3,[],0)
   | some (y,l,d) =>
    if size < d then (3,[],0)
    else if most - (size : Int) < (max l 1 : Nat) then (5,[],0)
    else blkL F z1 z2 L most j (ts ++ [(UInt8.ofNat y,l,d)]) (size + max l 1) (nx + (if 256 < n1 then (clsF F z2 0 L nx).2.2 else 0))) := by
   show _ = _
   rw [HTE2.out,blkL,HC1.out]
   dsimp only
   rw [if_neg (by simp),HNX.out]
   rfl
  obtain ⟨F1,hF1⟩ : ∃ F1,w6.heap.size = F1 := ⟨_,rfl⟩
  rw [hF1] at hx7 hG6
  rw [hF1]
  obtain ⟨W8,hW8⟩ : ∃ W8,W7.setCell ⟨G,2,none⟩ (.int .i64 (nx : Int)) = W8 := ⟨_,rfl⟩
  have HI8 : Hid (RTI w5 W8 G (.slice Av ts.length cv) size nx ts) := by show RTI _ _ _ _ _ _ _;rw [← hW8];exact HI7.out.at_ nx
  have hx8 : W8.heap[F1]? = some (.cells #[.int .i64 (n1 : Int),.int .i64 (b1 : Int),.int .u32 (x1 : Int)] 181 (0,0)) := by rw [← hW8];exact (Below.heap_setCell _ _ _ _ (by show F1 ≠ G;omega)).trans hx7
  have HX8 := Lib.hid hx8
  have HW8 := Lib.hid hW8
  have hk2 := (rti_cells HI7.out).2.2.2.2.2.2
  have hg2' := (rti_cells HI7.out).2.2.1
  clear hW8 hx7 hF1 hnxe hcl2
  go_upto_region 18 with fail
  rw [HW8.out]
  obtain ⟨g0,g1,g2,g3,k0,k1,k2⟩ := rti_cells HI8.out
  have q0 : W8.cell? ⟨F1,0,none⟩ = some (.int .i64 (n1 : Int)) := cell_of_row _ _ 0 _ _ _ hx8
  obtain ⟨r0,r1,r2,r3,f0,f1,f2,f3⟩ := res_cells (HRW.out W8 HI8.out.bel)
  clear HW8 hk2 hg2' hx8
  by_cases h256 : n1 = 256
  ·have HTQ : Hid (T = (0,ts,nx)) := by show _ = _;rw [HTL1.out,if_pos h256]
   have u0 : ((n1 : Int) == 256) = true := by simp;omega
   have hle8 := HI8.out.lt
   clear h256
   go_wp2
   refine bodyPost_ret (v := .agg #[.slice Av ts.length cv,.int .i64 (size : Int),.int .i64 (nx : Int),.int .i64 0]) ?_ rfl ?_
   ·rw [results_cell1 rfl]
    go_simp
    try rfl
   ·rw [HTQ.out]
    exact ⟨Av,cv,size,nx,rfl,fun _ => ⟨HSZ.out,rfl,hnx⟩,own_leP (set4_row HI8.out.row (by omega) _ _ _ _) (by have := HRR.out;omega),by have h := set4_below (HBW.out W8 HI8.out.bel) (Nat.le_refl R) (.slice Av ts.length cv) (.int .i64 (size : Int)) (.int .i64 (nx : Int)) (.int .i64 0);have h2 := HRR.out;rw [h2];exact h⟩
  have u0 : ((n1 : Int) == 256) = false := by simp;omega
  obtain ⟨S1,hS1⟩ : ∃ S1,W8.heap.size = S1 := ⟨_,rfl⟩
  obtain ⟨W9,hW9⟩ : ∃ W9,W8.alloc (.cells #[.int .i64 0,.int .i64 0,.int .u32 0] 181) = W9 := ⟨_,rfl⟩
  have hb9 : Below W8.heap.size W8 W9 := by rw [← hW9];exact (Below.refl _ _).alloc (Nat.le_refl _) _
  have HI9 := Lib.hid (HI8.out.below hb9)
  have hx9 := (hb9.block _ (Array.getElem?_eq_some_iff.1 HX8.out).1).trans HX8.out
  have hF18 : F1 < S1 := by rw [← hS1];exact (Array.getElem?_eq_some_iff.1 HX8.out).1
  have hGS : G < S1 := by rw [← hS1];exact HI8.out.lt
  have hy9 : W9.heap[S1]? = some (.cells #[.int .i64 0,.int .i64 0,.int .u32 0] 181 (0,0)) := by rw [← hW9,← hS1];exact heap_alloc_new W8 _
  have HOWN : Hid (∀ k,ownS (.slice Av ts.length cv) k → k ≠ S1) := fun k hk => by have h := (HI8.out.row.lt k hk).2;omega
  have HW9 := Lib.hid hW9
  have HS1 := Lib.hid hS1
  clear hW9 hS1 hb9
  go_upto_region 21 with fail
  rw [HW9.out,HS1.out]
  clear HW9 HS1 q0 g0 g1 g2 g3 k0 k1 k2 r0 r1 r2 r3 f0 f1 f2 f3
  have q0 : W9.cell? ⟨F1,0,none⟩ = some (.int .i64 (n1 : Int)) := cell_of_row _ _ 0 _ _ _ hx9
  by_cases hm : 256 < n1
  ·have u1 : decide ((256 : Int) < (n1 : Int)) = true := decide_eq_true (by omega)
   have u1n : decide (256 < n1) = true := decide_eq_true hm
   have HX9 := Lib.hid hx9
   have HY9 := Lib.hid hy9
   have HCL := Lib.hid (HK2.out W9 nx HI9.out.bel hnx)
   obtain ⟨⟨er2,⟨n2,b2,x2⟩,on2⟩,hc2⟩ : ∃ C,clsF F z2 0 L nx = C := ⟨_,rfl⟩
   have HC2 := Lib.hid hc2
   have g2 : W9.cell? ⟨G,2,none⟩ = some (.int .i64 (nx : Int)) := (rti_cells HI9.out).2.2.1
   rw [hc2] at HTL1
   dsimp only at HTL1
   clear hc2 hx9 hy9
   go_wp2_with fail
   refine HCL.out.mono ?_
   rintro e w10 ⟨s,b,x,nx2,er,rfl,hcl,hb10⟩
   obtain ⟨hcl1,hcl2⟩ := HLR.out _ _ _ _ _ _ _ _ _ HC2.out hcl
   dsimp only at hcl1 hcl2
   subst hcl1
   unfold agC
   have HI10 := Lib.hid (HI9.out.below hb10)
   have hx10 := (hb10.block _ (Array.getElem?_eq_some_iff.1 HX9.out).1).trans HX9.out
   have hy10 := (hb10.block _ (Array.getElem?_eq_some_iff.1 HY9.out).1).trans HY9.out
   have i0 : w10.cell? ⟨S1,0,none⟩ = some (.int .i64 0) := cell_of_row _ _ 0 _ _ _ hy10
   have i1 : w10.cell? ⟨S1,1,none⟩ = some (.int .i64 0) := cell_of_row _ _ 1 _ _ _ hy10
   have i2 : w10.cell? ⟨S1,2,none⟩ = some (.int .u32 0) := cell_of_row _ _ 2 _ _ _ hy10
   have z0 : w10.frozen? ⟨S1,0,none⟩ = false := frozen_of_row _ _ 0 _ _ hy10
   have z1' : w10.frozen? ⟨S1,1,none⟩ = false := frozen_of_row _ _ 1 _ _ hy10
   have z2' : w10.frozen? ⟨S1,2,none⟩ = false := frozen_of_row _ _ 2 _ _ hy10
   obtain ⟨W11,hW11⟩ : ∃ W11,(((w10.setCell ⟨S1,0,none⟩ (.int .i64 s)).setCell ⟨S1,1,none⟩ (.int .i64 b)).setCell ⟨S1,2,none⟩ (.int .u32 (x : Int))) = W11 := ⟨_,rfl⟩
   have HI11 : Hid (RTI w5 W11 G (.slice Av ts.length cv) size nx ts) := by show RTI _ _ _ _ _ _ _;rw [← hW11];exact HI10.out.set3 hGS HOWN.out _ _ _
   have hx11 : W11.heap[F1]? = some (.cells #[.int .i64 (n1 : Int),.int .i64 (b1 : Int),.int .u32 (x1 : Int)] 181 (0,0)) := by rw [← hW11];exact (set3_mod w10 S1 0 1 2 _ _ _).keep hx10 (fun h => by have h2 : F1 = S1 := h;omega)
   have hy11 : W11.heap[S1]? = some (.cells #[.int .i64 s,.int .i64 b,.int .u32 (x : Int)] 181 (0,0)) := by rw [← hW11];exact row3_set hy10 _ _ _
   have HW11 := Lib.hid hW11
   clear hW11 hb10 hcl hx10 hy10 g2 q0
   go_upto_region 23 with fail
   rw [HW11.out]
   clear HW11 i0 i1 i2 z0 z1' z2'
   by_cases her : er = 0
   rotate_left
   ·have HTQ : Hid (T = (er,[],0)) := by show _ = _;rw [HTL1.out,if_neg h256,if_pos ⟨hm,her⟩]
    have HNE := Lib.hid her
    have v1 : (er != 0) = true := by simpa using her
    obtain ⟨r0,r1,r2,r3,f0,f1,f2,f3⟩ := res_cells (HRW.out W11 HI11.out.bel)
    clear her hcl2 hx11 hy11 h256 hm
    go_wp2
    refine bodyPost_ret (v := .agg #[.slice none 0 0,.int .i64 0,.int .i64 0,.int .i64 er]) ?_ rfl (RtQ.err HTQ.out HNE.out HRR.out (HBW.out W11 HI11.out.bel) _ _ _ _)
    rw [results_cell1 rfl]
    go_simp
    try rfl
   subst her
   obtain ⟨rfl,rfl,rfl,rfl,hnx2,hon2,hn2,hb132,hx812⟩ := hcl2 rfl
   rw [HZB.out] at hn2
   obtain ⟨nx2,hnxe2⟩ : ∃ nx2,nx + on2 = nx2 := ⟨_,rfl⟩
   rw [hnxe2] at hnx2
   rw [hnxe2]
   have HNX2 := Lib.hid hnxe2
   obtain ⟨W12,hW12⟩ : ∃ W12,W11.setCell ⟨G,2,none⟩ (.int .i64 (nx2 : Int)) = W12 := ⟨_,rfl⟩
   have HI12 : Hid (RTI w5 W12 G (.slice Av ts.length cv) size nx2 ts) := by show RTI _ _ _ _ _ _ _;rw [← hW12];exact HI11.out.at_ nx2
   have hx12 : W12.heap[F1]? = some (.cells #[.int .i64 (n1 : Int),.int .i64 (b1 : Int),.int .u32 (x1 : Int)] 181 (0,0)) := by rw [← hW12];exact (Below.heap_setCell _ _ _ _ (by show F1 ≠ G;omega)).trans hx11
   have hy12 : W12.heap[S1]? = some (.cells #[.int .i64 (n2 : Int),.int .i64 (b2 : Int),.int .u32 (x2 : Int)] 181 (0,0)) := by rw [← hW12];exact (Below.heap_setCell _ _ _ _ (by show S1 ≠ G;omega)).trans hy11
   have HW12 := Lib.hid hW12
   have hk2 := (rti_cells HI11.out).2.2.2.2.2.2
   have hg2' := (rti_cells HI11.out).2.2.1
   clear hW12 hx11 hy11 hnxe2 hcl2
   go_upto_region 26 with fail
   rw [HW12.out]
   clear HW12 hk2 hg2'
   have q0 : W12.cell? ⟨F1,0,none⟩ = some (.int .i64 (n1 : Int)) := cell_of_row _ _ 0 _ _ _ hx12
   have q1 : W12.cell? ⟨F1,1,none⟩ = some (.int .i64 (b1 : Int)) := cell_of_row _ _ 1 _ _ _ hx12
   have q2 : W12.cell? ⟨F1,2,none⟩ = some (.int .u32 (x1 : Int)) := cell_of_row _ _ 2 _ _ _ hx12
   have s0 : W12.cell? ⟨S1,0,none⟩ = some (.int .i64 (n2 : Int)) := cell_of_row _ _ 0 _ _ _ hy12
   have s1 : W12.cell? ⟨S1,1,none⟩ = some (.int .i64 (b2 : Int)) := cell_of_row _ _ 1 _ _ _ hy12
   have s2 : W12.cell? ⟨S1,2,none⟩ = some (.int .u32 (x2 : Int)) := cell_of_row _ _ 2 _ _ _ hy12
   have HTL : Hid (T = match joinR (n1 : Int) (b1 : Int) x1 (n2 : Int) (b2 : Int) x2 true with
    | none => (3,[],0)
    | some (y,l,d) =>
     if size < d then (3,[],0)
     else if most - (size : Int) < (max l 1 : Nat) then (5,[],0)
     else blkL F z1 z2 L most j (ts ++ [(UInt8.ofNat y,l,d)]) (size + max l 1) nx2) := by
    show _ = _
    rw [HTL1.out,if_neg h256,if_neg (by simp),if_pos hm,if_pos hm,HNX2.out]
   have hpr : ll + 1 ≤ nx2 := by have := HNX.out;have := HNX2.out;omega
   have hfu2 : lr + 1 ≤ nx2 + j := by have := HNX.out;have := HNX2.out;omega
   clear hx12 hy12 h256 hm
   have HJ := Lib.hid (rjoin_all (n1 := (n1 : Int)) (b1 := (b1 : Int)) (x1 := x1) (n2 := (n2 : Int)) (b2 := (b2 : Int)) (x2 := x2) true W12 (by omega) (by omega))
   obtain ⟨J,hJ⟩ : ∃ J,joinR (n1 : Int) (b1 : Int) x1 (n2 : Int) (b2 : Int) x2 true = J := ⟨_,rfl⟩
   rw [hJ] at HJ HTL
   have HJB := Lib.hid (joinR_bd hJ)
   unfold agC at HJ
   clear hJ
   cases J with
   | none =>
    unfold joinV agT at HJ
    go_upto_region 27 with (go_at_call 144;refine HJ.out.mono ?_;rintro e w20 ⟨rfl,hb20⟩;obtain ⟨W21,hW21⟩ : ∃ W21,w20.alloc (.cells #[.int .u8 0,.int .i64 0,.int .i64 0] 164) = W21 := ⟨_,rfl⟩;have HI21 : Hid (RTI w5 W21 G (.slice Av ts.length cv) size nx2 ts) := (by rw [← hW21];exact (HI12.out.below hb20).below ((Below.refl _ w20).alloc (Nat.le_refl _) _));have HW21 := Lib.hid hW21;clear hW21 hb20)
    rw [HW21.out]
    have HTQ : Hid (T = (3,[],0)) := HTL.out
    obtain ⟨r0,r1,r2,r3,f0,f1,f2,f3⟩ := res_cells (HRW.out W21 HI21.out.bel)
    clear HW21
    go_wp2
    refine bodyPost_ret (v := .agg #[.slice none 0 0,.int .i64 0,.int .i64 0,.int .i64 3]) ?_ rfl (RtQ.err HTQ.out (by decide) HRR.out (HBW.out W21 HI21.out.bel) _ _ _ _)
    rw [results_cell1 rfl]
    go_simp
    try rfl
   | some q =>
    obtain ⟨y,l,d⟩ := q
    unfold joinV agT at HJ
    dsimp only at HTL
    obtain ⟨hy256,hl258,hd⟩ := HJB.out y l d rfl
    have HYY : Hid ((UInt8.ofNat y).toNat = y) := by show _ = _;simp;omega
    go_upto_region 27 with (go_at_call 144;refine HJ.out.mono ?_;rintro e w20 ⟨rfl,hb20⟩;obtain ⟨W21,hW21⟩ : ∃ W21,w20.alloc (.cells #[.int .u8 (y : Int),.int .i64 (l : Int),.int .i64 (d : Int)] 164) = W21 := ⟨_,rfl⟩;have HI21 : Hid (RTI w5 W21 G (.slice Av ts.length cv) size nx2 ts) := (by rw [← hW21];exact (HI12.out.below hb20).below ((Below.refl _ w20).alloc (Nat.le_refl _) _));have hx21 : W21.heap[w20.heap.size]? = some (.cells #[.int .u8 (y : Int),.int .i64 (l : Int),.int .i64 (d : Int)] 164 (0,0)) := (by rw [← hW21];exact heap_alloc_new w20 _);have HW21 := Lib.hid hW21;clear hW21 hb20)
    rw [HW21.out]
    clear HW21 q0 q1 q2 s0 s1 s2
    obtain ⟨r0,r1,r2,r3,f0,f1,f2,f3⟩ := res_cells (HRW.out W21 HI21.out.bel)
    have hrt := HI21.out
    have HLN' := HLN.out
    obtain ⟨g0,g1,g2,g3,k0,k1,k2⟩ := rti_cells hrt
    rw [HLN'] at g0
    have p0 : W21.cell? ⟨w20.heap.size,0,none⟩ = some (.int .u8 (y : Int)) := cell_of_row _ _ 0 _ _ _ hx21
    have p1 : W21.cell? ⟨w20.heap.size,1,none⟩ = some (.int .i64 (l : Int)) := cell_of_row _ _ 1 _ _ _ hx21
    have p2' : W21.cell? ⟨w20.heap.size,2,none⟩ = some (.int .i64 (d : Int)) := cell_of_row _ _ 2 _ _ _ hx21
    clear hrt hx21 HLN'
    by_cases hdd : size < d
    ·have HTQ : Hid (T = (3,[],0)) := by show _ = _;rw [HTL.out,if_pos hdd]
     have u2 : decide ((size : Int) < (d : Int)) = true := decide_eq_true (by omega)
     have u2n : decide (size < d) = true := decide_eq_true hdd
     clear hdd
     go_wp2
     refine bodyPost_ret (v := .agg #[.slice none 0 0,.int .i64 0,.int .i64 0,.int .i64 3]) ?_ rfl (RtQ.err HTQ.out (by decide) HRR.out (HBW.out W21 HI21.out.bel) _ _ _ _)
     rw [results_cell1 rfl]
     go_simp
     try rfl
    rw [if_neg hdd] at HTL
    have u2 : decide ((size : Int) < (d : Int)) = false := decide_eq_false (by omega)
    have u2n : decide (size < d) = false := decide_eq_false hdd
    clear hdd
    by_cases hl0 : l = 0
    ·have u3 : ((l : Int) == 0) = true := by simp;omega
     have hmx : max l 1 = 1 := by omega
     rw [hmx] at HTL
     have HL0 := Lib.hid hl0
     clear hl0 hmx
     by_cases hbm : most < (size : Int)
     ·have HTQ : Hid (T = (5,[],0)) := by show _ = _;rw [HTL.out,if_pos (by omega)]
      have u4 : decide (most < (size : Int)) = true := decide_eq_true hbm
      clear hbm
      go_wp2
      refine bodyPost_ret (v := .agg #[.slice none 0 0,.int .i64 0,.int .i64 0,.int .i64 5]) ?_ rfl (RtQ.err HTQ.out (by decide) HRR.out (HBW.out W21 HI21.out.bel) _ _ _ _)
      rw [results_cell1 rfl]
      go_simp
      try rfl
     have u4 : decide (most < (size : Int)) = false := decide_eq_false hbm
     have hwr : IntKind.i64.wrap (most - (size : Int)) = most - (size : Int) := IntWalk.i64_in _ (by omega)
     by_cases hbig : most - (size : Int) < 1
     ·have HTQ : Hid (T = (5,[],0)) := by show _ = _;rw [HTL.out,if_pos (by first | exact hbig | omega)]
      have u5 : decide (most - (size : Int) < 1) = true := decide_eq_true hbig
      clear hbm hbig
      go_wp2
      refine bodyPost_ret (v := .agg #[.slice none 0 0,.int .i64 0,.int .i64 0,.int .i64 5]) ?_ rfl (RtQ.err HTQ.out (by decide) HRR.out (HBW.out W21 HI21.out.bel) _ _ _ _)
      rw [results_cell1 rfl]
      go_simp
      try rfl
     ·have HTQ : Hid (T = blkL F z1 z2 L most j (ts ++ [(UInt8.ofNat y,l,d)]) (size + 1) nx2) := by show _ = _;rw [HTL.out,if_neg (by first | exact hbig | omega)]
      have u5 : decide (most - (size : Int) < 1) = false := decide_eq_false hbig
      have hsm2 : ((size + 1 : Nat) : Int) ≤ most := by omega
      have HFM : Hid ((ts ++ [(UInt8.ofNat y,l,d)]).flatMap tcC = ts.flatMap tcC ++ [.int .u8 (y : Int),.int .i64 (l : Int),.int .i64 (d : Int)]) := by show _ = _;rw [List.flatMap_append];simp only [List.flatMap_cons,List.flatMap_nil,List.append_nil,tcC,HYY.out]
      have HFL : Hid ((ts ++ [(UInt8.ofNat y,l,d)]).length = ll + 1) := by show _ = _;rw [List.length_append,HLN.out];rfl
      have HSZ2 : Hid (size + 1 = szs (ts ++ [(UInt8.ofNat y,l,d)])) := by show _ = _;rw [szs_snoc,← HSZ.out];congr 1;have := HL0.out;show _ = max l 1;omega
      have hll6 : ll ≤ 1000000 := by omega
      have HROW : Hid (W21.ownsRow (G + 1) 164 3 (.slice Av ll cv) ll (ts.flatMap tcC)) := by have h := HI21.out.row;rw [HLN.out] at h;exact h
      have hG21 := HI21.out.lt
      clear hbm hbig
      go_wp2_with (at_builtin;refine wpList_app (W21.alloc (.cells #[.int .u8 (y : Int),.int .i64 (l : Int),.int .i64 (d : Int)] 164)) tcElem rfl (.tmp 149) (.tmp 151) rfl (G + 1) (.slice Av ll cv) ll (ts.flatMap tcC) rfl (HROW.out.alloc _) (W21.heap.size + 1) (some ⟨W21.heap.size,0,none⟩) 1 1 [.int .u8 (y : Int),.int .i64 (l : Int),.int .i64 (d : Int)] rfl rfl (cells3_one W21 _ _ _ _) (by simp [Value.oneCell']) (by unfold maxLen;omega) (by omega) (by simp;omega) ?_;intro A7 c7 w22 hA;have HA7 := Lib.hid hA;have hbx := (Mod.of_app hA).keep ((HI21.out.below ((Below.refl _ W21).alloc (Nat.le_refl _) (.cells #[.int .u8 (y : Int),.int .i64 (l : Int),.int .i64 (d : Int)] 164))).box) (fun hk => by have := own_base HROW.out _ hk;omega);have g0' : w22.cell? ⟨G,0,none⟩ = some (.slice Av ts.length cv) := cell_of_row _ _ 0 _ _ _ hbx;have g1' : w22.cell? ⟨G,1,none⟩ = some (.int .i64 (size : Int)) := cell_of_row _ _ 1 _ _ _ hbx;have k0' : w22.frozen? ⟨G,0,none⟩ = false := frozen_of_row _ _ 0 _ _ hbx;have k1' : w22.frozen? ⟨G,1,none⟩ = false := frozen_of_row _ _ 1 _ _ hbx;clear hA hbx)
      have HI22 := Lib.hid ((HI21.out.below ((Below.refl _ W21).alloc (Nat.le_refl _) (.cells #[.int .u8 (y : Int),.int .i64 (l : Int),.int .i64 (d : Int)] 164))).more (ts' := ts ++ [(UInt8.ofNat y,l,d)]) (by rw [HLN.out];exact HA7.out) HFL.out.symm HFM.out.symm (size + 1))
      go_roundg j
      case measure => omega
      case rel =>
       refine ⟨ts ++ [(UInt8.ofNat y,l,d)],size + 1,nx2,A7,c7,HTQ.out,hnx2,hfu2,.inr hsm2,HSZ2.out,by rw [HFL.out];exact hpr,by rw [HFL.out];omega,?_⟩
       have h := HI22.out
       rw [HFL.out]
       push_cast at h
       exact h
    ·have u3 : ((l : Int) == 0) = false := by simp;omega
     have hmx : max l 1 = l := by omega
     rw [hmx] at HTL
     clear hmx
     by_cases hbm : most < (size : Int)
     ·have HTQ : Hid (T = (5,[],0)) := by show _ = _;rw [HTL.out,if_pos (by omega)]
      have u4 : decide (most < (size : Int)) = true := decide_eq_true hbm
      clear hbm
      go_wp2
      refine bodyPost_ret (v := .agg #[.slice none 0 0,.int .i64 0,.int .i64 0,.int .i64 5]) ?_ rfl (RtQ.err HTQ.out (by decide) HRR.out (HBW.out W21 HI21.out.bel) _ _ _ _)
      rw [results_cell1 rfl]
      go_simp
      try rfl
     have u4 : decide (most < (size : Int)) = false := decide_eq_false hbm
     have hwr : IntKind.i64.wrap (most - (size : Int)) = most - (size : Int) := IntWalk.i64_in _ (by omega)
     by_cases hbig : most - (size : Int) < (l : Int)
     ·have HTQ : Hid (T = (5,[],0)) := by show _ = _;rw [HTL.out,if_pos (by first | exact hbig | omega)]
      have u5 : decide (most - (size : Int) < (l : Int)) = true := decide_eq_true hbig
      clear hbm hbig
      go_wp2
      refine bodyPost_ret (v := .agg #[.slice none 0 0,.int .i64 0,.int .i64 0,.int .i64 5]) ?_ rfl (RtQ.err HTQ.out (by decide) HRR.out (HBW.out W21 HI21.out.bel) _ _ _ _)
      rw [results_cell1 rfl]
      go_simp
      try rfl
     ·have HTQ : Hid (T = blkL F z1 z2 L most j (ts ++ [(UInt8.ofNat y,l,d)]) (size + l) nx2) := by show _ = _;rw [HTL.out,if_neg (by first | exact hbig | omega)]
      have u5 : decide (most - (size : Int) < (l : Int)) = false := decide_eq_false hbig
      have hsm2 : ((size + l : Nat) : Int) ≤ most := by omega
      have HFM : Hid ((ts ++ [(UInt8.ofNat y,l,d)]).flatMap tcC = ts.flatMap tcC ++ [.int .u8 (y : Int),.int .i64 (l : Int),.int .i64 (d : Int)]) := by show _ = _;rw [List.flatMap_append];simp only [List.flatMap_cons,List.flatMap_nil,List.append_nil,tcC,HYY.out]
      have HFL : Hid ((ts ++ [(UInt8.ofNat y,l,d)]).length = ll + 1) := by show _ = _;rw [List.length_append,HLN.out];rfl
      have HSZ2 : Hid (size + l = szs (ts ++ [(UInt8.ofNat y,l,d)])) := by show _ = _;rw [szs_snoc,← HSZ.out];congr 1;show _ = max l 1;omega
      have hll6 : ll ≤ 1000000 := by omega
      have HROW : Hid (W21.ownsRow (G + 1) 164 3 (.slice Av ll cv) ll (ts.flatMap tcC)) := by have h := HI21.out.row;rw [HLN.out] at h;exact h
      have hG21 := HI21.out.lt
      clear hbm hbig
      go_wp2_with (at_builtin;refine wpList_app (W21.alloc (.cells #[.int .u8 (y : Int),.int .i64 (l : Int),.int .i64 (d : Int)] 164)) tcElem rfl (.tmp 149) (.tmp 151) rfl (G + 1) (.slice Av ll cv) ll (ts.flatMap tcC) rfl (HROW.out.alloc _) (W21.heap.size + 1) (some ⟨W21.heap.size,0,none⟩) 1 1 [.int .u8 (y : Int),.int .i64 (l : Int),.int .i64 (d : Int)] rfl rfl (cells3_one W21 _ _ _ _) (by simp [Value.oneCell']) (by unfold maxLen;omega) (by omega) (by simp;omega) ?_;intro A7 c7 w22 hA;have HA7 := Lib.hid hA;have hbx := (Mod.of_app hA).keep ((HI21.out.below ((Below.refl _ W21).alloc (Nat.le_refl _) (.cells #[.int .u8 (y : Int),.int .i64 (l : Int),.int .i64 (d : Int)] 164))).box) (fun hk => by have := own_base HROW.out _ hk;omega);have g0' : w22.cell? ⟨G,0,none⟩ = some (.slice Av ts.length cv) := cell_of_row _ _ 0 _ _ _ hbx;have g1' : w22.cell? ⟨G,1,none⟩ = some (.int .i64 (size : Int)) := cell_of_row _ _ 1 _ _ _ hbx;have k0' : w22.frozen? ⟨G,0,none⟩ = false := frozen_of_row _ _ 0 _ _ hbx;have k1' : w22.frozen? ⟨G,1,none⟩ = false := frozen_of_row _ _ 1 _ _ hbx;clear hA hbx)
      have HI22 := Lib.hid ((HI21.out.below ((Below.refl _ W21).alloc (Nat.le_refl _) (.cells #[.int .u8 (y : Int),.int .i64 (l : Int),.int .i64 (d : Int)] 164))).more (ts' := ts ++ [(UInt8.ofNat y,l,d)]) (by rw [HLN.out];exact HA7.out) HFL.out.symm HFM.out.symm (size + l))
      go_roundg j
      case measure => omega
      case rel =>
       refine ⟨ts ++ [(UInt8.ofNat y,l,d)],size + l,nx2,A7,c7,HTQ.out,hnx2,hfu2,.inr hsm2,HSZ2.out,by rw [HFL.out];exact hpr,by rw [HFL.out];omega,?_⟩
       have h := HI22.out
       rw [HFL.out]
       push_cast at h
       exact h
  ·have u1 : decide ((256 : Int) < (n1 : Int)) = false := decide_eq_false (by omega)
   have u1n : decide (256 < n1) = false := decide_eq_false hm
   have q1 : W9.cell? ⟨F1,1,none⟩ = some (.int .i64 (b1 : Int)) := cell_of_row _ _ 1 _ _ _ hx9
   have q2 : W9.cell? ⟨F1,2,none⟩ = some (.int .u32 (x1 : Int)) := cell_of_row _ _ 2 _ _ _ hx9
   have s0 : W9.cell? ⟨S1,0,none⟩ = some (.int .i64 0) := cell_of_row _ _ 0 _ _ _ hy9
   have s1 : W9.cell? ⟨S1,1,none⟩ = some (.int .i64 0) := cell_of_row _ _ 1 _ _ _ hy9
   have s2 : W9.cell? ⟨S1,2,none⟩ = some (.int .u32 0) := cell_of_row _ _ 2 _ _ _ hy9
   have HTL : Hid (T = match joinR (n1 : Int) (b1 : Int) x1 0 0 0 false with
    | none => (3,[],0)
    | some (y,l,d) =>
     if size < d then (3,[],0)
     else if most - (size : Int) < (max l 1 : Nat) then (5,[],0)
     else blkL F z1 z2 L most j (ts ++ [(UInt8.ofNat y,l,d)]) (size + max l 1) nx) := by
    show _ = _
    rw [HTL1.out,if_neg h256,if_neg (fun h => hm h.1),if_neg hm,if_neg hm,Nat.add_zero]
   have hpr : ll + 1 ≤ nx := by have := HNX.out;omega
   have hfu2 : lr + 1 ≤ nx + j := by have := HNX.out;omega
   clear hx9 hy9 h256 hm
   have HJ := Lib.hid (rjoin_all (n1 := (n1 : Int)) (b1 := (b1 : Int)) (x1 := x1) (n2 := 0) (b2 := 0) (x2 := 0) false W9 (by omega) (by omega))
   obtain ⟨J,hJ⟩ : ∃ J,joinR (n1 : Int) (b1 : Int) x1 0 0 0 false = J := ⟨_,rfl⟩
   rw [hJ] at HJ HTL
   have HJB := Lib.hid (joinR_bd hJ)
   unfold agC at HJ
   clear hJ
   cases J with
   | none =>
    unfold joinV agT at HJ
    go_upto_region 27 with (go_at_call 144;refine HJ.out.mono ?_;rintro e w20 ⟨rfl,hb20⟩;obtain ⟨W21,hW21⟩ : ∃ W21,w20.alloc (.cells #[.int .u8 0,.int .i64 0,.int .i64 0] 164) = W21 := ⟨_,rfl⟩;have HI21 : Hid (RTI w5 W21 G (.slice Av ts.length cv) size nx ts) := (by rw [← hW21];exact (HI9.out.below hb20).below ((Below.refl _ w20).alloc (Nat.le_refl _) _));have HW21 := Lib.hid hW21;clear hW21 hb20)
    rw [HW21.out]
    have HTQ : Hid (T = (3,[],0)) := HTL.out
    obtain ⟨r0,r1,r2,r3,f0,f1,f2,f3⟩ := res_cells (HRW.out W21 HI21.out.bel)
    clear HW21
    go_wp2
    refine bodyPost_ret (v := .agg #[.slice none 0 0,.int .i64 0,.int .i64 0,.int .i64 3]) ?_ rfl (RtQ.err HTQ.out (by decide) HRR.out (HBW.out W21 HI21.out.bel) _ _ _ _)
    rw [results_cell1 rfl]
    go_simp
    try rfl
   | some q =>
    obtain ⟨y,l,d⟩ := q
    unfold joinV agT at HJ
    dsimp only at HTL
    obtain ⟨hy256,hl258,hd⟩ := HJB.out y l d rfl
    have HYY : Hid ((UInt8.ofNat y).toNat = y) := by show _ = _;simp;omega
    go_upto_region 27 with (go_at_call 144;refine HJ.out.mono ?_;rintro e w20 ⟨rfl,hb20⟩;obtain ⟨W21,hW21⟩ : ∃ W21,w20.alloc (.cells #[.int .u8 (y : Int),.int .i64 (l : Int),.int .i64 (d : Int)] 164) = W21 := ⟨_,rfl⟩;have HI21 : Hid (RTI w5 W21 G (.slice Av ts.length cv) size nx ts) := (by rw [← hW21];exact (HI9.out.below hb20).below ((Below.refl _ w20).alloc (Nat.le_refl _) _));have hx21 : W21.heap[w20.heap.size]? = some (.cells #[.int .u8 (y : Int),.int .i64 (l : Int),.int .i64 (d : Int)] 164 (0,0)) := (by rw [← hW21];exact heap_alloc_new w20 _);have HW21 := Lib.hid hW21;clear hW21 hb20)
    rw [HW21.out]
    clear HW21 q0 q1 q2 s0 s1 s2
    obtain ⟨r0,r1,r2,r3,f0,f1,f2,f3⟩ := res_cells (HRW.out W21 HI21.out.bel)
    have hrt := HI21.out
    have HLN' := HLN.out
    obtain ⟨g0,g1,g2,g3,k0,k1,k2⟩ := rti_cells hrt
    rw [HLN'] at g0
    have p0 : W21.cell? ⟨w20.heap.size,0,none⟩ = some (.int .u8 (y : Int)) := cell_of_row _ _ 0 _ _ _ hx21
    have p1 : W21.cell? ⟨w20.heap.size,1,none⟩ = some (.int .i64 (l : Int)) := cell_of_row _ _ 1 _ _ _ hx21
    have p2' : W21.cell? ⟨w20.heap.size,2,none⟩ = some (.int .i64 (d : Int)) := cell_of_row _ _ 2 _ _ _ hx21
    clear hrt hx21 HLN'
    by_cases hdd : size < d
    ·have HTQ : Hid (T = (3,[],0)) := by show _ = _;rw [HTL.out,if_pos hdd]
     have u2 : decide ((size : Int) < (d : Int)) = true := decide_eq_true (by omega)
     have u2n : decide (size < d) = true := decide_eq_true hdd
     clear hdd
     go_wp2
     refine bodyPost_ret (v := .agg #[.slice none 0 0,.int .i64 0,.int .i64 0,.int .i64 3]) ?_ rfl (RtQ.err HTQ.out (by decide) HRR.out (HBW.out W21 HI21.out.bel) _ _ _ _)
     rw [results_cell1 rfl]
     go_simp
     try rfl
    rw [if_neg hdd] at HTL
    have u2 : decide ((size : Int) < (d : Int)) = false := decide_eq_false (by omega)
    have u2n : decide (size < d) = false := decide_eq_false hdd
    clear hdd
    by_cases hl0 : l = 0
    ·have u3 : ((l : Int) == 0) = true := by simp;omega
     have hmx : max l 1 = 1 := by omega
     rw [hmx] at HTL
     have HL0 := Lib.hid hl0
     clear hl0 hmx
     by_cases hbm : most < (size : Int)
     ·have HTQ : Hid (T = (5,[],0)) := by show _ = _;rw [HTL.out,if_pos (by omega)]
      have u4 : decide (most < (size : Int)) = true := decide_eq_true hbm
      clear hbm
      go_wp2
      refine bodyPost_ret (v := .agg #[.slice none 0 0,.int .i64 0,.int .i64 0,.int .i64 5]) ?_ rfl (RtQ.err HTQ.out (by decide) HRR.out (HBW.out W21 HI21.out.bel) _ _ _ _)
      rw [results_cell1 rfl]
      go_simp
      try rfl
     have u4 : decide (most < (size : Int)) = false := decide_eq_false hbm
     have hwr : IntKind.i64.wrap (most - (size : Int)) = most - (size : Int) := IntWalk.i64_in _ (by omega)
     by_cases hbig : most - (size : Int) < 1
     ·have HTQ : Hid (T = (5,[],0)) := by show _ = _;rw [HTL.out,if_pos (by first | exact hbig | omega)]
      have u5 : decide (most - (size : Int) < 1) = true := decide_eq_true hbig
      clear hbm hbig
      go_wp2
      refine bodyPost_ret (v := .agg #[.slice none 0 0,.int .i64 0,.int .i64 0,.int .i64 5]) ?_ rfl (RtQ.err HTQ.out (by decide) HRR.out (HBW.out W21 HI21.out.bel) _ _ _ _)
      rw [results_cell1 rfl]
      go_simp
      try rfl
     ·have HTQ : Hid (T = blkL F z1 z2 L most j (ts ++ [(UInt8.ofNat y,l,d)]) (size + 1) nx) := by show _ = _;rw [HTL.out,if_neg (by first | exact hbig | omega)]
      have u5 : decide (most - (size : Int) < 1) = false := decide_eq_false hbig
      have hsm2 : ((size + 1 : Nat) : Int) ≤ most := by omega
      have HFM : Hid ((ts ++ [(UInt8.ofNat y,l,d)]).flatMap tcC = ts.flatMap tcC ++ [.int .u8 (y : Int),.int .i64 (l : Int),.int .i64 (d : Int)]) := by show _ = _;rw [List.flatMap_append];simp only [List.flatMap_cons,List.flatMap_nil,List.append_nil,tcC,HYY.out]
      have HFL : Hid ((ts ++ [(UInt8.ofNat y,l,d)]).length = ll + 1) := by show _ = _;rw [List.length_append,HLN.out];rfl
      have HSZ2 : Hid (size + 1 = szs (ts ++ [(UInt8.ofNat y,l,d)])) := by show _ = _;rw [szs_snoc,← HSZ.out];congr 1;have := HL0.out;show _ = max l 1;omega
      have hll6 : ll ≤ 1000000 := by omega
      have HROW : Hid (W21.ownsRow (G + 1) 164 3 (.slice Av ll cv) ll (ts.flatMap tcC)) := by have h := HI21.out.row;rw [HLN.out] at h;exact h
      have hG21 := HI21.out.lt
      clear hbm hbig
      go_wp2_with (at_builtin;refine wpList_app (W21.alloc (.cells #[.int .u8 (y : Int),.int .i64 (l : Int),.int .i64 (d : Int)] 164)) tcElem rfl (.tmp 149) (.tmp 151) rfl (G + 1) (.slice Av ll cv) ll (ts.flatMap tcC) rfl (HROW.out.alloc _) (W21.heap.size + 1) (some ⟨W21.heap.size,0,none⟩) 1 1 [.int .u8 (y : Int),.int .i64 (l : Int),.int .i64 (d : Int)] rfl rfl (cells3_one W21 _ _ _ _) (by simp [Value.oneCell']) (by unfold maxLen;omega) (by omega) (by simp;omega) ?_;intro A7 c7 w22 hA;have HA7 := Lib.hid hA;have hbx := (Mod.of_app hA).keep ((HI21.out.below ((Below.refl _ W21).alloc (Nat.le_refl _) (.cells #[.int .u8 (y : Int),.int .i64 (l : Int),.int .i64 (d : Int)] 164))).box) (fun hk => by have := own_base HROW.out _ hk;omega);have g0' : w22.cell? ⟨G,0,none⟩ = some (.slice Av ts.length cv) := cell_of_row _ _ 0 _ _ _ hbx;have g1' : w22.cell? ⟨G,1,none⟩ = some (.int .i64 (size : Int)) := cell_of_row _ _ 1 _ _ _ hbx;have k0' : w22.frozen? ⟨G,0,none⟩ = false := frozen_of_row _ _ 0 _ _ hbx;have k1' : w22.frozen? ⟨G,1,none⟩ = false := frozen_of_row _ _ 1 _ _ hbx;clear hA hbx)
      have HI22 := Lib.hid ((HI21.out.below ((Below.refl _ W21).alloc (Nat.le_refl _) (.cells #[.int .u8 (y : Int),.int .i64 (l : Int),.int .i64 (d : Int)] 164))).more (ts' := ts ++ [(UInt8.ofNat y,l,d)]) (by rw [HLN.out];exact HA7.out) HFL.out.symm HFM.out.symm (size + 1))
      go_roundg j
      case measure => omega
      case rel =>
       refine ⟨ts ++ [(UInt8.ofNat y,l,d)],size + 1,nx,A7,c7,HTQ.out,hnx,hfu2,.inr hsm2,HSZ2.out,by rw [HFL.out];exact hpr,by rw [HFL.out];omega,?_⟩
       have h := HI22.out
       rw [HFL.out]
       push_cast at h
       exact h
    ·have u3 : ((l : Int) == 0) = false := by simp;omega
     have hmx : max l 1 = l := by omega
     rw [hmx] at HTL
     clear hmx
     by_cases hbm : most < (size : Int)
     ·have HTQ : Hid (T = (5,[],0)) := by show _ = _;rw [HTL.out,if_pos (by omega)]
      have u4 : decide (most < (size : Int)) = true := decide_eq_true hbm
      clear hbm
      go_wp2
      refine bodyPost_ret (v := .agg #[.slice none 0 0,.int .i64 0,.int .i64 0,.int .i64 5]) ?_ rfl (RtQ.err HTQ.out (by decide) HRR.out (HBW.out W21 HI21.out.bel) _ _ _ _)
      rw [results_cell1 rfl]
      go_simp
      try rfl
     have u4 : decide (most < (size : Int)) = false := decide_eq_false hbm
     have hwr : IntKind.i64.wrap (most - (size : Int)) = most - (size : Int) := IntWalk.i64_in _ (by omega)
     by_cases hbig : most - (size : Int) < (l : Int)
     ·have HTQ : Hid (T = (5,[],0)) := by show _ = _;rw [HTL.out,if_pos (by first | exact hbig | omega)]
      have u5 : decide (most - (size : Int) < (l : Int)) = true := decide_eq_true hbig
      clear hbm hbig
      go_wp2
      refine bodyPost_ret (v := .agg #[.slice none 0 0,.int .i64 0,.int .i64 0,.int .i64 5]) ?_ rfl (RtQ.err HTQ.out (by decide) HRR.out (HBW.out W21 HI21.out.bel) _ _ _ _)
      rw [results_cell1 rfl]
      go_simp
      try rfl
     ·have HTQ : Hid (T = blkL F z1 z2 L most j (ts ++ [(UInt8.ofNat y,l,d)]) (size + l) nx) := by show _ = _;rw [HTL.out,if_neg (by first | exact hbig | omega)]
      have u5 : decide (most - (size : Int) < (l : Int)) = false := decide_eq_false hbig
      have hsm2 : ((size + l : Nat) : Int) ≤ most := by omega
      have HFM : Hid ((ts ++ [(UInt8.ofNat y,l,d)]).flatMap tcC = ts.flatMap tcC ++ [.int .u8 (y : Int),.int .i64 (l : Int),.int .i64 (d : Int)]) := by show _ = _;rw [List.flatMap_append];simp only [List.flatMap_cons,List.flatMap_nil,List.append_nil,tcC,HYY.out]
      have HFL : Hid ((ts ++ [(UInt8.ofNat y,l,d)]).length = ll + 1) := by show _ = _;rw [List.length_append,HLN.out];rfl
      have HSZ2 : Hid (size + l = szs (ts ++ [(UInt8.ofNat y,l,d)])) := by show _ = _;rw [szs_snoc,← HSZ.out];congr 1;show _ = max l 1;omega
      have hll6 : ll ≤ 1000000 := by omega
      have HROW : Hid (W21.ownsRow (G + 1) 164 3 (.slice Av ll cv) ll (ts.flatMap tcC)) := by have h := HI21.out.row;rw [HLN.out] at h;exact h
      have hG21 := HI21.out.lt
      clear hbm hbig
      go_wp2_with (at_builtin;refine wpList_app (W21.alloc (.cells #[.int .u8 (y : Int),.int .i64 (l : Int),.int .i64 (d : Int)] 164)) tcElem rfl (.tmp 149) (.tmp 151) rfl (G + 1) (.slice Av ll cv) ll (ts.flatMap tcC) rfl (HROW.out.alloc _) (W21.heap.size + 1) (some ⟨W21.heap.size,0,none⟩) 1 1 [.int .u8 (y : Int),.int .i64 (l : Int),.int .i64 (d : Int)] rfl rfl (cells3_one W21 _ _ _ _) (by simp [Value.oneCell']) (by unfold maxLen;omega) (by omega) (by simp;omega) ?_;intro A7 c7 w22 hA;have HA7 := Lib.hid hA;have hbx := (Mod.of_app hA).keep ((HI21.out.below ((Below.refl _ W21).alloc (Nat.le_refl _) (.cells #[.int .u8 (y : Int),.int .i64 (l : Int),.int .i64 (d : Int)] 164))).box) (fun hk => by have := own_base HROW.out _ hk;omega);have g0' : w22.cell? ⟨G,0,none⟩ = some (.slice Av ts.length cv) := cell_of_row _ _ 0 _ _ _ hbx;have g1' : w22.cell? ⟨G,1,none⟩ = some (.int .i64 (size : Int)) := cell_of_row _ _ 1 _ _ _ hbx;have k0' : w22.frozen? ⟨G,0,none⟩ = false := frozen_of_row _ _ 0 _ _ hbx;have k1' : w22.frozen? ⟨G,1,none⟩ = false := frozen_of_row _ _ 1 _ _ hbx;clear hA hbx)
      have HI22 := Lib.hid ((HI21.out.below ((Below.refl _ W21).alloc (Nat.le_refl _) (.cells #[.int .u8 (y : Int),.int .i64 (l : Int),.int .i64 (d : Int)] 164))).more (ts' := ts ++ [(UInt8.ofNat y,l,d)]) (by rw [HLN.out];exact HA7.out) HFL.out.symm HFM.out.symm (size + l))
      go_roundg j
      case measure => omega
      case rel =>
       refine ⟨ts ++ [(UInt8.ofNat y,l,d)],size + l,nx,A7,c7,HTQ.out,hnx,hfu2,.inr hsm2,HSZ2.out,by rw [HFL.out];exact hpr,by rw [HFL.out];omega,?_⟩
       have h := HI22.out
       rw [HFL.out]
       push_cast at h
       exact h
end Go.Proofs.YtaknladkodibaaaGreatDoor
namespace Go.Proofs.YtaknladkodibaaaGreatDoor
open BitsP SymP
theorem expE_app {most : Int} : ∀ (L1 L2 : List Ti) (out o1 : List UInt8),expE most L1 out = (0,o1) → expE most (L1 ++ L2) out = expE most L2 o1
 | [],L2,out,o1,h => by
  rw [expE] at h
  rw [List.nil_append,← (Prod.mk.inj h).2]
 | t :: L1,L2,out,o1,h => by
  rw [expE] at h
  rw [List.cons_append,expE]
  split at h
  ·cases (Prod.mk.inj h).1
  ·rename_i h1
   split at h
   ·cases (Prod.mk.inj h).1
   ·rename_i h2
    rw [if_neg h1,if_neg h2]
    exact expE_app L1 L2 _ o1 h
theorem ti_szT (t : Tk) : szT (ti t) = (max t.2.1 1 : Nat) := by
 unfold szT ti
 dsimp only
 split <;> omega
theorem joinR_okX {n1 b1 : Int} {x1 : Nat} {n2 b2 : Int} {x2 : Nat} {m : Bool} {y l d : Nat} (h : joinR n1 b1 x1 n2 b2 x2 m = some (y,l,d)) : okX (ti (UInt8.ofNat y,l,d)) = true := by
 unfold joinR at h
 split at h
 ·split at h
  ·simp only [Option.some.injEq,Prod.mk.injEq] at h
   obtain ⟨_,rfl,rfl⟩ := h
   rfl
  ·cases h
 ·split at h
  ·rename_i hc
   simp only [Option.some.injEq,Prod.mk.injEq] at h
   obtain ⟨rfl,rfl,rfl⟩ := h
   have h1 : vN (n1 - 257) b1 x1 < 256 := valC_low (by omega)
   have h2 := vN_lt n2 b2 x2
   unfold okX ti
   dsimp only
   rw [if_neg (by omega)]
   simp
   omega
  ·cases h
theorem blkL_exp {F : List Int → List Bool → Int × Int × Nat} {z1 z2 : List Int} {L : List Bool} {most : Int} : ∀ (k : Nat) (pre : List Tk) (size p : Nat) (ts : List Tk) (q : Nat),blkL F z1 z2 L most k pre size p = (0,ts,q) →
  (∃ out,expE most (pre.map ti) [] = (0,out) ∧ out.length = size) → size = szs pre → ∃ out,expE most (ts.map ti) [] = (0,out) ∧ out.length = szs ts
 | 0,pre,size,p,ts,q,h,_,_ => by
  rw [blkL] at h
  cases (Prod.mk.inj h).1
 | k + 1,pre,size,p,ts,q,h,⟨out,ho,hl⟩,hs => by
  rw [blkL] at h
  split at h
  ·rename_i h1
   exact absurd (Prod.mk.inj h).1 h1
  split at h
  ·have h2 := (Prod.mk.inj (Prod.mk.inj h).2).1
   subst h2
   exact ⟨out,ho,by rw [hl,hs]⟩
  split at h
  ·rename_i h1
   exact absurd (Prod.mk.inj h).1 h1.2
  split at h
  ·cases (Prod.mk.inj h).1
  ·rename_i y l d hj
   split at h
   ·cases (Prod.mk.inj h).1
   rename_i hd
   split at h
   ·cases (Prod.mk.inj h).1
   rename_i hm
   have hok : okX (ti (UInt8.ofNat y,l,d)) = true := by
    split at hj
    ·exact joinR_okX hj
    ·exact joinR_okX hj
   have hsz := ti_szT (UInt8.ofNat y,l,d)
   dsimp only at hsz
   refine blkL_exp k (pre ++ [(UInt8.ofNat y,l,d)]) (size + max l 1) _ ts q h ⟨putT (ti (UInt8.ofNat y,l,d)) out,?_,?_⟩ ?_
   ·rw [List.map_append,expE_app _ _ _ _ ho]
    show expE most [ti (UInt8.ofNat y,l,d)] out = _
    rw [expE,if_neg (by rw [hok];simp;show ((d : Nat) : Int) ≤ (out.length : Int);omega),if_neg (by rw [hsz,hl];omega),expE]
   ·have h3 := putT_len out hok
    rw [hsz,hl] at h3
    omega
   ·rw [szs_snoc,← hs]
theorem blkF_exp {F : List Int → List Bool → Int × Int × Nat} {L : List Bool} {p : Nat} {most : Int} {ts : List Tk} {q : Nat} (h : blkF F L p most = (0,ts,q)) : ∃ out,expE most (ts.map ti) [] = (0,out) ∧ out.length = szs ts := by
 unfold blkF at h
 split at h
 ·rename_i h1
  exact absurd (Prod.mk.inj h).1 h1
 split at h
 ·rename_i h1
  exact absurd (Prod.mk.inj h).1 h1
 split at h
 ·cases (Prod.mk.inj h).1
 split at h
 ·cases (Prod.mk.inj h).1
 exact blkL_exp _ [] 0 _ ts q h ⟨[],rfl,rfl⟩ rfl
end Go.Proofs.YtaknladkodibaaaGreatDoor
