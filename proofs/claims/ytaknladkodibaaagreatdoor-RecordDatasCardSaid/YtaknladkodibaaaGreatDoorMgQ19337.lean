/- Layer 14: codec.Pieces of the bytes 0 0: no piece, and the end. -/
import Derived.Test.YtaknladkodibaaaGreatDoorMgQ19320
import Derived.Test.YtaknladkodibaaaGreatDoorMgQ19318
import Derived.Test.YtaknladkodibaaaGreatDoorMgQ19326
import Derived.Lib.OthersKept
import Derived.Laws.RangeAny
import Derived.Test.YtaknladkodibaaaGreatDoorMgQ193SKpB
import Derived.Maps.AppendAt
namespace Go.Proofs.YtaknladkodibaaaGreatDoor
open Go.RowKit Go.Shelf CrcP FieldP
set_option maxHeartbeats 1000000 in
theorem pieces_any (g : Nat) (w : World) :
  Calls Tryz.prog 127 #[.pointer (some ⟨g,0,none⟩)] w fun e w' => e = .returned (.func (.func 171) #[] #[.pointer (some ⟨w.heap.size,0,none⟩)]) ∧
   w.alloc (.cells #[.pointer (some ⟨g,0,none⟩)] 137) = w' := by
 go_enter Tryz.func127,Tryz.ntmps127
 go_wp2
 go_ret
 exact ⟨rfl,rfl⟩
theorem only_undrew {g : Nat} {w w' : World} (h : Only g w.drew w') : Only g w w' := ⟨h.os,h.tape,h.output,h.size,h.block⟩
theorem only_trans' {g : Nat} {w w1 w2 : World} (h : Only g w w1) (h' : Only g w1 w2) : Only g w w2 := ⟨h'.os.trans h.os,h'.tape.trans h.tape,h'.output.trans h.output,Nat.le_trans h.size h'.size,fun k hk hne => (h'.block k (Nat.lt_of_lt_of_le hk h.size) hne).trans (h.block k hk hne)⟩
theorem bytes_only {g : Nat} {w w' : World} {A : Option Addr} {B : Nat} {bs : List UInt8} (hb : Bytes w B A bs) (h : Only g w w') (hB : B ≤ w.heap.size) (hg : B ≤ g) : Bytes w' B A bs :=
 Cells.below (B' := B) hb ⟨h.os,h.tape,h.output,h.size,fun k hk => h.block k (by omega) (by simp;omega)⟩ (Nat.le_refl _)
end Go.Proofs.YtaknladkodibaaaGreatDoor
namespace Go.Proofs.YtaknladkodibaaaGreatDoor
open Go.RowKit Go.Shelf CrcP FieldP
attribute [local go_sem] Oper.semAt_some
theorem abidesOnly {α : Type} {B g : Nat} {J : List α → World → Prop} (h : AbidesS B (fun k => k = g) J) {s : List α} {W W' : World} (hj : J s W) (hb : Only g W W') : J s W' :=
 h s W W' (some g) hj ⟨hb.os,hb.tape,hb.output,hb.size,fun k hk hn => hb.block k hk hn⟩ (fun r e => by cases e;exact .inl rfl)
abbrev PcV := List UInt8 × Option Addr × Nat
def pcE (x : PcV) : Array Value := #[.slice x.2.1 x.1.length x.2.2]
def pcX (x : PcV) (W : World) : Prop := Bytes W W.heap.size x.2.1 x.1 ∧ x.1.length ≤ 1000000
def pAt (g : Nat) (W : World) : Nat := match W.cell? ⟨g,1,none⟩ with
 | some (.int _ p) => p.toNat
 | _ => 0
theorem pAt_of {w : World} {g : Nat} {A : Option Addr} {l c : Nat} {st : RSt} (h : RdK w g A l c st) : pAt g w = st.p := by
 obtain ⟨_,c1,_⟩ := Rd.cells h
 unfold pAt
 rw [c1]
 simp
theorem only_block {g k : Nat} {w w' : World} {o : Obj} (h : Only g w w') (hk : w.heap[k]? = some o) (hne : k ≠ g) : w'.heap[k]? = some o := (h.block k (Array.getElem?_eq_some_iff.1 hk).1 (by simpa using hne)).trans hk
set_option maxRecDepth 100000 in
set_option maxHeartbeats 800000 in
theorem pieces_seq (n B g bx : Nat) (A : Option Addr) (l c : Nat) (bs : List UInt8) (w0 : World) (hl : bs.length = l) (hm : l ≤ 1000000) (hcap : l ≤ c) (hb : Bytes w0 n A bs) (hn : n ≤ g) (hgB : g ≠ B) (hxB : bx ≠ B) (hgx : g ≠ bx) (hBl : B < w0.heap.size) (hown : ownOf B w0 = none)
  (hx : Box w0 bx #[.pointer (some ⟨g,0,none⟩)] 137) (hr : RdK w0 g A l c ⟨0,false⟩) :
  SeqR Fence.wide 5 Tryz.prog 171 #[.pointer (some ⟨bx,0,none⟩)] pcE (KpB n B) (fun k => k = g) (fun xs => xs.map (·.1) = (pcA bs).1) (fun _ => True) pcX
   (fun _ W => ∃ st,RdK W g A l c st ∧ FinP l st (pcA bs).2) (l + 1) w0 := by
 intro gy J Jx W hbl hJ hJx hY h0
 have HL := Lib.hid hl
 have HXW : Hid (Box W bx #[.pointer (some ⟨g,0,none⟩)] 137) := (hbl.block bx hx.lt).trans hx
 have HRW : Hid (RdK W g A l c ⟨0,false⟩) := (hbl.block g hr.lt).trans hr
 have hnz : n ≤ w0.heap.size := by have := hr.lt;omega
 have HBY := Lib.hid (hb.below (hbl.mono hnz) (Nat.le_refl _))
 have HOW : Hid (ownOf B W = none) := (ownOf_block (hbl.block B hBl)).trans hown
 have HSZ : Hid (bx < W.heap.size ∧ g < W.heap.size ∧ B < W.heap.size ∧ n ≤ W.heap.size) := ⟨HXW.out.lt,HRW.out.lt,by have := hbl.size;omega,by have := hbl.size;omega⟩
 have HY := Lib.hid hY
 have HJ := Lib.hid hJ
 have HCAP := Lib.hid hcap
 clear hx hr hb hbl hown hBl hnz hY hJ hcap
 refine callsIn_of_wp Tryz.func171 rfl trivial ?_ rfl
 simp only [Tryz.ntmps171,List.size_toArray,List.length_cons,List.length_nil,Nat.reduceAdd,Nat.reduceSub,Array.replicate_succ,Array.replicate_zero,List.push_toArray,List.append_toArray,List.nil_append,List.cons_append]
 gi_wp2
 gi_loopw [3] (fun _ wr => ∃ (st : RSt) (pre : List PcV) (k : Nat),RdK wr g A l c st ∧ st.bad = false ∧ st.p ≤ l ∧ l - st.p < k ∧ pcA bs = (pre.map (·.1) ++ (pcL k (bs.drop st.p)).1,(pcL k (bs.drop st.p)).2) ∧
  Box wr bx #[.pointer (some ⟨g,0,none⟩)] 137 ∧ Bytes wr n A bs ∧ W.heap.size ≤ wr.heap.size ∧ (∀ k,ownOf B wr = some k → W.heap.size ≤ k ∧ k < wr.heap.size) ∧ pre.length ≤ st.p ∧ J pre wr) (fun _ wr => l - pAt g wr)
 case atStart =>
  exact ⟨⟨0,false⟩,[],l + 1,HRW.out,rfl,Nat.zero_le _,by dsimp only;omega,by unfold pcA;rw [HL.out];rfl,HXW.out,HBY.out,Nat.le_refl _,(fun k hk => by rw [HOW.out] at hk;cases hk),Nat.le_refl _,h0⟩
 case round =>
  obtain ⟨st,pre,k,hr5,hbad,hp,hk,hpc,hx5,hb5,hs5,ho5,hpre,hJ5⟩ := hrel
  obtain ⟨k,rfl⟩ : ∃ k',k = k' + 1 := ⟨k - 1,by omega⟩
  obtain ⟨⟨n1,s1⟩,h1⟩ : ∃ q,st.num bs 2 = q := ⟨_,rfl⟩
  obtain ⟨⟨r,s2⟩,h2⟩ : ∃ q,s1.row bs n1 = q := ⟨_,rfl⟩
  have hn1 : n1 < 4294967296 := by have := num_lt (bs := bs) (s := st) (k := 2) (by omega);rw [h1] at this;exact this
  have hs1 : s1.p ≤ l := by have := num_le (bs := bs) (s := st) (k := 2) (by rw [hl];exact hp);rw [h1,hl] at this;exact this
  have hrd := pc_round (bs := bs) (st := st) (k := k) hbad (by rw [hl];exact hp) h1 h2
  have x0 : wr.drew.cell? ⟨bx,0,none⟩ = some (.pointer (some ⟨g,0,none⟩)) := hx5.cell 0
  have HN : Hid (Calls Tryz.prog 88 #[.pointer (some ⟨g,0,none⟩),.int .i64 2] wr.drew fun e w' => e = .returned (.int .u32 (n1 : Int)) ∧ RdK w' g A l c s1 ∧ Only g wr.drew w') := by
   have := number_st g A l c bs n st 2 2 wr.drew hr5 hl (by omega) hp (by omega) (by omega) rfl hb5
   rw [h1] at this
   exact this
  have HYB : Hid (∀ V,RdK V g A l c s1 → Bytes V n A bs → n ≤ V.heap.size → Calls Tryz.prog 89 #[.pointer (some ⟨g,0,none⟩),.int .i64 (n1 : Int)] V fun e w' => ∃ A' k,e = .returned (.slice A' r.length k) ∧ OwnB w' V.heap.size 5 (.slice A' r.length k) r.length r ∧ RdK w' g A l c s2 ∧ Only g V w') := fun V hv1 hv2 hv3 => by
   have := bytes_st g A l c bs n s1 n1 V hv1 hl (by omega) HCAP.out hs1 hv2 hv3
   rw [h2] at this
   refine this.mono ?_
   rintro e w' ⟨A',m,k,rfl,ho,hr',hn'⟩
   obtain rfl : m = r.length := by have := ho.1;simpa [byteCells] using this.symm
   exact ⟨A',k,rfl,ho,hr',hn'⟩
  have HXB : Hid (∀ V,Only g wr V → V.cell? ⟨bx,0,none⟩ = some (.pointer (some ⟨g,0,none⟩))) := fun V hV => Box.cell (only_block hV hx5 (fun e => hgx e.symm)) 0
  have HBB : Hid (∀ V,Only g wr V → Bytes V n A bs ∧ n ≤ V.heap.size) := fun V hV => ⟨bytes_only hb5 hV (by have := HSZ.out;omega) hn,by have := hV.size;have := HSZ.out;omega⟩
  have HX5 := Lib.hid hx5
  have HRD := Lib.hid hrd
  have HPC := Lib.hid hpc
  have HO5 := Lib.hid ho5
  have HJ5 := Lib.hid hJ5
  have HS5 := Lib.hid hs5
  have HR5 := Lib.hid hr5
  have HP := Lib.hid (show st.p ≤ l ∧ l - st.p < k + 1 ∧ pre.length ≤ st.p from ⟨hp,hk,hpre⟩)
  clear hr5 hpc hx5 hb5 hs5 ho5 hJ5 h1 h2 hrd hp hk hpre hs1 hbad
  have hw1 : IntKind.i64.wrap (n1 : Int) = (n1 : Int) := IntWalk.i64_in _ (by omega)
  gi_wp2_with fail
  gi_region_with (first
   | (refine ⟨trivial,?_⟩;gi_at_call 88;refine (callsIn_wide.2 HN.out).mono ?_;rintro e w1 ⟨rfl,hr1,hq1⟩;have HR1 := Lib.hid hr1;have HN1 := Lib.hid (only_undrew hq1);have k1 := HXB.out _ HN1.out;clear hr1 hq1)
   | (refine ⟨trivial,?_⟩;gi_at_call 89;refine (callsIn_wide.2 (HYB.out _ HR1.out (HBB.out _ HN1.out).1 (HBB.out _ HN1.out).2)).mono ?_;rintro e w2 ⟨A2,k2,rfl,ho2,hr2,hn2⟩;have HO2 := Lib.hid ho2;have HR2 := Lib.hid hr2;have HN2 := Lib.hid (only_trans' HN1.out hn2);clear ho2 hr2 hn2))
  all_goals
   rcases HRD.out with ⟨hr0,hnil,hfin⟩ | ⟨hne,hb2,hq2,hl2,hpc2⟩
   ·have HFIN := Lib.hid hfin
    have HNIL := Lib.hid hnil
    have hrb : ((r.length : Int) == 0) = true := by rw [hr0];rfl
    have hrb' : (r.length == 0) = true := by rw [hr0];rfl
    clear hfin hnil hr0
    gi_wp2
    all_goals
     refine ⟨(fun f h => by cases h),?_⟩
     gi_wp2
     refine bodyPost_ret (results_none rfl _ _ _) rfl ?_
     refine ⟨⟨_,rfl⟩,.inl ⟨pre,?_,abidesOnly HJ.out HJ5.out HN2.out,s2,HR2.out,?_⟩⟩
     ·rw [HPC.out,HNIL.out];simp
     ·rw [HPC.out,← HL.out];exact HFIN.out
   ·have hrl : 1 ≤ r.length := by cases r with | nil => exact absurd rfl hne | cons => simp
    have hrb : ((r.length : Int) == 0) = false := by simp;omega
    have hrb' : (r.length == 0) = false := by simp;omega
    have HPC2 := Lib.hid hpc2
    have HB2 := Lib.hid hb2
    have HQ2 := Lib.hid (show st.p + 2 + r.length = s2.p ∧ s2.p ≤ bs.length from ⟨hq2,hl2⟩)
    obtain ⟨fn,tmps,assign,body,hy,hR⟩ := HY.out pre (r,A2,k2) w2 (abidesOnly HJ.out HJ5.out HN2.out) ⟨Cells.of_own HO2.out,by have := HQ2.out;have := HL.out;dsimp only;omega⟩ (by have := HP.out;omega)
    simp only [pcE] at hy
    have HR := Lib.hid hR
    clear hR hne hb2 hq2 hl2 hpc2
    gi_wp2_with fail
    refine HR.out.mono ?_
    rintro ee W3 (⟨rfl,hJ3,hk3⟩ | ⟨rfl,hJx3⟩)
    ·have hsz := HSZ.out
     have hs5 := HS5.out
     have hs2 := HN2.out.size
     have hs3 := hk3.size
     have hob : ownOf B w2 = ownOf B wr := ownOf_block (HN2.out.block B (by omega) (by simpa using fun e => hgB e.symm))
     have hno : ∀ j,j < W.heap.size → ownOf B w2 ≠ some j := fun j hj e => by
      rw [hob] at e
      have := (HO5.out j e).1
      omega
     have m1 : RdK W3 g A l c s2 := hk3.cells g _ HR2.out rfl hgB (hno g hsz.2.1)
     have m2 : Box W3 bx #[.pointer (some ⟨g,0,none⟩)] 137 := hk3.cells bx _ (only_block HN2.out HX5.out (fun e => hgx e.symm)) rfl hxB (hno bx hsz.1)
     have m3 : Bytes W3 n A bs := Cells.below (HBB.out _ HN2.out).1 hk3.low (Nat.le_refl _)
     have m4 : ∀ j,ownOf B W3 = some j → W.heap.size ≤ j ∧ j < W3.heap.size := fun j hj => by
      obtain ⟨o1,o2⟩ := hk3.own j hj
      rw [hob] at o1 o2
      constructor
      ·rcases o1 with o1 | o1
       ·exact (HO5.out j o1).1
       ·omega
      ·rcases o2 with o2 | o2
       ·have := (HO5.out j o2).2;omega
       ·exact o2
     have M1 := Lib.hid m1
     have M2 := Lib.hid m2
     have M3 := Lib.hid m3
     have M4 := Lib.hid m4
     have HJ3 := Lib.hid hJ3
     have MS : Hid (W.heap.size ≤ W3.heap.size) := by show _ ≤ _;omega
     have MP : Hid (l - pAt g W3 < l - pAt g wr) := by
      show _ < _
      rw [pAt_of m1,pAt_of HR5.out]
      have := HQ2.out
      have := HL.out
      omega
     clear m1 m2 m3 m4 hJ3 hk3 hob hno
     gi_wp2
     refine ⟨⟨s2,pre ++ [(r,A2,k2)],k,M1.out,HB2.out,?_,?_,?_,M2.out,M3.out,MS.out,M4.out,?_,HJ3.out⟩,MP.out⟩
     ·have := HQ2.out;have := HL.out;omega
     ·have := HQ2.out;have := HL.out;have := HP.out;omega
     ·rw [HPC.out,HPC2.out];simp
     ·have := HQ2.out;have := HP.out;simp;omega
    ·gi_wp2
     refine bodyPost_ret (results_none rfl _ _ _) rfl ?_
     exact ⟨⟨_,rfl⟩,.inr ⟨pre ++ [(r,A2,k2)],trivial,hJx3⟩⟩
theorem kpb_append0 {W w1 : World} {n B : Nat} {v v' : Value} {k m : Nat} {xs ys : List Value} (hv : Boxed W B 25 v) (hrow : W.ownsRow n 5 1 v k xs) (hn : n ≤ W.heap.size) (hB : n ≤ B) (hap : App W n 5 1 v m ys w1 v') :
  Boxed w1 B 25 v ∧ Boxed (w1.setCell ⟨B,0,none⟩ v') B 25 v' ∧ (w1.setCell ⟨B,0,none⟩ v').ownsRow n 5 1 v' m ys ∧ KeepsOthers W (w1.setCell ⟨B,0,none⟩ v') ∧ KpB n B W (w1.setCell ⟨B,0,none⟩ v') := by
 have hv1 : Boxed w1 B 25 v := hv.kept hap.grow (hv.not_row (by decide) hrow)
 have p2 : Boxed (w1.setCell ⟨B,0,none⟩ v') B 25 v' := hv1.set v'
 have p3 : (w1.setCell ⟨B,0,none⟩ v').ownsRow n 5 1 v' m ys := hap.own.kept (grownBy_setCell' w1 B v') (.inr (hv1.not_row (by decide) hap.own).symm)
 have p4 : KeepsOthers W (w1.setCell ⟨B,0,none⟩ v') := by
  refine (KeepsOthers.of_grownBy hap.grow fun j o ej hj => ?_).trans (KeepsOthers.setCell _ _ _)
  rcases hrow.2 with ⟨rfl,_⟩ | ⟨g,cap,cur,rfl,_,hgb,_⟩
  ·simp [Value.ownBlock] at ej
  ·obtain rfl : g = j := by simpa [Value.ownBlock] using ej
   rw [hgb] at hj;cases hj;rfl
 have p5 : Below n W (w1.setCell ⟨B,0,none⟩ v') := by
  refine ((Below.refl n W).grown hap.grow hn fun j ej => ?_).setCell (p := ⟨B,0,none⟩) hB v'
  rcases hrow.2 with ⟨rfl,_⟩ | ⟨g,cap,cur,rfl,hb,_,_⟩
  ·simp [Value.ownBlock] at ej
  ·obtain rfl : g = j := by simpa [Value.ownBlock] using ej
   exact hb
 have hs1 := hap.grow.size
 refine ⟨hv1,p2,p3,p4,p5,fun j o hj ho hjB hno => ?_,fun j hj => ?_,p4.size⟩
 ·have hlt := (Array.getElem?_eq_some_iff.1 hj).1
  rw [ownOf_box hv] at hno
  exact (Below.heap_setCell w1 ⟨B,0,none⟩ v' j hjB).trans ((hap.grow.block j hlt (fun e => hno e.symm)).trans hj)
 ·rw [ownOf_box p2] at hj
  rw [ownOf_box hv]
  rcases hap.loc with h | ⟨g,h,hg⟩
  ·rw [h] at hj;exact ⟨.inl hj,.inl hj⟩
  ·rw [h] at hj
   cases hj
   have hlt := own_lt p3 j h
   exact ⟨.inr hg,.inr hlt⟩
theorem own_low {w : World} {b b' size n : Nat} {e : TypeId} {v : Value} {xs : List Value} (hb : b' ≤ b) (h : w.ownsRow b e size v n xs) : w.ownsRow b' e size v n xs := by
 obtain ⟨h1,h2⟩ := h
 refine ⟨h1,?_⟩
 rcases h2 with h2 | ⟨g,cap,cur,hv,hg,rest⟩
 ·exact .inl h2
 ·exact .inr ⟨g,cap,cur,hv,Nat.le_trans hb hg,rest⟩
def flatP (pre : List PcV) : List UInt8 := (pre.map (·.1)).flatten
theorem flatP_snoc (pre : List PcV) (x : PcV) : flatP (pre ++ [x]) = flatP pre ++ x.1 := by simp [flatP]
def pcI (N : Nat) (w : World) (pre : List PcV) (W : World) : Prop :=
 (∃ v,Boxed W (N + 1) 25 v ∧ W.ownsRow (N + 1) 5 1 v (flatP pre).length (byteCells (flatP pre))) ∧ (flatP pre).length ≤ pre.length * 1000000 ∧ Below N w W
theorem pcI_own (N M : Nat) (w : World) (hN : N ≤ w.heap.size) (hM : N ≤ M) : OwnS M (fun k => k = N) (pcI N w) := by
 rintro s X Y row ⟨⟨v,hv,hr⟩,hs,hb⟩ hg hrow
 have hne : some (N + 1) ≠ row := fun e => by
  rcases hrow _ e.symm with h | ⟨_,o,ho,hc⟩
  ·omega
  ·rw [show X.heap[N + 1]? = _ from hv] at ho;cases ho;cases hc
 refine ⟨⟨v,hv.kept hg hne,hr.kept hg ?_⟩,hs,hb.grown hg (Nat.le_trans hN hb.size) (fun k e => (hrow k e).elim (fun h => by omega) (fun h => Nat.le_trans hM h.1))⟩
 rcases hr.2 with ⟨rfl,_⟩ | ⟨g,cap,cur,rfl,hgN,hgb,_⟩
 ·exact .inl rfl
 ·refine .inr fun e' => ?_
  rcases hrow g (by simpa [Value.ownBlock] using e'.symm) with h | ⟨_,o,ho,hc⟩
  ·omega
  ·rw [hgb] at ho;cases ho;cases hc
theorem pcX_put (x : PcV) (W : World) (l : Nat) (o o' : Obj) (ho : W.heap[l]? = some o) (hc : o.isCells = false) (h : pcX x W) : pcX x (W.putObj l o') := by
 refine ⟨fun hp => ?_,h.2⟩
 obtain ⟨b,q,e,hb,hcc⟩ := h.1 hp
 exact ⟨b,q,e,by simp [World.putObj];exact hb,fun j u hu => cell_kept (hcc j u hu) (grownBy_putObj' W l o') (fun r e => by cases e;exact ⟨o,ho,hc⟩)⟩
set_option maxRecDepth 100000 in
set_option maxHeartbeats 2000000 in
theorem piecesOf_any (A : Option Addr) (l c B : Nat) (bs : List UInt8) (w : World) (hl : bs.length = l) (hm : l ≤ 1000000) (hc : l ≤ c) (hb : Bytes w B A bs) (hB : B ≤ w.heap.size) :
  Calls Tryz.prog 80 #[.slice A l c] w fun e w' => ∃ (v : Value) (n cp : Nat) (A' : Option Addr),e = .returned (.tuple #[v,.int .i64 (pcA bs).2]) ∧ v = .slice A' n cp ∧ ((pcA bs).2 = 0 → OwnB w' w.heap.size 5 v n (pcA bs).1.flatten) ∧ ((pcA bs).2 ≠ 0 → v = .slice none 0 0) ∧ Below w.heap.size w w' := by
 have HB0 := Lib.hid hb
 have HBZ := Lib.hid hB
 have HC0 := Lib.hid hc
 have HL0 := Lib.hid hl
 clear hb hB hc hl
 refine (callsIn_wide (n := 6)).1 ?_
 refine callsIn_of_wp_marks Tryz.func80 rfl trivial ?_ rfl
 simp only [Tryz.ntmps80,List.size_toArray,List.length_cons,List.length_nil,Nat.reduceAdd,Nat.reduceSub,Array.replicate_succ,Array.replicate_zero,List.push_toArray,List.append_toArray,List.nil_append,List.cons_append]
 gi_wp2_with (first
  | (refine ⟨trivial,?_⟩;gi_at_call 126;refine (callsIn_wide.2 (newK_any A l c w)).mono ?_;rintro e w1 ⟨rfl,hw1⟩;have HW1 := Lib.hid hw1;clear hw1)
  | (refine ⟨trivial,?_⟩;gi_at_call 127;refine (callsIn_wide.2 (pieces_any _ _)).mono ?_;rintro e w3 ⟨rfl,hw3⟩;have HW3 := Lib.hid hw3;clear hw3))
 have hz1 : w1.heap.size = w.heap.size + 1 := by rw [← HW1.out];simp
 have hz3 : w3.heap.size = w.heap.size + 3 := by rw [← HW3.out];simp [hz1]
 have hr1 : RdK w1 w.heap.size A l c ⟨0,false⟩ := by rw [← HW1.out];exact rd_new A l c w
 have hb1 : Below w.heap.size w w1 := by rw [← HW1.out];exact (Below.refl _ w).alloc (Nat.le_refl _) _
 have hb13 : Below w1.heap.size w1 w3 := by rw [← HW3.out];exact ((Below.refl _ w1).alloc (Nat.le_refl _) _).alloc (by simp) _
 have HR3 : Hid (RdK w3 w.heap.size A l c ⟨0,false⟩) := Rd.below hr1 hb13 (by omega)
 have HC3 : Hid (Boxed w3 w1.heap.size 25 (.slice none 0 0)) := by rw [← HW3.out];exact (Boxed.new w1 _ _).alloc _
 have HX3 : Hid (Box w3 (w1.heap.size + 1) #[.pointer (some ⟨w.heap.size,0,none⟩)] 137) := by
  rw [← HW3.out]
  have h := heap_alloc_new (w1.alloc (.cells #[.slice none 0 0] 25)) (.cells #[.pointer (some ⟨w.heap.size,0,none⟩)] 137)
  rw [World.size_alloc] at h
  exact h
 have HL3 : Hid (Below w.heap.size w w3) := hb1.trans (hb13.mono (by omega))
 have HZ3 := Lib.hid hz3
 rw [hz1] at HC3 HX3 ⊢
 obtain ⟨N,hN⟩ : ∃ N,w.heap.size = N := ⟨_,rfl⟩
 have HNN := Lib.hid hN
 rw [hN] at HR3 HC3 HX3 HZ3 HL3 HBZ ⊢
 have HSEQ := Lib.hid (pieces_seq N (N + 1) N (N + 2) A l c bs w3 HL0.out hm HC0.out (Cells.below (HB0.out.more HBZ.out) HL3.out (Nat.le_refl _)) (Nat.le_refl _) (by omega) (by omega) (by omega) HC3.out.lt (by rw [ownOf_box HC3.out];rfl) HX3.out HR3.out)
 clear hz1 hz3 hr1 hb1 hb13 HW1 HW3 hN
 rw [show N + 1 + 1 = N + 2 from rfl]
 refine wpIn_rangeFunc_R rfl (by omega) (gf := 171) (lb := #[.pointer (some ⟨N + 2,0,none⟩)]) rfl trivial (enters_of Tryz.func171 (by kernel_rfl) rfl) HSEQ.out
  (fun x W l o o' _ ho hc hx => pcX_put x W l o o' ho hc hx)
  (fun xs W l o o' hl ho hc hR => by
   obtain ⟨st,h1,h2⟩ := hR
   exact ⟨st,(World.putObj_heap_other (by have := HZ3.out;omega)).trans h1,h2⟩)
  (fun r hr => by rw [hr];have := HZ3.out;omega) (fun h k => h.trans k) (fun W l o o' hl ho hc _ => KpB.putObj W l o o' (by have := HZ3.out;omega) (by have := HZ3.out;omega) ho hc) (Below.refl _ _) (fun _ => rfl)
  (pcI N w) (fun _ _ _ => False) (pcI_own N _ w (by rw [HNN.out];exact Nat.le_refl _) (by have := HZ3.out;omega)) (fun _ _ _ _ _ h _ _ => h)
  ⟨⟨_,HC3.out,World.ownsRow_nil _ _ _ _⟩,Nat.le_refl _,HL3.out⟩
  (fun x => { tmps := #[.slice A l c,undef,.slice none 0 0,.int .i64 0,.pointer (some ⟨N,0,none⟩),.pointer (some ⟨N + 1,0,none⟩),.slice x.2.1 x.1.length x.2.2,.slice A l c,.pointer (some ⟨N,0,none⟩),.pointer (some ⟨N,0,none⟩),.func (.func 171) #[] #[.pointer (some ⟨N + 2,0,none⟩)],.slice x.2.1 x.1.length x.2.2,undef,undef,undef,undef,undef,undef,undef,undef,undef,undef],defers := [] }) ?assign ?body ?done ?stop
 case assign =>
  rintro gy ⟨r,A2,k2⟩ W K hK
  simp only [pcE]
  gi_wp2
  exact hK
 case body =>
  rintro gy pre ⟨r,A2,k2⟩ W ⟨⟨v,hv,hr⟩,hs,hb⟩ hx hlen
  have hc := hv.cell
  have hvl := hv.lt
  have hx2 : r.length ≤ 1000000 := hx.2
  have hcr : Cells W W.heap.size A2 (byteCells r) := hx.1
  have hfl : (flatP pre).length ≤ 1000001 * 1000000 := Nat.le_trans hs (Nat.mul_le_mul_right _ (by omega))
  clear hx
  gi_wp2_with (gi_at_builtin;refine wpListIn_app _ byteElem rfl _ _ rfl (N + 1) v (flatP pre).length _ rfl hr W.heap.size A2 r.length k2 (byteCells r) rfl (by simp [byteCells]) hcr (byteCells_one _) (by unfold maxLen;omega) (by omega) (by omega) ?_;intro A' c' w1 hap;obtain ⟨hv1,hv2,hr2,hk2,hkp⟩ := kpb_append0 hv hr (by omega) (Nat.le_refl _) hap;have hc1 := hv1.cell;have hf1 := hv1.frozen)
  refine ⟨hk2,⟨hkp.low.mono (by omega),hkp.cells,hkp.own,hkp.size⟩,⟨_,hv2,?_⟩,?_,hb.trans (hkp.low.mono (by omega))⟩
  ·rw [flatP_snoc,List.length_append,byteCells_append];exact hr2
  ·have hpl : (pre ++ [((r,A2,k2) : PcV)]).length = pre.length + 1 := by simp
   rw [flatP_snoc,List.length_append,hpl]
   show (flatP pre).length + r.length ≤ _
   omega
 case done =>
  rintro D ys W hD hS ⟨⟨v,hv,hr⟩,hs,hb⟩ ⟨st,hst,hfin⟩ hK
  have hys : flatP ys = (pcA bs).1.flatten := by unfold flatP;rw [hS]
  rw [hys] at hr
  have HOK := Lib.hid (ok_any N A l c (st.p : Int) st.bad W hst)
  obtain ⟨A4,c4,rfl⟩ := own_form hr
  obtain ⟨n4,hn4⟩ : ∃ n4,(pcA bs).1.flatten.length = n4 := ⟨_,rfl⟩
  rw [hn4] at hr hv
  have hx5 : ∀ n,(W.drewN n).cell? ⟨N + 1,0,none⟩ = some (.slice A4 n4 c4) := fun n => hv.cell
  have HR := Lib.hid hr
  have HK := Lib.hid hK
  have HB5 := Lib.hid hb
  have HD := Lib.hid hD
  clear hr hK hs hb hS hys hn4
  have hlow : ∀ W',Below N w W' → W'.heap[D]? = some (.deferred (some [])) → Below w.heap.size w (W'.putObj D (.deferred none)) := fun W' h1 h2 => by
   rw [HNN.out]
   exact h1.trans ((Below.refl N W').grown (grownBy_putObj' W' D _) (by have := (Array.getElem?_eq_some_iff.1 h2).1;have := HD.out;have := HZ3.out;omega) (fun k e => by cases e;have := HD.out;have := HZ3.out;omega))
  have HLOW := Lib.hid hlow
  clear hlow
  rcases hfin with ⟨h1,h2⟩ | ⟨h1,h2,h3⟩ | ⟨h1,h2,h3⟩
  ·rw [h1] at HOK
   have HE := Lib.hid h2
   clear h1 h2 hst hv
   gi_wp2_with (first
    | (refine ⟨trivial,?_⟩;gi_at_call 128;refine (callsIn_wide.2 HOK.out).mono ?_;rintro e w5 ⟨rfl,rfl⟩))
   refine ⟨by simp,.inl ⟨_,_,rfl,run_takeDeferred HK.out,?_⟩⟩
   exact ⟨.tuple #[.slice none 0 0,.int .i64 2],by simp [results,Tryz.f80,go_sem],_,0,0,none,by rw [HE.out],rfl,fun h => (by rw [HE.out] at h;cases h),fun _ => rfl,HLOW.out W HB5.out HK.out⟩
  ·have hst' : Rd W N A l c (st.p : Int) st.bad := hst
   rw [h1] at HOK hst'
   rw [h2] at hst'
   have HLF := Lib.hid (left_any N A l c (l : Int) false W hst' (by omega) (by omega) (by omega))
   have hsub : (l : Int) - (l : Int) = 0 := by omega
   rw [hsub] at HLF
   have HE := Lib.hid h3
   clear h1 h2 h3 hst hst' hv
   gi_wp2_with (first
    | (refine ⟨trivial,?_⟩;gi_at_call 128;refine (callsIn_wide.2 HOK.out).mono ?_;rintro e w5 ⟨rfl,rfl⟩)
    | (refine ⟨trivial,?_⟩;gi_at_call 129;refine (callsIn_wide.2 HLF.out).mono ?_;rintro e w6 ⟨rfl,nq,rfl⟩;have hx6 := hx5 nq))
   refine ⟨by simp,.inl ⟨_,_,rfl,run_takeDeferred (show (W.drewN nq).heap[D]? = _ from HK.out),?_⟩⟩
   refine ⟨.tuple #[.slice A4 n4 c4,.int .i64 0],by simp [results,Tryz.f80,go_sem],_,n4,c4,A4,by rw [HE.out],rfl,fun _ => ?_,fun h => absurd HE.out h,HLOW.out (W.drewN nq) (below_drewN HB5.out nq) HK.out⟩
   have h5 : (W.drewN nq).ownsRow (N + 1) 5 1 (.slice A4 n4 c4) n4 (byteCells (pcA bs).1.flatten) := HR.out
   have h6 := ownsRow_putObj h5 (.deferred none) (show (W.drewN nq).heap[D]? = _ from HK.out) rfl
   rw [HNN.out]
   exact own_low (by omega) h6
  ·have hst' : Rd W N A l c (st.p : Int) st.bad := hst
   rw [h1] at HOK hst'
   have HLF := Lib.hid (left_any N A l c (st.p : Int) false W hst' (by omega) (by omega) (by omega))
   have hpos : 0 < (l : Int) - (st.p : Int) := by omega
   obtain ⟨lf,hlf⟩ : ∃ lf,(l : Int) - (st.p : Int) = lf := ⟨_,rfl⟩
   rw [hlf] at HLF hpos
   have HE := Lib.hid h3
   clear h1 h2 h3 hst hst' hv hlf
   gi_wp2_with (first
    | (refine ⟨trivial,?_⟩;gi_at_call 128;refine (callsIn_wide.2 HOK.out).mono ?_;rintro e w5 ⟨rfl,rfl⟩)
    | (refine ⟨trivial,?_⟩;gi_at_call 129;refine (callsIn_wide.2 HLF.out).mono ?_;rintro e w6 ⟨rfl,nq,rfl⟩;have hx6 := hx5 nq))
   refine ⟨by simp,.inl ⟨_,_,rfl,run_takeDeferred (show (W.drewN nq).heap[D]? = _ from HK.out),?_⟩⟩
   exact ⟨.tuple #[.slice none 0 0,.int .i64 3],by simp [results,Tryz.f80,go_sem],_,0,0,none,by rw [HE.out],rfl,fun h => (by rw [HE.out] at h;cases h),fun _ => rfl,HLOW.out (W.drewN nq) (below_drewN HB5.out nq) HK.out⟩
 case stop =>
  rintro D c pre W _ _ h _
  exact h.elim
end Go.Proofs.YtaknladkodibaaaGreatDoor
namespace Go.Proofs.YtaknladkodibaaaGreatDoor
open Go.RowKit Go.Shelf CrcP FieldP
end Go.Proofs.YtaknladkodibaaaGreatDoor
namespace Go.Proofs.YtaknladkodibaaaGreatDoor
open Go.RowKit CrcP FieldP
attribute [local go_sem ↓] Go.wp_at_zero Go.wp_at_succ
end Go.Proofs.YtaknladkodibaaaGreatDoor
