/- Layer 18: DescTakes walked. -/
import Derived.Test.YtaknladkodibaaaGreatDoorMgQ33837
import Derived.Test.YtaknladkodibaaaGreatDoorMgQ33824
import Derived.Test.YtaknladkodibaaaGreatDoorMgQ338SDcEn
import Derived.Deep.Cut
import Derived.Deep.DeepCutAuto
import Derived.Deep.LoopGhost
import Derived.BigQuiet
import Derived.RegionTactic
import Derived.Test.YtaknladkodibaaaGreatDoorMgQ33819
import Derived.IntWalk
import Derived.Outline
import Derived.Deep.CutRange
import Derived.Test.YtaknladkodibaaaGreatDoorMgQ33812
import Derived.OpenShut
namespace Go.Proofs.YtaknladkodibaaaGreatDoor
open Go.RowKit CrcP FieldP
attribute [local go_sem ↓] Go.wp_at_zero Go.wp_at_succ
theorem dcA_form (bs:List UInt8) (p:Int):∃ a b s:Int,dcA bs p = .agg #[.int .i64 a,.int .i64 b,.int .u32 s]:=by
 unfold dcA
 split
 ·exact ⟨_,_,_,rfl⟩
 ·exact ⟨_,_,_,rfl⟩
def sumP (ls:List PcV):Nat:=(ls.map fun x => x.1.length).sum
def pcsB (ls:List PcV):List UInt8:=(ls.map fun x => pieceB x.1).flatten
theorem take_up {α:Type} {L:List α} {k:Nat} {x:α} (h:L[k]? = some x):L.take (k + 1) = L.take k++[x]:=by rw [List.take_add_one,h];rfl
theorem sumP_up {ls:List PcV} {i:Nat} {x:PcV} (h:ls[i]? = some x):sumP (ls.take (i + 1)) = sumP (ls.take i) + x.1.length:=by
 unfold sumP
 rw [take_up h,List.map_append,List.sum_append]
 simp
theorem pcsB_up {ls:List PcV} {i:Nat} {x:PcV} (h:ls[i]? = some x):pcsB (ls.take (i + 1)) = pcsB (ls.take i)++pieceB x.1:=by
 unfold pcsB
 rw [take_up h,List.map_append,List.flatten_append]
 simp
theorem sumP_le (ls:List PcV) (i:Nat):sumP (ls.take i) ≤ sumP ls:=by
 have h:=List.take_append_drop i ls
 have:sumP ls = sumP (ls.take i) + sumP (ls.drop i):=by
  conv => lhs;rw [← h]
  unfold sumP
  rw [List.map_append,List.sum_append]
 omega
theorem pieceB_len (bs:List UInt8):(pieceB bs).length ≤ bs.length + 2:=by
 unfold pieceB
 split
 ·simp
 ·rw [List.length_append,putN_length];omega
theorem pcsB_len (ls:List PcV):(pcsB ls).length ≤ sumP ls + 2 * ls.length:=by
 induction ls with
 | nil => simp [pcsB,sumP]
 | cons x l ih =>
  have:=pieceB_len x.1
  simp only [pcsB,sumP,List.map_cons,List.flatten_cons,List.length_append,List.sum_cons,List.length_cons] at ih ⊢
  omega
def neR (ls:List PcV):List (List UInt8):=(ls.map (·.1)).filter fun r => decide (r ≠ [])
theorem neR_flat (ls:List PcV):(neR ls).flatten = (ls.map (·.1)).flatten:=by
 unfold neR
 induction ls with
 | nil => rfl
 | cons x l ih =>
  rw [List.map_cons,List.filter_cons]
  split
  ·rw [List.flatten_cons,List.flatten_cons,ih]
  ·rename_i h
   have hx:x.1 = []:=by simpa using h
   rw [List.flatten_cons,hx,List.nil_append,ih]
theorem pcL_stream:∀ (ls:List PcV),(∀ x ∈ ls,x.1.length ≤ 65535)→∀ k,(pcsB ls++[0,0]).length < k→pcL k (pcsB ls++[0,0]) = (neR ls,0)
 | [],_,k,hk => by
  obtain ⟨k,rfl⟩:∃ q,k = q + 1:=⟨k - 1,by omega⟩
  show pcL (k + 1) [0,0] = _
  rw [pcL_end (by decide) (by decide)]
  rfl
 | x :: l,hx,k,hk => by
  have ih:=pcL_stream l (fun y hy => hx y (by simp [hy]))
  have hx1:=hx x (by simp)
  by_cases h0:x.1 = []
  ·have e1:pcsB (x :: l) = pcsB l:=by unfold pcsB;rw [List.map_cons,List.flatten_cons];unfold pieceB;rw [if_pos h0];rfl
   have e2:neR (x :: l) = neR l:=by unfold neR;rw [List.map_cons,List.filter_cons,if_neg (by simp [h0])]
   rw [e1,e2]
   rw [e1] at hk
   exact ih k hk
  ·obtain ⟨T,hT⟩:∃ T,pcsB l++[0,0] = T:=⟨_,rfl⟩
   have e1:pcsB (x :: l)++[0,0] = putN x.1.length 2++(x.1++T):=by
    rw [← hT]
    unfold pcsB
    rw [List.map_cons,List.flatten_cons,pieceB,if_neg h0]
    simp
   have e2:neR (x :: l) = x.1 :: neR l:=by unfold neR;rw [List.map_cons,List.filter_cons,if_pos (by simp [h0])]
   rw [e1] at hk ⊢
   rw [hT] at ih
   have hp2:(putN x.1.length 2).length = 2:=putN_length _ _
   rw [List.length_append,List.length_append,hp2] at hk
   obtain ⟨k,rfl⟩:∃ q,k = q + 1:=⟨k - 1,by omega⟩
   have hpos:1 ≤ x.1.length:=by cases hh:x.1 with | nil => exact absurd hh h0 | cons => simp
   have t2:(putN x.1.length 2++(x.1++T)).take 2 = putN x.1.length 2:=by rw [List.take_append_of_le_length (by omega),List.take_of_length_le (by omega)]
   have hv:val (putN x.1.length 2) = x.1.length:=by rw [val_putN];exact Nat.mod_eq_of_lt (by show _ < 65536;omega)
   have d2:(putN x.1.length 2++(x.1++T)).drop 2 = x.1++T:=by rw [List.drop_append_of_le_length (by omega),List.drop_of_length_le (by omega),List.nil_append]
   have d3:(putN x.1.length 2++(x.1++T)).drop (2 + x.1.length) = T:=by rw [← List.drop_drop,d2,List.drop_append_of_le_length (Nat.le_refl _),List.drop_length,List.nil_append]
   rw [pcL_step (by rw [List.length_append,hp2];omega) (by rw [t2,hv];omega) (by rw [t2,hv,List.length_append,List.length_append,hp2];omega),t2,hv,d2,d3,ih k (by omega),e2,List.take_append_of_le_length (Nat.le_refl _),List.take_length]
theorem pcA_stream {ls:List PcV} (h:∀ x ∈ ls,x.1.length ≤ 65535):pcA (pcsB ls++[0,0]) = (neR ls,0):=pcL_stream ls h _ (Nat.lt_succ_self _)
theorem flat_sum (ls:List PcV):(neR ls).flatten.length = sumP ls:=by
 rw [neR_flat]
 unfold sumP
 rw [List.length_flatten,List.map_map]
 rfl
def pcC (x:PcV):Value:=.slice x.2.1 x.1.length x.2.2
structure RowsIn (w:World) (A:Option Addr) (ls:List PcV):Prop where
 row:Cells w w.heap.size A (ls.map pcC)
 each:∀ x ∈ ls,Bytes w w.heap.size x.2.1 x.1∧x.1.length ≤ x.2.2
set_option maxRecDepth 100000 in
set_option maxHeartbeats 600000 in
theorem stream_any (A:Option Addr) (l c:Nat) (ls:List PcV) (w:World) (hl:ls.length = l) (hm:l ≤ 1000) (hr:RowsIn w A ls) (hs:sumP ls ≤ 65535) :
  Calls Tryz.prog 38 #[.slice A l c] w fun e w' => ∃ A' n c',e = .returned (.tuple #[.slice A' n c',.int .i64 0])∧OwnY w' w.heap.size (.slice A' n c') n (pcsB ls++[0,0])∧Below w.heap.size w w':=by
 have HL:=Lib.hid hl
 have HR:=Lib.hid hr
 have HS:=Lib.hid (fun i => sumP_le ls i)
 have hsl:sumP ls ≤ 65535:=hs
 have HPL:=Lib.hid (fun i => pcsB_len (ls.take i))
 clear hl hr hs
 go_enter Tryz.func38,Tryz.ntmps38
 go_wp2
 go_loopg [4,5,10] l (fun gk sa sn si wr => ∃ (i n m c':Nat) (A':Option Addr),i + gk = l∧si = .int .i64 (i:Int)∧sn = .int .i64 (n:Int)∧sa = .slice A' m c'∧n = sumP (ls.take i)∧OwnB wr w.heap.size 5 (.slice A' m c') m (pcsB (ls.take i))∧Below w.heap.size w wr)
 case atStart => exact ⟨0,0,0,0,none,by omega,rfl,rfl,rfl,by simp [sumP],World.ownsRow_nil _ _ _ _,Below.refl _ _⟩
 case round =>
  obtain ⟨i,n,m,c',A',hi,rfl,rfl,rfl,hn,hown,hbel⟩:=hrel
  have HO:=Lib.hid hown
  have HB:=Lib.hid hbel
  have HN:=Lib.hid hn
  have hn2:n ≤ 65535:=by have:=HS.out i;omega
  have hm2:m ≤ 70000:=by
   have h1:=hown.1
   rw [byteCells_length] at h1
   have h2:=HPL.out i
   have h3:=HS.out i
   have h4:(ls.take i).length ≤ 1000:=by rw [List.length_take];have:=HL.out;omega
   omega
  clear hown hbel hn
  by_cases hil:i < l
  ·obtain ⟨x,hx⟩:∃ x,ls[i]? = some x:=⟨_,List.getElem?_eq_getElem (by rw [HL.out];exact hil)⟩
   obtain ⟨b,o,rfl,hbB,hcc⟩:=HR.out.row (by rw [List.length_map,HL.out];omega)
   have ci:wr.cell? ⟨b,o + i,none⟩ = some (pcC x):=(HB.out.cell (p:=⟨b,o + i,none⟩) (by show b < _;omega)).trans (hcc i _ (by rw [List.getElem?_map,hx];rfl))
   have hex:=HR.out.each x (List.mem_of_getElem? hx)
   have HU:=Lib.hid (sumP_up hx)
   have HPU:=Lib.hid (pcsB_up hx)
   have HS1:=HS.out (i + 1)
   obtain ⟨r,A2,k2⟩:=x
   have hrl:n + r.length ≤ 65535:=by
    have h1:=HU.out
    have h2:=HN.out
    dsimp only at h1
    omega
   have HPC:=Lib.hid (piece_any A2 r.length k2 w.heap.size r wr rfl (by omega) hex.2 (hex.1.below HB.out (Nat.le_refl _)) HB.out.size)
   have ci2:wr.cell? ⟨b,o + i,none⟩ = some (.slice A2 r.length k2):=ci
   have u1:¬ 65536 - (n:Int) < (r.length:Int):=by omega
   obtain ⟨rl,hrl2⟩:∃ rl,r.length = rl:=⟨_,rfl⟩
   have HN2:Hid (n + rl = sumP (ls.take (i + 1))):=by show _ = _;rw [HU.out,HN.out,← hrl2]
   rw [hrl2] at ci2 u1 hrl HPC
   have hpl:=pieceB_len r
   clear hcc ci hx hex HS1
   go_wp2_with (first
    | (go_at_call 78;refine HPC.out.mono ?_;rintro e w2 ⟨A3,n3,c3,rfl,ho3,hb3⟩;have HO3:=Lib.hid ho3;have HB3:=Lib.hid (HB.out.trans (hb3.mono HB.out.size));have HO2:Hid (OwnB w2 w.heap.size 5 (.slice A' m c') m (pcsB (ls.take i))):=own_keep HO.out (Mod.of_below hb3) (fun _ _ h => h);have hn3:n3 ≤ 65600:=(by have h1:=ho3.1;rw [byteCells_length] at h1;omega);have hl3:(byteCells (pieceB r)).length = n3:=ho3.1;have HL3:=Lib.hid hl3;clear ho3 hb3 hl3)
    | (at_builtin;refine wpList_app _ byteElem rfl (.tmp 23) (.tmp 25) rfl w.heap.size (.slice A' m c') m (byteCells (pcsB (ls.take i))) rfl HO2.out w2.heap.size A3 n3 c3 (byteCells (pieceB r)) rfl (by rw [HL3.out,Nat.mul_one]) HO3.out.cells (byteCells_one _) (by unfold maxLen;omega) (by omega) HB3.out.size ?_;intro A6 c6 w6 hA;have HA:=Lib.hid hA;clear hA))
   go_roundg (gk - 1)
   case measure => omega
   case rel =>
    refine ⟨i + 1,n + rl,m + n3,c6,A6,by omega,by go_num,by go_num,rfl,HN2.out,?_,HA.out.below HB3.out HB3.out.size (own_base HO2.out)⟩
    rw [HPU.out]
    have:=HA.out.own
    show World.ownsRow _ _ _ _ _ _ _
    rw [byteCells_append]
    exact this
  ·obtain rfl:i = l:=by omega
   have hall:ls.take i = ls:=by rw [← HL.out,List.take_length]
   have HCP:=Lib.hid (cput_any (.slice A' m c') m (pcsB (ls.take i)) 0 w.heap.size wr (by omega) (by omega) (OwnT.of HO.out) HB.out.size)
   rw [hall] at HCP
   clear hall
   go_wp2_with (go_at_call 79;refine HCP.out.mono ?_;rintro e w2 ⟨A3,c3,rfl,hap⟩;have HAP:=Lib.hid hap;clear hap)
   go_ret2
   exact ⟨A3,m + 2,c3,rfl,HAP.out.own,HAP.out.below HB.out HB.out.size (own_base HO.out)⟩
end Go.Proofs.YtaknladkodibaaaGreatDoor
namespace Go.Proofs.YtaknladkodibaaaGreatDoor
open Go.RowKit CrcP FieldP
theorem capS {w:World} {base n c:Nat} {e:TypeId} {A:Option Addr} {xs:List Value} (h:OwnT w base e (.slice A n c) n xs):n ≤ c:=by
 rcases h.2 with ⟨h1,h2⟩ | ⟨g,cap,cur,fz,hv,_,_,_,hnc,_⟩
 ·simp only [Value.slice.injEq] at h1
  omega
 ·simp only [Value.slice.injEq] at hv
  obtain ⟨_,_,rfl⟩:=hv
  exact hnc
theorem RowsIn.belowS {w V:World} {A:Option Addr} {ls:List PcV} (h:RowsIn w A ls) (hV:Below w.heap.size w V):RowsIn V A ls :=
 ⟨(Cells.below h.row hV (Nat.le_refl _)).more hV.size,fun x hx => ⟨(Cells.below (h.each x hx).1 hV (Nat.le_refl _)).more hV.size,(h.each x hx).2⟩⟩
end Go.Proofs.YtaknladkodibaaaGreatDoor
namespace Go.Proofs.YtaknladkodibaaaGreatDoor
open Go.RowKit CrcP FieldP
attribute [local go_sem ↓] Go.wp_at_zero Go.wp_at_succ
def PcPost (bs:List UInt8) (w:World) (e:Ending) (w':World):Prop:=∃ (v:Value) (n cp:Nat) (A':Option Addr),e = .returned (.tuple #[v,.int .i64 (pcA bs).2])∧v = .slice A' n cp∧((pcA bs).2 = 0→OwnB w' w.heap.size 5 v n (pcA bs).1.flatten)∧((pcA bs).2 ≠ 0→v = .slice none 0 0)∧Below w.heap.size w w'
def ofV (bs:List UInt8):Nat × Nat × Nat × Int :=
 if (pcA bs).2 ≠ 0 then (0,0,0,(pcA bs).2) else if dcB (pcA bs).1.flatten.length bs.length = true then ((pcA bs).1.flatten.length,bs.length,sumN bs,0) else (0,0,0,5)
set_option maxRecDepth 100000 in
set_option maxHeartbeats 1000000 in
theorem dcOf_any (tg:Nat) (A:Option Addr) (l c B:Nat) (bs:List UInt8) (w:World) (hT:Table w tg) (hl:bs.length = l) (hm:l ≤ 1000000) (hc:l ≤ c) (hb:Bytes w B A bs) (hB:B ≤ w.heap.size) :
  Calls Tryz.prog 39 #[.pointer (some ⟨tg,0,none⟩),.slice A l c] w fun e w' => e = .returned (.tuple #[.agg #[.int .i64 ((ofV bs).1:Nat),.int .i64 ((ofV bs).2.1:Nat),.int .u32 ((ofV bs).2.2.1:Nat)],.int .i64 (ofV bs).2.2.2])∧Below w.heap.size w w':=by
 have HT:Hid (Table w tg):=hT
 have htl:=hT.lt
 have HBY:Hid (Bytes w B A bs):=hb
 have HP:Hid (Calls Tryz.prog 80 #[.slice A l c] (w.alloc (.cells #[.int .i64 0,.int .i64 0,.int .u32 0] 78)) fun e w' => PcPost bs (w.alloc (.cells #[.int .i64 0,.int .i64 0,.int .u32 0] 78)) e w'):=piecesOf_any A l c B bs (w.alloc (.cells #[.int .i64 0,.int .i64 0,.int .u32 0] 78)) hl hm hc (hb.alloc hB (.cells #[.int .i64 0,.int .i64 0,.int .u32 0] 78)) (by simp;omega)
 have HS:Hid (∀ W,Table W tg→Bytes W B A bs→Calls Tryz.prog 33 #[.pointer (some ⟨tg,0,none⟩),.slice A l c] W fun e w' => e = .returned (.int .u32 (sumN bs:Nat))∧W = w'):=fun W h1 h2 => sum_any tg A l c bs B W hl (by omega) h1 h2
 have HRT:Hid (∀ (n s:Int) W,Calls Tryz.prog 81 #[.agg #[.int .i64 n,.int .i64 (l:Int),.int .u32 s]] W fun e w' => e = .returned (.bool (dcB n l))∧W.alloc (.cells #[.int .i64 n,.int .i64 (l:Int),.int .u32 s] 78) = w'):=fun n s W => dcRight_any n l s W
 have HX0:Hid (Box (w.alloc (.cells #[.int .i64 0,.int .i64 0,.int .u32 0] 78)) w.heap.size #[.int .i64 0,.int .i64 0,.int .u32 0] 78):=heap_alloc_new w _
 have HB0:=Lib.hid ((Below.refl w.heap.size w).alloc (Nat.le_refl _) (.cells #[.int .i64 0,.int .i64 0,.int .u32 0] 78))
 have HZ0:Hid ((w.alloc (.cells #[.int .i64 0,.int .i64 0,.int .u32 0] 78)).heap.size = w.heap.size + 1):=by show _ = _;simp
 have HBZ:=Lib.hid hB
 have HL:=Lib.hid hl
 clear hT hb hc hB hl
 obtain ⟨e0,he0⟩:∃ e0,(pcA bs).2 = e0:=⟨_,rfl⟩
 obtain ⟨nd,hnd⟩:∃ nd,(pcA bs).1.flatten.length = nd:=⟨_,rfl⟩
 have HV:Hid (ofV bs = if e0 ≠ 0 then (0,0,0,e0) else if dcB nd l = true then (nd,l,sumN bs,0) else (0,0,0,5)):=by show _ = _;unfold ofV;rw [he0,hnd,HL.out]
 have HP2:Hid (∀ e w1,PcPost bs (w.alloc (.cells #[.int .i64 0,.int .i64 0,.int .u32 0] 78)) e w1→∃ (n cp:Nat) (A':Option Addr),e = .returned (.tuple #[.slice A' n cp,.int .i64 e0])∧(e0 = 0→n = nd)∧Below (w.alloc (.cells #[.int .i64 0,.int .i64 0,.int .u32 0] 78)).heap.size (w.alloc (.cells #[.int .i64 0,.int .i64 0,.int .u32 0] 78)) w1):=fun e w1 h => by
  obtain ⟨v,n,cp,A',h1,h2,h3,_,h5⟩:=h
  subst h2
  rw [he0] at h1 h3
  refine ⟨n,cp,A',h1,fun h0 => ?_,h5⟩
  have:=(h3 h0).1
  rw [byteCells_length] at this
  omega
 generalize sumN bs = s at *
 clear he0 hnd
 go_enter Tryz.func39,Tryz.ntmps39
 by_cases hz:e0 = 0
 ·have t0:(e0 == 0) = true:=by simp [hz]
  have t0':(e0 != 0) = false:=by simp [hz]
  have HZE:=Lib.hid hz
  clear hz
  go_wp2_with fail
  refine HP.out.mono ?_
  intro e w1 hpp
  obtain ⟨n,cp,A',rfl,hn0,hbw⟩:=HP2.out e w1 hpp
  have HX1:Hid (Box w1 w.heap.size #[.int .i64 0,.int .i64 0,.int .u32 0] 78):=HX0.out.below hbw (by rw [HZ0.out];omega)
  have HB1:Hid (Below w.heap.size w w1):=HB0.out.trans (hbw.mono (by rw [HZ0.out];omega))
  have HS1:=Lib.hid (HS.out w1 (HT.out.below HB1.out htl) (Cells.below HBY.out HB1.out HBZ.out))
  have hx0:w1.cell? ⟨w.heap.size,0,none⟩ = some (.int .i64 0):=HX1.out.cell 0
  have hx1:w1.cell? ⟨w.heap.size,1,none⟩ = some (.int .i64 0):=HX1.out.cell 1
  have hx2:w1.cell? ⟨w.heap.size,2,none⟩ = some (.int .u32 0):=HX1.out.cell 2
  have hf0:=frozen_of_row w1 w.heap.size 0 _ _ HX1.out
  have hf1:=frozen_of_row w1 w.heap.size 1 _ _ HX1.out
  have hf2:=frozen_of_row w1 w.heap.size 2 _ _ HX1.out
  obtain rfl:n = nd:=hn0 HZE.out
  clear hpp hbw hn0
  cases hd:dcB (n:Int) (l:Int) with
  | true =>
   have HVV:Hid (ofV bs = (n,l,s,0)):=by show _ = _;rw [HV.out,if_neg (by simp [HZE.out]),if_pos hd]
   have HR2:=Lib.hid (HRT.out (n:Int) (s:Int))
   rw [hd] at HR2
   clear hd
   go_wp2_with (go_at_call 33;refine HS1.out.mono ?_;rintro e w' ⟨rfl,rfl⟩)
   refine (HR2.out _).mono ?_
   rintro e w2 ⟨rfl,hw2⟩
   have hz1:w.heap.size < w1.heap.size:=HX1.out.lt
   have HX2:Hid (Box w2 w.heap.size #[.int .i64 0,.int .i64 0,.int .u32 0] 78):=by (rw [← hw2];exact (HX1.out.alloc _).alloc _)
   have HY2:Hid (Box w2 w1.heap.size #[.int .i64 (n:Int),.int .i64 (l:Int),.int .u32 (s:Int)] 78):=by (rw [← hw2];exact Box.alloc (heap_alloc_new _ _) _)
   have HB2:Hid (Below w.heap.size w w2):=by (rw [← hw2];exact (HB1.out.alloc HB1.out.size _).alloc (by simp;omega) _)
   clear hw2 hx0 hx1 hx2 hf0 hf1 hf2
   have hx0:w2.cell? ⟨w.heap.size,0,none⟩ = some (.int .i64 0):=HX2.out.cell 0
   have hx1:w2.cell? ⟨w.heap.size,1,none⟩ = some (.int .i64 0):=HX2.out.cell 1
   have hx2:w2.cell? ⟨w.heap.size,2,none⟩ = some (.int .u32 0):=HX2.out.cell 2
   have hf0:=frozen_of_row w2 w.heap.size 0 _ _ HX2.out
   have hf1:=frozen_of_row w2 w.heap.size 1 _ _ HX2.out
   have hf2:=frozen_of_row w2 w.heap.size 2 _ _ HX2.out
   have hy0:w2.cell? ⟨w1.heap.size,0,none⟩ = some (.int .i64 (n:Int)):=HY2.out.cell 0
   have hy1:w2.cell? ⟨w1.heap.size,1,none⟩ = some (.int .i64 (l:Int)):=HY2.out.cell 1
   have hy2:w2.cell? ⟨w1.heap.size,2,none⟩ = some (.int .u32 (s:Int)):=HY2.out.cell 2
   go_wp2
   refine bodyPost_ret (v:=.tuple #[.agg #[.int .i64 (n:Int),.int .i64 (l:Int),.int .u32 (s:Int)],.int .i64 0]) (by simp [results,Tryz.results39,hx0,hx1,hx2,go_sem]) rfl ⟨by rw [HVV.out],?_⟩
   exact ((HB2.out.setCell (p:=⟨w.heap.size,0,none⟩) (Nat.le_refl _) _).setCell (p:=⟨w.heap.size,1,none⟩) (Nat.le_refl _) _).setCell (p:=⟨w.heap.size,2,none⟩) (Nat.le_refl _) _
  | false =>
   have HVV:Hid (ofV bs = (0,0,0,5)):=by show _ = _;rw [HV.out,if_neg (by simp [HZE.out]),if_neg (by rw [hd];simp)]
   have HR2:=Lib.hid (HRT.out (n:Int) (s:Int))
   rw [hd] at HR2
   clear hd
   go_wp2_with (go_at_call 33;refine HS1.out.mono ?_;rintro e w' ⟨rfl,rfl⟩)
   refine (HR2.out _).mono ?_
   rintro e w2 ⟨rfl,hw2⟩
   have hz1:w.heap.size < w1.heap.size:=HX1.out.lt
   have HX2:Hid (Box w2 w.heap.size #[.int .i64 0,.int .i64 0,.int .u32 0] 78):=by (rw [← hw2];exact (HX1.out.alloc _).alloc _)
   have HY2:Hid (Box w2 w1.heap.size #[.int .i64 (n:Int),.int .i64 (l:Int),.int .u32 (s:Int)] 78):=by (rw [← hw2];exact Box.alloc (heap_alloc_new _ _) _)
   have HB2:Hid (Below w.heap.size w w2):=by (rw [← hw2];exact (HB1.out.alloc HB1.out.size _).alloc (by simp;omega) _)
   clear hw2 hx0 hx1 hx2 hf0 hf1 hf2
   have hx0:w2.cell? ⟨w.heap.size,0,none⟩ = some (.int .i64 0):=HX2.out.cell 0
   have hx1:w2.cell? ⟨w.heap.size,1,none⟩ = some (.int .i64 0):=HX2.out.cell 1
   have hx2:w2.cell? ⟨w.heap.size,2,none⟩ = some (.int .u32 0):=HX2.out.cell 2
   have hf0:=frozen_of_row w2 w.heap.size 0 _ _ HX2.out
   have hf1:=frozen_of_row w2 w.heap.size 1 _ _ HX2.out
   have hf2:=frozen_of_row w2 w.heap.size 2 _ _ HX2.out
   go_wp2
   refine bodyPost_ret (v:=.tuple #[.agg #[.int .i64 0,.int .i64 0,.int .u32 0],.int .i64 5]) (by simp [results,Tryz.results39,hx0,hx1,hx2,go_sem]) rfl ⟨by rw [HVV.out];rfl,?_⟩
   exact ((HB2.out.setCell (p:=⟨w.heap.size,0,none⟩) (Nat.le_refl _) _).setCell (p:=⟨w.heap.size,1,none⟩) (Nat.le_refl _) _).setCell (p:=⟨w.heap.size,2,none⟩) (Nat.le_refl _) _
 ·have t0:(e0 == 0) = false:=by simp [hz]
  have t0':(e0 != 0) = true:=by simp [hz]
  have HVV:Hid (ofV bs = (0,0,0,e0)):=by show _ = _;rw [HV.out,if_pos hz]
  clear hz
  go_wp2_with fail
  refine HP.out.mono ?_
  intro e w1 hpp
  obtain ⟨n,cp,A',rfl,hn0,hbw⟩:=HP2.out e w1 hpp
  have HX1:Hid (Box w1 w.heap.size #[.int .i64 0,.int .i64 0,.int .u32 0] 78):=HX0.out.below hbw (by rw [HZ0.out];omega)
  have HB1:Hid (Below w.heap.size w w1):=HB0.out.trans (hbw.mono (by rw [HZ0.out];omega))
  have HS1:=Lib.hid (HS.out w1 (HT.out.below HB1.out htl) (Cells.below HBY.out HB1.out HBZ.out))
  have hx0:w1.cell? ⟨w.heap.size,0,none⟩ = some (.int .i64 0):=HX1.out.cell 0
  have hx1:w1.cell? ⟨w.heap.size,1,none⟩ = some (.int .i64 0):=HX1.out.cell 1
  have hx2:w1.cell? ⟨w.heap.size,2,none⟩ = some (.int .u32 0):=HX1.out.cell 2
  have hf0:=frozen_of_row w1 w.heap.size 0 _ _ HX1.out
  have hf1:=frozen_of_row w1 w.heap.size 1 _ _ HX1.out
  have hf2:=frozen_of_row w1 w.heap.size 2 _ _ HX1.out
  clear hpp hbw hn0
  go_wp2
  refine bodyPost_ret (v:=.tuple #[.agg #[.int .i64 0,.int .i64 0,.int .u32 0],.int .i64 e0]) (by simp [results,Tryz.results39,hx0,hx1,hx2,go_sem]) rfl ⟨by rw [HVV.out];rfl,?_⟩
  exact ((HB1.out.setCell (p:=⟨w.heap.size,0,none⟩) (Nat.le_refl _) _).setCell (p:=⟨w.heap.size,1,none⟩) (Nat.le_refl _) _).setCell (p:=⟨w.heap.size,2,none⟩) (Nat.le_refl _) _
end Go.Proofs.YtaknladkodibaaaGreatDoor
namespace Go.Proofs.YtaknladkodibaaaGreatDoor
open Go.RowKit CrcP FieldP
theorem end_stream:∀ (ls:List PcV),(∀ x ∈ ls,x.1.length ≤ 65535)→∀ (P T:List UInt8),endN (P++(pcsB ls++([0,0]++T))) P.length = some (P.length + (pcsB ls).length + 2)
 | [],_,P,T => by
  have h2:two (P++(pcsB []++([0,0]++T))) P.length = 0:=by
   unfold two
   rw [List.drop_append_of_le_length (Nat.le_refl _),List.drop_length]
   rfl
  rw [endN_zero (by simp [pcsB]) h2]
  rfl
 | x :: l,hx,P,T => by
  have hx1:=hx x (by simp)
  by_cases h0:x.1 = []
  ·have e1:pcsB (x :: l) = pcsB l:=by unfold pcsB;rw [List.map_cons,List.flatten_cons];unfold pieceB;rw [if_pos h0];rfl
   rw [e1]
   exact end_stream l (fun y hy => hx y (by simp [hy])) P T
  ·have hp2:(putN x.1.length 2).length = 2:=putN_length _ _
   have e1:pcsB (x :: l) = (putN x.1.length 2++x.1)++pcsB l:=by unfold pcsB;rw [List.map_cons,List.flatten_cons];unfold pieceB;rw [if_neg h0]
   have ih:=end_stream l (fun y hy => hx y (by simp [hy])) (P++(putN x.1.length 2++x.1)) T
   have ea:P++(pcsB (x :: l)++([0,0]++T)) = P++(putN x.1.length 2++x.1)++(pcsB l++([0,0]++T)):=by rw [e1];simp [List.append_assoc]
   have hv:val (putN x.1.length 2) = x.1.length:=by rw [val_putN];exact Nat.mod_eq_of_lt (by show _ < 65536;omega)
   have hpos:1 ≤ x.1.length:=by cases hh:x.1 with | nil => exact absurd hh h0 | cons => simp
   rw [ea]
   have h2:two (P++(putN x.1.length 2++x.1)++(pcsB l++([0,0]++T))) P.length = x.1.length:=by
    unfold two
    rw [List.append_assoc,List.drop_append_of_le_length (Nat.le_refl _),List.drop_length,List.nil_append,List.append_assoc,List.take_append_of_le_length (by omega),List.take_of_length_le (by omega),hv]
   have hl2:(P++(putN x.1.length 2++x.1)).length = P.length + 2 + x.1.length:=by rw [List.length_append,List.length_append,hp2];omega
   rw [endN_more (by rw [List.length_append,hl2];omega) (by rw [h2];omega),h2,← hl2,ih,hl2,e1,List.length_append,List.length_append,hp2]
   congr 1
   omega
theorem desc_back {a s:List UInt8} {n l m:Nat} (T:List UInt8) (hd:dcB (n:Int) (l:Int) = true) (hm:m < 4294967296) (hs:s = descB (n:Int) (l:Int) (m:Int)):dcR (a++(s++T)) (a.length:Int) = 0∧dcA (a++(s++T)) (a.length:Int) = .agg #[.int .i64 (n:Int),.int .i64 (l:Int),.int .u32 (m:Int)]:=by
 obtain ⟨_,h2,_,h4⟩:=dcB_yes hd
 have hsl:s.length = 20:=by rw [hs];exact threeB_length _ _ _ _ rfl
 have h20:((a++(s++T)).drop a.length).take 20 = threeB descBytes n l m:=by
  rw [List.drop_append_of_le_length (Nat.le_refl _),List.drop_length,List.nil_append,List.take_append_of_le_length (by omega),List.take_of_length_le (by omega),hs]
  unfold descB
  rw [Int.toNat_natCast,Int.toNat_natCast,Int.toNat_natCast]
 obtain ⟨b1,b2,b3,b4,b5,b6⟩:=three_back (mk:=descBytes) rfl (by omega) (by omega) hm h20
 have hisB:isB descBytes (a++(s++T)) (a.length:Int) = true:=by
  rw [isB_in (by show _ + 4 ≤ _;omega)]
  exact decide_eq_true b2
 have hr:dcR (a++(s++T)) (a.length:Int) = 0:=by
  unfold dcR
  rw [Int.toNat_natCast,if_neg (by omega),if_neg (by omega),if_neg (by rw [hisB];simp),if_neg (by rw [b3];simp),b4,b5,if_neg (by rw [hd];simp)]
 refine ⟨hr,?_⟩
 unfold dcA
 rw [if_pos hr,Int.toNat_natCast,b4,b5,b6]
theorem ofV_stream {ls:List PcV} (h:∀ x ∈ ls,x.1.length ≤ 65535) (h1:sumP ls ≤ 65535) (h2:ls.length ≤ 1000) :
  ofV (pcsB ls++[0,0]) = (sumP ls,(pcsB ls++[0,0]).length,sumN (pcsB ls++[0,0]),0)∧dcB (sumP ls:Nat) ((pcsB ls++[0,0]).length:Nat) = true:=by
 have hl:=pcsB_len ls
 have hd:dcB (sumP ls:Nat) ((pcsB ls++[0,0]).length:Nat) = true:=by
  unfold dcB
  rw [List.length_append]
  simp
  omega
 refine ⟨?_,hd⟩
 unfold ofV
 rw [pcA_stream h]
 dsimp only
 rw [if_neg (by simp),flat_sum,if_pos hd]
end Go.Proofs.YtaknladkodibaaaGreatDoor
namespace Go.Proofs.YtaknladkodibaaaGreatDoor
open Go.RowKit CrcP FieldP
attribute [local go_sem ↓] Go.wp_at_zero Go.wp_at_succ
end Go.Proofs.YtaknladkodibaaaGreatDoor
namespace Go.Proofs.YtaknladkodibaaaGreatDoor
open Go.RowKit
theorem rowsIn2_of_lies {w:World} {a:Option Addr} {len cap:Nat} (h:Lies w (.slice (.slice (.int .u8))) [.slice a len cap]):∃ ls:List PcV,ls.length = len∧len ≤ 9223372036854775807∧RowsIn w a ls∧∀ x ∈ ls,x.1.length ≤ 9223372036854775807:=by
 obtain ⟨rs,h1,h2,h3,_,h4⟩:=rows_as (fun x:PcV => [pcC x]) (fun x => (Bytes w w.heap.size x.2.1 x.1∧x.1.length ≤ x.2.2)∧x.1.length ≤ 9223372036854775807) h (fun x _ hx => by
  have hx2:=hx
  obtain ⟨A,l,c,X,he,_,hlc,_⟩:=hx2
  subst he
  obtain ⟨bs,q1,q2,q3⟩:=bytes_of_lies hx
  refine ⟨(bs,A,c),?_,⟨q3,?_⟩,?_⟩
  ·show _ = [Value.slice A bs.length c]
   rw [q1]
  ·show bs.length ≤ c
   omega
  ·show bs.length ≤ _
   rw [q1]
   exact q2)
 rw [flatten_single] at h4
 exact ⟨rs,h1,h2,⟨h4,fun x hx => (h3 x hx).1⟩,fun x hx => (h3 x hx).2⟩
end Go.Proofs.YtaknladkodibaaaGreatDoor
