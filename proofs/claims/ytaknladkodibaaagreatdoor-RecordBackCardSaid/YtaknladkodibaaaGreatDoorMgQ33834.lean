/- Layer 10: the candidates, as an iterator tells them. -/
import Derived.Test.YtaknladkodibaaaGreatDoorMgQ33821
import Derived.Test.YtaknladkodibaaaGreatDoorMgQ33817
import Derived.Laws.Cover3
import Derived.Stop.BytesEq
import Derived.Sort.QuietIn
import Derived.Lib.Hide
import Derived.Below
import Derived.Maps.OwnSet
import Derived.Maps.Views
import Derived.DeepKeys4
import Derived.MakeChecks
import Derived.RegionTactic
import Derived.Deep.LoopGhost
import Derived.BigQuiet
import Derived.Test.YtaknladkodibaaaGreatDoorMgQ33808
import Derived.Test.YtaknladkodibaaaGreatDoorMgQ338SKpB
import Derived.Maps.AppendAt
namespace Go.Proofs.YtaknladkodibaaaGreatDoor
open Go.RowKit Go.Shelf
attribute [local go_sem] Oper.semAt_some
def begM (l:Nat) (a:Int):Bool:=decide (0 ≤ a) && decide (a ≤ (l:Int) - 3)
set_option maxHeartbeats 400000 in
theorem begins_any (A:Option Addr) (l c:Nat) (a:Int) (w:World) (hm:l ≤ 1099511627776) :
  Calls Tryz.prog 198 #[.slice A l c,.int .i64 a] w fun e w' => e = .returned (.bool (begM l a))∧w = w':=by
 by_cases h0:0 ≤ a
 ·have HB:Hid (begM l a = decide (a ≤ (l:Int) - 3)):=by show _ = _;rw [begM,decide_eq_true h0,Bool.true_and]
  have hd:decide (0 ≤ a) = true:=decide_eq_true h0
  clear h0
  go_enter Tryz.func198,Tryz.ntmps198
  go_wp2
  go_ret
  exact ⟨by rw [HB.out];rfl,rfl⟩
 ·have HB:Hid (begM l a = false):=by show _ = _;rw [begM,decide_eq_false h0,Bool.false_and]
  have hd:decide (0 ≤ a) = false:=decide_eq_false h0
  clear h0
  go_enter Tryz.func198,Tryz.ntmps198
  go_wp2
  go_ret
  exact ⟨by rw [HB.out];rfl,rfl⟩
def KeepC (S:Nat→Prop) (W W':World):Prop:=∀ k o,W.heap[k]? = some o→o.isCells = true→¬ S k→W'.heap[k]? = some o
theorem KeepC.refl (S:Nat→Prop) (W:World):KeepC S W W:=fun _ _ h _ _ => h
theorem KeepC.trans {S:Nat→Prop} {A B C:World} (h:KeepC S A B) (k:KeepC S B C):KeepC S A C:=fun j o hj ho hs => k j o (h j o hj ho hs) ho hs
theorem KeepC.cell {S:Nat→Prop} {W W':World} {a:Addr} {v:Value} (h:KeepC S W W') (hc:W.cell? a = some v) (hs:¬ S a.block):W'.cell? a = some v:=by
 obtain ⟨o,ho,hi⟩:=cells_of_cell hc
 exact (World.cell?_of_block ((h _ o ho hi hs).trans ho.symm)).trans hc
theorem KeepC.putObj (S:Nat→Prop) (W:World) (l:Nat) (o o':Obj) (ho:W.heap[l]? = some o) (hc:o.isCells = false):KeepC S W (W.putObj l o'):=fun k p hk hp _ => by
 by_cases h:k = l
 ·rw [h,ho] at hk;cases hk;rw [hc] at hp;cases hp
 ·exact (World.putObj_heap_other h).trans hk
theorem KeepC.set {S:Nat→Prop} {W:World} (a:Addr) (v:Value) (h:S a.block):KeepC S W (W.setCell a v):=fun k _ hk _ hs => (Below.heap_setCell W a v k (fun e => hs (by rw [e];exact h))).trans hk
theorem begB_yes {l:Nat} {a:Int} (h:begM l a = true):0 ≤ a∧a + 3 ≤ (l:Int):=by
 unfold begM at h
 rw [Bool.and_eq_true,decide_eq_true_eq,decide_eq_true_eq] at h
 omega
theorem begB_no {bs:List UInt8} {l:Nat} {a:Int} (hl:bs.length = l) (h:begM l a = false):cands bs a = []:=by
 unfold begM at h
 rw [Bool.and_eq_false_iff,decide_eq_false_iff_not,decide_eq_false_iff_not] at h
 rw [cands,if_neg (by omega)]
theorem cands_at {bs:List UInt8} {n:Nat} (h:n + 3 ≤ bs.length):cands bs (n:Int) = candN bs n (min n 32768):=by
 rw [cands,if_pos (by omega)]
 simp
theorem abidesDrewN {α:Type} {B:Nat} {J:List α→World→Prop} (h:AbidesS B (fun _ => False) J) {s:List α} {W:World} (hj:J s W) (n:Nat):J s (W.drewN n) :=
 h s W _ none hj ⟨rfl,rfl,rfl,Nat.le_refl _,fun _ _ _ => rfl⟩ (fun r e => by cases e)
theorem cell_alloc_l {W:World} {a:Addr} {v:Value} (o:Obj) (h:W.cell? a = some v):(W.alloc o).cell? a = some v:=cell_kept h (World.grownBy_alloc W o none) (fun r e => by cases e)
theorem agg3 {x0 x1 x2 y0 y1 y2:UInt8}:((Value.agg #[.int .u8 (y0.toNat:Int),.int .u8 (y1.toNat:Int),.int .u8 (y2.toNat:Int)]) = .agg #[.int .u8 (x0.toNat:Int),.int .u8 (x1.toNat:Int),.int .u8 (x2.toNat:Int)]) ↔ (y0 = x0∧y1 = x1∧y2 = x2):=by
 constructor
 ·intro h
  simp at h
  exact ⟨UInt8.toNat_inj.1 (by omega),UInt8.toNat_inj.1 (by omega),UInt8.toNat_inj.1 (by omega)⟩
 ·rintro ⟨rfl,rfl,rfl⟩;rfl
end Go.Proofs.YtaknladkodibaaaGreatDoor
namespace Go.Proofs.YtaknladkodibaaaGreatDoor
open Go.RowKit Go.Maps
theorem laidOutM:laidOutB Tryz.prog = true:=by kernel_rfl
set_option maxRecDepth 100000 in
theorem begRow:(284:TypeId) < Tryz.prog.types.size:=of_decide_eq_true (by kernel_rfl)
theorem begCells:Tryz.prog.cellsOf 284 = 3:=by kernel_rfl
theorem byteCells1:Tryz.prog.cellsOf 5 = 1:=by kernel_rfl
theorem begWide:(match Tryz.prog.underlying 284 with | some (.array _ _) | some (.struct _) => true | _ => false) = true:=by rw [Tryz.underlying284]
set_option maxRecDepth 100000 in
theorem begLaw:Keyed Tryz.prog 284:=Keyed.of_law (deep_law_laid laidOutM (m:=2) (by omega) begRow (by kernel_rfl) begWide)
theorem begKeyType:Tryz.prog.keyType 284 = true:=by kernel_rfl
abbrev B3:=UInt8 × UInt8 × UInt8
def agB (x:B3):Value:=.agg #[.int .u8 (x.1.toNat:Int),.int .u8 (x.2.1.toNat:Int),.int .u8 (x.2.2.toNat:Int)]
theorem u8wf (x:UInt8):(Lit.int .u8 (x.toNat:Int)).wf = true:=by
 have:=UInt8.toNat_lt x
 simp [Lit.wf,IntKind.min,IntKind.max,IntKind.signed,IntKind.bits]
 omega
theorem key_byte (n:Nat) (z:UInt8):Tryz.prog.keyLits (n + 1) 5 [.int .u8 (z.toNat:Int)] = some [.int .u8 (z.toNat:Int)]:=by
 unfold Program.keyLits
 simp [Tryz.underlying5,u8wf]
theorem key_lits (n:Nat) (x:B3):Tryz.prog.keyLits (n + 1 + 1) 284 [.int .u8 (x.1.toNat:Int),.int .u8 (x.2.1.toNat:Int),.int .u8 (x.2.2.toNat:Int)] = some [.int .u8 (x.1.toNat:Int),.int .u8 (x.2.1.toNat:Int),.int .u8 (x.2.2.toNat:Int)]:=by
 unfold Program.keyLits
 simp [Tryz.underlying284,begCells,byteCells1,List.range,List.range.loop,key_byte]
def klit (x:B3):Lit:=.string (keyBytes [.int .u8 (x.1.toNat:Int),.int .u8 (x.2.1.toNat:Int),.int .u8 (x.2.2.toNat:Int)])
set_option maxRecDepth 100000 in
theorem klit_key (x:B3):keyOf Tryz.prog 284 (agB x) = some (klit x):=by
 obtain ⟨n,hn⟩:∃ n,Tryz.prog.types.size = n + 1:=⟨Tryz.prog.types.size - 1,(Nat.sub_add_cancel (Nat.succ_le_of_lt (Nat.lt_of_le_of_lt (Nat.zero_le _) begRow))).symm⟩
 have hf:(agB x).formed Tryz.prog 284 = true:=by
  simp [Value.formed,agB,Tryz.underlying284,begCells]
 unfold keyOf
 rw [Tryz.underlying284]
 dsimp only
 rw [begKeyType,hf,hn]
 have e:(agB x).cells.toList = [.int .u8 (x.1.toNat:Int),.int .u8 (x.2.1.toNat:Int),.int .u8 (x.2.2.toNat:Int)]:=rfl
 rw [e,key_lits]
 rfl
theorem agB_inj {x y:B3} (h:agB x = agB y):x = y:=by
 obtain ⟨x0,x1,x2⟩:=x
 obtain ⟨y0,y1,y2⟩:=y
 unfold agB at h
 obtain ⟨rfl,rfl,rfl⟩:=agg3.1 h
 rfl
theorem klit_inj {x y:B3} (h:klit x = klit y):x = y:=agB_inj (begLaw.inj (klit_key x) (by rw [h];exact klit_key y))
def bg (bs:List UInt8) (p:Nat):B3:=(bs.getD p 0,bs.getD (p + 1) 0,bs.getD (p + 2) 0)
theorem three_bg (bs:List UInt8) (a d:Nat):three bs a d = decide (bg bs (a - d) = bg bs a):=by
 rw [Bool.eq_iff_iff,decide_eq_true_eq]
 unfold three bg
 rw [Bool.and_eq_true,Bool.and_eq_true,beq_iff_eq,beq_iff_eq,beq_iff_eq,Prod.mk.injEq,Prod.mk.injEq,and_assoc]
def backB (bs:List UInt8) (x:B3):Nat→Nat
 | 0 => 0
 | m + 1 => if bg bs m = x then m + 1 else backB bs x m
theorem backB_le (bs:List UInt8) (x:B3):∀ m,backB bs x m ≤ m
 | 0 => Nat.le_refl 0
 | m + 1 => by
  rw [backB]
  split
  ·omega
  ·have:=backB_le bs x m;omega
theorem backB_has (bs:List UInt8) (x:B3):∀ m,0 < backB bs x m→bg bs (backB bs x m - 1) = x
 | 0,h0 => absurd h0 (by simp [backB])
 | m + 1,h0 => by
  rw [backB] at h0 ⊢
  split
  ·rename_i he;exact he
  ·rename_i he
   rw [if_neg he] at h0
   exact backB_has bs x m h0
theorem backB_none (bs:List UInt8) (x:B3):∀ m q,backB bs x m ≤ q→q < m→bg bs q ≠ x
 | 0,q,_,h2 => by omega
 | m + 1,q,h1,h2 => by
  rw [backB] at h1
  split at h1
  ·omega
  ·rename_i he
   by_cases hq:q = m
   ·rw [hq];exact he
   ·exact backB_none bs x m q h1 (by omega)
def mapD (bs:List UInt8):Nat→DataW Unit
 | 0 => .map []
 | m + 1 => (mapD bs m).put (klit (bg bs m)) (.lit (.int .i64 (m:Int)))
theorem mapD_is (bs:List UInt8):∀ m,IsMap (mapD bs m)
 | 0 => isMap_empty
 | m + 1 => (mapD_is bs m).put _ _
theorem klit_isKey (x:B3):WideAt.IsKeyLit (klit x):=begLaw.key (klit_key x)
theorem mapD_look (bs:List UInt8) (x:B3):∀ m,has (mapD bs m) (klit x) = decide (0 < backB bs x m)∧∀ z,(mapD bs m).atKey (klit x) z = if 0 < backB bs x m then .lit (.int .i64 ((backB bs x m - 1:Nat):Int)) else z
 | 0 => ⟨rfl,fun z => rfl⟩
 | m + 1 => by
  obtain ⟨h1,h2⟩:=mapD_look bs x m
  rw [mapD,backB]
  by_cases h:bg bs m = x
  ·rw [if_pos h,← h]
   refine ⟨?_,fun z => ?_⟩
   ·rw [has_put_same (mapD_is bs m) (klit_isKey _)];simp
   ·rw [atKey_put_same (mapD_is bs m) (klit_isKey _)];simp
  ·have hne:klit x ≠ klit (bg bs m):=fun e => h (klit_inj e).symm
   rw [if_neg h]
   refine ⟨?_,fun z => ?_⟩
   ·rw [has_put_other hne,h1]
   ·rw [atKey_put_other hne,h2 z]
def dB (bs:List UInt8) (p:Nat):Nat:=if backB bs (bg bs p) p = 0 ∨ 32768 < p - (backB bs (bg bs p) p - 1) then 0 else p - (backB bs (bg bs p) p - 1)
theorem dB_le (bs:List UInt8) (p:Nat):dB bs p ≤ 32768:=by
 unfold dB
 split <;> omega
theorem dB_step {bs:List UInt8} {a e:Nat} (hea:e ≤ a) (he:bg bs (a - e) = bg bs a) :
  (dB bs (a - e) = 0→candN bs a (min a 32768) = candN bs a (min e (min a 32768))) ∧
  (0 < dB bs (a - e)→e + dB bs (a - e) ≤ a∧bg bs (a - (e + dB bs (a - e))) = bg bs a∧candN bs a (e + dB bs (a - e)) = candN bs a e++[e + dB bs (a - e)] ∧
   (32768 < e + dB bs (a - e)→e ≤ 32768→candN bs a (min a 32768) = candN bs a e)):=by
 obtain ⟨b,hb⟩:∃ b,backB bs (bg bs (a - e)) (a - e) = b:=⟨_,rfl⟩
 have hle:=backB_le bs (bg bs (a - e)) (a - e)
 rw [hb] at hle
 have hno:∀ q,b ≤ q→q < a - e→bg bs q ≠ bg bs a:=fun q h1 h2 => by
  rw [← he];exact backB_none bs _ _ q (by rw [hb];exact h1) h2
 have skip:∀ m k,e ≤ m→(∀ d,m < d→d ≤ m + k→d ≤ a∧b ≤ a - d)→candN bs a (m + k) = candN bs a m:=by
  intro m k hm
  induction k with
  | zero => exact fun _ => rfl
  | succ k ih =>
   intro h
   have h1:=ih (fun d h2 h3 => h d h2 (by omega))
   rw [← Nat.add_assoc,candN_no,h1]
   rw [three_bg,decide_eq_false_iff_not]
   obtain ⟨h2,h3⟩:=h (m + k + 1) (by omega) (by omega)
   exact hno _ h3 (by omega)
 unfold dB
 rw [hb]
 refine ⟨fun h => ?_,fun h => ?_⟩
 ·by_cases hem:e ≤ min a 32768
  ·rw [Nat.min_eq_left hem]
   obtain ⟨k,hk⟩:∃ k,min a 32768 = e + k:=⟨min a 32768 - e,by omega⟩
   rw [hk]
   refine skip e k (Nat.le_refl e) fun d h1 h2 => ⟨by omega,?_⟩
   split at h
   ·rename_i hc
    rcases hc with hc | hc <;> omega
   ·omega
  ·rw [show min e (min a 32768) = min a 32768 by omega]
 ·split at h
  ·omega
  ·rename_i hc
   rw [if_neg hc]
   have hb0:0 < b:=by omega
   have hd:a - (e + (a - e - (b - 1))) = b - 1:=by omega
   have hbg:bg bs (b - 1) = bg bs a:=by
    have:=backB_has bs (bg bs (a - e)) (a - e) (by rw [hb];exact hb0)
    rw [hb] at this
    rw [this,he]
   obtain ⟨k,hk⟩:∃ k,e + (a - e - (b - 1)) = e + k + 1:=⟨a - e - b,by omega⟩
   have hsk:candN bs a (e + k) = candN bs a e:=skip e k (Nat.le_refl e) fun d h1 h2 => ⟨by omega,by omega⟩
   refine ⟨by omega,by rw [hd];exact hbg,?_,fun h1 h2 => ?_⟩
   ·rw [hk,candN_yes (by rw [three_bg,decide_eq_true_eq,← hk,hd];exact hbg),hsk]
   ·obtain ⟨k2,hk2⟩:∃ k2,min a 32768 = e + k2:=⟨min a 32768 - e,by omega⟩
    rw [hk2]
    exact skip e k2 (Nat.le_refl e) fun d h3 h4 => ⟨by omega,by omega⟩
def uc (d:Nat):Value:=.int .u16 (d:Int)
def U16B (w:World) (g:Nat) (vs:List Nat):Prop:=w.heap[g]? = some (.cells (vs.map uc).toArray 285 (0,0))
theorem ub_cell {w:World} {g:Nat} {vs:List Nat} {i x:Nat} (h:U16B w g vs) (hx:vs[i]? = some x):w.cell? ⟨g,i,none⟩ = some (.int .u16 (x:Int)):=by
 rw [cell_of_row w g i _ _ _ h]
 simp [hx,uc]
theorem ub_free {w:World} {g:Nat} {vs:List Nat} (h:U16B w g vs) (i:Nat):w.frozen? ⟨g,i,none⟩ = false:=frozen_of_row w g i _ _ h
theorem ub_set {w:World} {g:Nat} {vs:List Nat} (h:U16B w g vs) (i y:Nat):U16B (w.setCell ⟨g,i,none⟩ (.int .u16 (y:Int))) g (vs.set i y):=by
 unfold U16B
 rw [heap_setCell_same w g i _ _ _ h]
 rw [List.setIfInBounds_toArray,List.map_set]
 rfl
theorem u16Info:(Tryz.prog.info? 285).map (fun i => (i.zero,i.size,i.bytes)) = some (some (.int .u16 0),1,2):=by kernel_rfl
theorem make_u16 (n:Nat) (hn:n ≤ 1000000) (W:World) :
  (Instr.makeSlice 279 (.int .i64 (n:Int)) (.int .i64 (n:Int))).run Tryz.prog W = .ok (.slice (some ⟨W.heap.size,0,none⟩) n n) (W.alloc (.cells (madeCells #[.int .u16 0] n) 285)):=by
 obtain ⟨i0,hi,hz0,hz1,hz2⟩:=info_parts u16Info
 have h:=run_make (P:=Tryz.prog) W 279 285 i0 (.int .u16 0) Tryz.underlying279 hi hz0 .i64 .i64 n n (by omega) (Int.le_refl _) (by rw [hz2];omega) (by omega)
 simp only [Int.toNat_natCast,hz1,Nat.mul_one] at h
 exact h
theorem made_u16 (w:World) (n:Nat):U16B (w.alloc (.cells (madeCells #[Value.int .u16 0] n) 285)) w.heap.size (List.replicate n 0):=by
 have e:madeCells #[Value.int .u16 0] n = ((List.replicate n (0:Nat)).map uc).toArray:=by
  apply Array.toList_inj.1
  rw [toList_madeCells_one]
  simp [uc]
 unfold U16B
 rw [e]
 exact heap_alloc_new w _
def dL (bs:List UInt8) (l p:Nat):List Nat:=(List.range l).map fun q => if q < p then dB bs q else 0
theorem dL_len (bs:List UInt8) (l p:Nat):(dL bs l p).length = l:=by simp [dL]
theorem dL_zero (bs:List UInt8) (l:Nat):dL bs l 0 = List.replicate l 0:=by
 unfold dL
 apply List.ext_getElem?
 intro i
 simp [List.getElem?_replicate]
 by_cases h:i < l <;> simp [h]
theorem dL_get (bs:List UInt8) (l p:Nat) {q:Nat} (hq:q < l):(dL bs l p)[q]? = some (if q < p then dB bs q else 0):=by
 unfold dL
 rw [List.getElem?_map,List.getElem?_range hq]
 rfl
theorem dL_step (bs:List UInt8) (l p:Nat):(dL bs l p).set p (dB bs p) = dL bs l (p + 1):=by
 apply List.ext_getElem?
 intro i
 rw [List.getElem?_set]
 by_cases hi:i < l
 ·by_cases hp:p = i
  ·subst hp
   rw [if_pos rfl,if_pos (by rw [dL_len];exact hi),dL_get bs l (p + 1) hi,if_pos (by omega)]
  ·rw [if_neg hp,dL_get bs l p hi,dL_get bs l (p + 1) hi]
   by_cases h:i < p
   ·rw [if_pos h,if_pos (by omega)]
   ·rw [if_neg h,if_neg (by omega)]
 ·have e1:(dL bs l (p + 1))[i]? = none:=List.getElem?_eq_none (by rw [dL_len];omega)
  have e2:(dL bs l p)[i]? = none:=List.getElem?_eq_none (by rw [dL_len];omega)
  rw [e1,e2,dL_len]
  split
  ·rw [if_neg (by omega)]
  ·rfl
theorem dL_skip {bs:List UInt8} {l p:Nat} (h:dB bs p = 0):dL bs l p = dL bs l (p + 1):=by
 rw [← dL_step,h]
 apply List.ext_getElem?
 intro i
 rw [List.getElem?_set]
 split
 ·rename_i hp
  subst hp
  by_cases hl:p < l
  ·rw [if_pos (by rw [dL_len];exact hl),dL_get bs l p hl,if_neg (by omega)]
  ·rw [if_neg (by rw [dL_len];exact hl)]
   exact List.getElem?_eq_none (by rw [dL_len];omega)
 ·rfl
def LF (w:World) (g g0:Nat) (A:Option Addr) (l c:Nat) (bs:List UInt8):Prop :=
 w.heap[g]? = some (.cells #[.slice A l c,.slice (some ⟨g0,0,none⟩) l l] 281)∧U16B w g0 (dL bs l (l - 2))
theorem LF.drewN {w:World} {g g0:Nat} {A:Option Addr} {l c:Nat} {bs:List UInt8} (h:LF w g g0 A l c bs) (n:Nat):LF (w.drewN n) g g0 A l c bs:=h
theorem LF.below {w w':World} {B g g0:Nat} {A:Option Addr} {l c:Nat} {bs:List UInt8} (h:LF w g g0 A l c bs) (hb:Below B w w') (hg:g < B) (hg0:g0 < B):LF w' g g0 A l c bs :=
 ⟨(hb.block g hg).trans h.1,(hb.block g0 hg0).trans h.2⟩
theorem own_set {w:World} {P:Program} {k:TypeId} {R:Value→Option (DataW Unit × List MemPlace)} {b n:Nat} {D:DataW Unit} {a:Addr} {v:Value} (h:w.ownsMap P k R b n D) (hb:b ≠ a.block):(w.setCell a v).ownsMap P k R b n D:=by
 obtain ⟨es,clock,h1,h2⟩:=h
 exact ⟨es,clock,(Below.heap_setCell w a v b hb).trans h1,h2⟩
theorem zeroInt (w:World):(zeroValue 3).run Tryz.prog w = .ok (.int .i64 0) w:=by kernel_rfl
set_option maxRecDepth 100000 in
set_option maxHeartbeats 2000000 in
theorem newM_any (A : Option Addr) (l c : Nat) (bs : List UInt8) (B : Nat) (w : World) (hl : bs.length = l) (hm : l ≤ 32000) (hcap : l ≤ c) (hb : Bytes w B A bs) (hB : B ≤ w.heap.size) :
    Calls Tryz.prog 160 #[.slice A l c] w fun e w' => e = .returned (.pointer (some ⟨w.heap.size + 1, 0, none⟩)) ∧ LF w' (w.heap.size + 1) w.heap.size A l c bs ∧ Below w.heap.size w w' := by
  have HL := Lib.hid hl
  have HBY := Lib.hid hb
  have HB := Lib.hid hB
  have mk0 := make_u16 l (by omega)
  have hmm := @run_makeMap Tryz.prog
  obtain ⟨W2, hW2⟩ : ∃ W2, (w.alloc (.cells (madeCells #[.int .u16 0] l) 285)).alloc (.cells #[.slice A l c, .slice (some ⟨w.heap.size, 0, none⟩) l l] 281) = W2 := ⟨_, rfl⟩
  have HZ2 : Hid (W2.heap.size = w.heap.size + 2) := by show _ = _; rw [← hW2]; simp
  have HG0 : Hid (U16B W2 w.heap.size (dL bs l 0)) := by
    show U16B _ _ _
    rw [← hW2, dL_zero]
    exact (Below.heap_alloc _ _ _ (by simp)).trans (made_u16 w l)
  have HG1 : Hid (W2.heap[w.heap.size + 1]? = some (.cells #[.slice A l c, .slice (some ⟨w.heap.size, 0, none⟩) l l] 281)) := by
    show _ = _
    rw [← hW2]
    have h := heap_alloc_new (w.alloc (.cells (madeCells #[.int .u16 0] l) 285)) (.cells #[.slice A l c, .slice (some ⟨w.heap.size, 0, none⟩) l l] 281)
    rwa [World.size_alloc] at h
  have HB2 : Hid (Below w.heap.size w W2) := by show Below _ _ _; rw [← hW2]; exact ((Below.refl _ w).alloc (Nat.le_refl _) _).alloc (by simp) _
  clear hb hB hl
  go_enter Tryz.func160, Tryz.ntmps160
  go_wp2_with fail
  obtain ⟨G, hG⟩ : ∃ G, W2.heap.size = G := ⟨_, rfl⟩
  have HOW : Hid (∀ o : Nat, (W2.alloc (.map #[] 0)).ownsMap Tryz.prog 284 (plainElem Tryz.prog 3) G 0 (mapD bs 0)) := fun _ => by
    rw [← hG]; exact World.ownsMap_made W2 _ _ _
  have HA3 : Hid (∀ o : Obj, U16B (W2.alloc o) w.heap.size (dL bs l 0) ∧ (W2.alloc o).heap[w.heap.size + 1]? = some (.cells #[.slice A l c, .slice (some ⟨w.heap.size, 0, none⟩) l l] 281) ∧ Below w.heap.size w (W2.alloc o)) := fun o => by
    have hz := HZ2.out
    exact ⟨(Below.heap_alloc W2 o _ (by omega)).trans HG0.out, (Below.heap_alloc W2 o _ (by omega)).trans HG1.out, HB2.out.alloc (by omega) _⟩
  have HZG : Hid (G = w.heap.size + 2) := by show _ = _; rw [← hG]; exact HZ2.out
  rw [hG]
  clear hG
  go_loopg [5] (l - 2) (fun gk i wr => ∃ p : Nat, p + gk = l - 2 ∧ i = .int .i64 p ∧ U16B wr w.heap.size (dL bs l p) ∧ wr.heap[w.heap.size + 1]? = some (.cells #[.slice A l c, .slice (some ⟨w.heap.size, 0, none⟩) l l] 281) ∧
    wr.ownsMap Tryz.prog 284 (plainElem Tryz.prog 3) G p (mapD bs p) ∧ Below w.heap.size w wr)
  case atStart => exact ⟨0, by omega, rfl, (HA3.out _).1, (HA3.out _).2.1, HOW.out 0, (HA3.out _).2.2⟩
  case round =>
    obtain ⟨p, hp, rfl, g0, g1, g2, hbl⟩ := hrel
    have HBN := Lib.hid (begins_any A l c (p : Int) wr (by omega))
    have HBL := Lib.hid hbl
    have HI0 := Lib.hid g0
    have HI1 := Lib.hid g1
    have HOM := Lib.hid g2
    by_cases h : gk = 0
    · obtain rfl : p = l - 2 := by omega
      have hbg : begM l ((l - 2 : Nat) : Int) = false := by
        cases hb : begM l ((l - 2 : Nat) : Int) with
        | false => rfl
        | true => have := begB_yes hb; omega
      rw [hbg] at HBN
      clear g0 g1 g2 hbl hbg
      go_wp2_with (go_at_call 198; refine HBN.out.mono ?_; rintro e w' ⟨rfl, rfl⟩)
      go_ret
      exact ⟨rfl, ⟨HI1.out, HI0.out⟩, HBL.out⟩
    · have hbg : begM l (p : Int) = true := by
        unfold begM
        rw [decide_eq_true (by omega), decide_eq_true (by omega)]
        rfl
      rw [hbg] at HBN
      have hp3 : p + 3 ≤ l := by omega
      have hpc : ¬ c = p := by omega
      obtain ⟨x0, hx0⟩ : ∃ x, bs[p]? = some x := ⟨_, List.getElem?_eq_getElem (by have := HL.out; omega)⟩
      obtain ⟨x1, hx1⟩ : ∃ x, bs[p + 1]? = some x := ⟨_, List.getElem?_eq_getElem (by have := HL.out; omega)⟩
      obtain ⟨x2, hx2⟩ : ∃ x, bs[p + 2]? = some x := ⟨_, List.getElem?_eq_getElem (by have := HL.out; omega)⟩
      have HBG : Hid (bg bs p = (x0, x1, x2)) := by show _ = _; unfold bg; rw [List.getD, List.getD, List.getD, hx0, hx1, hx2]; rfl
      obtain ⟨b, o, rfl, hbB, hc⟩ := (HBY.out.below (HBL.out.mono HB.out) (Nat.le_refl _)) (by rw [byteCells_length, HL.out]; omega)
      have d0 : wr.cell? ⟨b, o + p, none⟩ = some (.int .u8 (x0.toNat : Int)) := hc _ _ (byteCells_get hx0)
      have d1 : wr.cell? ⟨b, o + p + 1, none⟩ = some (.int .u8 (x1.toNat : Int)) := hc _ _ (byteCells_get hx1)
      have d2 : wr.cell? ⟨b, o + p + 2, none⟩ = some (.int .u8 (x2.toNat : Int)) := hc _ _ (byteCells_get hx2)
      have hat0 : ∀ w, (Instr.arrayAt 284 (.slice (some ⟨b, o + p, none⟩) (l - p) (c - p))).run Tryz.prog w = .ok (.pointer (some ⟨b, o + p, none⟩)) w := fun w => run_arrayAt w 284 _ 3 _ (l - p) (c - p) Tryz.underlying284 (by omega)
      obtain ⟨W3, hW3⟩ : ∃ W3, wr.alloc (.cells #[.int .u8 (x0.toNat : Int), .int .u8 (x1.toNat : Int), .int .u8 (x2.toNat : Int)] 284) = W3 := ⟨_, rfl⟩
      have HOW1 : Hid (W3.ownsMap Tryz.prog 284 (plainElem Tryz.prog 3) G p (mapD bs p)) := by show World.ownsMap _ _ _ _ _ _ _; rw [← hW3]; exact HOM.out.alloc _
      have HI03 : Hid (U16B W3 w.heap.size (dL bs l p)) := by show U16B _ _ _; rw [← hW3]; exact (Below.heap_alloc _ _ _ (Array.getElem?_eq_some_iff.1 HI0.out).1).trans HI0.out
      have HI13 : Hid (W3.heap[w.heap.size + 1]? = some (.cells #[.slice (some ⟨b, o, none⟩) l c, .slice (some ⟨w.heap.size, 0, none⟩) l l] 281)) := by show _ = _; rw [← hW3]; exact (Below.heap_alloc _ _ _ (Array.getElem?_eq_some_iff.1 HI1.out).1).trans HI1.out
      have HBL3 : Hid (Below w.heap.size w W3) := by show Below _ _ _; rw [← hW3]; exact HBL.out.alloc HBL.out.size _
      have e0 : W3.cell? ⟨wr.heap.size, 0, none⟩ = some (.int .u8 (x0.toNat : Int)) := by rw [← hW3]; exact cell_of_row _ _ 0 _ _ _ (heap_alloc_new wr _)
      have e1 : W3.cell? ⟨wr.heap.size, 1, none⟩ = some (.int .u8 (x1.toNat : Int)) := by rw [← hW3]; exact cell_of_row _ _ 1 _ _ _ (heap_alloc_new wr _)
      have e2 : W3.cell? ⟨wr.heap.size, 2, none⟩ = some (.int .u8 (x2.toNat : Int)) := by rw [← hW3]; exact cell_of_row _ _ 2 _ _ _ (heap_alloc_new wr _)
      have e3 := cell_of_row W3 (w.heap.size + 1) 1 _ _ _ HI13.out
      have e4 : W3.cell? ⟨w.heap.size, p, none⟩ = some (.int .u16 0) := by
        refine (ub_cell HI03.out (x := 0) ?_)
        rw [dL_get bs l p (by omega), if_neg (by omega)]
      have f4 := ub_free HI03.out p
      have hpl : p < l := by omega
      have hrs : ¬ wr.heap.size = w.heap.size := by have := (Array.getElem?_eq_some_iff.1 HI1.out).1; omega
      have hrs' : ¬ w.heap.size = wr.heap.size := by have := (Array.getElem?_eq_some_iff.1 HI1.out).1; omega
      obtain ⟨bk, hbk⟩ : ∃ bk, backB bs (x0, x1, x2) p = bk := ⟨_, rfl⟩
      have hbl := backB_le bs (x0, x1, x2) p
      have hlk := mapD_look bs (x0, x1, x2) p
      rw [hbk] at hlk hbl
      have HLK := Lib.hid hlk
      have HCC : Hid (∀ cc : Int, (mapD bs p).atKey (klit (x0, x1, x2)) (.lit (.int .i64 0)) = .lit (.int .i64 cc) → ((bk - 1 : Nat) : Int) = cc) := fun cc h => by
        rw [HLK.out.2] at h
        split at h
        · injection h with h; injection h
        · injection h with h
          injection h with _ h
          omega
      have HWF : Hid ((Lit.int .i64 (p : Int)).wf = true) := by
        show _ = _
        simp [Lit.wf, IntKind.min, IntKind.max, IntKind.signed, IntKind.bits]
        omega
      have HDB : Hid (dB bs p = if bk = 0 ∨ 32768 < p - (bk - 1) then 0 else p - (bk - 1)) := by show _ = _; rw [dB, HBG.out, hbk]
      clear g0 g1 g2 hbg hx0 hx1 hx2 hc hbk hlk
      by_cases hb0 : bk = 0
      · subst hb0
        have HS1 : Hid (dL bs l p = dL bs l (p + 1)) := dL_skip (by rw [HDB.out, if_pos (.inl rfl)])
        go_wp2_with (first
                | (go_at_call 198; refine HBN.out.mono ?_; rintro e w' ⟨rfl, rfl⟩)
                | (at_lookup; refine wpList_lookup_own_ok_int _ rfl _ _ 282 rfl 284 3 .i64 begLaw Tryz.underlying282 Tryz.underlying3 (zeroInt _) G p (mapD bs p) rfl HOW1.out (agB (x0, x1, x2)) (klit (x0, x1, x2)) rfl (klit_key _) ?_; intro cc hat hwc; obtain rfl := HCC.out cc hat; rw [HLK.out.1]; clear hat hwc)
                | (at_mapUpdate; refine wpList_mapUpdate_own _ rfl _ _ _ 282 rfl 284 3 begLaw Tryz.underlying282 _ G p (mapD bs p) rfl HOW1.out (by unfold maxLen; omega) (agB (x0, x1, x2)) _ (klit (x0, x1, x2)) rfl rfl (klit_key _) _ [] (plainElem_int Tryz.underlying3 HWF.out) ?_; intro w5 hown5 hgrow5))
        have HO5 := Lib.hid hown5
        have HG5 := Lib.hid hgrow5
        clear hown5 hgrow5
        go_roundg (gk - 1)
        case measure => omega
        case rel =>
          have hz := HZG.out
          have hg := HG5.out
          refine ⟨p + 1, by omega, by go_num, ?_, ?_, ?_, ?_⟩
          · rw [← HS1.out]
            exact (hg.block _ (Array.getElem?_eq_some_iff.1 HI03.out).1 (by simp; omega)).trans HI03.out
          · exact (hg.block _ (Array.getElem?_eq_some_iff.1 HI13.out).1 (by simp; omega)).trans HI13.out
          · rw [mapD, HBG.out]; exact HO5.out
          · exact (HBL3.out).grown hg (by have := HBL3.out.size; omega) (fun k e => by cases e; omega)
      · obtain ⟨q, rfl⟩ : ∃ q, bk = q + 1 := ⟨bk - 1, by omega⟩
        have t0 : decide (0 < q + 1) = true := by simp
        obtain ⟨df, hdf⟩ : ∃ df, p - q = df := ⟨_, rfl⟩
        have hsub : (p : Int) - (q : Int) = (df : Int) := by omega
        have hdl : df ≤ 32000 := by omega
        have HDB2 : Hid (dB bs p = if 32768 < df then 0 else df) := by
          show _ = _
          rw [HDB.out, Nat.add_sub_cancel, hdf]
          by_cases h5 : 32768 < df
          · rw [if_pos (.inr h5), if_pos h5]
          · rw [if_neg (by omega), if_neg h5]
        have t1 : decide ((df : Int) ≤ 32768) = true := decide_eq_true (by omega)
        have hw1 : IntKind.i64.wrap (df : Int) = (df : Int) := IntWalk.i64_in _ (by omega)
        have hw2 : IntKind.u16.wrap (df : Int) = (df : Int) := by rw [IntKind.wrap_u16]; omega
        have HS1 : Hid ((dL bs l p).set p df = dL bs l (p + 1)) := by show _ = _; rw [← dL_step, HDB2.out, if_neg (by omega)]
        clear hdf hb0
        go_wp2_with (first
                | (go_at_call 198; refine HBN.out.mono ?_; rintro e w' ⟨rfl, rfl⟩)
                | (at_lookup; refine wpList_lookup_own_ok_int _ rfl _ _ 282 rfl 284 3 .i64 begLaw Tryz.underlying282 Tryz.underlying3 (zeroInt _) G p (mapD bs p) rfl HOW1.out (agB (x0, x1, x2)) (klit (x0, x1, x2)) rfl (klit_key _) ?_; intro cc hat hwc; obtain rfl := HCC.out cc hat; rw [HLK.out.1]; clear hat hwc)
                | (at_mapUpdate; refine wpList_mapUpdate_own _ rfl _ _ _ 282 rfl 284 3 begLaw Tryz.underlying282 _ G p (mapD bs p) rfl (own_set HOW1.out (by show G ≠ w.heap.size; have := HZG.out; omega)) (by unfold maxLen; omega) (agB (x0, x1, x2)) _ (klit (x0, x1, x2)) rfl rfl (klit_key _) _ [] (plainElem_int Tryz.underlying3 HWF.out) ?_; intro w5 hown5 hgrow5))
        have HO5 := Lib.hid hown5
        have HG5 := Lib.hid hgrow5
        clear hown5 hgrow5
        go_roundg (gk - 1)
        case measure => omega
        case rel =>
          have hz := HZG.out
          have hg := HG5.out
          refine ⟨p + 1, by omega, by go_num, ?_, ?_, ?_, ?_⟩
          · rw [← HS1.out]
            exact (hg.block _ (Array.getElem?_eq_some_iff.1 (ub_set HI03.out p df)).1 (by simp; omega)).trans (ub_set HI03.out p df)
          · exact (hg.block _ (Array.getElem?_eq_some_iff.1 ((Below.heap_setCell W3 ⟨w.heap.size, p, none⟩ _ _ (by show w.heap.size + 1 ≠ w.heap.size; omega)).trans HI13.out)).1 (by simp; omega)).trans ((Below.heap_setCell W3 ⟨w.heap.size, p, none⟩ _ _ (by show w.heap.size + 1 ≠ w.heap.size; omega)).trans HI13.out)
          · rw [mapD, HBG.out]; exact HO5.out
          · exact ((HBL3.out.setCell (p := ⟨w.heap.size, p, none⟩) (Nat.le_refl _) (.int .u16 (df : Int)))).grown hg (by have := (HBL3.out.setCell (p := ⟨w.heap.size, p, none⟩) (Nat.le_refl _) (.int .u16 (df : Int))).size; omega) (fun k e => by cases e; omega)
end Go.Proofs.YtaknladkodibaaaGreatDoor
namespace Go.Proofs.YtaknladkodibaaaGreatDoor
open Go.RowKit Go.Shelf
attribute [local go_sem] Oper.semAt_some
def S3 (N:Nat):Nat→Prop:=fun k => k = N + 2 ∨ k = N + 3 ∨ k = N + 4
theorem ownS_box {β:Type} {B k:Nat} {cs:β→Array Value} {t:TypeId}:OwnS B (fun _ => False) (fun (s:β) W => W.heap[k]? = some (.cells (cs s) t)):=ownS_cells (fun h => h)
def BI (N:Nat) (A:Option Addr) (l c:Nat) (a depth:Int) (bs:List UInt8) (w:World) (pre:List Nat) (W:World):Prop :=
 W.heap[N]? = some (.cells #[.slice A l c] 25)∧W.heap[N + 1]? = some (.cells #[.int .i64 a] 3)∧W.heap[N + 2]? = some (.cells #[.int .i64 (depth - (pre.length:Nat))] 3) ∧
  W.heap[N + 3]? = some (.cells #[.int .i64 ((foldM bs a pre).1:Nat)] 3)∧W.heap[N + 4]? = some (.cells #[.int .i64 ((foldM bs a pre).2:Nat)] 3)∧Below N w W
theorem ownS_BI (N B:Nat) (A:Option Addr) (l c:Nat) (a depth:Int) (bs:List UInt8) (w:World) (hn:N ≤ w.heap.size) (hB:N ≤ B):OwnS B (fun _ => False) (BI N A l c a depth bs w) :=
 (ownS_box (cs:=fun _ => #[.slice A l c])).and ((ownS_box (cs:=fun _ => #[.int .i64 a])).and ((ownS_box (cs:=fun pre:List Nat => #[.int .i64 (depth - (pre.length:Nat))])).and
  ((ownS_box (cs:=fun pre => #[.int .i64 ((foldM bs a pre).1:Nat)])).and ((ownS_box (cs:=fun pre => #[.int .i64 ((foldM bs a pre).2:Nat)])).and (ownS_below hn hB (fun _ h => h.elim))))))
theorem alloc_keep {W:World} {k:Nat} {o:Obj} (h:W.heap[k]? = some o) (o':Obj):(W.alloc o').heap[k]? = some o:=(Below.heap_alloc W o' k (Array.getElem?_eq_some_iff.1 h).1).trans h
theorem cells_drewN {W:World} {m k:Nat} {o:Obj} (h:W.heap[k]? = some o):(W.drewN m).heap[k]? = some o:=h
theorem heap_set_other {W:World} {k b:Nat} {o:Obj} {v:Value} (h:W.heap[k]? = some o) (hk:k ≠ b):(W.setCell ⟨b,0,none⟩ v).heap[k]? = some o:=(Below.heap_setCell W ⟨b,0,none⟩ v k hk).trans h
theorem heap_set_one {W:World} {b:Nat} {v u:Value} {t:TypeId} (h:W.heap[b]? = some (.cells #[u] t)):(W.setCell ⟨b,0,none⟩ v).heap[b]? = some (.cells #[v] t):=heap_setCell_same W b 0 _ _ _ h
theorem KeepsOthers.drewN (W:World) (m:Nat):KeepsOthers W (W.drewN m):=⟨Nat.le_refl _,fun _ _ h _ => h⟩
theorem bi_gt {N:Nat} {A:Option Addr} {l c:Nat} {a depth:Int} {bs:List UInt8} {w W:World} {pre:List Nat} {x:Nat} (h:BI N A l c a depth bs w pre W) (m:Nat) (hgt:(foldM bs a pre).1 < lenI bs a (x:Int)) (dv:Int) (hdv:dv = depth - ((pre++[x]).length:Nat)) :
  BI N A l c a depth bs w (pre++[x]) ((((W.drewN m).setCell ⟨N + 3,0,none⟩ (.int .i64 (lenI bs a (x:Int):Nat))).setCell ⟨N + 4,0,none⟩ (.int .i64 (x:Int))).setCell ⟨N + 2,0,none⟩ (.int .i64 dv)) ∧
  KeepC (S3 N) W ((((W.drewN m).setCell ⟨N + 3,0,none⟩ (.int .i64 (lenI bs a (x:Int):Nat))).setCell ⟨N + 4,0,none⟩ (.int .i64 (x:Int))).setCell ⟨N + 2,0,none⟩ (.int .i64 dv)) ∧
  KeepsOthers W ((((W.drewN m).setCell ⟨N + 3,0,none⟩ (.int .i64 (lenI bs a (x:Int):Nat))).setCell ⟨N + 4,0,none⟩ (.int .i64 (x:Int))).setCell ⟨N + 2,0,none⟩ (.int .i64 dv)):=by
 obtain ⟨h0,h1,h2,h3,h4,hb⟩:=h
 have hf:foldM bs a (pre++[x]) = (lenI bs a (x:Int),x):=by rw [foldM_snoc,stepM,if_pos hgt]
 refine ⟨⟨?_,?_,?_,?_,?_,?_⟩,?_,?_⟩
 ·exact heap_set_other (heap_set_other (heap_set_other (cells_drewN h0) (by omega)) (by omega)) (by omega)
 ·exact heap_set_other (heap_set_other (heap_set_other (cells_drewN h1) (by omega)) (by omega)) (by omega)
 ·rw [← hdv];exact heap_set_one (heap_set_other (heap_set_other (cells_drewN h2) (by omega)) (by omega))
 ·rw [hf];exact heap_set_other (heap_set_other (heap_set_one (cells_drewN h3)) (by omega)) (by omega)
 ·rw [hf];exact heap_set_other (heap_set_one (heap_set_other (cells_drewN h4) (by omega))) (by omega)
 ·exact (((Below.drewN hb m).setCell (p:=⟨N + 3,0,none⟩) (by show N ≤ N + 3;omega) _).setCell (p:=⟨N + 4,0,none⟩) (by show N ≤ N + 4;omega) _).setCell (p:=⟨N + 2,0,none⟩) (by show N ≤ N + 2;omega) _
 ·exact ((KeepC.set (S:=S3 N) (W:=W.drewN m) ⟨N + 3,0,none⟩ _ (.inr (.inl rfl))).trans (KeepC.set ⟨N + 4,0,none⟩ _ (.inr (.inr rfl)))).trans (KeepC.set ⟨N + 2,0,none⟩ _ (.inl rfl))
 ·exact (((KeepsOthers.drewN W m).trans (KeepsOthers.setCell _ _ _)).trans (KeepsOthers.setCell _ _ _)).trans (KeepsOthers.setCell _ _ _)
theorem bi_le {N:Nat} {A:Option Addr} {l c:Nat} {a depth:Int} {bs:List UInt8} {w W:World} {pre:List Nat} {x:Nat} (h:BI N A l c a depth bs w pre W) (m:Nat) (hgt:¬ (foldM bs a pre).1 < lenI bs a (x:Int)) (dv:Int) (hdv:dv = depth - ((pre++[x]).length:Nat)) :
  BI N A l c a depth bs w (pre++[x]) ((W.drewN m).setCell ⟨N + 2,0,none⟩ (.int .i64 dv))∧KeepC (S3 N) W ((W.drewN m).setCell ⟨N + 2,0,none⟩ (.int .i64 dv))∧KeepsOthers W ((W.drewN m).setCell ⟨N + 2,0,none⟩ (.int .i64 dv)):=by
 obtain ⟨h0,h1,h2,h3,h4,hb⟩:=h
 have hf:foldM bs a (pre++[x]) = foldM bs a pre:=by rw [foldM_snoc,stepM,if_neg hgt]
 refine ⟨⟨?_,?_,?_,?_,?_,?_⟩,?_,?_⟩
 ·exact heap_set_other (cells_drewN h0) (by omega)
 ·exact heap_set_other (cells_drewN h1) (by omega)
 ·rw [← hdv];exact heap_set_one (cells_drewN h2)
 ·rw [hf];exact heap_set_other (cells_drewN h3) (by omega)
 ·rw [hf];exact heap_set_other (cells_drewN h4) (by omega)
 ·exact (Below.drewN hb m).setCell (p:=⟨N + 2,0,none⟩) (by show N ≤ N + 2;omega) _
 ·exact KeepC.set (S:=S3 N) (W:=W.drewN m) ⟨N + 2,0,none⟩ _ (.inl rfl)
 ·exact (KeepsOthers.drewN W m).trans (KeepsOthers.setCell _ _ _)
set_option maxRecDepth 100000 in
set_option maxHeartbeats 4000000 in
theorem best_in (gf:Nat) (lb:Array Value) (A:Option Addr) (l c:Nat) (bs:List UInt8) (a depth:Int) (w:World) (hl:bs.length = l) (hm:l ≤ 1099511627776) (hb:Bytes w w.heap.size A bs) (hdp:depth ≤ 9223372036854775807) (hdn:-9223372036854775808 ≤ depth)
  (eg:∀ args w,(callFunc gf args).run Tryz.prog w = .ok (.enter gf args) w)
  (hseq:∀ (N:Nat) (W:World),w.heap.size ≤ N→Below w.heap.size w W→N + 4 < W.heap.size→SeqS Fence.wide 5 Tryz.prog gf lb (fun x:Nat => #[.int .i64 (x:Int)]) (KeepC (S3 N)) (fun _ => False) (fun xs => xs = cands bs a) (fun pre => pre <+: cands bs a) 32769 W) :
  Calls Tryz.prog 226 #[.slice A l c,.int .i64 a,.int .i64 depth,.func (.func gf) #[] lb] w fun e w' => e = .returned (.tuple #[.int .i64 ((bestM bs a depth).1:Nat),.int .i64 ((bestM bs a depth).2:Nat)])∧Below w.heap.size w w':=by
 have HL:=Lib.hid hl
 have HBY:=Lib.hid hb
 by_cases h1:depth < 1
 ·have hd:decide (depth < 1) = true:=decide_eq_true h1
  have HZ:Hid (bestM bs a depth = (0,0)):=by show _ = _;rw [bestM,show depth.toNat = 0 by omega,List.take_zero];rfl
  clear h1 HBY hb hseq eg
  go_enter Tryz.func226,Tryz.ntmps226
  go_wp2
  refine bodyPost_ret (v:=.tuple #[.int .i64 0,.int .i64 0]) (by simp [results,Tryz.f226,go_sem]) rfl ⟨by rw [HZ.out];rfl,?_⟩
  exact (((((Below.refl _ w).alloc (Nat.le_refl _) _).alloc (by simp) _).alloc (by simp;omega) _).alloc (by simp;omega) _).alloc (by simp;omega) _
 ·have hd:decide (depth < 1) = false:=decide_eq_false h1
  refine (callsIn_wide (n:=6)).1 ?_
  refine callsIn_of_wp_marks Tryz.func226 rfl trivial ?_ rfl
  simp only [Tryz.ntmps226,List.size_toArray,List.length_cons,List.length_nil,Nat.reduceAdd,Nat.reduceSub,Array.replicate_succ,Array.replicate_zero,List.push_toArray,List.append_toArray,List.nil_append,List.cons_append]
  gi_wp2
  obtain ⟨W4,hW4⟩:∃ W4,((((w.alloc (.cells #[.slice A l c] 25)).alloc (.cells #[.int .i64 a] 3)).alloc (.cells #[.int .i64 depth] 3)).alloc (.cells #[.int .i64 0] 3)).alloc (.cells #[.int .i64 0] 3) = W4:=⟨_,rfl⟩
  have hz4:W4.heap.size = w.heap.size + 5:=by rw [← hW4];simp
  have hbi:BI w.heap.size A l c a depth bs w [] W4:=by
   rw [← hW4]
   refine ⟨?_,?_,?_,?_,?_,?_⟩
   ·exact alloc_keep (alloc_keep (alloc_keep (alloc_keep (heap_alloc_new w _) _) _) _) _
   ·have h:=heap_alloc_new (w.alloc (.cells #[.slice A l c] 25)) (.cells #[.int .i64 a] 3)
    rw [World.size_alloc] at h
    exact alloc_keep (alloc_keep (alloc_keep h _) _) _
   ·have h:=heap_alloc_new ((w.alloc (.cells #[.slice A l c] 25)).alloc (.cells #[.int .i64 a] 3)) (.cells #[.int .i64 depth] 3)
    rw [World.size_alloc,World.size_alloc] at h
    simp only [List.length_nil,Int.natCast_zero,Int.sub_zero]
    exact alloc_keep (alloc_keep h _) _
   ·have h:=heap_alloc_new (((w.alloc (.cells #[.slice A l c] 25)).alloc (.cells #[.int .i64 a] 3)).alloc (.cells #[.int .i64 depth] 3)) (.cells #[.int .i64 0] 3)
    rw [World.size_alloc,World.size_alloc,World.size_alloc] at h
    exact alloc_keep h _
   ·have h:=heap_alloc_new ((((w.alloc (.cells #[.slice A l c] 25)).alloc (.cells #[.int .i64 a] 3)).alloc (.cells #[.int .i64 depth] 3)).alloc (.cells #[.int .i64 0] 3)) (.cells #[.int .i64 0] 3)
    rw [World.size_alloc,World.size_alloc,World.size_alloc,World.size_alloc] at h
    exact h
   ·exact (((((Below.refl _ w).alloc (Nat.le_refl _) _).alloc (by simp) _).alloc (by simp;omega) _).alloc (by simp;omega) _).alloc (by simp;omega) _
  rw [hW4]
  have HSEQ:=Lib.hid (hseq w.heap.size W4 (Nat.le_refl _) hbi.2.2.2.2.2 (by omega))
  have HBI:=Lib.hid hbi
  have HZ4:=Lib.hid hz4
  have HDP:Hid (1 ≤ depth):=by show _ ≤ _;omega
  rw [show w.heap.size + 1 + 1 + 1 + 1 = w.heap.size + 4 from rfl,show w.heap.size + 1 + 1 + 1 = w.heap.size + 3 from rfl,show w.heap.size + 1 + 1 = w.heap.size + 2 from rfl]
  clear hW4 hseq hbi hz4 h1 hl hb
  generalize hNN:w.heap.size = N at *
  have HNN:=Lib.hid hNN
  clear hNN
  refine wpIn_rangeFunc_S rfl (by omega) (gf:=gf) (lb:=lb) rfl trivial eg HSEQ.out
   (fun r hr => hr.elim) (fun h k => h.trans k) (fun W l o o' _ ho hc _ => KeepC.putObj _ W l o o' ho hc) (Below.refl _ _) (fun _ => rfl)
   (fun pre W => (((pre.length:Nat):Int) < depth∧(foldM bs a pre).1 ≠ 258)∧BI N A l c a depth bs w pre W)
   (fun cd pre W => (cd = .exit 0∧((pre.length:Nat):Int) ≤ depth∧(((pre.length:Nat):Int) = depth ∨ (foldM bs a pre).1 = 258))∧BI N A l c a depth bs w pre W)
   (ownS_pure.and (ownS_BI N _ A l c a depth bs w (by rw [HNN.out];exact Nat.le_refl _) (by have:=HZ4.out;omega)))
   (fun _ => ownS_pure.and (ownS_BI N _ A l c a depth bs w (by rw [HNN.out];exact Nat.le_refl _) (by have:=HZ4.out;omega)))
   ⟨⟨by have:=HDP.out;simp;omega,by simp [foldM]⟩,HBI.out⟩
   (fun x => { tmps:=#[.slice A l c,.int .i64 a,.int .i64 depth,.func (.func gf) #[] lb,.pointer (some ⟨N,0,none⟩),.pointer (some ⟨N + 1,0,none⟩),.pointer (some ⟨N + 2,0,none⟩),undef,.pointer (some ⟨N + 3,0,none⟩),.pointer (some ⟨N + 4,0,none⟩),.int .i64 (x:Int),undef,
    .int .i64 depth,.bool false,.func (.func gf) #[] lb,.int .i64 (x:Int),undef,undef,undef,undef,undef,undef,undef,undef,undef,undef,undef,undef,undef,undef,undef,undef,undef,undef,undef],defers:=[] }) ?assign ?body ?done ?stop
  case assign =>
   intro g x W K hK
   gi_wp2
   exact hK
  case body =>
   rintro g pre x W ⟨⟨hp1,hp2⟩,hbi⟩ hlen
   have c0:=cell_of_row W N 0 _ _ _ hbi.1
   have c1:=cell_of_row W (N + 1) 0 _ _ _ hbi.2.1
   have c2:=cell_of_row W (N + 2) 0 _ _ _ hbi.2.2.1
   have c3:=cell_of_row W (N + 3) 0 _ _ _ hbi.2.2.2.1
   have c4:=cell_of_row W (N + 4) 0 _ _ _ hbi.2.2.2.2.1
   have f2:=frozen_of_row W (N + 2) 0 _ _ hbi.2.2.1
   have f3:=frozen_of_row W (N + 3) 0 _ _ hbi.2.2.2.1
   have f4:=frozen_of_row W (N + 4) 0 _ _ hbi.2.2.2.2.1
   obtain ⟨dv,hdv⟩:∃ dv,depth - ((pre.length:Nat):Int) = dv:=⟨_,rfl⟩
   obtain ⟨fn,hfn⟩:∃ fn,(foldM bs a pre).1 = fn:=⟨_,rfl⟩
   obtain ⟨fd,hfd⟩:∃ fd,(foldM bs a pre).2 = fd:=⟨_,rfl⟩
   obtain ⟨ln,hln⟩:∃ ln,lenI bs a (x:Int) = ln:=⟨_,rfl⟩
   rw [hdv] at c2
   rw [hfn] at c3
   rw [hfd] at c4
   have hw:IntKind.i64.wrap (dv - 1) = dv - 1:=IntWalk.i64_in _ (by omega)
   have hdv2:dv - 1 = depth - ((pre++[x]).length:Nat):=by rw [← hdv,List.length_append,List.length_singleton];omega
   have hbyW:Bytes W N A bs:=HBY.out.below hbi.2.2.2.2.2 (Nat.le_refl _)
   have HLN:=Lib.hid (mlen_any A l c bs N a (x:Int) W HL.out hm hbyW)
   rw [hln] at HLN
   have HB:=Lib.hid hbi
   have HDV2:=Lib.hid hdv2
   have HPL:Hid (((pre++[x]).length:Nat) = pre.length + 1):=by show _ = _;simp
   have HF:Hid (foldM bs a (pre++[x]) = if fn < ln then (ln,x) else foldM bs a pre):=by show _ = _;rw [foldM_snoc,stepM,hfn,hln]
   have HDV:=Lib.hid hdv
   have HP1:=Lib.hid hp1
   have HFN:=Lib.hid hfn
   have HP2:=Lib.hid hp2
   clear hdv2 hbyW hbi hdv hp1 hp2
   by_cases hgt:fn < ln
   ·have HGT:=Lib.hid (fun m:Nat => bi_gt HB.out m (by rw [hfn,hln];exact hgt) (dv - 1) HDV2.out)
    rw [hln] at HGT
    have HF2:Hid ((foldM bs a (pre++[x])).1 = ln):=by show _ = _;rw [HF.out,if_pos hgt]
    clear hln hfn hfd
    by_cases hz:dv - 1 = 0
    ·have tz:decide (dv - 1 = 0) = true:=decide_eq_true hz
     have tb:(dv - 1 == 0) = true:=by simpa using hz
     have HZ:=Lib.hid hz
     clear hz
     gi_wp2_with (refine ⟨trivial,?_⟩;gi_at_call 243;refine (CallsIn.inRound g (callsIn_wide.2 HLN.out)).mono ?_;rintro e w' ⟨rfl,m,rfl⟩)
     obtain ⟨q1,q2,q3⟩:=HGT.out m
     exact ⟨q3,⟨rfl,by have:=HP1.out;have:=HPL.out;omega,.inl (by have:=HZ.out;have:=HDV2.out;omega)⟩,q1⟩
    ·have tb:(dv - 1 == 0) = false:=by simpa using hz
     have HZ:=Lib.hid hz
     clear hz
     by_cases h2:ln = 258
     ·have tc:((ln:Int) == 258) = true:=by simp;omega
      have H2:=Lib.hid h2
      clear h2
      gi_wp2_with (refine ⟨trivial,?_⟩;gi_at_call 243;refine (CallsIn.inRound g (callsIn_wide.2 HLN.out)).mono ?_;rintro e w' ⟨rfl,m,rfl⟩)
      obtain ⟨q1,q2,q3⟩:=HGT.out m
      exact ⟨q3,⟨rfl,by have:=HP1.out;have:=HPL.out;omega,.inr (by rw [HF2.out,H2.out])⟩,q1⟩
     ·have tc:((ln:Int) == 258) = false:=by simp;omega
      have H2:=Lib.hid h2
      clear h2
      gi_wp2_with (refine ⟨trivial,?_⟩;gi_at_call 243;refine (CallsIn.inRound g (callsIn_wide.2 HLN.out)).mono ?_;rintro e w' ⟨rfl,m,rfl⟩)
      obtain ⟨q1,q2,q3⟩:=HGT.out m
      exact ⟨q3,q2,⟨by have:=HP1.out;have:=HPL.out;have:=HZ.out;have:=HDV2.out;omega,by rw [HF2.out];exact H2.out⟩,q1⟩
   ·have HGT:=Lib.hid (fun m:Nat => bi_le HB.out m (by rw [hfn,hln];exact hgt) (dv - 1) HDV2.out)
    have HF2:Hid ((foldM bs a (pre++[x])).1 = fn):=by show _ = _;rw [HF.out,if_neg hgt,hfn]
    have h258:((fn:Int) == 258) = false:=by have:=HP2.out;rw [hfn] at this;simp;omega
    clear hln hfn hfd
    by_cases hz:dv - 1 = 0
    ·have tb:(dv - 1 == 0) = true:=by simpa using hz
     have HZ:=Lib.hid hz
     clear hz
     gi_wp2_with (refine ⟨trivial,?_⟩;gi_at_call 243;refine (CallsIn.inRound g (callsIn_wide.2 HLN.out)).mono ?_;rintro e w' ⟨rfl,m,rfl⟩)
     obtain ⟨q1,q2,q3⟩:=HGT.out m
     exact ⟨q3,⟨rfl,by have:=HP1.out;have:=HPL.out;omega,.inl (by have:=HZ.out;have:=HDV2.out;omega)⟩,q1⟩
    ·have tb:(dv - 1 == 0) = false:=by simpa using hz
     have HZ:=Lib.hid hz
     clear hz
     gi_wp2_with (refine ⟨trivial,?_⟩;gi_at_call 243;refine (CallsIn.inRound g (callsIn_wide.2 HLN.out)).mono ?_;rintro e w' ⟨rfl,m,rfl⟩)
     obtain ⟨q1,q2,q3⟩:=HGT.out m
     exact ⟨q3,q2,⟨by have:=HP1.out;have:=HPL.out;have:=HZ.out;have:=HDV2.out;omega,by rw [HF2.out];have:=HP2.out;rw [HFN.out] at this;exact this⟩,q1⟩
  case done =>
   rintro D ys W hD rfl ⟨⟨hp1,hp2⟩,hbi⟩ hK
   have hbm:foldM bs a (cands bs a) = bestM bs a depth:=bestM_end (List.prefix_refl _) (by omega) (.inl rfl)
   replace hbi:=hbi.2.2.2
   clear hp1 hp2
   obtain ⟨fn,hfn⟩:∃ fn,(bestM bs a depth).1 = fn:=⟨_,rfl⟩
   obtain ⟨fd,hfd⟩:∃ fd,(bestM bs a depth).2 = fd:=⟨_,rfl⟩
   rw [hbm] at hbi
   rw [hfn,hfd] at hbi
   have c3:=cell_of_row W (N + 3) 0 _ _ _ hbi.1
   have c4:=cell_of_row W (N + 4) 0 _ _ _ hbi.2.1
   have f3:=frozen_of_row W (N + 3) 0 _ _ hbi.1
   have f4:=frozen_of_row W (N + 4) 0 _ _ hbi.2.1
   have HBI2:=Lib.hid hbi
   have HKW:=Lib.hid hK
   have HDD:=Lib.hid hD
   have HFN:=Lib.hid hfn
   have HFD:=Lib.hid hfd
   clear hbi hK hbm hD hfn hfd
   gi_wp2
   gi_region
   all_goals
    have hD5:N + 5 ≤ D:=by have:=HDD.out;have:=HZ4.out;omega
    have h3:(((W.setCell ⟨N + 3,0,none⟩ (.int .i64 (fn:Int))).setCell ⟨N + 4,0,none⟩ (.int .i64 (fd:Int))).drew).heap[N + 3]? = some (.cells #[.int .i64 (fn:Int)] 3):=heap_set_other (heap_set_one HBI2.out.1) (by omega)
    have h4:(((W.setCell ⟨N + 3,0,none⟩ (.int .i64 (fn:Int))).setCell ⟨N + 4,0,none⟩ (.int .i64 (fd:Int))).drew).heap[N + 4]? = some (.cells #[.int .i64 (fd:Int)] 3):=heap_set_one (heap_set_other HBI2.out.2.1 (by omega))
    have hK':(((W.setCell ⟨N + 3,0,none⟩ (.int .i64 (fn:Int))).setCell ⟨N + 4,0,none⟩ (.int .i64 (fd:Int))).drew).heap[D]? = some (.deferred (some [])):=heap_set_other (heap_set_other HKW.out (by omega)) (by omega)
    have hbW:Below N w (((W.setCell ⟨N + 3,0,none⟩ (.int .i64 (fn:Int))).setCell ⟨N + 4,0,none⟩ (.int .i64 (fd:Int))).drew):=(Below.drewN ((HBI2.out.2.2.setCell (p:=⟨N + 3,0,none⟩) (by show N ≤ N + 3;omega) _).setCell (p:=⟨N + 4,0,none⟩) (by show N ≤ N + 4;omega) _) 1)
    generalize ((W.setCell ⟨N + 3,0,none⟩ (.int .i64 (fn:Int))).setCell ⟨N + 4,0,none⟩ (.int .i64 (fd:Int))).drew = W6 at *
    gi_wp2
    refine ⟨by simp,.inl ⟨_,_,rfl,run_takeDeferred hK',?_⟩⟩
    have hc3:(W6.putObj D (.deferred none)).cell? ⟨N + 3,0,none⟩ = some (.int .i64 (fn:Int)):=cell_of_row _ (N + 3) 0 _ _ _ ((World.putObj_heap_other (by omega)).trans h3)
    have hc4:(W6.putObj D (.deferred none)).cell? ⟨N + 4,0,none⟩ = some (.int .i64 (fd:Int)):=cell_of_row _ (N + 4) 0 _ _ _ ((World.putObj_heap_other (by omega)).trans h4)
    refine ⟨.tuple #[.int .i64 (fn:Int),.int .i64 (fd:Int)],by simp [results,Tryz.f226,go_sem,hc3,hc4],by rw [HFN.out,HFD.out],?_⟩
    rw [HNN.out]
    exact hbW.trans ((Below.refl N W6).grown (grownBy_putObj' W6 D _) (by have:=(Array.getElem?_eq_some_iff.1 hK').1;omega) (fun k e => by cases e;omega))
  case stop =>
   rintro D cd pre W hD hpre ⟨⟨rfl,hp1,hp2⟩,hbi⟩ hK
   have hbm:foldM bs a pre = bestM bs a depth:=bestM_end hpre hp1 (.inr hp2)
   replace hbi:=hbi.2.2.2
   clear hp1 hp2 hpre
   obtain ⟨fn,hfn⟩:∃ fn,(bestM bs a depth).1 = fn:=⟨_,rfl⟩
   obtain ⟨fd,hfd⟩:∃ fd,(bestM bs a depth).2 = fd:=⟨_,rfl⟩
   rw [hbm] at hbi
   rw [hfn,hfd] at hbi
   have c3:=cell_of_row W (N + 3) 0 _ _ _ hbi.1
   have c4:=cell_of_row W (N + 4) 0 _ _ _ hbi.2.1
   have f3:=frozen_of_row W (N + 3) 0 _ _ hbi.1
   have f4:=frozen_of_row W (N + 4) 0 _ _ hbi.2.1
   have HBI2:=Lib.hid hbi
   have HKW:=Lib.hid hK
   have HDD:=Lib.hid hD
   have HFN:=Lib.hid hfn
   have HFD:=Lib.hid hfd
   clear hbi hK hbm hD hfn hfd
   gi_wp2
   gi_region
   all_goals
    have hD5:N + 5 ≤ D:=by have:=HDD.out;have:=HZ4.out;omega
    have h3:(((W.setCell ⟨N + 3,0,none⟩ (.int .i64 (fn:Int))).setCell ⟨N + 4,0,none⟩ (.int .i64 (fd:Int))).drew).heap[N + 3]? = some (.cells #[.int .i64 (fn:Int)] 3):=heap_set_other (heap_set_one HBI2.out.1) (by omega)
    have h4:(((W.setCell ⟨N + 3,0,none⟩ (.int .i64 (fn:Int))).setCell ⟨N + 4,0,none⟩ (.int .i64 (fd:Int))).drew).heap[N + 4]? = some (.cells #[.int .i64 (fd:Int)] 3):=heap_set_one (heap_set_other HBI2.out.2.1 (by omega))
    have hK':(((W.setCell ⟨N + 3,0,none⟩ (.int .i64 (fn:Int))).setCell ⟨N + 4,0,none⟩ (.int .i64 (fd:Int))).drew).heap[D]? = some (.deferred (some [])):=heap_set_other (heap_set_other HKW.out (by omega)) (by omega)
    have hbW:Below N w (((W.setCell ⟨N + 3,0,none⟩ (.int .i64 (fn:Int))).setCell ⟨N + 4,0,none⟩ (.int .i64 (fd:Int))).drew):=(Below.drewN ((HBI2.out.2.2.setCell (p:=⟨N + 3,0,none⟩) (by show N ≤ N + 3;omega) _).setCell (p:=⟨N + 4,0,none⟩) (by show N ≤ N + 4;omega) _) 1)
    generalize ((W.setCell ⟨N + 3,0,none⟩ (.int .i64 (fn:Int))).setCell ⟨N + 4,0,none⟩ (.int .i64 (fd:Int))).drew = W6 at *
    gi_wp2
    refine ⟨by simp,.inl ⟨_,_,rfl,run_takeDeferred hK',?_⟩⟩
    have hc3:(W6.putObj D (.deferred none)).cell? ⟨N + 3,0,none⟩ = some (.int .i64 (fn:Int)):=cell_of_row _ (N + 3) 0 _ _ _ ((World.putObj_heap_other (by omega)).trans h3)
    have hc4:(W6.putObj D (.deferred none)).cell? ⟨N + 4,0,none⟩ = some (.int .i64 (fd:Int)):=cell_of_row _ (N + 4) 0 _ _ _ ((World.putObj_heap_other (by omega)).trans h4)
    refine ⟨.tuple #[.int .i64 (fn:Int),.int .i64 (fd:Int)],by simp [results,Tryz.f226,go_sem,hc3,hc4],by rw [HFN.out,HFD.out],?_⟩
    rw [HNN.out]
    exact hbW.trans ((Below.refl N W6).grown (grownBy_putObj' W6 D _) (by have:=(Array.getElem?_eq_some_iff.1 hK').1;omega) (fun k e => by cases e;omega))
set_option maxHeartbeats 400000 in
theorem fcandidates_any (f:Option Addr) (a:Int) (w:World) :
  Calls Tryz.prog 227 #[.pointer f,.int .i64 a] w fun e w' => e = .returned (.func (.func 244) #[] #[.pointer (some ⟨w.heap.size,0,none⟩),.pointer (some ⟨w.heap.size + 1,0,none⟩)]) ∧
   (w.alloc (.cells #[.pointer f] 227)).alloc (.cells #[.int .i64 a] 3) = w':=by
 go_enter Tryz.func227,Tryz.ntmps227
 go_wp2
 go_ret
 exact ⟨rfl,rfl⟩
set_option maxRecDepth 100000 in
set_option maxHeartbeats 2000000 in
theorem fcand_seq (S:Nat→Prop) (B b1 b2 g g0:Nat) (A:Option Addr) (l c:Nat) (bs:List UInt8) (a:Int) (w0:World) (hl:bs.length = l) (hm:l ≤ 32000)
  (hS:∀ k,S k→B ≤ k∧k ≠ b1∧k ≠ b2) (hgB:g < B) (hg0B:g0 < B)
  (h1:w0.heap[b1]? = some (.cells #[.pointer (some ⟨g,0,none⟩)] 227)) (h2:w0.heap[b2]? = some (.cells #[.int .i64 a] 3)) (hf:LF w0 g g0 A l c bs) :
  SeqS Fence.wide 5 Tryz.prog 244 #[.pointer (some ⟨b1,0,none⟩),.pointer (some ⟨b2,0,none⟩)] (fun x:Nat => #[.int .i64 (x:Int)]) (KeepC S) (fun _ => False) (fun xs => xs = cands bs a) (fun pre => pre <+: cands bs a) 32769 w0:=by
 intro gy J Jx W hbl hJ hJx hY h0
 have HL:=Lib.hid hl
 have h1W:=(hbl.block b1 (Array.getElem?_eq_some_iff.1 h1).1).trans h1
 have h2W:=(hbl.block b2 (Array.getElem?_eq_some_iff.1 h2).1).trans h2
 have hfW:LF W g g0 A l c bs:=hf.below hbl (Array.getElem?_eq_some_iff.1 hf.1).1 (Array.getElem?_eq_some_iff.1 hf.2).1
 have c1:W.cell? ⟨b1,0,none⟩ = some (.pointer (some ⟨g,0,none⟩)):=cell_of_row W b1 0 _ _ _ h1W
 have c2:W.cell? ⟨b2,0,none⟩ = some (.int .i64 a):=cell_of_row W b2 0 _ _ _ h2W
 have c3:W.cell? ⟨g,0,none⟩ = some (.slice A l c):=cell_of_row W g 0 _ _ _ hfW.1
 have c4:W.cell? ⟨g,1,none⟩ = some (.slice (some ⟨g0,0,none⟩) l l):=cell_of_row W g 1 _ _ _ hfW.1
 have HBN:=Lib.hid (fun k:Nat => begins_any A l c a (W.drewN k) (by omega))
 have HUB:=Lib.hid hfW.2
 have HS:=Lib.hid hS
 have HY:=Lib.hid hY
 clear h1 h2 hf hl hS hY h1W h2W hfW
 cases hbg:begM l a with
 | false =>
  have HBG:=Lib.hid (begB_no HL.out hbg)
  rw [hbg] at HBN
  refine callsIn_of_wp Tryz.func244 rfl trivial ?_ rfl
  simp only [Tryz.ntmps244,List.size_toArray,List.length_cons,List.length_nil,Nat.reduceAdd,Nat.reduceSub,Array.replicate_succ,Array.replicate_zero,List.push_toArray,List.append_toArray,List.nil_append,List.cons_append]
  gi_wp2_with fail
  refine wpIn_region_quiet_lit rfl (by kernel_rfl) (by kernel_rfl) ?_
  repeat (gi_big_quiet_step (fail))
  refine wpQuietIn_step (fun _ _ _ _ => trivial) (fun K hK => ?_)
  go_simp
  apply Exists.intro
  refine ⟨fun k => ?_,hK _ ?_⟩
  ·exact callsIn_wide.2 (quiet_left' (HBN.out k))
  clear hK K
  repeat (gi_big_quiet_step (fail))
  refine wpQuietIn_nil ?_
  intro _ hw'
  obtain ⟨nq,hw''⟩:=hw'
  subst hw''
  gi_wp2
  refine bodyPost_ret (results_none rfl _ _ _) rfl ?_
  exact ⟨⟨_,rfl⟩,.inl ⟨[],HBG.out.symm,abidesDrewN hJ h0 _⟩⟩
 | true =>
  obtain ⟨q0,q1⟩:=begB_yes hbg
  obtain ⟨n,rfl⟩:=Int.eq_ofNat_of_zero_le q0
  have hn3:n + 3 ≤ l:=by omega
  have HCA:Hid (cands bs (n:Int) = candN bs n (min n 32768)):=cands_at (by rw [HL.out];exact hn3)
  rw [hbg] at HBN
  have HN1:Hid (¬ S b1):=fun h => (HS.out b1 h).2.1 rfl
  have HN2:Hid (¬ S b2):=fun h => (HS.out b2 h).2.2 rfl
  have HN3:Hid (¬ S g):=fun h => by have:=(HS.out g h).1;omega
  have HN4:Hid (¬ S g0):=fun h => by have:=(HS.out g0 h).1;omega
  clear hbg q0 q1
  refine callsIn_of_wp Tryz.func244 rfl trivial ?_ rfl
  simp only [Tryz.ntmps244,List.size_toArray,List.length_cons,List.length_nil,Nat.reduceAdd,Nat.reduceSub,Array.replicate_succ,Array.replicate_zero,List.push_toArray,List.append_toArray,List.nil_append,List.cons_append]
  gi_wp2_with fail
  refine wpIn_region_quiet_lit rfl (by kernel_rfl) (by kernel_rfl) ?_
  repeat (gi_big_quiet_step (fail))
  refine wpQuietIn_step (fun _ _ _ _ => trivial) (fun K hK => ?_)
  go_simp
  apply Exists.intro
  refine ⟨fun k => ?_,hK _ ?_⟩
  ·exact callsIn_wide.2 (quiet_left' (HBN.out k))
  clear hK K
  repeat (gi_big_quiet_step (fail))
  refine wpQuietIn_nil ?_
  intro _ hw'
  obtain ⟨nq,hw''⟩:=hw'
  subst hw''
  gi_wp2
  gi_loopw [4] (fun i wr => ∃ e:Nat,i = .int .i64 (e:Int)∧(e ≤ n∧e ≤ 32768∧bg bs (n - e) = bg bs n)∧wr.cell? ⟨b1,0,none⟩ = some (.pointer (some ⟨g,0,none⟩))∧wr.cell? ⟨b2,0,none⟩ = some (.int .i64 n) ∧
   wr.cell? ⟨g,1,none⟩ = some (.slice (some ⟨g0,0,none⟩) l l)∧(∀ (j d:Nat),(dL bs l (l - 2))[j]? = some d→wr.cell? ⟨g0,j,none⟩ = some (.int .u16 (d:Int)))∧J (candN bs n e) wr) (fun i _ => n + 1 - (intOf i).toNat)
  case atStart => exact ⟨0,rfl,⟨Nat.zero_le _,by omega,rfl⟩,c1,c2,c4,fun j d hj => ub_cell HUB.out hj,abidesDrewN hJ h0 _⟩
  case round =>
   obtain ⟨e,rfl,⟨he1,he2,he3⟩,e1,e2,e4,eu,hJs⟩:=hrel
   clear c1 c2 c3 c4
   obtain ⟨q,hq⟩:∃ q,n - e = q:=⟨_,rfl⟩
   obtain ⟨db,hdb⟩:∃ db,dB bs q = db:=⟨_,rfl⟩
   have hstep:=dB_step he1 he3
   rw [hq,hdb] at hstep
   have HST:=Lib.hid hstep
   have d0:wr.cell? ⟨g0,q,none⟩ = some (.int .u16 (db:Int)):=eu q db (by rw [dL_get bs l (l - 2) (by omega),if_pos (by omega),hdb])
   have hdle:db ≤ 32768:=by rw [← hdb];exact dB_le bs q
   have hsub:(n:Int) - (e:Int) = (q:Int):=by omega
   have hwq:IntKind.i64.wrap (q:Int) = (q:Int):=IntWalk.i64_in _ (by omega)
   have hql:q < l:=by omega
   have HEU:=Lib.hid eu
   clear hstep hdb eu he3
   by_cases hz:db = 0
   ·have HCE:Hid (cands bs (n:Int) = candN bs n e):=by show _ = _;rw [HCA.out,HST.out.1 hz,show min e (min n 32768) = e by omega]
    subst hz
    gi_wp2_with fail
    gi_quiet (fail)
    gi_wp2
    go_end0
    exact ⟨⟨_,rfl⟩,.inl ⟨candN bs n e,HCE.out.symm,abidesDrewN hJ hJs _⟩⟩
   ·have t0:decide ((0:Int) < (db:Int)) = true:=decide_eq_true (by omega)
    have t0':decide (0 < db) = true:=decide_eq_true (by omega)
    obtain ⟨k1,k2,k3,_⟩:=HST.out.2 (by omega)
    obtain ⟨e',he'⟩:∃ e',e + db = e':=⟨_,rfl⟩
    rw [he'] at k1 k2 k3
    have hadd:(e:Int) + (db:Int) = (e':Int):=by omega
    have hwe:IntKind.i64.wrap (e':Int) = (e':Int):=IntWalk.i64_in _ (by omega)
    have HK2:=Lib.hid k2
    have HK3:=Lib.hid k3
    clear k2 k3
    gi_wp2_with fail
    gi_quiet (fail)
    obtain ⟨n1,rfl⟩:∃ n1,n1 = nq:=⟨_,rfl⟩
    gi_wp2_with fail
    gi_quiet (fail)
    have hJ2:=abidesDrewN hJ hJs (n1 + nq)
    by_cases hbig:32768 < e'
    ·exact absurd hbig (by omega)
    ·have t1:decide ((32768:Int) < (e':Int)) = false:=decide_eq_false (by omega)
     have HPX:Hid (candN bs n e' <+: cands bs (n:Int)):=by
      show _ <+: _
      rw [HCA.out]
      exact candN_pre bs n (by omega)
     obtain ⟨fn,tmps,assign,body,hy,hR⟩:=HY.out (candN bs n e) e' (wr.drewN (n1 + nq)) hJ2 (by have:=candN_len bs n e;omega)
     have HR:=Lib.hid hR
     clear hR
     rw [← HK3.out] at HR
     gi_wp2
     refine HR.out.mono ?_
     rintro ee W3 (⟨rfl,hJ3,hk3⟩ | ⟨rfl,hJx3⟩)
     ·have e1':=hk3.cell (show (wr.drewN (n1 + nq)).cell? ⟨b1,0,none⟩ = _ from e1) HN1.out
      have e2':=hk3.cell (show (wr.drewN (n1 + nq)).cell? ⟨b2,0,none⟩ = _ from e2) HN2.out
      have e4':=hk3.cell (show (wr.drewN (n1 + nq)).cell? ⟨g,1,none⟩ = _ from e4) HN3.out
      have eu':∀ (j d:Nat),(dL bs l (l - 2))[j]? = some d→W3.cell? ⟨g0,j,none⟩ = some (.int .u16 (d:Int)):=fun j d hj => hk3.cell (show (wr.drewN (n1 + nq)).cell? ⟨g0,j,none⟩ = _ from HEU.out j d hj) HN4.out
      gi_wp2
      refine ⟨⟨e',rfl,⟨k1,by omega,HK2.out⟩,e1',e2',e4',eu',hJ3⟩,?_⟩
      simp [intOf]
      omega
     ·gi_wp2
      refine bodyPost_ret (results_none rfl _ _ _) rfl ?_
      exact ⟨⟨_,rfl⟩,.inr ⟨candN bs n e',HPX.out,hJx3⟩⟩
end Go.Proofs.YtaknladkodibaaaGreatDoor
namespace Go.Proofs.YtaknladkodibaaaGreatDoor
open Go.RowKit Go.Shelf
theorem fbest_any (g g0:Nat) (A:Option Addr) (l c:Nat) (bs:List UInt8) (a depth:Int) (W W2:World) (hW2:(W.alloc (.cells #[.pointer (some ⟨g,0,none⟩)] 227)).alloc (.cells #[.int .i64 a] 3) = W2)
  (hl:bs.length = l) (hm:l ≤ 32000) (hb:Bytes W W.heap.size A bs) (hf:LF W g g0 A l c bs) (hdp:depth ≤ 9223372036854775807) (hdn:-9223372036854775808 ≤ depth) :
  Calls Tryz.prog 226 #[.slice A l c,.int .i64 a,.int .i64 depth,.func (.func 244) #[] #[.pointer (some ⟨W.heap.size,0,none⟩),.pointer (some ⟨W.heap.size + 1,0,none⟩)]] W2
   fun e w' => e = .returned (.tuple #[.int .i64 ((bestM bs a depth).1:Nat),.int .i64 ((bestM bs a depth).2:Nat)])∧Below W.heap.size W w':=by
 have hz:W2.heap.size = W.heap.size + 2:=by rw [← hW2];simp
 have hB1:Below W.heap.size W W2:=by rw [← hW2];exact ((Below.refl _ W).alloc (Nat.le_refl _) _).alloc (by simp) _
 have h1:W2.heap[W.heap.size]? = some (.cells #[.pointer (some ⟨g,0,none⟩)] 227):=by rw [← hW2];exact alloc_keep (heap_alloc_new W _) _
 have h2:W2.heap[W.heap.size + 1]? = some (.cells #[.int .i64 a] 3):=by
  rw [← hW2]
  have h:=heap_alloc_new (W.alloc (.cells #[.pointer (some ⟨g,0,none⟩)] 227)) (.cells #[.int .i64 a] 3)
  rwa [World.size_alloc] at h
 have hg:=(Array.getElem?_eq_some_iff.1 hf.1).1
 have hg0:=(Array.getElem?_eq_some_iff.1 hf.2).1
 refine (best_in 244 #[.pointer (some ⟨W.heap.size,0,none⟩),.pointer (some ⟨W.heap.size + 1,0,none⟩)] A l c bs a depth W2 hl (by omega) ((hb.below hB1 (Nat.le_refl _)).more (by omega)) hdp hdn
  (enters_of Tryz.func244 (by kernel_rfl) rfl)
  (fun N Z hN hBZ hz2 => fcand_seq (S3 N) W2.heap.size W.heap.size (W.heap.size + 1) g g0 A l c bs a Z hl hm
   (fun k hk => by rcases hk with rfl | rfl | rfl <;> omega) (by omega) (by omega) ((hBZ.block _ (by omega)).trans h1) ((hBZ.block _ (by omega)).trans h2) ((hf.below hB1 hg hg0).below hBZ (by omega) (by omega)))).mono fun e w' h => ⟨h.1,hB1.trans (h.2.mono (by omega))⟩
set_option maxRecDepth 100000 in
set_option maxHeartbeats 2000000 in
theorem find_any (g g0:Nat) (A:Option Addr) (l c:Nat) (bs:List UInt8) (a depth:Int) (w:World) (hl:bs.length = l) (hm:l ≤ 32000) (hb:Bytes w w.heap.size A bs) (hf:LF w g g0 A l c bs) (hdp:depth ≤ 9223372036854775807) (hdn:-9223372036854775808 ≤ depth) :
  Calls Tryz.prog 199 #[.pointer (some ⟨g,0,none⟩),.int .i64 a,.int .i64 depth] w
   fun e w' => e = .returned (.tuple #[.int .i64 ((bestM bs a depth).1:Nat),.int .i64 ((bestM bs a depth).2:Nat)])∧Below w.heap.size w w':=by
 have c0:=cell_of_row w g 0 _ _ _ hf.1
 obtain ⟨W2,hW2⟩:∃ W2,(w.drew.alloc (.cells #[.pointer (some ⟨g,0,none⟩)] 227)).alloc (.cells #[.int .i64 a] 3) = W2:=⟨_,rfl⟩
 have HFC:Hid (Calls Tryz.prog 227 #[.pointer (some ⟨g,0,none⟩),.int .i64 a] w.drew fun e w' => e = .returned (.func (.func 244) #[] #[.pointer (some ⟨w.heap.size,0,none⟩),.pointer (some ⟨w.heap.size + 1,0,none⟩)])∧W2 = w'):=by
  show Calls _ _ _ _ _
  rw [← hW2]
  exact fcandidates_any (some ⟨g,0,none⟩) a w.drew
 have HBE:=Lib.hid (fbest_any g g0 A l c bs a depth w.drew W2 hW2 hl hm hb hf hdp hdn)
 have c0W:w.drew.cell? ⟨g,0,none⟩ = some (.slice A l c):=c0
 have c0W2:W2.cell? ⟨g,0,none⟩ = some (.slice A l c):=by rw [← hW2];exact cell_alloc_l _ (cell_alloc_l _ c0W)
 clear hW2 hb hf
 go_enter Tryz.func199,Tryz.ntmps199
 go_wp2_with fail
 go_region_with (first
  | (go_at_call 227;refine HFC.out.mono ?_;rintro e w' ⟨rfl,rfl⟩)
  | (go_at_call 226;refine HBE.out.mono ?_;rintro e w5 ⟨rfl,hb5⟩))
 all_goals
  have HB5:Hid (Below w.heap.size w w5):=(Below.drewN (Below.refl _ w) 1).trans hb5
  clear hb5
  go_wp2
  go_ret2
  exact ⟨rfl,HB5.out⟩
end Go.Proofs.YtaknladkodibaaaGreatDoor
namespace Go.Proofs.YtaknladkodibaaaGreatDoor
open Go.RowKit
def rightN (lv:Int):Int:=if lv ≤ 0 then 0 else if lv = 1 then 1 else if lv = 2 then 2 else 3
theorem level_cases (lv:Int):lv ≤ 0 ∨ lv = 1 ∨ lv = 2 ∨ 3 ≤ lv:=by omega
set_option maxHeartbeats 400000 in
theorem rightT_any (lv:Int) (w:World):Calls Tryz.prog 201 #[.int .i64 lv] w fun e w' => e = .returned (.int .i64 (rightN lv))∧w = w':=by
 rcases level_cases lv with h | rfl | rfl | h
 ·have HZ:Hid (rightN lv = 0):=if_pos h
  have hm:(if (0:Int) < lv then lv else 0) = 0:=if_neg (by omega)
  have hm2:(if lv < (0:Int) then 0 else lv) = 0:=by split <;> omega
  have hm3:max lv 0 = 0:=by omega
  clear h
  go_enter Tryz.func201,Tryz.ntmps201
  go_wp2
  go_ret
  exact ⟨by rw [HZ.out];rfl,rfl⟩
 ·go_enter Tryz.func201,Tryz.ntmps201
  go_wp2
  go_ret
  exact ⟨rfl,rfl⟩
 ·go_enter Tryz.func201,Tryz.ntmps201
  go_wp2
  go_ret
  exact ⟨rfl,rfl⟩
 ·have HZ:Hid (rightN lv = 3):=by show _ = _;unfold rightN;rw [if_neg (by omega),if_neg (by omega),if_neg (by omega)]
  have hm:(if (0:Int) < lv then lv else 0) = lv:=if_pos (by omega)
  have hm2:(if lv < (0:Int) then 0 else lv) = lv:=if_neg (by omega)
  have hn:(if lv < (3:Int) then lv else 3) = 3:=if_neg (by omega)
  have hn2:(if (3:Int) < lv then 3 else lv) = 3:=by split <;> omega
  go_enter Tryz.func201,Tryz.ntmps201
  go_wp2
  go_ret
  exact ⟨by rw [HZ.out];rfl,rfl⟩
set_option maxHeartbeats 400000 in
theorem depth_any (lv:Int) (w:World):Calls Tryz.prog 200 #[.int .i64 lv] w fun e w' => e = .returned (.int .i64 (depthN lv))∧w = w':=by
 have i0:∀ w,(Instr.index 314 (.agg #[.int .i64 1,.int .i64 4,.int .i64 32,.int .i64 256]) (.int .i64 0)).run Tryz.prog w = .ok (.int .i64 1) w:=fun _ => by kernel_rfl
 have i1:∀ w,(Instr.index 314 (.agg #[.int .i64 1,.int .i64 4,.int .i64 32,.int .i64 256]) (.int .i64 1)).run Tryz.prog w = .ok (.int .i64 4) w:=fun _ => by kernel_rfl
 have i2:∀ w,(Instr.index 314 (.agg #[.int .i64 1,.int .i64 4,.int .i64 32,.int .i64 256]) (.int .i64 2)).run Tryz.prog w = .ok (.int .i64 32) w:=fun _ => by kernel_rfl
 have i3:∀ w,(Instr.index 314 (.agg #[.int .i64 1,.int .i64 4,.int .i64 32,.int .i64 256]) (.int .i64 3)).run Tryz.prog w = .ok (.int .i64 256) w:=fun _ => by kernel_rfl
 have HR:=Lib.hid (rightT_any lv w)
 rcases level_cases lv with h | rfl | rfl | h
 ·have HZ:Hid (depthN lv = 1):=if_pos h
  have hr:rightN lv = 0:=if_pos h
  rw [hr] at HR
  clear hr
  go_enter Tryz.func200,Tryz.ntmps200
  go_wp2_with (go_at_call 201;refine HR.out.mono ?_;rintro e w' ⟨rfl,rfl⟩)
  go_ret
  exact ⟨by rw [HZ.out];rfl,rfl⟩
 ·have hr:rightN 1 = 1:=rfl
  rw [hr] at HR
  go_enter Tryz.func200,Tryz.ntmps200
  go_wp2_with (go_at_call 201;refine HR.out.mono ?_;rintro e w' ⟨rfl,rfl⟩)
  go_ret
  exact ⟨rfl,rfl⟩
 ·have hr:rightN 2 = 2:=rfl
  rw [hr] at HR
  go_enter Tryz.func200,Tryz.ntmps200
  go_wp2_with (go_at_call 201;refine HR.out.mono ?_;rintro e w' ⟨rfl,rfl⟩)
  go_ret
  exact ⟨rfl,rfl⟩
 ·have HZ:Hid (depthN lv = 256):=by show _ = _;unfold depthN;rw [if_neg (by omega),if_neg (by omega),if_neg (by omega)]
  have hr:rightN lv = 3:=by unfold rightN;rw [if_neg (by omega),if_neg (by omega),if_neg (by omega)]
  rw [hr] at HR
  clear hr h
  go_enter Tryz.func200,Tryz.ntmps200
  go_wp2_with (go_at_call 201;refine HR.out.mono ?_;rintro e w' ⟨rfl,rfl⟩)
  go_ret
  exact ⟨by rw [HZ.out];rfl,rfl⟩
theorem depthN_bd (lv:Int):1 ≤ depthN lv∧depthN lv ≤ 256:=by
 rcases level_cases lv with h | rfl | rfl | h
 ·rw [show depthN lv = 1 from if_pos h];omega
 ·decide
 ·decide
 ·rw [show depthN lv = 256 by unfold depthN;rw [if_neg (by omega),if_neg (by omega),if_neg (by omega)]];omega
def tkC (t:Tk):List Value:=[.int .u8 (t.1.toNat:Int),.int .i64 (t.2.1:Int),.int .i64 (t.2.2:Int)]
def tkV (t:Tk):Value:=.agg #[.int .u8 (t.1.toNat:Int),.int .i64 (t.2.1:Int),.int .i64 (t.2.2:Int)]
set_option maxHeartbeats 400000 in
theorem size_any (t:Tk) (w:World):Calls Tryz.prog 162 #[tkV t] w fun e w' => e = .returned (.int .i64 (tsz t:Nat))∧Below w.heap.size w w':=by
 obtain ⟨b,n,d⟩:=t
 have HT:Hid (tsz (b,n,d) = if n < 1 then 1 else n):=by show _ = _;unfold tsz;simp only;split <;> omega
 unfold tkV
 dsimp only
 by_cases h:n < 1
 ·have HZ:Hid (tsz (b,n,d) = 1):=by show _ = _;rw [HT.out,if_pos h]
  have hm:(if (n:Int) < 1 then (1:Int) else (n:Int)) = 1:=if_pos (by omega)
  have hm2:(if n < 1 then (1:Int) else (n:Int)) = 1:=if_pos h
  have hm3:(if (1:Int) < (n:Int) then (n:Int) else 1) = 1:=if_neg (by omega)
  have hm4:(if 1 < n then (n:Int) else 1) = 1:=if_neg (by omega)
  clear h
  go_enter Tryz.func162,Tryz.ntmps162
  go_wp2
  go_ret
  exact ⟨by rw [HZ.out];rfl,(Below.refl _ w).alloc (Nat.le_refl _) _⟩
 ·have HZ:Hid (tsz (b,n,d) = n):=by show _ = _;rw [HT.out,if_neg h]
  have hm:(if (n:Int) < 1 then (1:Int) else (n:Int)) = n:=if_neg (by omega)
  have hm2:(if n < 1 then (1:Int) else (n:Int)) = n:=if_neg h
  have hm3:(if (1:Int) < (n:Int) then (n:Int) else 1) = n:=by split <;> omega
  have hm4:(if 1 < n then (n:Int) else 1) = n:=by split <;> omega
  clear h
  go_enter Tryz.func162,Tryz.ntmps162
  go_wp2
  go_ret
  exact ⟨by rw [HZ.out];rfl,(Below.refl _ w).alloc (Nat.le_refl _) _⟩
set_option maxHeartbeats 1000000 in
theorem longer_any (g g0:Nat) (A:Option Addr) (l c:Nat) (bs:List UInt8) (a lv:Int) (k:Nat) (w:World) (hl:bs.length = l) (hm:l ≤ 32000) (hb:Bytes w w.heap.size A bs) (hf:LF w g g0 A l c bs) :
  Calls Tryz.prog 202 #[.pointer (some ⟨g,0,none⟩),.int .i64 a,.int .i64 lv,.int .i64 (k:Int)] w fun e w' => e = .returned (.bool (decide (k < (bestM bs a (depthN lv)).1)))∧Below w.heap.size w w':=by
 have HD:=Lib.hid (depth_any lv w)
 have hdb:=depthN_bd lv
 have HF:=Lib.hid (find_any g g0 A l c bs a (depthN lv) w hl hm hb hf (by omega) (by omega))
 obtain ⟨n,hn⟩:∃ n,(bestM bs a (depthN lv)).1 = n:=⟨_,rfl⟩
 obtain ⟨d,hd⟩:∃ d,(bestM bs a (depthN lv)).2 = d:=⟨_,rfl⟩
 rw [hn,hd] at HF
 rw [hn]
 clear hn hd hb hf hdb
 go_enter Tryz.func202,Tryz.ntmps202
 go_wp2_with (first
  | (go_at_call 200;refine HD.out.mono ?_;rintro e w' ⟨rfl,rfl⟩)
  | (go_at_call 199;refine HF.out.mono ?_;rintro e w5 ⟨rfl,hb5⟩;have HB5:=Lib.hid hb5;clear hb5))
 go_ret
 exact ⟨by simp,HB5.out⟩
set_option maxHeartbeats 1000000 in
theorem token_any (g g0:Nat) (A:Option Addr) (l c:Nat) (bs:List UInt8) (p:Nat) (lv:Int) (w:World) (hl:bs.length = l) (hm:l ≤ 32000) (hp:p < l) (hb:Bytes w w.heap.size A bs) (hf:LF w g g0 A l c bs) :
  Calls Tryz.prog 161 #[.pointer (some ⟨g,0,none⟩),.slice A l c,.int .i64 (p:Int),.int .i64 lv] w fun e w' => e = .returned (tkV (tokAt bs lv p))∧Below w.heap.size w w':=by
 obtain ⟨W1,hW1⟩:∃ W1,w.alloc (.cells #[.int .u8 0,.int .i64 0,.int .i64 0] 164) = W1:=⟨_,rfl⟩
 have HZ1:Hid (W1.heap.size = w.heap.size + 1):=by show _ = _;rw [← hW1];simp
 have HB1:Hid (Below w.heap.size w W1):=by show Below _ _ _;rw [← hW1];exact (Below.refl _ w).alloc (Nat.le_refl _) _
 have HX1:Hid (W1.heap[w.heap.size]? = some (.cells #[.int .u8 0,.int .i64 0,.int .i64 0] 164)):=by show _ = _;rw [← hW1];exact heap_alloc_new w _
 have hg:=(Array.getElem?_eq_some_iff.1 hf.1).1
 have hg0:=(Array.getElem?_eq_some_iff.1 hf.2).1
 have HD:=Lib.hid (fun W => depth_any lv W)
 have HR:=Lib.hid (fun W => rightT_any lv W)
 have hdb:=depthN_bd lv
 have HF:=Lib.hid (fun (W:World) (h:Below w.heap.size w W) => find_any g g0 A l c bs (p:Int) (depthN lv) W hl hm ((hb.below h (Nat.le_refl _)).more h.size) (hf.below h hg hg0) (by omega) (by omega))
 have HLO:=Lib.hid (fun (W:World) (h:Below w.heap.size w W) (k:Nat) => longer_any g g0 A l c bs ((p + 1:Nat):Int) lv k W hl hm ((hb.below h (Nat.le_refl _)).more h.size) (hf.below h hg hg0))
 obtain ⟨n,hn⟩:∃ n,(bestM bs (p:Int) (depthN lv)).1 = n:=⟨_,rfl⟩
 obtain ⟨d,hd⟩:∃ d,(bestM bs (p:Int) (depthN lv)).2 = d:=⟨_,rfl⟩
 obtain ⟨m,hmm⟩:∃ m,(bestM bs ((p + 1:Nat):Int) (depthN lv)).1 = m:=⟨_,rfl⟩
 have HT:Hid (tokAt bs lv p = if n = 0 ∨ (1 < lv∧n < 258∧n < m) then (bs.getD p 0,0,0) else (0,n,d)):=by show _ = _;rw [tokAt,hn,hd,hmm]
 rw [hn,hd] at HF
 rw [hmm] at HLO
 have HRL:Hid (rightN lv ≥ 2 ↔ 1 < lv):=by
  show _ ↔ _
  rcases level_cases lv with h | rfl | rfl | h
  ·rw [show rightN lv = 0 from if_pos h];omega
  ·decide
  ·decide
  ·rw [show rightN lv = 3 by unfold rightN;rw [if_neg (by omega),if_neg (by omega),if_neg (by omega)]];omega
 obtain ⟨b,o,rfl,hbB,hc⟩:=hb (by rw [byteCells_length];omega)
 obtain ⟨x,hx⟩:∃ x,bs[p]? = some x:=⟨_,List.getElem?_eq_getElem (by omega)⟩
 have HCX:Hid (∀ W,Below w.heap.size w W→W.cell? ⟨b,o + p,none⟩ = some (.int .u8 (x.toNat:Int))):=fun W h => (h.cell (p:=⟨b,o + p,none⟩) hbB).trans (hc _ _ (byteCells_get hx))
 have hgx:bs.getD p 0 = x:=by rw [List.getD,hx];rfl
 rw [hgx] at HT
 obtain ⟨r,hr⟩:∃ r,rightN lv = r:=⟨_,rfl⟩
 rw [hr] at HR HRL
 clear hn hd hmm hc hx hgx hf hg hg0 hdb hr
 have HXW:Hid (∀ W,Below W1.heap.size W1 W→W.heap[w.heap.size]? = some (.cells #[.int .u8 0,.int .i64 0,.int .i64 0] 164)):=fun W h => (h.block _ (by have:=HZ1.out;omega)).trans HX1.out
 by_cases hz:n = 0
 ·subst hz
  have HT2:Hid (tokAt bs lv p = (x,0,0)):=by show _ = _;rw [HT.out,if_pos (.inl rfl)]
  go_enter Tryz.func161,Tryz.ntmps161
  go_wp2_with (first
   | (go_at_call 200;refine (HD.out _).mono ?_;rintro e w' ⟨rfl,rfl⟩)
   | (go_at_call 199;refine (HF.out _ HB1.out).mono ?_;rintro e w5 ⟨rfl,hb5⟩;have HB5:=Lib.hid hb5;have hx5:=HXW.out w5 hb5;have y0:=HCX.out w5 (HB1.out.trans (hb5.mono (by have:=HZ1.out;omega)));have z0:=cell_of_row w5 w.heap.size 0 _ _ _ hx5;have z1:=cell_of_row w5 w.heap.size 1 _ _ _ hx5;have z2:=cell_of_row w5 w.heap.size 2 _ _ _ hx5;have f0:=frozen_of_row w5 w.heap.size 0 _ _ hx5;have f1:=frozen_of_row w5 w.heap.size 1 _ _ hx5;have f2:=frozen_of_row w5 w.heap.size 2 _ _ hx5;clear hb5 hx5))
  refine bodyPost_ret (v:=tkV (x,0,0)) (by simp [results,Tryz.f161,go_sem,z0,z1,z2,tkV]) rfl ⟨by rw [HT2.out],?_⟩
  exact (((HB1.out.trans (HB5.out.mono (by have:=HZ1.out;omega))).setCell (p:=⟨w.heap.size,0,none⟩) (Nat.le_refl _) _).setCell (p:=⟨w.heap.size,1,none⟩) (Nat.le_refl _) _).setCell (p:=⟨w.heap.size,2,none⟩) (Nat.le_refl _) _
 ·have tz:((n:Int) == 0) = false:=by simp;omega
  have tz':(n == 0) = false:=by simp;omega
  by_cases hr:1 < lv
  ·have tr:decide ((2:Int) ≤ r) = true:=decide_eq_true (HRL.out.2 hr)
   by_cases h258:n < 258
   ·have t2:decide ((n:Int) < 258) = true:=decide_eq_true (by omega)
    by_cases hnm:n < m
    ·have t3:decide (n < m) = true:=decide_eq_true hnm
     have HT2:Hid (tokAt bs lv p = (x,0,0)):=by show _ = _;rw [HT.out,if_pos (.inr ⟨hr,h258,hnm⟩)]
     have HLO:=Lib.hid (fun (W:World) (h:Below w.heap.size w W) => HLO.out W h n)
     rw [t3] at HLO
     clear t3 hnm hr hz
     go_enter Tryz.func161,Tryz.ntmps161
     go_wp2_with (first
      | (go_at_call 200;refine (HD.out _).mono ?_;rintro e w' ⟨rfl,rfl⟩)
      | (go_at_call 199;refine (HF.out _ HB1.out).mono ?_;rintro e w5 ⟨rfl,hb5⟩;have HB5:=Lib.hid hb5;have hx5:=HXW.out w5 hb5;have y0:=HCX.out w5 (HB1.out.trans (hb5.mono (by have:=HZ1.out;omega)));have z0:=cell_of_row w5 w.heap.size 0 _ _ _ hx5;have z1:=cell_of_row w5 w.heap.size 1 _ _ _ hx5;have z2:=cell_of_row w5 w.heap.size 2 _ _ _ hx5;have f0:=frozen_of_row w5 w.heap.size 0 _ _ hx5;have f1:=frozen_of_row w5 w.heap.size 1 _ _ hx5;have f2:=frozen_of_row w5 w.heap.size 2 _ _ hx5;clear hb5 hx5)
      | (go_at_call 201;refine (HR.out _).mono ?_;rintro e w' ⟨rfl,rfl⟩)
      | (go_at_call 202;refine (HLO.out _ (HB1.out.trans (HB5.out.mono (by have:=HZ1.out;omega)))).mono ?_;rintro e w6 ⟨rfl,hb6⟩;have HB6:=Lib.hid hb6;have hx6:=HXW.out w6 (HB5.out.trans (hb6.mono HB5.out.size));have y6:=HCX.out w6 ((HB1.out.trans (HB5.out.mono (by have:=HZ1.out;omega))).trans (hb6.mono (HB1.out.trans (HB5.out.mono (by have:=HZ1.out;omega))).size));have u0:=cell_of_row w6 w.heap.size 0 _ _ _ hx6;have u1:=cell_of_row w6 w.heap.size 1 _ _ _ hx6;have u2:=cell_of_row w6 w.heap.size 2 _ _ _ hx6;have v0:=frozen_of_row w6 w.heap.size 0 _ _ hx6;have v1:=frozen_of_row w6 w.heap.size 1 _ _ hx6;have v2:=frozen_of_row w6 w.heap.size 2 _ _ hx6;clear hb6 hx6))
     refine bodyPost_ret (v:=tkV (x,0,0)) (by simp [results,Tryz.f161,go_sem,u0,u1,u2,tkV]) rfl ⟨by rw [HT2.out],?_⟩
     exact ((((HB1.out.trans (HB5.out.mono (by have:=HZ1.out;omega))).trans (HB6.out.mono (HB1.out.trans (HB5.out.mono (by have:=HZ1.out;omega))).size)).setCell (p:=⟨w.heap.size,0,none⟩) (Nat.le_refl _) _).setCell (p:=⟨w.heap.size,1,none⟩) (Nat.le_refl _) _).setCell (p:=⟨w.heap.size,2,none⟩) (Nat.le_refl _) _
    ·have t3:decide (n < m) = false:=decide_eq_false hnm
     have HT2:Hid (tokAt bs lv p = (0,n,d)):=by show _ = _;rw [HT.out,if_neg (by omega)]
     have HLO:=Lib.hid (fun (W:World) (h:Below w.heap.size w W) => HLO.out W h n)
     rw [t3] at HLO
     clear t3 hnm hr hz
     go_enter Tryz.func161,Tryz.ntmps161
     go_wp2_with (first
      | (go_at_call 200;refine (HD.out _).mono ?_;rintro e w' ⟨rfl,rfl⟩)
      | (go_at_call 199;refine (HF.out _ HB1.out).mono ?_;rintro e w5 ⟨rfl,hb5⟩;have HB5:=Lib.hid hb5;have hx5:=HXW.out w5 hb5;have y0:=HCX.out w5 (HB1.out.trans (hb5.mono (by have:=HZ1.out;omega)));have z0:=cell_of_row w5 w.heap.size 0 _ _ _ hx5;have z1:=cell_of_row w5 w.heap.size 1 _ _ _ hx5;have z2:=cell_of_row w5 w.heap.size 2 _ _ _ hx5;have f0:=frozen_of_row w5 w.heap.size 0 _ _ hx5;have f1:=frozen_of_row w5 w.heap.size 1 _ _ hx5;have f2:=frozen_of_row w5 w.heap.size 2 _ _ hx5;clear hb5 hx5)
      | (go_at_call 201;refine (HR.out _).mono ?_;rintro e w' ⟨rfl,rfl⟩)
      | (go_at_call 202;refine (HLO.out _ (HB1.out.trans (HB5.out.mono (by have:=HZ1.out;omega)))).mono ?_;rintro e w6 ⟨rfl,hb6⟩;have HB6:=Lib.hid hb6;have hx6:=HXW.out w6 (HB5.out.trans (hb6.mono HB5.out.size));have y6:=HCX.out w6 ((HB1.out.trans (HB5.out.mono (by have:=HZ1.out;omega))).trans (hb6.mono (HB1.out.trans (HB5.out.mono (by have:=HZ1.out;omega))).size));have u0:=cell_of_row w6 w.heap.size 0 _ _ _ hx6;have u1:=cell_of_row w6 w.heap.size 1 _ _ _ hx6;have u2:=cell_of_row w6 w.heap.size 2 _ _ _ hx6;have v0:=frozen_of_row w6 w.heap.size 0 _ _ hx6;have v1:=frozen_of_row w6 w.heap.size 1 _ _ hx6;have v2:=frozen_of_row w6 w.heap.size 2 _ _ hx6;clear hb6 hx6))
     refine bodyPost_ret (v:=tkV (0,n,d)) (by simp [results,Tryz.f161,go_sem,u0,u1,u2,tkV]) rfl ⟨by rw [HT2.out],?_⟩
     exact ((((HB1.out.trans (HB5.out.mono (by have:=HZ1.out;omega))).trans (HB6.out.mono (HB1.out.trans (HB5.out.mono (by have:=HZ1.out;omega))).size)).setCell (p:=⟨w.heap.size,0,none⟩) (Nat.le_refl _) _).setCell (p:=⟨w.heap.size,1,none⟩) (Nat.le_refl _) _).setCell (p:=⟨w.heap.size,2,none⟩) (Nat.le_refl _) _
   ·have t2:decide ((n:Int) < 258) = false:=decide_eq_false (by omega)
    have HT2:Hid (tokAt bs lv p = (0,n,d)):=by show _ = _;rw [HT.out,if_neg (by omega)]
    clear hr hz
    go_enter Tryz.func161,Tryz.ntmps161
    go_wp2_with (first
     | (go_at_call 200;refine (HD.out _).mono ?_;rintro e w' ⟨rfl,rfl⟩)
     | (go_at_call 199;refine (HF.out _ HB1.out).mono ?_;rintro e w5 ⟨rfl,hb5⟩;have HB5:=Lib.hid hb5;have hx5:=HXW.out w5 hb5;have y0:=HCX.out w5 (HB1.out.trans (hb5.mono (by have:=HZ1.out;omega)));have z0:=cell_of_row w5 w.heap.size 0 _ _ _ hx5;have z1:=cell_of_row w5 w.heap.size 1 _ _ _ hx5;have z2:=cell_of_row w5 w.heap.size 2 _ _ _ hx5;have f0:=frozen_of_row w5 w.heap.size 0 _ _ hx5;have f1:=frozen_of_row w5 w.heap.size 1 _ _ hx5;have f2:=frozen_of_row w5 w.heap.size 2 _ _ hx5;clear hb5 hx5)
     | (go_at_call 201;refine (HR.out _).mono ?_;rintro e w' ⟨rfl,rfl⟩))
    refine bodyPost_ret (v:=tkV (0,n,d)) (by simp [results,Tryz.f161,go_sem,z0,z1,z2,tkV]) rfl ⟨by rw [HT2.out],?_⟩
    exact (((HB1.out.trans (HB5.out.mono (by have:=HZ1.out;omega))).setCell (p:=⟨w.heap.size,0,none⟩) (Nat.le_refl _) _).setCell (p:=⟨w.heap.size,1,none⟩) (Nat.le_refl _) _).setCell (p:=⟨w.heap.size,2,none⟩) (Nat.le_refl _) _
  ·have tr:decide ((2:Int) ≤ r) = false:=decide_eq_false (fun h => hr (HRL.out.1 h))
   have HT2:Hid (tokAt bs lv p = (0,n,d)):=by show _ = _;rw [HT.out,if_neg (by omega)]
   clear hr hz
   go_enter Tryz.func161,Tryz.ntmps161
   go_wp2_with (first
    | (go_at_call 200;refine (HD.out _).mono ?_;rintro e w' ⟨rfl,rfl⟩)
    | (go_at_call 199;refine (HF.out _ HB1.out).mono ?_;rintro e w5 ⟨rfl,hb5⟩;have HB5:=Lib.hid hb5;have hx5:=HXW.out w5 hb5;have y0:=HCX.out w5 (HB1.out.trans (hb5.mono (by have:=HZ1.out;omega)));have z0:=cell_of_row w5 w.heap.size 0 _ _ _ hx5;have z1:=cell_of_row w5 w.heap.size 1 _ _ _ hx5;have z2:=cell_of_row w5 w.heap.size 2 _ _ _ hx5;have f0:=frozen_of_row w5 w.heap.size 0 _ _ hx5;have f1:=frozen_of_row w5 w.heap.size 1 _ _ hx5;have f2:=frozen_of_row w5 w.heap.size 2 _ _ hx5;clear hb5 hx5)
    | (go_at_call 201;refine (HR.out _).mono ?_;rintro e w' ⟨rfl,rfl⟩))
   refine bodyPost_ret (v:=tkV (0,n,d)) (by simp [results,Tryz.f161,go_sem,z0,z1,z2,tkV]) rfl ⟨by rw [HT2.out],?_⟩
   exact (((HB1.out.trans (HB5.out.mono (by have:=HZ1.out;omega))).setCell (p:=⟨w.heap.size,0,none⟩) (Nat.le_refl _) _).setCell (p:=⟨w.heap.size,1,none⟩) (Nat.le_refl _) _).setCell (p:=⟨w.heap.size,2,none⟩) (Nat.le_refl _) _
end Go.Proofs.YtaknladkodibaaaGreatDoor
namespace Go.Proofs.YtaknladkodibaaaGreatDoor
open Go.RowKit Go.Shelf
attribute [local go_sem] Oper.semAt_some
set_option maxHeartbeats 400000 in
theorem each_any (A:Option Addr) (l c:Nat) (lv:Int) (w:World) :
  Calls Tryz.prog 113 #[.slice A l c,.int .i64 lv] w fun e w' => e = .returned (.func (.func 159) #[] #[.pointer (some ⟨w.heap.size,0,none⟩),.pointer (some ⟨w.heap.size + 1,0,none⟩)]) ∧
   (w.alloc (.cells #[.slice A l c] 25)).alloc (.cells #[.int .i64 lv] 3) = w':=by
 go_enter Tryz.func113,Tryz.ntmps113
 go_wp2
 go_ret
 exact ⟨rfl,rfl⟩
set_option maxRecDepth 100000 in
set_option maxHeartbeats 2000000 in
theorem each_seq (n B b1 b2:Nat) (A:Option Addr) (l c:Nat) (bs:List UInt8) (lv:Int) (w0:World) (hl:bs.length = l) (hm:l ≤ 32000) (hcap:l ≤ c) (hb:Bytes w0 n A bs) (hn:n ≤ w0.heap.size) (hB:B < w0.heap.size) (hB1:b1 ≠ B) (hB2:b2 ≠ B) (hown:ownOf B w0 = none)
  (h1:w0.heap[b1]? = some (.cells #[.slice A l c] 25)) (h2:w0.heap[b2]? = some (.cells #[.int .i64 lv] 3)) :
  SeqStopsK Fence.wide 5 Tryz.prog 159 #[.pointer (some ⟨b1,0,none⟩),.pointer (some ⟨b2,0,none⟩)] (fun t:Tk => #[tkV t]) (KpB n B) (fun xs => xs = toks bs lv 0) (fun pre => pre <+: toks bs lv 0) 32001 w0:=by
 intro gy J Jx W hbl hJ hJx hY h0
 have HL:=Lib.hid hl
 have h1W:=(hbl.block b1 (Array.getElem?_eq_some_iff.1 h1).1).trans h1
 have h2W:=(hbl.block b2 (Array.getElem?_eq_some_iff.1 h2).1).trans h2
 have hbW:=hb.below (hbl.mono hn) (Nat.le_refl _)
 have hoW:ownOf B W = none:=(ownOf_block (hbl.block B hB)).trans hown
 have hBW:B < W.heap.size:=Nat.lt_of_lt_of_le hB hbl.size
 have c1:W.cell? ⟨b1,0,none⟩ = some (.slice A l c):=cell_of_row W b1 0 _ _ _ h1W
 have hnW:n ≤ W.heap.size:=Nat.le_trans hn hbl.size
 have HNE:=Lib.hid (newM_any A l c bs n W hl hm hcap hbW hnW)
 have HY:=Lib.hid hY
 have H1:=Lib.hid h1W
 have H2:=Lib.hid h2W
 have HBY:=Lib.hid hbW
 have HOW:=Lib.hid hoW
 have HSB:Hid (b1 < W.heap.size∧b2 < W.heap.size):=⟨(Array.getElem?_eq_some_iff.1 h1W).1,(Array.getElem?_eq_some_iff.1 h2W).1⟩
 clear h1 h2 hb hown hl hY h1W h2W hbW hoW hbl hn hB
 refine callsIn_of_wp Tryz.func159 rfl trivial ?_ rfl
 simp only [Tryz.ntmps159,List.size_toArray,List.length_cons,List.length_nil,Nat.reduceAdd,Nat.reduceSub,Array.replicate_succ,Array.replicate_zero,List.push_toArray,List.append_toArray,List.nil_append,List.cons_append]
 gi_wp2_with (refine ⟨trivial,?_⟩;gi_at_call 160;refine (callsIn_wide.2 HNE.out).mono ?_;rintro e w2 ⟨rfl,hf,hb2⟩;have HF:=Lib.hid hf;have HB2:=Lib.hid hb2;clear hf hb2)
 have HGS:Hid (W.heap.size + 1 < w2.heap.size):=(Array.getElem?_eq_some_iff.1 HF.out.1).1
 gi_loopw [5] (fun i wr => ∃ (p:Nat) (pre:List Tk),i = .int .i64 (p:Int)∧toks bs lv 0 = pre++toks bs lv p∧p ≤ l + 258∧wr.heap[b1]? = some (.cells #[.slice A l c] 25)∧wr.heap[b2]? = some (.cells #[.int .i64 lv] 3) ∧
  LF wr (W.heap.size + 1) W.heap.size A l c bs∧Bytes wr n A bs∧W.heap.size + 2 ≤ wr.heap.size∧(∀ k,ownOf B wr = some k→W.heap.size + 2 ≤ k∧k < wr.heap.size)∧J pre wr) (fun i _ => l + 259 - (intOf i).toNat)
 case atStart =>
  have hgs:=HGS.out
  have hb2:=HB2.out
  exact ⟨0,[],rfl,rfl,by omega,(hb2.block _ HSB.out.1).trans H1.out,(hb2.block _ HSB.out.2).trans H2.out,HF.out,HBY.out.below (hb2.mono hnW) (Nat.le_refl _),by omega,
   (fun k hk => by rw [ownOf_block (hb2.block B hBW),HOW.out] at hk;cases hk),abidesBelow hJ h0 hb2⟩
 case round =>
  obtain ⟨p,pre,rfl,htk,hpl,g1,g2,hf,hby,hsz,hown,hJs⟩:=hrel
  have d1:wr.cell? ⟨b1,0,none⟩ = some (.slice A l c):=cell_of_row wr b1 0 _ _ _ g1
  have d2:wr.cell? ⟨b2,0,none⟩ = some (.int .i64 lv):=cell_of_row wr b2 0 _ _ _ g2
  have HT:=Lib.hid htk
  clear htk c1
  by_cases hp:p < l
  ·obtain ⟨t,ht⟩:∃ t,tokAt bs lv p = t:=⟨_,rfl⟩
   have HTS:=Lib.hid (toks_step (bs:=bs) (lv:=lv) (p:=p) (by rw [HL.out];exact hp))
   have hTL:=tokAt_le bs lv p
   have HTK:=Lib.hid (token_any (W.heap.size + 1) W.heap.size A l c bs p lv wr HL.out hm hp (hby.more (by omega)) hf)
   rw [ht] at HTS HTK hTL
   clear ht
   obtain ⟨tb,tn,td⟩:=t
   simp only [tkV] at HTK
   have hts:tsz (tb,tn,td) ≤ 258:=by unfold tsz;simp only at hTL ⊢;omega
   have hts1:=tsz_pos (tb,tn,td)
   have G1:=Lib.hid g1
   have G2:=Lib.hid g2
   have GF:=Lib.hid hf
   have GB:=Lib.hid hby
   have GO:=Lib.hid hown
   clear g1 g2 hf hby hown
   gi_wp2_with (refine ⟨trivial,?_⟩;gi_at_call 161;refine (callsIn_wide.2 HTK.out).mono ?_;rintro e w5 ⟨rfl,hb5⟩;have HB5:=Lib.hid hb5;clear hb5)
   obtain ⟨W6,hW6⟩:∃ W6,w5.alloc (.cells #[.int .u8 (tb.toNat:Int),.int .i64 (tn:Int),.int .i64 (td:Int)] 164) = W6:=⟨_,rfl⟩
   have HB6:Hid (Below wr.heap.size wr W6):=by show Below _ _ _;rw [← hW6];exact HB5.out.alloc HB5.out.size _
   have HZ6:Hid (W6.heap.size = w5.heap.size + 1):=by show _ = _;rw [← hW6];simp
   have HX6:Hid (W6.heap[w5.heap.size]? = some (.cells #[.int .u8 (tb.toNat:Int),.int .i64 (tn:Int),.int .i64 (td:Int)] 164)):=by show _ = _;rw [← hW6];exact heap_alloc_new w5 _
   have hJ6:J pre W6:=abidesBelow hJ hJs HB6.out
   have HPX:Hid (pre++[(tb,tn,td)] <+: toks bs lv 0):=by
    show _ <+: _
    rw [HT.out,HTS.out]
    exact ⟨toks bs lv (p + tsz (tb,tn,td)),by simp⟩
   have hlen:pre.length < 32001:=by
    have h:=toks_len bs lv 0
    have:=HL.out
    rw [HT.out,List.length_append] at h
    omega
   obtain ⟨fn,tmps,assign,body,hy,hR⟩:=HY.out pre (tb,tn,td) W6 hJ6 hlen
   simp only [tkV] at hy
   have HR:=Lib.hid hR
   have hbr:B < wr.heap.size:=by omega
   have HOB:Hid (ownOf B W6 = ownOf B wr):=ownOf_block (HB6.out.block B hbr)
   clear hR hJ6
   rw [hW6,hy]
   clear hW6
   first | gi_upon | gi_wp2
   refine HR.out.mono ?_
   rintro ee W3 (⟨rfl,hJ3,hk3⟩ | ⟨rfl,hJx3⟩)
   ·have hno:∀ k,k < W.heap.size + 2 ∨ wr.heap.size ≤ k→ownOf B W6 ≠ some k:=fun k hk e => by
     rw [HOB.out] at e
     have:=GO.out k e
     omega
    have hsb:=HSB.out
    have m1:=hk3.cells b1 _ ((HB6.out.block _ (by omega)).trans G1.out) rfl hB1 (hno _ (by omega))
    have m2:=hk3.cells b2 _ ((HB6.out.block _ (by omega)).trans G2.out) rfl hB2 (hno _ (by omega))
    have m3:=hk3.cells (W.heap.size + 1) _ ((HB6.out.block _ (by omega)).trans GF.out.1) rfl (by omega) (hno _ (by omega))
    have m4:=hk3.cells W.heap.size _ ((HB6.out.block _ (by omega)).trans GF.out.2) rfl (by omega) (hno _ (by omega))
    have hx5:=HB5.out.size
    have m5:=hk3.cells w5.heap.size _ HX6.out rfl (by omega) (hno _ (by omega))
    have MB:=Lib.hid ((GB.out.below (HB6.out.mono (by omega)) (Nat.le_refl _)).below hk3.low (Nat.le_refl _))
    have MO:Hid (∀ k,ownOf B W3 = some k→W.heap.size + 2 ≤ k∧k < W3.heap.size):=fun k hk => by
     have hz6:=HZ6.out
     have hs3:=hk3.size
     obtain ⟨o1,o2⟩:=hk3.own k hk
     rw [HOB.out] at o1 o2
     rcases o1 with o1 | o1
     ·have:=GO.out k o1;omega
     ·rcases o2 with o2 | o2
      ·have:=GO.out k o2;omega
      ·omega
    have MZ:Hid (W.heap.size + 2 ≤ W3.heap.size∧B < W3.heap.size∧b1 < W3.heap.size∧b2 < W3.heap.size):=by
     have hz6:=HZ6.out
     have hs3:=hk3.size
     show _∧_∧_∧_
     omega
    have k0':W3.cell? ⟨w5.heap.size,0,none⟩ = some (.int .u8 (tb.toNat:Int)):=cell_of_row W3 _ 0 _ _ _ m5
    have k1':W3.cell? ⟨w5.heap.size,1,none⟩ = some (.int .i64 (tn:Int)):=cell_of_row W3 _ 1 _ _ _ m5
    have k2':W3.cell? ⟨w5.heap.size,2,none⟩ = some (.int .i64 (td:Int)):=cell_of_row W3 _ 2 _ _ _ m5
    have HSI:=Lib.hid (size_any (tb,tn,td) W3)
    simp only [tkV] at HSI
    obtain ⟨sz,hsz⟩:∃ sz,tsz (tb,tn,td) = sz:=⟨_,rfl⟩
    rw [hsz] at HSI HTS
    rw [hsz] at hts hts1
    have M1:=Lib.hid m1
    have M2:=Lib.hid m2
    have M3:=Lib.hid m3
    have M4:=Lib.hid m4
    have HJ3:=Lib.hid hJ3
    clear m1 m2 m3 m4 m5 hJ3 hk3 hno hsz
    gi_wp2_with (refine ⟨trivial,?_⟩;gi_at_call 162;refine (callsIn_wide.2 HSI.out).mono ?_;rintro e w7 ⟨rfl,hb7⟩;have HB7:=Lib.hid hb7;clear hb7)
    have hmz:=MZ.out
    have hb7:=HB7.out
    refine ⟨⟨p + sz,pre++[(tb,tn,td)],by go_num,by rw [HT.out,HTS.out];simp,by omega,(hb7.block _ hmz.2.2.1).trans M1.out,(hb7.block _ hmz.2.2.2).trans M2.out,
     ⟨(hb7.block _ (by omega)).trans M3.out,(hb7.block _ (by omega)).trans M4.out⟩,MB.out.below (hb7.mono (by omega)) (Nat.le_refl _),by have:=hb7.size;omega,(fun k hk => by rw [ownOf_block (hb7.block B hmz.2.1)] at hk;have:=MO.out k hk;have:=hb7.size;omega),abidesBelow hJ HJ3.out hb7⟩,?_⟩
    simp [intOf]
    omega
   ·gi_wp2
    refine bodyPost_ret (results_none rfl _ _ _) rfl ?_
    exact ⟨⟨_,rfl⟩,.inr ⟨pre++[(tb,tn,td)],HPX.out,hJx3⟩⟩
  ·have HE:=Lib.hid (toks_end (bs:=bs) (lv:=lv) (p:=p) (by rw [HL.out];omega))
   have t0:decide ((p:Int) < (l:Int)) = false:=decide_eq_false (by omega)
   clear g1 g2 hf hby hown
   gi_wp2
   go_end0
   exact ⟨⟨_,rfl⟩,.inl ⟨pre,by rw [HT.out,HE.out,List.append_nil],hJs⟩⟩
theorem tokElem:Elem Tryz.prog 117 164 (.agg #[.int .u8 0,.int .i64 0,.int .i64 0]) 3 24:=Elem.of Tryz.underlying117 (by kernel_rfl) (by kernel_rfl) (by omega)
theorem tkC_one (t:Tk):∀ u ∈ tkC t,u.oneCell' = true:=fun u hu => by
 unfold tkC at hu
 simp only [List.mem_cons,List.not_mem_nil,or_false] at hu
 rcases hu with rfl | rfl | rfl <;> rfl
theorem tkC_cells (W:World) (t:Tk):Cells (W.alloc (.cells #[.int .u8 (t.1.toNat:Int),.int .i64 (t.2.1:Int),.int .i64 (t.2.2:Int)] 164)) (W.heap.size + 1) (some ⟨W.heap.size,0,none⟩) (tkC t):=fun _ =>
 ⟨W.heap.size,0,rfl,by omega,fun j u hu => by
  rw [Nat.zero_add,cell_of_row _ W.heap.size j _ _ _ (heap_alloc_new W _),← Array.getElem?_toList]
  exact hu⟩
theorem kpbT_append {W w1:World} {n B:Nat} {v v':Value} {k m:Nat} {xs ys:List Value} {tmp:Obj} (hv:Boxed W B 117 v) (hrow:W.ownsRow n 164 3 v k xs) (hn:n ≤ W.heap.size) (hB:n ≤ B) (hap:App (W.alloc tmp) n 164 3 v m ys w1 v') :
  Boxed w1 B 117 v∧Boxed (w1.setCell ⟨B,0,none⟩ v') B 117 v'∧(w1.setCell ⟨B,0,none⟩ v').ownsRow n 164 3 v' m ys∧KeepsOthers W (w1.setCell ⟨B,0,none⟩ v')∧Below n W (w1.setCell ⟨B,0,none⟩ v')∧KpB n B W (w1.setCell ⟨B,0,none⟩ v'):=by
 obtain ⟨p1,p2,p3,p4,p5⟩:=hv.appended (by decide) hrow hn hB hap.own hap.grow
 have hs1:=hap.grow.size
 have hs2:W.heap.size + 1 ≤ w1.heap.size:=by simpa using hs1
 refine ⟨p1,p2,p3,p4,p5,p5,fun j o hj ho hjB hno => ?_,fun j hj => ?_,p4.size⟩
 ·have hlt:=(Array.getElem?_eq_some_iff.1 hj).1
  rw [ownOf_box hv] at hno
  exact (Below.heap_setCell w1 ⟨B,0,none⟩ v' j hjB).trans ((hap.grow.block j (by simp;omega) (fun e => hno e.symm)).trans ((Below.heap_alloc W tmp j hlt).trans hj))
 ·rw [ownOf_box p2] at hj
  rw [ownOf_box hv]
  rcases hap.loc with h | ⟨g,h,hg⟩
  ·rw [h] at hj;exact ⟨.inl hj,.inl hj⟩
  ·rw [h] at hj
   cases hj
   have hlt:=own_lt p3 j h
   refine ⟨.inr (by simp at hg;omega),.inr hlt⟩
set_option maxRecDepth 100000 in
set_option maxHeartbeats 4000000 in
theorem appendSeqT_any (gf:Nat) (lb:Array Value) (L:List Tk) (hlen:L.length ≤ 32001) (w:World) (eg:∀ args w,(callFunc gf args).run Tryz.prog w = .ok (.enter gf args) w)
  (hseq:∀ W:World,Below w.heap.size w W→w.heap.size < W.heap.size→ownOf w.heap.size W = none→SeqStopsK Fence.wide 5 Tryz.prog gf lb (fun t:Tk => #[tkV t]) (KpB w.heap.size w.heap.size) (fun xs => xs = L) (fun pre => pre <+: L) 32001 W) :
  Calls Tryz.prog 158 #[.slice none 0 0,.func (.func gf) #[] lb] w fun e w' => ∃ v,e = .returned v∧w'.ownsRow w.heap.size 164 3 v L.length (L.map tkC).flatten∧Below w.heap.size w w':=by
 refine (callsIn_wide (n:=6)).1 ?_
 refine callsIn_of_wp_marks Tryz.func158 rfl trivial ?_ rfl
 simp only [Tryz.ntmps158,List.size_toArray,List.length_cons,List.length_nil,Nat.reduceAdd,Nat.reduceSub,Array.replicate_succ,Array.replicate_zero,List.push_toArray,List.append_toArray,List.nil_append,List.cons_append]
 gi_wp2
 obtain ⟨W1,hW1⟩:∃ W1,w.alloc (.cells #[.slice none 0 0] 117) = W1:=⟨_,rfl⟩
 have bO:Boxed W1 w.heap.size 117 (.slice none 0 0):=by rw [← hW1];exact Boxed.new w _ _
 have hB0:Below w.heap.size w W1:=by rw [← hW1];exact (Below.refl _ w).alloc (Nat.le_refl _) _
 have hz:W1.heap.size = w.heap.size + 1:=by rw [← hW1];simp
 rw [hW1]
 clear hW1
 refine wpIn_rangeFunc_ownH rfl (by omega) (gf:=gf) (lb:=lb) rfl trivial eg (hseq W1 hB0 (by omega) (by rw [ownOf_box bO];rfl))
  (fun h k => h.trans k) (fun W l o o' hl ho hc _ => KpB.putObj W l o o' (by omega) (by omega) ho hc) (Below.refl _ _) (fun _ => rfl)
  (fun pre W => (∃ v,Boxed W w.heap.size 117 v∧W.ownsRow w.heap.size 164 3 v pre.length (pre.map tkC).flatten∧True)∧Below w.heap.size w W)
  (fun _ _ _ => False)
  (OwnFrom.and (Own.from (holdsRow_own w.heap.size w.heap.size 117 164 3 (fun pre:List Tk => pre.length) (fun pre => (pre.map tkC).flatten) (fun _ _ => True)) _) (ownFrom_below (Nat.le_refl _) (by omega)))
  (fun _ _ _ _ _ h _ _ => h)
  ⟨⟨_,bO,World.ownsRow_nil _ _ _ _,trivial⟩,hB0⟩
  (fun t a' W => ∃ Bx,W.heap[Bx]? = some (.cells #[.int .u8 (t.1.toNat:Int),.int .i64 (t.2.1:Int),.int .i64 (t.2.2:Int)] 164)∧a' = { tmps:=#[.slice none 0 0,.func (.func gf) #[] lb,.pointer (some ⟨w.heap.size,0,none⟩),undef,.slice none 0 0,.pointer (some ⟨Bx,0,none⟩),.func (.func gf) #[] lb,tkV t,undef,undef,undef,undef,undef],defers:=[] })
  (fun t a' _ X Y row hs hg hr => by
   obtain ⟨Bx,h1,h2⟩:=hs
   refine ⟨Bx,(hg.block Bx (Array.getElem?_eq_some_iff.1 h1).1 (fun e => ?_)).trans h1,h2⟩
   obtain ⟨_,o,ho,hc⟩:=hr Bx e.symm
   rw [h1] at ho;cases ho;cases hc)
  ?assign ?body ?done ?stop
 case assign =>
  rintro g pre ⟨tb,tn,td⟩ W K hi hK
  simp only [tkV]
  gi_wp2
  obtain ⟨⟨v,hv,hrow,_⟩,hB⟩:=hi
  exact hK _ _ ((KeepsOthers.alloc _ _).from _) (kpb_alloc _ hB.size hv.lt) ⟨⟨v,hv.alloc _,hrow.alloc _,trivial⟩,hB.alloc hB.size _⟩ ⟨W.heap.size,heap_alloc_new W _,rfl⟩
 case body =>
  rintro g pre ⟨tb,tn,td⟩ a' W hl ⟨r,hr⟩ ⟨⟨v,hv,hrow,_⟩,hB⟩ ⟨Bx,hx,rfl⟩ hlt
  have hc:=hv.cell
  have k0:W.cell? ⟨Bx,0,none⟩ = some (.int .u8 (tb.toNat:Int)):=cell_of_row W _ 0 _ _ _ hx
  have k1:W.cell? ⟨Bx,1,none⟩ = some (.int .i64 (tn:Int)):=cell_of_row W _ 1 _ _ _ hx
  have k2:W.cell? ⟨Bx,2,none⟩ = some (.int .i64 (td:Int)):=cell_of_row W _ 2 _ _ _ hx
  clear hx
  gi_wp2_with (gi_at_builtin;refine wpListIn_app _ tokElem rfl _ _ rfl w.heap.size v pre.length _ rfl (hrow.alloc _) (W.heap.size + 1) (some ⟨W.heap.size,0,none⟩) 1 1 (tkC (tb,tn,td)) rfl rfl (tkC_cells W (tb,tn,td)) (tkC_one _) (by unfold maxLen;omega) (by omega) (by have:=hB.size;simp;omega) ?_;intro A' c' w1 hap;obtain ⟨hv1,hv2,hr2,hk2,hb2,hkp⟩:=kpbT_append hv hrow hB.size (Nat.le_refl _) hap;have hc1:=hv1.cell;have hf1:=hv1.frozen)
  exact ⟨hk2.from _,hkp,⟨_,hv2,by simpa using hr2,trivial⟩,hB.trans hb2⟩
 case done =>
  rintro D ys W hD rfl ⟨⟨v,hv,hrow,_⟩,hB⟩ hK
  have hc:=hv.cell
  gi_wp2
  refine ⟨by simp,.inl ⟨_,_,rfl,run_takeDeferred hK,?_⟩⟩
  exact ⟨_,results_tmp rfl _ _ _,v,rfl,ownsRow_putObj hrow _ hK rfl,hB.trans ((Below.refl _ W).grown (grownBy_putObj' W D _) (by have:=hB.size;omega) (fun k e => by cases e;omega))⟩
 case stop =>
  rintro D c pre W _ _ h _
  exact h.elim
end Go.Proofs.YtaknladkodibaaaGreatDoor
