/- Layer 13: how often symbols are there. -/
import Derived.Test.YtaknladkodibaaaGreatDoorMgQ19348
import Derived.Test.YtaknladkodibaaaGreatDoorMgQ19328
import Derived.Test.YtaknladkodibaaaGreatDoorMgQ19349
import Derived.Deep.RegionWith
import Derived.Test.YtaknladkodibaaaGreatDoorMgQ19312
import Derived.Test.YtaknladkodibaaaGreatDoorMgQ19330
import Derived.Test.YtaknladkodibaaaGreatDoorMgQ19316
import Derived.Test.YtaknladkodibaaaGreatDoorMgQ19339
import Derived.Test.YtaknladkodibaaaGreatDoorMgQ19337
import Derived.Test.YtaknladkodibaaaGreatDoorMgQ19342
import Derived.Test.YtaknladkodibaaaGreatDoorMgQ19335
import Derived.Test.YtaknladkodibaaaGreatDoorMgQ19315
import Derived.Test.YtaknladkodibaaaGreatDoorMgQ19326
import Derived.Test.YtaknladkodibaaaGreatDoorMgQ19323
import Derived.Deep.RegionHeld3
import Derived.Test.YtaknladkodibaaaGreatDoorMgQ193SBytesIn
import Derived.Test.YtaknladkodibaaaGreatDoorMgQ19340
import Derived.Test.YtaknladkodibaaaGreatDoorMgQ19343
namespace Go.Proofs.YtaknladkodibaaaGreatDoor
open Go.RowKit BitsP SymP
theorem splitT_any (t : Tk) (w : World) (h : okT t) :
  Calls Tryz.prog 109 #[.agg #[.int .u8 (t.1.toNat : Int),.int .i64 (t.2.1 : Int),.int .i64 (t.2.2 : Int)]] w fun e w' => e = .returned (.tuple #[agR ((cls1 t).1 : Nat) ((cls1 t).2.1 : Nat) ((cls1 t).2.2 : Nat) ((cls2 t).1 : Nat) ((cls2 t).2.1 : Nat) ((cls2 t).2.2 : Nat) (isM t),.bool true]) ∧ Below w.heap.size w w' := by
 obtain ⟨y,l,d⟩ := t
 rcases h with ⟨h1,h2⟩ | ⟨h1,h2,h3,h4,h5⟩
 ·dsimp only at h1 h2
  subst h1 h2
  have e1 : cls1 (y,0,0) = (y.toNat,0,0) := by unfold cls1;rw [if_pos rfl]
  have e2 : cls2 (y,0,0) = (0,0,0) := by unfold cls2;rw [if_pos rfl]
  have e3 : isM (y,0,0) = false := by unfold isM;simp
  rw [e1,e2,e3]
  exact split_byte y.toNat w y.toNat_lt
 ·dsimp only at h1 h2 h3 h4 h5
  subst h5
  obtain ⟨l',rfl⟩ : ∃ l',l = l' + 3 := ⟨l - 3,by omega⟩
  obtain ⟨d',rfl⟩ : ∃ d',d = d' + 1 := ⟨d - 1,by omega⟩
  have e1 : cls1 (0,l' + 3,d' + 1) = (classC l' + 257,bitsC (classC l'),l' % 2 ^ bitsC (classC l')) := by unfold cls1;rw [if_neg (by dsimp only;omega)];rfl
  have e2 : cls2 (0,l' + 3,d' + 1) = (classC d',bitsC (classC d'),d' % 2 ^ bitsC (classC d')) := by unfold cls2;rw [if_neg (by dsimp only;omega)];rfl
  have e3 : isM (0,l' + 3,d' + 1) = true := by unfold isM;simp
  rw [e1,e2,e3]
  exact split_match l' d' w (by omega) (by omega)
def TkAt (w : World) (A : Option Addr) (k : Nat) (y l d : Int) : Prop := ∃ b o,A = some ⟨b,o,none⟩ ∧ b < w.heap.size ∧ w.cell? ⟨b,o + k * 3,none⟩ = some (.int .u8 y) ∧ w.cell? ⟨b,o + k * 3 + 1,none⟩ = some (.int .i64 l) ∧ w.cell? ⟨b,o + k * 3 + 2,none⟩ = some (.int .i64 d)
theorem TkAt.below {w W : World} {A : Option Addr} {k : Nat} {y l d : Int} (h : TkAt w A k y l d) (hb : Below w.heap.size w W) : TkAt W A k y l d := by
 obtain ⟨b,o,h1,h2,h3,h4,h5⟩ := h
 exact ⟨b,o,h1,Nat.lt_of_lt_of_le h2 hb.size,(hb.cell (p := ⟨b,o + k * 3,none⟩) h2).trans h3,(hb.cell (p := ⟨b,o + k * 3 + 1,none⟩) h2).trans h4,(hb.cell (p := ⟨b,o + k * 3 + 2,none⟩) h2).trans h5⟩
set_option maxRecDepth 100000 in
set_option maxHeartbeats 4000000 in
theorem weights_gen (A : Option Addr) (l c : Nat) (ts : List Tk) (w : World) (hm : l ≤ 65536) (hk : ∀ t ∈ ts,okT t) (hc : ∀ k t,ts[k]? = some t → TkAt w A k (t.1.toNat : Int) (t.2.1 : Int) (t.2.2 : Int)) (hend : ts.length = l ∨ (ts.length < l ∧ ∃ y ln d,TkAt w A ts.length y ln d ∧ rightT y ln d = false)) :
  Calls Tryz.prog 107 #[.slice A l c] w fun e w' => Below w.heap.size w w' ∧ ((ts.length < l ∧ e = .returned (.tuple #[.slice none 0 0,.slice none 0 0,.bool false])) ∨
   (ts.length = l ∧ ∃ g1 g2,e = .returned (.tuple #[.slice (some ⟨g1,0,none⟩) 273 273,.slice (some ⟨g2,0,none⟩) 30 30,.bool true]) ∧ NB w' g1 (wt1 ts) ∧ NB w' g2 (wt2 ts) ∧ w.heap.size ≤ g1 ∧ w.heap.size ≤ g2)) := by
 obtain ⟨n,hn⟩ : ∃ n,ts.length = n := ⟨_,rfl⟩
 have HN := Lib.hid hn
 have HK := Lib.hid hk
 have HC := Lib.hid hc
 rw [hn] at hend ⊢
 have HEND := Lib.hid hend
 have hnl : n ≤ l := by rcases hend with h | ⟨h,_⟩ <;> omega
 have mk1 : ∀ W,(Instr.makeSlice 156 (.int .i64 273) (.int .i64 273)).run Tryz.prog W = .ok (.slice (some ⟨W.heap.size,0,none⟩) 273 273) (W.alloc (.cells (madeCells #[.int .i64 0] 273) 3)) := fun W => make_ints 273 (by omega) W
 have mk2 : ∀ W,(Instr.makeSlice 156 (.int .i64 30) (.int .i64 30)).run Tryz.prog W = .ok (.slice (some ⟨W.heap.size,0,none⟩) 30 30) (W.alloc (.cells (madeCells #[.int .i64 0] 30) 3)) := fun W => make_ints 30 (by omega) W
 clear hk hc hend hn
 go_enter Tryz.func107,Tryz.ntmps107
 go_upto_region 3 with fail
 go_region
 ·have HZ1 : Hid (NB (((w.alloc (.cells (madeCells #[.int .i64 0] 273) 3)).alloc (.cells (madeCells #[.int .i64 0] 30) 3)).drew) w.heap.size (incW (List.replicate 273 0) (fsts (ts.take 0)))) := ((wei_made w 273).below (B := (w.alloc (.cells (madeCells #[.int .i64 0] 273) 3)).heap.size) (((Below.refl _ _).alloc (Nat.le_refl _) _).drew) (by simp))
  have HZ2 : Hid (NB (((w.alloc (.cells (madeCells #[.int .i64 0] 273) 3)).alloc (.cells (madeCells #[.int .i64 0] 30) 3)).drew) (w.heap.size + 1) (incW (List.replicate 30 0) (mts (ts.take 0)))) := (by have h := wei_made (w.alloc (.cells (madeCells #[.int .i64 0] 273) 3)) 30;rw [World.size_alloc] at h;exact h)
  have HB0 : Hid (Below w.heap.size w (((w.alloc (.cells (madeCells #[.int .i64 0] 273) 3)).alloc (.cells (madeCells #[.int .i64 0] 30) 3)).drew)) := (((Below.refl w.heap.size w).alloc (Nat.le_refl _) _).alloc (by simp) _).drew
  obtain ⟨W0,hW0⟩ : ∃ W0,((w.alloc (.cells (madeCells #[.int .i64 0] 273) 3)).alloc (.cells (madeCells #[.int .i64 0] 30) 3)).drew = W0 := ⟨_,rfl⟩
  rw [hW0] at HZ1 HZ2 HB0 ⊢
  clear hW0 mk1 mk2
  go_wp2
  go_loopg [2,3,5,17] l (fun gk s2 s3 m5 i wr => s2 = .slice (some ⟨w.heap.size,0,none⟩) 273 273 ∧ s3 = .slice (some ⟨(w.heap.size + 1),0,none⟩) 30 30 ∧ ∃ k : Nat,k + gk = l ∧ i = .int .i64 (k : Int) ∧ k ≤ n ∧ m5 = .int .i64 ((mts (ts.take k)).length : Nat) ∧ NB wr w.heap.size (incW (List.replicate 273 0) (fsts (ts.take k))) ∧ NB wr (w.heap.size + 1) (incW (List.replicate 30 0) (mts (ts.take k))) ∧ Below w.heap.size w wr)
  case atStart => exact ⟨rfl,rfl,0,by omega,rfl,Nat.zero_le _,rfl,HZ1.out,HZ2.out,HB0.out⟩
  case round =>
   obtain ⟨rfl,rfl,k,hkg,rfl,hkn,rfl,hn1,hn2,hbel⟩ := hrel
   have HNB1 := Lib.hid hn1
   have HNB2 := Lib.hid hn2
   have HBEL := Lib.hid hbel
   clear hn1 hn2 hbel HZ1 HZ2 HB0
   have hml := mts_len (ts.take k)
   rw [List.length_take] at hml
   obtain ⟨mc,hmc⟩ : ∃ mc,(mts (ts.take k)).length = mc := ⟨_,rfl⟩
   have HMC := Lib.hid hmc
   rw [hmc] at hml ⊢
   clear hmc
   by_cases hkl : k < n
   ·obtain ⟨t,ht⟩ : ∃ t,ts[k]? = some t := ⟨_,List.getElem?_eq_getElem (by rw [HN.out];exact hkl)⟩
    have hok := HK.out t (List.mem_of_getElem? ht)
    have HSP := Lib.hid (fun W => splitT_any t W hok)
    have hc1 := cls1_lt hok
    have hc2 := cls2_lt hok
    have HTK : Hid (ts.take (k + 1) = ts.take k ++ [t]) := by show _ = _;rw [List.take_add_one,ht];rfl
    have HF : Hid (fsts (ts.take (k + 1)) = fsts (ts.take k) ++ [(cls1 t).1]) := by show _ = _;rw [HTK.out,fsts_snoc]
    have HMT : Hid (mts (ts.take (k + 1)) = if isM t then mts (ts.take k) ++ [(cls2 t).1] else mts (ts.take k)) := by show _ = _;rw [HTK.out,mts_snoc]
    obtain ⟨b,o,rfl,hbB,v0,v1,v2⟩ := (HC.out k t ht).below HBEL.out
    have k1 : l ≤ 65536 := hm
    have HA1 : Hid ((incW (List.replicate 273 0) (fsts (ts.take k)))[(cls1 t).1]? = some ((fsts (ts.take k)).count (cls1 t).1)) := incW_at 273 _ hc1.1
    have HA2 : Hid ((incW (List.replicate 30 0) (mts (ts.take k)))[(cls2 t).1]? = some ((mts (ts.take k)).count (cls2 t).1)) := incW_at 30 _ hc2.1
    have HU1 : Hid (incW (List.replicate 273 0) (fsts (ts.take (k + 1))) = (incW (List.replicate 273 0) (fsts (ts.take k))).set (cls1 t).1 ((fsts (ts.take k)).count (cls1 t).1 + 1)) := by
     show _ = _
     rw [HF.out,incW_append,incW_cons,List.getD,HA1.out]
     rfl
    have HU2 : Hid (incW (List.replicate 30 0) (mts (ts.take k) ++ [(cls2 t).1]) = (incW (List.replicate 30 0) (mts (ts.take k))).set (cls2 t).1 ((mts (ts.take k)).count (cls2 t).1 + 1)) := by
     show _ = _
     rw [incW_append,incW_cons,List.getD,HA2.out]
     rfl
    have hcn1 : (fsts (ts.take k)).count (cls1 t).1 ≤ 65536 := by
     have h := List.count_le_length (a := (cls1 t).1) (l := fsts (ts.take k))
     rw [fsts_len,List.length_take] at h
     omega
    have hcn2 : (mts (ts.take k)).count (cls2 t).1 ≤ 65536 := by
     have h := List.count_le_length (a := (cls2 t).1) (l := mts (ts.take k))
     rw [HMC.out] at h
     omega
    obtain ⟨l1,hl1⟩ : ∃ l1,incW (List.replicate 273 0) (fsts (ts.take k)) = l1 := ⟨_,rfl⟩
    obtain ⟨l2,hl2⟩ : ∃ l2,incW (List.replicate 30 0) (mts (ts.take k)) = l2 := ⟨_,rfl⟩
    have HL2 := Lib.hid hl2
    rw [hl1] at HNB1 HA1 HU1
    rw [hl2] at HNB2 HA2 HU2
    obtain ⟨a1,ha1⟩ : ∃ a1,(fsts (ts.take k)).count (cls1 t).1 = a1 := ⟨_,rfl⟩
    obtain ⟨a2,ha2⟩ : ∃ a2,(mts (ts.take k)).count (cls2 t).1 = a2 := ⟨_,rfl⟩
    rw [ha1] at HA1 HU1 hcn1
    rw [ha2] at HA2 HU2 hcn2
    obtain ⟨⟨n1,b1,x1⟩,hq1⟩ : ∃ q,cls1 t = q := ⟨_,rfl⟩
    obtain ⟨⟨n2,b2,x2⟩,hq2⟩ : ∃ q,cls2 t = q := ⟨_,rfl⟩
    rw [hq1] at HSP HA1 HU1 hc1
    rw [hq2] at HSP HA2 HU2 hc2 HMT
    obtain ⟨m,hmm⟩ : ∃ m,isM t = m := ⟨_,rfl⟩
    rw [hmm] at HSP HMT
    dsimp only at HSP HA1 HU1 HA2 HU2 HMT hc1 hc2
    have hn273 := hc1.1
    have hn30 := hc2.1
    clear ht hok hl1 hl2 ha1 ha2 hq1 hq2 hmm hc1 hc2
    cases m with
    | true =>
     go_upto_region 9 with (go_at_call 109;refine (HSP.out _).mono ?_;rintro e w4 ⟨rfl,hb4⟩;unfold agR;have hb5 := ((Below.refl wr.heap.size wr).alloc (Nat.le_refl _) (.cells #[.int .u8 (t.1.toNat : Int),.int .i64 (t.2.1 : Int),.int .i64 (t.2.2 : Int)] 164)).trans (hb4.mono (by simp));obtain ⟨W5,hW5⟩ : ∃ W5,w4.alloc (.cells #[.int .i64 (n1 : Int),.int .i64 (b1 : Int),.int .u32 (x1 : Int),.int .i64 (n2 : Int),.int .i64 (b2 : Int),.int .u32 (x2 : Int),.bool true] 168) = W5 := ⟨_,rfl⟩;have hb6 : Below wr.heap.size wr W5 := (by rw [← hW5];exact hb5.alloc hb5.size _);have hx5 : W5.heap[w4.heap.size]? = some (.cells #[.int .i64 (n1 : Int),.int .i64 (b1 : Int),.int .u32 (x1 : Int),.int .i64 (n2 : Int),.int .i64 (b2 : Int),.int .u32 (x2 : Int),.bool true] 168 (0,0)) := (by rw [← hW5];exact heap_alloc_new w4 _);have hs4 : wr.heap.size ≤ w4.heap.size := hb5.size;have HW5 := Lib.hid hW5;clear hW5 hb4 hb5)
     rw [HW5.out]
     have HB5 := Lib.hid hb6
     have HN5 := Lib.hid (HNB1.out.below hb6 HNB1.out.lt)
     have HM5 := Lib.hid (HNB2.out.below hb6 HNB2.out.lt)
     have r0 : W5.cell? ⟨w4.heap.size,0,none⟩ = some (.int .i64 (n1 : Int)) := cell_of_row _ _ 0 _ _ _ hx5
     have q1 : W5.cell? ⟨w.heap.size,n1,none⟩ = some (.int .i64 (a1 : Int)) := HN5.out.cell HA1.out
     have f1 : W5.frozen? ⟨w.heap.size,n1,none⟩ = false := HN5.out.free
     obtain ⟨W6,hW6⟩ : ∃ W6,W5.setCell ⟨w.heap.size,n1,none⟩ (.int .i64 ((a1 : Int) + 1)) = W6 := ⟨_,rfl⟩
     have hl1 : w.heap.size < wr.heap.size := HNB1.out.lt
     have hl2 : (w.heap.size + 1) < wr.heap.size := HNB2.out.lt
     have hx6 : W6.heap[w4.heap.size]? = some (.cells #[.int .i64 (n1 : Int),.int .i64 (b1 : Int),.int .u32 (x1 : Int),.int .i64 (n2 : Int),.int .i64 (b2 : Int),.int .u32 (x2 : Int),.bool true] 168 (0,0)) := (by rw [← hW6];exact (Below.heap_setCell _ _ _ _ (by show w4.heap.size ≠ w.heap.size;omega)).trans hx5)
     have r3 : W6.cell? ⟨w4.heap.size,3,none⟩ = some (.int .i64 (n2 : Int)) := cell_of_row _ _ 3 _ _ _ hx6
     have r6 : W6.cell? ⟨w4.heap.size,6,none⟩ = some (.bool true) := cell_of_row _ _ 6 _ _ _ hx6
     have HN6 : Hid (NB W6 w.heap.size (l1.set n1 (a1 + 1))) := (by show NB _ _ _;rw [← hW6];have h := HN5.out.set n1 (a1 + 1);push_cast at h;exact h)
     have HM6 : Hid (NB W6 (w.heap.size + 1) l2) := (by show NB _ _ _;rw [← hW6];exact (Below.heap_setCell _ _ _ _ (by show (w.heap.size + 1) ≠ w.heap.size;omega)).trans HM5.out)
     have q2 : W6.cell? ⟨(w.heap.size + 1),n2,none⟩ = some (.int .i64 (a2 : Int)) := HM6.out.cell HA2.out
     have f2 : W6.frozen? ⟨(w.heap.size + 1),n2,none⟩ = false := HM6.out.free
     have HB6 : Hid (Below w.heap.size w W6) := (by show Below _ _ _;rw [← hW6];exact (HBEL.out.trans (HB5.out.mono HBEL.out.size)).setCell (by show w.heap.size ≤ w.heap.size;omega) _)
     clear hb6 hx5 hx6
     go_wp2
     go_roundg (gk - 1)
     case measure => omega
     case rel =>
      refine ⟨rfl,rfl,k + 1,by omega,by go_num,by omega,?_,?_,?_,HB6.out.setCell (by show w.heap.size ≤ (w.heap.size + 1);omega) _⟩
      ·rw [HMT.out,if_pos trivial,List.length_append,HMC.out,List.length_singleton]
       go_num
      ·rw [HU1.out]
       exact (Below.heap_setCell _ _ _ _ (by show w.heap.size ≠ (w.heap.size + 1);omega)).trans HN6.out
      ·rw [HMT.out,if_pos trivial,HU2.out]
       have h := HM6.out.set n2 (a2 + 1)
       push_cast at h
       exact h
    | false =>
     go_upto_region 9 with (go_at_call 109;refine (HSP.out _).mono ?_;rintro e w4 ⟨rfl,hb4⟩;unfold agR;have hb5 := ((Below.refl wr.heap.size wr).alloc (Nat.le_refl _) (.cells #[.int .u8 (t.1.toNat : Int),.int .i64 (t.2.1 : Int),.int .i64 (t.2.2 : Int)] 164)).trans (hb4.mono (by simp));obtain ⟨W5,hW5⟩ : ∃ W5,w4.alloc (.cells #[.int .i64 (n1 : Int),.int .i64 (b1 : Int),.int .u32 (x1 : Int),.int .i64 (n2 : Int),.int .i64 (b2 : Int),.int .u32 (x2 : Int),.bool false] 168) = W5 := ⟨_,rfl⟩;have hb6 : Below wr.heap.size wr W5 := (by rw [← hW5];exact hb5.alloc hb5.size _);have hx5 : W5.heap[w4.heap.size]? = some (.cells #[.int .i64 (n1 : Int),.int .i64 (b1 : Int),.int .u32 (x1 : Int),.int .i64 (n2 : Int),.int .i64 (b2 : Int),.int .u32 (x2 : Int),.bool false] 168 (0,0)) := (by rw [← hW5];exact heap_alloc_new w4 _);have hs4 : wr.heap.size ≤ w4.heap.size := hb5.size;have HW5 := Lib.hid hW5;clear hW5 hb4 hb5)
     rw [HW5.out]
     have HB5 := Lib.hid hb6
     have HN5 := Lib.hid (HNB1.out.below hb6 HNB1.out.lt)
     have HM5 := Lib.hid (HNB2.out.below hb6 HNB2.out.lt)
     have r0 : W5.cell? ⟨w4.heap.size,0,none⟩ = some (.int .i64 (n1 : Int)) := cell_of_row _ _ 0 _ _ _ hx5
     have q1 : W5.cell? ⟨w.heap.size,n1,none⟩ = some (.int .i64 (a1 : Int)) := HN5.out.cell HA1.out
     have f1 : W5.frozen? ⟨w.heap.size,n1,none⟩ = false := HN5.out.free
     obtain ⟨W6,hW6⟩ : ∃ W6,W5.setCell ⟨w.heap.size,n1,none⟩ (.int .i64 ((a1 : Int) + 1)) = W6 := ⟨_,rfl⟩
     have hl1 : w.heap.size < wr.heap.size := HNB1.out.lt
     have hl2 : (w.heap.size + 1) < wr.heap.size := HNB2.out.lt
     have hx6 : W6.heap[w4.heap.size]? = some (.cells #[.int .i64 (n1 : Int),.int .i64 (b1 : Int),.int .u32 (x1 : Int),.int .i64 (n2 : Int),.int .i64 (b2 : Int),.int .u32 (x2 : Int),.bool false] 168 (0,0)) := (by rw [← hW6];exact (Below.heap_setCell _ _ _ _ (by show w4.heap.size ≠ w.heap.size;omega)).trans hx5)
     have r3 : W6.cell? ⟨w4.heap.size,3,none⟩ = some (.int .i64 (n2 : Int)) := cell_of_row _ _ 3 _ _ _ hx6
     have r6 : W6.cell? ⟨w4.heap.size,6,none⟩ = some (.bool false) := cell_of_row _ _ 6 _ _ _ hx6
     have HN6 : Hid (NB W6 w.heap.size (l1.set n1 (a1 + 1))) := (by show NB _ _ _;rw [← hW6];have h := HN5.out.set n1 (a1 + 1);push_cast at h;exact h)
     have HM6 : Hid (NB W6 (w.heap.size + 1) l2) := (by show NB _ _ _;rw [← hW6];exact (Below.heap_setCell _ _ _ _ (by show (w.heap.size + 1) ≠ w.heap.size;omega)).trans HM5.out)
     have q2 : W6.cell? ⟨(w.heap.size + 1),n2,none⟩ = some (.int .i64 (a2 : Int)) := HM6.out.cell HA2.out
     have f2 : W6.frozen? ⟨(w.heap.size + 1),n2,none⟩ = false := HM6.out.free
     have HB6 : Hid (Below w.heap.size w W6) := (by show Below _ _ _;rw [← hW6];exact (HBEL.out.trans (HB5.out.mono HBEL.out.size)).setCell (by show w.heap.size ≤ w.heap.size;omega) _)
     clear hb6 hx5 hx6
     go_wp2
     go_roundg (gk - 1)
     case measure => omega
     case rel =>
      refine ⟨rfl,rfl,k + 1,by omega,by go_num,by omega,?_,?_,?_,HB6.out⟩
      ·rw [HMT.out,if_neg (by simp),HMC.out]
      ·rw [HU1.out]
       exact HN6.out
      ·rw [HMT.out,if_neg (by simp),HL2.out]
       exact HM6.out
   ·obtain rfl : k = n := by omega
    rw [show ts.take k = ts from List.take_of_length_le (by rw [HN.out];exact Nat.le_refl _)] at HNB1 HNB2 HMC
    by_cases hlast : k < l
    ·obtain ⟨y,ln,d,hta,hrt⟩ : ∃ y ln d,TkAt w A k y ln d ∧ rightT y ln d = false := by
      rcases HEND.out with h | ⟨_,h⟩
      ·omega
      ·exact h
     obtain ⟨b,o,rfl,hbB,v0,v1,v2⟩ := hta.below HBEL.out
     have HSP := Lib.hid (fun W => split_no y ln d W hrt)
     clear hta hrt
     go_wp2_with (go_at_call 109;refine (HSP.out _).mono ?_;rintro e w4 ⟨rfl,hb4⟩;unfold agR;have hb5 := ((Below.refl wr.heap.size wr).alloc (Nat.le_refl _) (.cells #[.int .u8 y,.int .i64 ln,.int .i64 d] 164)).trans (hb4.mono (by simp));have HB5 := Lib.hid (HBEL.out.trans (hb5.mono HBEL.out.size));clear hb4 hb5)
     refine bodyPost_ret (results_tmp3 rfl _ _ _) rfl ⟨HB5.out.alloc HB5.out.size _,.inl ⟨hlast,rfl⟩⟩
    ·obtain rfl : k = l := by omega
     have hq256 : (incW (List.replicate 273 0) (fsts ts))[256]? = some ((fsts ts).count 256) := incW_at 273 _ (by decide)
     have HW1 : Hid (wt1 ts = (incW (List.replicate 273 0) (fsts ts)).set 256 ((fsts ts).count 256 + 1)) := by
      show _ = _
      rw [wt1,incW_append,incW_cons,List.getD,hq256]
      rfl
     have hcn1 : (fsts ts).count 256 ≤ 65536 := by
      have h := List.count_le_length (a := 256) (l := fsts ts)
      rw [fsts_len,HN.out] at h
      omega
     obtain ⟨l1,hl1⟩ : ∃ l1,incW (List.replicate 273 0) (fsts ts) = l1 := ⟨_,rfl⟩
     obtain ⟨a1,ha1⟩ : ∃ a1,(fsts ts).count 256 = a1 := ⟨_,rfl⟩
     rw [hl1] at HNB1 hq256 HW1
     rw [ha1] at hq256 HW1 hcn1
     have q1 : wr.cell? ⟨w.heap.size,256,none⟩ = some (.int .i64 (a1 : Int)) := HNB1.out.cell hq256
     have f1 : wr.frozen? ⟨w.heap.size,256,none⟩ = false := HNB1.out.free
     obtain ⟨W6,hW6⟩ : ∃ W6,wr.setCell ⟨w.heap.size,256,none⟩ (.int .i64 ((a1 : Int) + 1)) = W6 := ⟨_,rfl⟩
     have HN6 : Hid (NB W6 w.heap.size (wt1 ts)) := by
      show NB _ _ _
      rw [← hW6,HW1.out]
      have h := HNB1.out.set 256 (a1 + 1)
      push_cast at h
      exact h
     have HM6 : Hid (NB W6 (w.heap.size + 1) (incW (List.replicate 30 0) (mts ts))) := by
      show NB _ _ _
      rw [← hW6]
      exact (Below.heap_setCell _ _ _ _ (by show (w.heap.size + 1) ≠ w.heap.size;omega)).trans HNB2.out
     have HB6 : Hid (Below w.heap.size w W6) := by
      show Below _ _ _
      rw [← hW6]
      exact HBEL.out.setCell (by show w.heap.size ≤ w.heap.size;omega) _
     clear hl1 ha1 hq256
     by_cases hm0 : mc = 0
     ·subst hm0
      have hnil : mts ts = [] := List.eq_nil_of_length_eq_zero HMC.out
      have hq0 : (incW (List.replicate 30 0) (mts ts))[0]? = some 0 := by rw [incW_at 30 _ (by decide),hnil];rfl
      have q2 : W6.cell? ⟨(w.heap.size + 1),0,none⟩ = some (.int .i64 ((0 : Nat) : Int)) := HM6.out.cell hq0
      have f2 : W6.frozen? ⟨(w.heap.size + 1),0,none⟩ = false := HM6.out.free
      have HW2 : Hid (wt2 ts = (incW (List.replicate 30 0) (mts ts)).set 0 1) := by
       show _ = _
       rw [wt2,if_pos hnil,hnil]
       rfl
      clear hq0 hnil
      go_wp2
      refine bodyPost_ret (results_tmp3 rfl _ _ _) rfl ⟨HB6.out.setCell (by show w.heap.size ≤ (w.heap.size + 1);omega) _,w.heap.size,(w.heap.size + 1),rfl,(Below.heap_setCell _ _ _ _ (by show w.heap.size ≠ (w.heap.size + 1);omega)).trans HN6.out,by rw [HW2.out];exact HM6.out.set 0 1,by omega,by omega⟩
     ·have t0 : ((mc : Int) == 0) = false := by simp;omega
      have HW2 : Hid (wt2 ts = incW (List.replicate 30 0) (mts ts)) := by
       show _ = _
       rw [wt2,if_neg (fun e => hm0 (by rw [← HMC.out,e];rfl))]
      clear hm0
      go_wp2
      refine bodyPost_ret (results_tmp3 rfl _ _ _) rfl ⟨HB6.out,w.heap.size,(w.heap.size + 1),rfl,HN6.out,by rw [HW2.out];exact HM6.out,by omega,by omega⟩
 ·have HZ1 : Hid (NB (((w.alloc (.cells (madeCells #[.int .i64 0] 30) 3)).alloc (.cells (madeCells #[.int .i64 0] 273) 3)).drew) (w.heap.size + 1) (incW (List.replicate 273 0) (fsts (ts.take 0)))) := (by have h := wei_made (w.alloc (.cells (madeCells #[.int .i64 0] 30) 3)) 273;rw [World.size_alloc] at h;exact h)
  have HZ2 : Hid (NB (((w.alloc (.cells (madeCells #[.int .i64 0] 30) 3)).alloc (.cells (madeCells #[.int .i64 0] 273) 3)).drew) w.heap.size (incW (List.replicate 30 0) (mts (ts.take 0)))) := ((wei_made w 30).below (B := (w.alloc (.cells (madeCells #[.int .i64 0] 30) 3)).heap.size) (((Below.refl _ _).alloc (Nat.le_refl _) _).drew) (by simp))
  have HB0 : Hid (Below w.heap.size w (((w.alloc (.cells (madeCells #[.int .i64 0] 30) 3)).alloc (.cells (madeCells #[.int .i64 0] 273) 3)).drew)) := (((Below.refl w.heap.size w).alloc (Nat.le_refl _) _).alloc (by simp) _).drew
  obtain ⟨W0,hW0⟩ : ∃ W0,((w.alloc (.cells (madeCells #[.int .i64 0] 30) 3)).alloc (.cells (madeCells #[.int .i64 0] 273) 3)).drew = W0 := ⟨_,rfl⟩
  rw [hW0] at HZ1 HZ2 HB0 ⊢
  clear hW0 mk1 mk2
  go_wp2
  go_loopg [2,3,5,17] l (fun gk s2 s3 m5 i wr => s2 = .slice (some ⟨(w.heap.size + 1),0,none⟩) 273 273 ∧ s3 = .slice (some ⟨w.heap.size,0,none⟩) 30 30 ∧ ∃ k : Nat,k + gk = l ∧ i = .int .i64 (k : Int) ∧ k ≤ n ∧ m5 = .int .i64 ((mts (ts.take k)).length : Nat) ∧ NB wr (w.heap.size + 1) (incW (List.replicate 273 0) (fsts (ts.take k))) ∧ NB wr w.heap.size (incW (List.replicate 30 0) (mts (ts.take k))) ∧ Below w.heap.size w wr)
  case atStart => exact ⟨rfl,rfl,0,by omega,rfl,Nat.zero_le _,rfl,HZ1.out,HZ2.out,HB0.out⟩
  case round =>
   obtain ⟨rfl,rfl,k,hkg,rfl,hkn,rfl,hn1,hn2,hbel⟩ := hrel
   have HNB1 := Lib.hid hn1
   have HNB2 := Lib.hid hn2
   have HBEL := Lib.hid hbel
   clear hn1 hn2 hbel HZ1 HZ2 HB0
   have hml := mts_len (ts.take k)
   rw [List.length_take] at hml
   obtain ⟨mc,hmc⟩ : ∃ mc,(mts (ts.take k)).length = mc := ⟨_,rfl⟩
   have HMC := Lib.hid hmc
   rw [hmc] at hml ⊢
   clear hmc
   by_cases hkl : k < n
   ·obtain ⟨t,ht⟩ : ∃ t,ts[k]? = some t := ⟨_,List.getElem?_eq_getElem (by rw [HN.out];exact hkl)⟩
    have hok := HK.out t (List.mem_of_getElem? ht)
    have HSP := Lib.hid (fun W => splitT_any t W hok)
    have hc1 := cls1_lt hok
    have hc2 := cls2_lt hok
    have HTK : Hid (ts.take (k + 1) = ts.take k ++ [t]) := by show _ = _;rw [List.take_add_one,ht];rfl
    have HF : Hid (fsts (ts.take (k + 1)) = fsts (ts.take k) ++ [(cls1 t).1]) := by show _ = _;rw [HTK.out,fsts_snoc]
    have HMT : Hid (mts (ts.take (k + 1)) = if isM t then mts (ts.take k) ++ [(cls2 t).1] else mts (ts.take k)) := by show _ = _;rw [HTK.out,mts_snoc]
    obtain ⟨b,o,rfl,hbB,v0,v1,v2⟩ := (HC.out k t ht).below HBEL.out
    have k1 : l ≤ 65536 := hm
    have HA1 : Hid ((incW (List.replicate 273 0) (fsts (ts.take k)))[(cls1 t).1]? = some ((fsts (ts.take k)).count (cls1 t).1)) := incW_at 273 _ hc1.1
    have HA2 : Hid ((incW (List.replicate 30 0) (mts (ts.take k)))[(cls2 t).1]? = some ((mts (ts.take k)).count (cls2 t).1)) := incW_at 30 _ hc2.1
    have HU1 : Hid (incW (List.replicate 273 0) (fsts (ts.take (k + 1))) = (incW (List.replicate 273 0) (fsts (ts.take k))).set (cls1 t).1 ((fsts (ts.take k)).count (cls1 t).1 + 1)) := by
     show _ = _
     rw [HF.out,incW_append,incW_cons,List.getD,HA1.out]
     rfl
    have HU2 : Hid (incW (List.replicate 30 0) (mts (ts.take k) ++ [(cls2 t).1]) = (incW (List.replicate 30 0) (mts (ts.take k))).set (cls2 t).1 ((mts (ts.take k)).count (cls2 t).1 + 1)) := by
     show _ = _
     rw [incW_append,incW_cons,List.getD,HA2.out]
     rfl
    have hcn1 : (fsts (ts.take k)).count (cls1 t).1 ≤ 65536 := by
     have h := List.count_le_length (a := (cls1 t).1) (l := fsts (ts.take k))
     rw [fsts_len,List.length_take] at h
     omega
    have hcn2 : (mts (ts.take k)).count (cls2 t).1 ≤ 65536 := by
     have h := List.count_le_length (a := (cls2 t).1) (l := mts (ts.take k))
     rw [HMC.out] at h
     omega
    obtain ⟨l1,hl1⟩ : ∃ l1,incW (List.replicate 273 0) (fsts (ts.take k)) = l1 := ⟨_,rfl⟩
    obtain ⟨l2,hl2⟩ : ∃ l2,incW (List.replicate 30 0) (mts (ts.take k)) = l2 := ⟨_,rfl⟩
    have HL2 := Lib.hid hl2
    rw [hl1] at HNB1 HA1 HU1
    rw [hl2] at HNB2 HA2 HU2
    obtain ⟨a1,ha1⟩ : ∃ a1,(fsts (ts.take k)).count (cls1 t).1 = a1 := ⟨_,rfl⟩
    obtain ⟨a2,ha2⟩ : ∃ a2,(mts (ts.take k)).count (cls2 t).1 = a2 := ⟨_,rfl⟩
    rw [ha1] at HA1 HU1 hcn1
    rw [ha2] at HA2 HU2 hcn2
    obtain ⟨⟨n1,b1,x1⟩,hq1⟩ : ∃ q,cls1 t = q := ⟨_,rfl⟩
    obtain ⟨⟨n2,b2,x2⟩,hq2⟩ : ∃ q,cls2 t = q := ⟨_,rfl⟩
    rw [hq1] at HSP HA1 HU1 hc1
    rw [hq2] at HSP HA2 HU2 hc2 HMT
    obtain ⟨m,hmm⟩ : ∃ m,isM t = m := ⟨_,rfl⟩
    rw [hmm] at HSP HMT
    dsimp only at HSP HA1 HU1 HA2 HU2 HMT hc1 hc2
    have hn273 := hc1.1
    have hn30 := hc2.1
    clear ht hok hl1 hl2 ha1 ha2 hq1 hq2 hmm hc1 hc2
    cases m with
    | true =>
     go_upto_region 9 with (go_at_call 109;refine (HSP.out _).mono ?_;rintro e w4 ⟨rfl,hb4⟩;unfold agR;have hb5 := ((Below.refl wr.heap.size wr).alloc (Nat.le_refl _) (.cells #[.int .u8 (t.1.toNat : Int),.int .i64 (t.2.1 : Int),.int .i64 (t.2.2 : Int)] 164)).trans (hb4.mono (by simp));obtain ⟨W5,hW5⟩ : ∃ W5,w4.alloc (.cells #[.int .i64 (n1 : Int),.int .i64 (b1 : Int),.int .u32 (x1 : Int),.int .i64 (n2 : Int),.int .i64 (b2 : Int),.int .u32 (x2 : Int),.bool true] 168) = W5 := ⟨_,rfl⟩;have hb6 : Below wr.heap.size wr W5 := (by rw [← hW5];exact hb5.alloc hb5.size _);have hx5 : W5.heap[w4.heap.size]? = some (.cells #[.int .i64 (n1 : Int),.int .i64 (b1 : Int),.int .u32 (x1 : Int),.int .i64 (n2 : Int),.int .i64 (b2 : Int),.int .u32 (x2 : Int),.bool true] 168 (0,0)) := (by rw [← hW5];exact heap_alloc_new w4 _);have hs4 : wr.heap.size ≤ w4.heap.size := hb5.size;have HW5 := Lib.hid hW5;clear hW5 hb4 hb5)
     rw [HW5.out]
     have HB5 := Lib.hid hb6
     have HN5 := Lib.hid (HNB1.out.below hb6 HNB1.out.lt)
     have HM5 := Lib.hid (HNB2.out.below hb6 HNB2.out.lt)
     have r0 : W5.cell? ⟨w4.heap.size,0,none⟩ = some (.int .i64 (n1 : Int)) := cell_of_row _ _ 0 _ _ _ hx5
     have q1 : W5.cell? ⟨(w.heap.size + 1),n1,none⟩ = some (.int .i64 (a1 : Int)) := HN5.out.cell HA1.out
     have f1 : W5.frozen? ⟨(w.heap.size + 1),n1,none⟩ = false := HN5.out.free
     obtain ⟨W6,hW6⟩ : ∃ W6,W5.setCell ⟨(w.heap.size + 1),n1,none⟩ (.int .i64 ((a1 : Int) + 1)) = W6 := ⟨_,rfl⟩
     have hl1 : (w.heap.size + 1) < wr.heap.size := HNB1.out.lt
     have hl2 : w.heap.size < wr.heap.size := HNB2.out.lt
     have hx6 : W6.heap[w4.heap.size]? = some (.cells #[.int .i64 (n1 : Int),.int .i64 (b1 : Int),.int .u32 (x1 : Int),.int .i64 (n2 : Int),.int .i64 (b2 : Int),.int .u32 (x2 : Int),.bool true] 168 (0,0)) := (by rw [← hW6];exact (Below.heap_setCell _ _ _ _ (by show w4.heap.size ≠ (w.heap.size + 1);omega)).trans hx5)
     have r3 : W6.cell? ⟨w4.heap.size,3,none⟩ = some (.int .i64 (n2 : Int)) := cell_of_row _ _ 3 _ _ _ hx6
     have r6 : W6.cell? ⟨w4.heap.size,6,none⟩ = some (.bool true) := cell_of_row _ _ 6 _ _ _ hx6
     have HN6 : Hid (NB W6 (w.heap.size + 1) (l1.set n1 (a1 + 1))) := (by show NB _ _ _;rw [← hW6];have h := HN5.out.set n1 (a1 + 1);push_cast at h;exact h)
     have HM6 : Hid (NB W6 w.heap.size l2) := (by show NB _ _ _;rw [← hW6];exact (Below.heap_setCell _ _ _ _ (by show w.heap.size ≠ (w.heap.size + 1);omega)).trans HM5.out)
     have q2 : W6.cell? ⟨w.heap.size,n2,none⟩ = some (.int .i64 (a2 : Int)) := HM6.out.cell HA2.out
     have f2 : W6.frozen? ⟨w.heap.size,n2,none⟩ = false := HM6.out.free
     have HB6 : Hid (Below w.heap.size w W6) := (by show Below _ _ _;rw [← hW6];exact (HBEL.out.trans (HB5.out.mono HBEL.out.size)).setCell (by show w.heap.size ≤ (w.heap.size + 1);omega) _)
     clear hb6 hx5 hx6
     go_wp2
     go_roundg (gk - 1)
     case measure => omega
     case rel =>
      refine ⟨rfl,rfl,k + 1,by omega,by go_num,by omega,?_,?_,?_,HB6.out.setCell (by show w.heap.size ≤ w.heap.size;omega) _⟩
      ·rw [HMT.out,if_pos trivial,List.length_append,HMC.out,List.length_singleton]
       go_num
      ·rw [HU1.out]
       exact (Below.heap_setCell _ _ _ _ (by show (w.heap.size + 1) ≠ w.heap.size;omega)).trans HN6.out
      ·rw [HMT.out,if_pos trivial,HU2.out]
       have h := HM6.out.set n2 (a2 + 1)
       push_cast at h
       exact h
    | false =>
     go_upto_region 9 with (go_at_call 109;refine (HSP.out _).mono ?_;rintro e w4 ⟨rfl,hb4⟩;unfold agR;have hb5 := ((Below.refl wr.heap.size wr).alloc (Nat.le_refl _) (.cells #[.int .u8 (t.1.toNat : Int),.int .i64 (t.2.1 : Int),.int .i64 (t.2.2 : Int)] 164)).trans (hb4.mono (by simp));obtain ⟨W5,hW5⟩ : ∃ W5,w4.alloc (.cells #[.int .i64 (n1 : Int),.int .i64 (b1 : Int),.int .u32 (x1 : Int),.int .i64 (n2 : Int),.int .i64 (b2 : Int),.int .u32 (x2 : Int),.bool false] 168) = W5 := ⟨_,rfl⟩;have hb6 : Below wr.heap.size wr W5 := (by rw [← hW5];exact hb5.alloc hb5.size _);have hx5 : W5.heap[w4.heap.size]? = some (.cells #[.int .i64 (n1 : Int),.int .i64 (b1 : Int),.int .u32 (x1 : Int),.int .i64 (n2 : Int),.int .i64 (b2 : Int),.int .u32 (x2 : Int),.bool false] 168 (0,0)) := (by rw [← hW5];exact heap_alloc_new w4 _);have hs4 : wr.heap.size ≤ w4.heap.size := hb5.size;have HW5 := Lib.hid hW5;clear hW5 hb4 hb5)
     rw [HW5.out]
     have HB5 := Lib.hid hb6
     have HN5 := Lib.hid (HNB1.out.below hb6 HNB1.out.lt)
     have HM5 := Lib.hid (HNB2.out.below hb6 HNB2.out.lt)
     have r0 : W5.cell? ⟨w4.heap.size,0,none⟩ = some (.int .i64 (n1 : Int)) := cell_of_row _ _ 0 _ _ _ hx5
     have q1 : W5.cell? ⟨(w.heap.size + 1),n1,none⟩ = some (.int .i64 (a1 : Int)) := HN5.out.cell HA1.out
     have f1 : W5.frozen? ⟨(w.heap.size + 1),n1,none⟩ = false := HN5.out.free
     obtain ⟨W6,hW6⟩ : ∃ W6,W5.setCell ⟨(w.heap.size + 1),n1,none⟩ (.int .i64 ((a1 : Int) + 1)) = W6 := ⟨_,rfl⟩
     have hl1 : (w.heap.size + 1) < wr.heap.size := HNB1.out.lt
     have hl2 : w.heap.size < wr.heap.size := HNB2.out.lt
     have hx6 : W6.heap[w4.heap.size]? = some (.cells #[.int .i64 (n1 : Int),.int .i64 (b1 : Int),.int .u32 (x1 : Int),.int .i64 (n2 : Int),.int .i64 (b2 : Int),.int .u32 (x2 : Int),.bool false] 168 (0,0)) := (by rw [← hW6];exact (Below.heap_setCell _ _ _ _ (by show w4.heap.size ≠ (w.heap.size + 1);omega)).trans hx5)
     have r3 : W6.cell? ⟨w4.heap.size,3,none⟩ = some (.int .i64 (n2 : Int)) := cell_of_row _ _ 3 _ _ _ hx6
     have r6 : W6.cell? ⟨w4.heap.size,6,none⟩ = some (.bool false) := cell_of_row _ _ 6 _ _ _ hx6
     have HN6 : Hid (NB W6 (w.heap.size + 1) (l1.set n1 (a1 + 1))) := (by show NB _ _ _;rw [← hW6];have h := HN5.out.set n1 (a1 + 1);push_cast at h;exact h)
     have HM6 : Hid (NB W6 w.heap.size l2) := (by show NB _ _ _;rw [← hW6];exact (Below.heap_setCell _ _ _ _ (by show w.heap.size ≠ (w.heap.size + 1);omega)).trans HM5.out)
     have q2 : W6.cell? ⟨w.heap.size,n2,none⟩ = some (.int .i64 (a2 : Int)) := HM6.out.cell HA2.out
     have f2 : W6.frozen? ⟨w.heap.size,n2,none⟩ = false := HM6.out.free
     have HB6 : Hid (Below w.heap.size w W6) := (by show Below _ _ _;rw [← hW6];exact (HBEL.out.trans (HB5.out.mono HBEL.out.size)).setCell (by show w.heap.size ≤ (w.heap.size + 1);omega) _)
     clear hb6 hx5 hx6
     go_wp2
     go_roundg (gk - 1)
     case measure => omega
     case rel =>
      refine ⟨rfl,rfl,k + 1,by omega,by go_num,by omega,?_,?_,?_,HB6.out⟩
      ·rw [HMT.out,if_neg (by simp),HMC.out]
      ·rw [HU1.out]
       exact HN6.out
      ·rw [HMT.out,if_neg (by simp),HL2.out]
       exact HM6.out
   ·obtain rfl : k = n := by omega
    rw [show ts.take k = ts from List.take_of_length_le (by rw [HN.out];exact Nat.le_refl _)] at HNB1 HNB2 HMC
    by_cases hlast : k < l
    ·obtain ⟨y,ln,d,hta,hrt⟩ : ∃ y ln d,TkAt w A k y ln d ∧ rightT y ln d = false := by
      rcases HEND.out with h | ⟨_,h⟩
      ·omega
      ·exact h
     obtain ⟨b,o,rfl,hbB,v0,v1,v2⟩ := hta.below HBEL.out
     have HSP := Lib.hid (fun W => split_no y ln d W hrt)
     clear hta hrt
     go_wp2_with (go_at_call 109;refine (HSP.out _).mono ?_;rintro e w4 ⟨rfl,hb4⟩;unfold agR;have hb5 := ((Below.refl wr.heap.size wr).alloc (Nat.le_refl _) (.cells #[.int .u8 y,.int .i64 ln,.int .i64 d] 164)).trans (hb4.mono (by simp));have HB5 := Lib.hid (HBEL.out.trans (hb5.mono HBEL.out.size));clear hb4 hb5)
     refine bodyPost_ret (results_tmp3 rfl _ _ _) rfl ⟨HB5.out.alloc HB5.out.size _,.inl ⟨hlast,rfl⟩⟩
    ·obtain rfl : k = l := by omega
     have hq256 : (incW (List.replicate 273 0) (fsts ts))[256]? = some ((fsts ts).count 256) := incW_at 273 _ (by decide)
     have HW1 : Hid (wt1 ts = (incW (List.replicate 273 0) (fsts ts)).set 256 ((fsts ts).count 256 + 1)) := by
      show _ = _
      rw [wt1,incW_append,incW_cons,List.getD,hq256]
      rfl
     have hcn1 : (fsts ts).count 256 ≤ 65536 := by
      have h := List.count_le_length (a := 256) (l := fsts ts)
      rw [fsts_len,HN.out] at h
      omega
     obtain ⟨l1,hl1⟩ : ∃ l1,incW (List.replicate 273 0) (fsts ts) = l1 := ⟨_,rfl⟩
     obtain ⟨a1,ha1⟩ : ∃ a1,(fsts ts).count 256 = a1 := ⟨_,rfl⟩
     rw [hl1] at HNB1 hq256 HW1
     rw [ha1] at hq256 HW1 hcn1
     have q1 : wr.cell? ⟨(w.heap.size + 1),256,none⟩ = some (.int .i64 (a1 : Int)) := HNB1.out.cell hq256
     have f1 : wr.frozen? ⟨(w.heap.size + 1),256,none⟩ = false := HNB1.out.free
     obtain ⟨W6,hW6⟩ : ∃ W6,wr.setCell ⟨(w.heap.size + 1),256,none⟩ (.int .i64 ((a1 : Int) + 1)) = W6 := ⟨_,rfl⟩
     have HN6 : Hid (NB W6 (w.heap.size + 1) (wt1 ts)) := by
      show NB _ _ _
      rw [← hW6,HW1.out]
      have h := HNB1.out.set 256 (a1 + 1)
      push_cast at h
      exact h
     have HM6 : Hid (NB W6 w.heap.size (incW (List.replicate 30 0) (mts ts))) := by
      show NB _ _ _
      rw [← hW6]
      exact (Below.heap_setCell _ _ _ _ (by show w.heap.size ≠ (w.heap.size + 1);omega)).trans HNB2.out
     have HB6 : Hid (Below w.heap.size w W6) := by
      show Below _ _ _
      rw [← hW6]
      exact HBEL.out.setCell (by show w.heap.size ≤ (w.heap.size + 1);omega) _
     clear hl1 ha1 hq256
     by_cases hm0 : mc = 0
     ·subst hm0
      have hnil : mts ts = [] := List.eq_nil_of_length_eq_zero HMC.out
      have hq0 : (incW (List.replicate 30 0) (mts ts))[0]? = some 0 := by rw [incW_at 30 _ (by decide),hnil];rfl
      have q2 : W6.cell? ⟨w.heap.size,0,none⟩ = some (.int .i64 ((0 : Nat) : Int)) := HM6.out.cell hq0
      have f2 : W6.frozen? ⟨w.heap.size,0,none⟩ = false := HM6.out.free
      have HW2 : Hid (wt2 ts = (incW (List.replicate 30 0) (mts ts)).set 0 1) := by
       show _ = _
       rw [wt2,if_pos hnil,hnil]
       rfl
      clear hq0 hnil
      go_wp2
      refine bodyPost_ret (results_tmp3 rfl _ _ _) rfl ⟨HB6.out.setCell (by show w.heap.size ≤ w.heap.size;omega) _,(w.heap.size + 1),w.heap.size,rfl,(Below.heap_setCell _ _ _ _ (by show (w.heap.size + 1) ≠ w.heap.size;omega)).trans HN6.out,by rw [HW2.out];exact HM6.out.set 0 1,by omega,by omega⟩
     ·have t0 : ((mc : Int) == 0) = false := by simp;omega
      have HW2 : Hid (wt2 ts = incW (List.replicate 30 0) (mts ts)) := by
       show _ = _
       rw [wt2,if_neg (fun e => hm0 (by rw [← HMC.out,e];rfl))]
      clear hm0
      go_wp2
      refine bodyPost_ret (results_tmp3 rfl _ _ _) rfl ⟨HB6.out,(w.heap.size + 1),w.heap.size,rfl,HN6.out,by rw [HW2.out];exact HM6.out,by omega,by omega⟩
set_option maxRecDepth 100000 in
set_option maxHeartbeats 1000000 in
theorem putClass_any (g q base n : Nat) (zs : List Int) (S : Nat → Prop) (L : List Bool) (c : Nat × Nat × Nat) (w : World) (hr : caR zs = true) (hc : LCa w n g zs) (hw : WrS w q base S L) (hL : L.length ≤ 1000000000) (hbase : base ≤ w.heap.size) (h2 : c.2.1 ≤ 13) (h3 : c.2.2 < 2 ^ c.2.1) :
  Calls Tryz.prog 110 #[.pointer (some ⟨q,0,none⟩),.pointer (some ⟨g,0,none⟩),.agg #[.int .i64 (c.1 : Int),.int .i64 (c.2.1 : Int),.int .u32 (c.2.2 : Int)]] w fun e w' => e = .returned (.tuple #[]) ∧ ∃ S',WrS w' q base S' (L ++ clsB zs c) ∧ Mod S w w' ∧ ∀ k,S' k → S k ∨ w.heap.size ≤ k := by
 obtain ⟨num,nb,ex⟩ := c
 dsimp only at h2 h3
 have h32 : ex < 4294967296 := Nat.lt_of_lt_of_le h3 (Nat.le_trans (Nat.pow_le_pow_right (by decide) h2) (by decide))
 obtain ⟨W1,hW1⟩ : ∃ W1,w.alloc (.cells #[.int .i64 (num : Int),.int .i64 (nb : Int),.int .u32 (ex : Int)] 166) = W1 := ⟨_,rfl⟩
 have HB1 : Hid (Below w.heap.size w W1) := by show Below _ _ _;rw [← hW1];exact (Below.refl _ w).alloc (Nat.le_refl _) _
 have HZ1 : Hid (W1.heap.size = w.heap.size + 1) := by show _ = _;rw [← hW1];simp
 have HX1 : Hid (W1.heap[w.heap.size]? = some (.cells #[.int .i64 (num : Int),.int .i64 (nb : Int),.int .u32 (ex : Int)] 166 (0,0))) := by show _ = _;rw [← hW1];exact heap_alloc_new w _
 have c0 : W1.cell? ⟨w.heap.size,0,none⟩ = some (.int .i64 (num : Int)) := cell_of_row _ _ 0 _ _ _ HX1.out
 have HP8 := Lib.hid (put8_any g q base zs S L (num : Int) W1 hr (hc.keep2 (Mod.of_below HB1.out) (fun _ h => h.elim)).lc (hw.keep (Mod.of_below HB1.out) (fun _ _ h => h)) (by omega) (by have := HZ1.out;omega))
 have HSL : Hid (∀ k,S k → k < w.heap.size) := hw.lt
 have HSY := Lib.hid (symB_len hr (num : Int))
 have hsy := HSY.out
 have HCB : Hid (clsB zs (num,nb,ex) = symB zs (num : Int) ++ bitsOf ex nb) := rfl
 have hz1 := HZ1.out
 clear hc hw hr h3
 go_enter Tryz.func110,Tryz.ntmps110
 go_wp2_with (first
  | (go_at_call 111;refine HP8.out.mono ?_;rintro e w2 ⟨rfl,S2,hw2,hm2,hs2⟩;have hx2 := hm2.keep HX1.out (fun h => by have := HSL.out _ h;omega);have HM2 := Lib.hid (((Mod.of_below HB1.out).mono (fun _ h => h.elim)).then_ hm2);have HS2 : Hid (∀ k,S2 k → S k ∨ w.heap.size ≤ k) := (fun k hk => (hs2 k hk).imp id (fun h => by omega));have c1' : w2.cell? ⟨w.heap.size,1,none⟩ = some (.int .i64 (nb : Int)) := cell_of_row _ _ 1 _ _ _ hx2;have c2' : w2.cell? ⟨w.heap.size,2,none⟩ = some (.int .u32 (ex : Int)) := cell_of_row _ _ 2 _ _ _ hx2;have HWP := Lib.hid (wput_any q base S2 _ (ex : Int) (nb : Int) w2 hw2 (by rw [List.length_append];omega) (by have := HM2.out.size;omega) (by omega) (by omega) (by omega) (by omega));rw [cnt_nat (k := nb) (by omega),Int.toNat_natCast,List.append_assoc,← HCB.out] at HWP;clear hw2 hm2 hs2 hx2)
  | (go_at_call 155;refine HWP.out.mono ?_;rintro e w3 ⟨rfl,S3,hw3,hm3,hs3⟩;have HW3 := Lib.hid hw3;have HM3 := Lib.hid (HM2.out.trans hm3 HS2.out);have HS3 : Hid (∀ k,S3 k → S k ∨ w.heap.size ≤ k) := (fun k hk => (hs3 k hk).elim (HS2.out k) (fun h => .inr (Nat.le_trans HM2.out.size h)));clear hw3 hm3 hs3))
 refine bodyPost_end (results_none rfl _ _ _) rfl ⟨rfl,S3,HW3.out,HM3.out,HS3.out⟩
theorem own_addr {w : World} {base : Nat} {e : TypeId} {size n c : Nat} {a : Addr} {xs : List Value} (h : w.ownsRow base e size (.slice (some a) n c) n xs) : base ≤ a.block := by
 obtain ⟨_,h2⟩ := h
 rcases h2 with ⟨h2,_⟩ | ⟨g,cap,cur,hv,hg,_⟩
 ·cases h2
 ·simp only [Value.slice.injEq,Option.some.injEq] at hv
  obtain ⟨rfl,_,_⟩ := hv
  exact hg
set_option maxRecDepth 100000 in
set_option maxHeartbeats 1000000 in
theorem putTable_any (A : Option Addr) (l c q base : Nat) (ws : List Nat) (S : Nat → Prop) (L : List Bool) (w : World) (hl : ws.length = l) (hm : l ≤ 320) (hb : Cells w w.heap.size A (nCs ws)) (hok : ∀ x ∈ ws,x ≤ 1073741824) (hpos : ∃ s x : Nat,ws[s]? = some x ∧ 0 < x) (hw : WrS w q base S L) (hL : L.length ≤ 100000000) (hbase : base ≤ w.heap.size) :
  Calls Tryz.prog 108 #[.pointer (some ⟨q,0,none⟩),.slice A l c] w fun e w' => ∃ g n S',e = .returned (.pointer (some ⟨g,0,none⟩)) ∧ WrS w' q base S' (L ++ tabP (lensW ws)) ∧ Mod S w w' ∧ (∀ k,S' k → S k ∨ w.heap.size ≤ k) ∧ LCa w' n g (zN (lensW ws)) ∧ (∀ k,S' k → k < n) ∧ g < w'.heap.size := by
 obtain ⟨s,x,hx,h0⟩ := hpos
 have hr := lensW_caR (by omega) hx h0
 have h1l : 1 ≤ l := by have := (List.getElem?_eq_some_iff.1 hx).1;omega
 have hv : ∀ y ∈ lensW ws,y ≤ 15 := fun y hy => by
  obtain ⟨k,hk⟩ := List.mem_iff_getElem?.1 hy
  have hkl := (List.getElem?_eq_some_iff.1 hk).1
  rw [lensW_len] at hkl
  have h2 := (lensW_pos (ns := ws) (by omega) (List.getElem?_eq_getElem hkl)).2
  rw [List.getD,hk] at h2
  exact h2
 have HLN := Lib.hid (lengths_ok A l c ws w.heap.size w hl (by omega) hb (Nat.le_refl _) hok)
 have HLL : Hid ((lensW ws).length = l) := by show _ = _;rw [lensW_len,hl]
 obtain ⟨os,hos⟩ : ∃ os,lensW ws = os := ⟨_,rfl⟩
 rw [hos] at HLN HLL hr hv ⊢
 have HR := Lib.hid hr
 have HV := Lib.hid hv
 have HW := Lib.hid hw
 clear hl hb hok hx h0 hr hv hw hos
 go_enter Tryz.func108,Tryz.ntmps108
 go_wp2_with (first
  | (go_at_call 150;refine HLN.out.mono ?_;rintro e w2 ⟨A2,c2,rfl,hown2,hb2⟩;have HO2 := Lib.hid hown2;have HB2 := Lib.hid hb2;clear hown2 hb2)
  | (go_at_call 151;refine (rnput_any A2 l c2 os q base S L w2 HLL.out h1l hm HV.out (Cells.of_own HO2.out) (fun a ha hS => by have h3 := HO2.out;rw [ha] at h3;have := own_addr h3;have := HW.out.lt _ hS;omega) (HW.out.keep (Mod.of_below HB2.out) (fun _ _ h => h)) (by omega) (Nat.le_trans hbase HB2.out.size)).mono ?_;rintro e w3 ⟨rfl,S3,hw3,hm3,hs3⟩;have HW3 := Lib.hid hw3;have HM3 := Lib.hid hm3;have HS3 := Lib.hid hs3;have HO3 := Lib.hid (own_keep HO2.out hm3 (fun k hk hS => by have := own_base HO2.out k hk;have := HW.out.lt _ hS;omega));clear hw3 hm3 hs3)
  | (go_at_call 152;refine (new_low A2 l c2 (zN os) w3.heap.size w3 (by rw [zN_len];exact HLL.out) (by omega) (by rw [show (zN os).map ic = nCs os from nCs_ic _];exact Cells.of_own HO3.out) (Nat.le_refl _) HR.out).mono ?_;rintro e w5 ⟨g,rfl,hlc,hb5⟩;have HLC := Lib.hid hlc;have HB5 := Lib.hid hb5;clear hlc hb5))
 go_ret
 refine ⟨g,w3.heap.size,S3,rfl,HW3.out.keep (Mod.of_below HB5.out) (fun _ _ h => h),?_,fun k hk => (HS3.out k hk).imp id (fun h => Nat.le_trans HB2.out.size h),HLC.out,HW3.out.lt,?_⟩
 ·exact (((Mod.of_below HB2.out).mono (fun _ h => h.elim)).then_ HM3.out).then_ ((Mod.of_below HB5.out).mono fun _ h => h.elim)
 ·obtain ⟨_,_,_,_,_,_,_,h,_⟩ := HLC.out
  exact cb_lt h
structure BkI (w4 W : World) (q base : Nat) (S4 S' : Nat → Prop) (M : List Bool) : Prop where
 wr : WrS W q base S' M
 mod : Mod S4 w4 W
 own : ∀ k,S' k → S4 k ∨ w4.heap.size ≤ k
section
variable {w4 X Y : World} {q base : Nat} {S4 S1 S2 : Nat → Prop} {M M2 : List Bool}
theorem BkI.next (h : BkI w4 X q base S4 S1 M) (hw : WrS Y q base S2 M2) (hm : Mod S1 X Y) (hs : ∀ k,S2 k → S1 k ∨ X.heap.size ≤ k) : BkI w4 Y q base S4 S2 M2 :=
 ⟨hw,h.mod.trans hm h.own,fun k hk => (hs k hk).elim (h.own k) (fun h2 => .inr (Nat.le_trans h.mod.size h2))⟩
theorem BkI.below (h : BkI w4 X q base S4 S1 M) (hb : Below X.heap.size X Y) : BkI w4 Y q base S4 S1 M :=
 ⟨h.wr.keep (Mod.of_below hb) (fun _ _ h => h),h.mod.then_ ((Mod.of_below hb).mono fun _ h => h.elim),h.own⟩
end
theorem clsB_len {zs : List Int} (hr : caR zs = true) {c : Nat × Nat × Nat} (hc : c.2.1 ≤ 13) : (clsB zs c).length ≤ 28 := by
 have h := symB_len hr (c.1 : Int)
 unfold clsB
 rw [List.length_append,bitsOf_length]
 omega
theorem toksB_len {z1 z2 : List Int} (h1 : caR z1 = true) (h2 : caR z2 = true) : ∀ {ts : List Tk},(∀ t ∈ ts,okT t) → (toksB z1 z2 ts).length ≤ 56 * ts.length
 | [],_ => Nat.zero_le _
 | t :: ts,h => by
  have hok := h t List.mem_cons_self
  have ih := toksB_len h1 h2 (ts := ts) (fun x hx => h x (List.mem_cons_of_mem _ hx))
  have a1 := clsB_len h1 (cls1_lt hok).2.1
  have a2 := clsB_len h2 (cls2_lt hok).2.1
  have e : toksB z1 z2 (t :: ts) = tokB z1 z2 t ++ toksB z1 z2 ts := rfl
  rw [e,List.length_append,List.length_cons]
  have a3 : (tokB z1 z2 t).length ≤ 56 := by
   unfold tokB
   rw [List.length_append]
   split
   ·omega
   ·rw [List.length_nil];omega
  omega
theorem TkAt.mod {w W : World} {S : Nat → Prop} {A : Option Addr} {k : Nat} {y l d : Int} (h : TkAt w A k y l d) (hm : Mod S w W) (hA : ∀ a,A = some a → ¬ S a.block) : TkAt W A k y l d := by
 obtain ⟨b,o,rfl,h2,h3,h4,h5⟩ := h
 have hb := hm.block b h2 (hA _ rfl)
 exact ⟨b,o,rfl,Nat.lt_of_lt_of_le h2 hm.size,(World.cell?_of_block (a := ⟨b,o + k * 3,none⟩) hb).trans h3,(World.cell?_of_block (a := ⟨b,o + k * 3 + 1,none⟩) hb).trans h4,(World.cell?_of_block (a := ⟨b,o + k * 3 + 2,none⟩) hb).trans h5⟩
set_option maxRecDepth 100000 in
set_option maxHeartbeats 4000000 in
theorem blkput_any (A : Option Addr) (l c q base : Nat) (ts : List Tk) (S : Nat → Prop) (L : List Bool) (w : World) (hl : ts.length = l) (hm : l ≤ 65536) (hk : ∀ t ∈ ts,okT t) (hc : ∀ k t,ts[k]? = some t → TkAt w A k (t.1.toNat : Int) (t.2.1 : Int) (t.2.2 : Int)) (hA : 0 < l → ∀ a,A = some a → ¬ S a.block)
  (hw : WrS w q base S L) (hL : L.length ≤ 1000) (hbase : base ≤ w.heap.size) :
  Calls Tryz.prog 65 #[.pointer (some ⟨q,0,none⟩),.slice A l c] w fun e w' => e = .returned (.int .i64 0) ∧ ∃ S',WrS w' q base S' (L ++ blkB ts) ∧ Mod S w w' ∧ ∀ k,S' k → S k ∨ w.heap.size ≤ k := by
 have HWT := Lib.hid (weights_gen A l c ts w hm hk hc (.inl hl))
 have HW := Lib.hid hw
 have HK := Lib.hid hk
 have HL := Lib.hid hl
 have HA := Lib.hid hA
 have HC := Lib.hid hc
 have HR1 : Hid (caR (zN (lensW (wt1 ts))) = true) := by
  obtain ⟨x,hx,h0⟩ := wt1_end ts
  exact lensW_caR (by rw [wt1_len];omega) hx h0
 have HR2 : Hid (caR (zN (lensW (wt2 ts))) = true) := by
  obtain ⟨s,x,hx,h0⟩ := wt2_some ts hk
  exact lensW_caR (by rw [wt2_len];omega) hx h0
 have HSL : Hid (∀ k,S k → k < w.heap.size) := hw.lt
 clear hw hk hl hA hc
 go_enter Tryz.func65,Tryz.ntmps65
 go_wp2_with fail
 refine HWT.out.mono ?_
 rintro e w2 ⟨hb2,⟨hlt,_⟩ | ⟨_,g1,g2,rfl,hn1,hn2,hg1,hg2⟩⟩
 ·have := HL.out
  omega
 have HB2 := Lib.hid hb2
 have hw2s := hb2.size
 have HN1 := Lib.hid hn1
 have HN2 := Lib.hid hn2
 have HT1 := Lib.hid (putTable_any (some ⟨g1,0,none⟩) 273 273 q base (wt1 ts) S L w2 (wt1_len ts) (by omega) (NB.cellsT hn1) (fun x hx => by
   have h1 := incW_le 273 _ x hx
   rw [List.length_append,fsts,List.length_map,HL.out] at h1
   simp at h1
   omega) (by obtain ⟨x,h1,h2⟩ := wt1_end ts;exact ⟨256,x,h1,h2⟩) (HW.out.keep (Mod.of_below hb2) (fun _ _ h => h)) (by omega) (by omega))
 have HT2 : Hid (∀ (W : World) (S' : Nat → Prop) (L' : List Bool),NB W g2 (wt2 ts) → WrS W q base S' L' → L'.length ≤ 100000000 → base ≤ W.heap.size → _) := fun W S' L' hn hw hl hb => putTable_any (some ⟨g2,0,none⟩) 30 30 q base (wt2 ts) S' L' W (wt2_len ts) (by omega) (NB.cellsT hn) (fun x hx => by
   have h1 := incW_le 30 _ x hx
   have h2 := mts_len ts
   split at h1
   ·simp at h1;omega
   ·have := HL.out;omega) (wt2_some ts HK.out) hw hl hb
 have HTL : Hid (∀ ws : List Nat,ws.length ≤ 320 → (∃ s x : Nat,ws[s]? = some x ∧ 0 < x) → (tabP (lensW ws)).length ≤ 100000) := fun ws hws hex => by
  obtain ⟨s,x,hx,h0⟩ := hex
  have hv : ∀ y ∈ lensW ws,y ≤ 15 := fun y hy => by
   obtain ⟨k,hk⟩ := List.mem_iff_getElem?.1 hy
   have hkl := (List.getElem?_eq_some_iff.1 hk).1
   rw [lensW_len] at hkl
   have h2 := (lensW_pos (ns := ws) (by omega) (List.getElem?_eq_getElem hkl)).2
   rw [List.getD,hk] at h2
   exact h2
  obtain ⟨t,ht⟩ := partsP_ne (ls := lensW ws) (by rw [lensW_len];have := (List.getElem?_eq_some_iff.1 hx).1;omega)
  have h2 := partsB_len (lnP_right ht (partsP_all hv t ht)) (partsP (lensW ws) 0)
  have h3 := parts_few (lensW ws)
  rw [lensW_len] at h3
  rw [tabP,List.length_append,List.length_append,bitsOf_length,lensB_len,lnP_len]
  omega
 have HTL1 := HTL.out (wt1 ts) (by rw [wt1_len];omega) (by obtain ⟨x,h1,h2⟩ := wt1_end ts;exact ⟨256,x,h1,h2⟩)
 have HTL2 := HTL.out (wt2 ts) (by rw [wt2_len];omega) (wt2_some ts HK.out)
 obtain ⟨z1,hz1⟩ : ∃ z1,zN (lensW (wt1 ts)) = z1 := ⟨_,rfl⟩
 obtain ⟨z2,hz2⟩ : ∃ z2,zN (lensW (wt2 ts)) = z2 := ⟨_,rfl⟩
 obtain ⟨T1,hT1⟩ : ∃ T1,tabP (lensW (wt1 ts)) = T1 := ⟨_,rfl⟩
 obtain ⟨T2,hT2⟩ : ∃ T2,tabP (lensW (wt2 ts)) = T2 := ⟨_,rfl⟩
 have HBLK : Hid (L ++ blkB ts = ((L ++ T1) ++ T2) ++ toksB z1 z2 ts ++ symB z1 256) := by show _ = _;rw [blkB,hz1,hz2,hT1,hT2];simp only [List.append_assoc]
 rw [hz1] at HR1
 rw [hz2] at HR2
 rw [hz1,hT1] at HT1
 rw [hT1] at HTL1
 rw [hT2] at HTL2
 rw [hz2,hT2] at HT2
 clear hn1 hn2 hb2 hz1 hz2 hT1 hT2 HTL HWT
 go_wp2_with (first
  | (go_at_call 108;refine HT1.out.mono ?_;rintro e w3 ⟨ga,na,S3,rfl,hw3,hm3,hs3,hla,hna,hga⟩;clear HT1;have HW3 := Lib.hid hw3;have HM3 := Lib.hid hm3;have HS3 := Lib.hid hs3;have HLA := Lib.hid hla;have HNA := Lib.hid hna;have HGA := Lib.hid hga;have HN3 := Lib.hid (show NB w3 g2 (wt2 ts) from hm3.keep HN2.out (fun h => by have := HSL.out g2 h;omega));clear hw3 hm3 hs3 hla hna hga)
  | (go_at_call 108;refine (HT2.out w3 S3 _ HN3.out HW3.out (by rw [List.length_append];omega) (by have := HM3.out.size;omega)).mono ?_;rintro e w4 ⟨gb,nb,S4,rfl,hw4,hm4,hs4,hlb,hnb,hgb⟩;have HW4 := Lib.hid hw4;have HM4 := Lib.hid hm4;have HS4 := Lib.hid hs4;have HLB := Lib.hid hlb;have HNB4 := Lib.hid hnb;have HLA4 := Lib.hid (HLA.out.keep2 hm4 (fun k hk => .inl (HNA.out k hk)));clear hw4 hm4 hs4 hlb hnb hgb))
 have HOW : Hid (∀ k,S4 k → S k ∨ w.heap.size ≤ k) := fun k hk => (HS4.out k hk).elim (fun h => (HS3.out k h).imp id (fun h => by have := HB2.out.size;omega)) (fun h => .inr (by have := HB2.out.size;have := HM3.out.size;omega))
 have HMW : Hid (∀ W,Mod S4 w4 W → Mod S w W) := fun W hW => ((((Mod.of_below HB2.out).mono (fun _ h => h.elim)).then_ HM3.out).trans HM4.out (fun k hk => (HS3.out k hk).imp id (fun h => by have := HB2.out.size;omega))).trans hW HOW.out
 have HLAW : Hid (∀ W,Mod S4 w4 W → LCa W na ga z1) := fun W hW => HLA4.out.keep2 hW (fun k hk => (HS4.out k hk).imp (HNA.out k) (fun h => by have := HGA.out;omega))
 have HLBW : Hid (∀ W,Mod S4 w4 W → LCa W nb gb z2) := fun W hW => HLB.out.keep hW HNB4.out
 obtain ⟨M4,hM4⟩ : ∃ M4,(L ++ T1) ++ T2 = M4 := ⟨_,rfl⟩
 have HM4E := Lib.hid hM4
 have hM4l : M4.length ≤ 300000 := by rw [← hM4,List.length_append,List.length_append];omega
 have HI0 : Hid (BkI w4 w4 q base S4 S4 (M4 ++ toksB z1 z2 (ts.take 0))) := ⟨by have h := HW4.out;rw [hM4] at h;simpa [toksB] using h,Mod.refl _ _,fun _ h => .inl h⟩
 have HTB : Hid (∀ k,(toksB z1 z2 (ts.take k)).length ≤ 3700000) := fun k => by
  have h := toksB_len HR1.out HR2.out (ts := ts.take k) (fun t ht => HK.out t (List.mem_of_mem_take ht))
  rw [List.length_take] at h
  omega
 clear hM4 HW4 HN1 HN2 HN3 HLA HW3 HTL1 HTL2 HT2
 go_loopg [32] l (fun gk i wr => ∃ (k : Nat) (S' : Nat → Prop),k + gk = l ∧ i = .int .i64 (k : Int) ∧ BkI w4 wr q base S4 S' (M4 ++ toksB z1 z2 (ts.take k)))
 case atStart => exact ⟨0,S4,by omega,rfl,HI0.out⟩
 case round =>
  obtain ⟨k,S',hkg,rfl,hbi⟩ := hrel
  have HBI := Lib.hid hbi
  have htb := HTB.out k
  have hlen : (M4 ++ toksB z1 z2 (ts.take k)).length ≤ 4000000 := by rw [List.length_append];omega
  clear hbi HI0
  by_cases hkl : k < l
  ·obtain ⟨t,ht⟩ : ∃ t,ts[k]? = some t := ⟨_,List.getElem?_eq_getElem (by rw [HL.out];exact hkl)⟩
   have hok := HK.out t (List.mem_of_getElem? ht)
   have HSP := Lib.hid (fun W => splitT_any t W hok)
   have hc1 := cls1_lt hok
   have hc2 := cls2_lt hok
   have HTK : Hid (toksB z1 z2 (ts.take (k + 1)) = toksB z1 z2 (ts.take k) ++ tokB z1 z2 t) := by show _ = _;rw [List.take_add_one,ht,← toksB_snoc];rfl
   have HTO : Hid (tokB z1 z2 t = clsB z1 (cls1 t) ++ (if isM t then clsB z2 (cls2 t) else [])) := rfl
   obtain ⟨b,o,rfl,hbB,v0,v1,v2⟩ := (HC.out k t ht).mod (HMW.out wr HBI.out.mod) (HA.out (by omega))
   obtain ⟨⟨n1,b1,x1⟩,hq1⟩ : ∃ q,cls1 t = q := ⟨_,rfl⟩
   obtain ⟨⟨n2,b2,x2⟩,hq2⟩ : ∃ q,cls2 t = q := ⟨_,rfl⟩
   rw [hq1] at HSP HTO hc1
   rw [hq2] at HSP HTO hc2
   obtain ⟨m,hmm⟩ : ∃ m,isM t = m := ⟨_,rfl⟩
   rw [hmm] at HSP HTO
   dsimp only at HSP hc1 hc2
   clear ht hok hq1 hq2 hmm htb hbB
   cases m with
   | true =>
     go_upto_region 11 with (go_at_call 109;refine (HSP.out _).mono ?_;rintro e w6 ⟨rfl,hb6⟩;unfold agR;have hb7 := ((Below.refl wr.heap.size wr).alloc (Nat.le_refl _) (.cells #[.int .u8 (t.1.toNat : Int),.int .i64 (t.2.1 : Int),.int .i64 (t.2.2 : Int)] 164)).trans (hb6.mono (by simp));obtain ⟨W5,hW5⟩ : ∃ W5,w6.alloc (.cells #[.int .i64 (n1 : Int),.int .i64 (b1 : Int),.int .u32 (x1 : Int),.int .i64 (n2 : Int),.int .i64 (b2 : Int),.int .u32 (x2 : Int),.bool true] 168) = W5 := ⟨_,rfl⟩;have hb8 : Below wr.heap.size wr W5 := (by rw [← hW5];exact hb7.alloc hb7.size _);have hx5 : W5.heap[w6.heap.size]? = some (.cells #[.int .i64 (n1 : Int),.int .i64 (b1 : Int),.int .u32 (x1 : Int),.int .i64 (n2 : Int),.int .i64 (b2 : Int),.int .u32 (x2 : Int),.bool true] 168 (0,0)) := (by rw [← hW5];exact heap_alloc_new w6 _);have hs6 : wr.heap.size ≤ w6.heap.size := hb7.size;have HW5 := Lib.hid hW5;clear hW5 hb6 hb7)
     rw [HW5.out]
     have HI5 := Lib.hid (HBI.out.below hb8)
     have HX5 := Lib.hid hx5
     have r0 : W5.cell? ⟨w6.heap.size,0,none⟩ = some (.int .i64 (n1 : Int)) := cell_of_row _ _ 0 _ _ _ hx5
     have r1 : W5.cell? ⟨w6.heap.size,1,none⟩ = some (.int .i64 (b1 : Int)) := cell_of_row _ _ 1 _ _ _ hx5
     have r2 : W5.cell? ⟨w6.heap.size,2,none⟩ = some (.int .u32 (x1 : Int)) := cell_of_row _ _ 2 _ _ _ hx5
     have hbw5 : base ≤ W5.heap.size := by have := HI5.out.mod.size;have := HM4.out.size;have := HM3.out.size;omega
     have HP1 := Lib.hid (putClass_any ga q base na z1 S' (M4 ++ toksB z1 z2 (ts.take k)) (n1,b1,x1) W5 HR1.out (HLAW.out W5 HI5.out.mod) HI5.out.wr (by omega) hbw5 hc1.2.1 hc1.2.2)
     have HLT : Hid (∀ j,S' j → j < wr.heap.size) := HBI.out.wr.lt
     clear hb8 hx5 HW5
     go_wp2_with (first
      | (go_at_call 110;refine HP1.out.mono ?_;rintro e w7 ⟨rfl,S7,hw7,hm7,hs7⟩;clear HP1;have HI7 := Lib.hid (HI5.out.next hw7 hm7 hs7);have hx7 := hm7.keep HX5.out (fun h => by have := HLT.out _ h;omega);have r3 : w7.cell? ⟨w6.heap.size,3,none⟩ = some (.int .i64 (n2 : Int)) := cell_of_row _ _ 3 _ _ _ hx7;have r4 : w7.cell? ⟨w6.heap.size,4,none⟩ = some (.int .i64 (b2 : Int)) := cell_of_row _ _ 4 _ _ _ hx7;have r5 : w7.cell? ⟨w6.heap.size,5,none⟩ = some (.int .u32 (x2 : Int)) := cell_of_row _ _ 5 _ _ _ hx7;have r6 : w7.cell? ⟨w6.heap.size,6,none⟩ = some (.bool true) := cell_of_row _ _ 6 _ _ _ hx7;have HP2 := Lib.hid (putClass_any gb q base nb z2 S7 ((M4 ++ toksB z1 z2 (ts.take k)) ++ clsB z1 (n1,b1,x1)) (n2,b2,x2) w7 HR2.out (HLBW.out w7 HI7.out.mod) HI7.out.wr (by rw [List.length_append];have := clsB_len HR1.out (c := (n1,b1,x1)) hc1.2.1;omega) (by have := hm7.size;omega) hc2.2.1 hc2.2.2);clear hw7 hm7 hs7 hx7)
      | (go_at_call 110;refine HP2.out.mono ?_;rintro e w8 ⟨rfl,S8,hw8,hm8,hs8⟩;have HI8 := Lib.hid (HI7.out.next hw8 hm8 hs8);clear hw8 hm8 hs8))
     go_roundg (gk - 1)
     case measure => omega
     case rel =>
      refine ⟨k + 1,S8,by omega,by go_num,?_⟩
      have h := HI8.out
      rw [HTK.out,HTO.out]
      simpa only [if_true,Bool.false_eq_true,if_false,List.append_nil,List.append_assoc] using h
   | false =>
     go_upto_region 11 with (go_at_call 109;refine (HSP.out _).mono ?_;rintro e w6 ⟨rfl,hb6⟩;unfold agR;have hb7 := ((Below.refl wr.heap.size wr).alloc (Nat.le_refl _) (.cells #[.int .u8 (t.1.toNat : Int),.int .i64 (t.2.1 : Int),.int .i64 (t.2.2 : Int)] 164)).trans (hb6.mono (by simp));obtain ⟨W5,hW5⟩ : ∃ W5,w6.alloc (.cells #[.int .i64 (n1 : Int),.int .i64 (b1 : Int),.int .u32 (x1 : Int),.int .i64 (n2 : Int),.int .i64 (b2 : Int),.int .u32 (x2 : Int),.bool false] 168) = W5 := ⟨_,rfl⟩;have hb8 : Below wr.heap.size wr W5 := (by rw [← hW5];exact hb7.alloc hb7.size _);have hx5 : W5.heap[w6.heap.size]? = some (.cells #[.int .i64 (n1 : Int),.int .i64 (b1 : Int),.int .u32 (x1 : Int),.int .i64 (n2 : Int),.int .i64 (b2 : Int),.int .u32 (x2 : Int),.bool false] 168 (0,0)) := (by rw [← hW5];exact heap_alloc_new w6 _);have hs6 : wr.heap.size ≤ w6.heap.size := hb7.size;have HW5 := Lib.hid hW5;clear hW5 hb6 hb7)
     rw [HW5.out]
     have HI5 := Lib.hid (HBI.out.below hb8)
     have HX5 := Lib.hid hx5
     have r0 : W5.cell? ⟨w6.heap.size,0,none⟩ = some (.int .i64 (n1 : Int)) := cell_of_row _ _ 0 _ _ _ hx5
     have r1 : W5.cell? ⟨w6.heap.size,1,none⟩ = some (.int .i64 (b1 : Int)) := cell_of_row _ _ 1 _ _ _ hx5
     have r2 : W5.cell? ⟨w6.heap.size,2,none⟩ = some (.int .u32 (x1 : Int)) := cell_of_row _ _ 2 _ _ _ hx5
     have hbw5 : base ≤ W5.heap.size := by have := HI5.out.mod.size;have := HM4.out.size;have := HM3.out.size;omega
     have HP1 := Lib.hid (putClass_any ga q base na z1 S' (M4 ++ toksB z1 z2 (ts.take k)) (n1,b1,x1) W5 HR1.out (HLAW.out W5 HI5.out.mod) HI5.out.wr (by omega) hbw5 hc1.2.1 hc1.2.2)
     have HLT : Hid (∀ j,S' j → j < wr.heap.size) := HBI.out.wr.lt
     clear hb8 hx5 HW5
     go_wp2_with (first
      | (go_at_call 110;refine HP1.out.mono ?_;rintro e w7 ⟨rfl,S7,hw7,hm7,hs7⟩;clear HP1;have HI7 := Lib.hid (HI5.out.next hw7 hm7 hs7);have hx7 := hm7.keep HX5.out (fun h => by have := HLT.out _ h;omega);have r3 : w7.cell? ⟨w6.heap.size,3,none⟩ = some (.int .i64 (n2 : Int)) := cell_of_row _ _ 3 _ _ _ hx7;have r4 : w7.cell? ⟨w6.heap.size,4,none⟩ = some (.int .i64 (b2 : Int)) := cell_of_row _ _ 4 _ _ _ hx7;have r5 : w7.cell? ⟨w6.heap.size,5,none⟩ = some (.int .u32 (x2 : Int)) := cell_of_row _ _ 5 _ _ _ hx7;have r6 : w7.cell? ⟨w6.heap.size,6,none⟩ = some (.bool false) := cell_of_row _ _ 6 _ _ _ hx7; clear hw7 hm7 hs7 hx7))
     go_roundg (gk - 1)
     case measure => omega
     case rel =>
      refine ⟨k + 1,S7,by omega,by go_num,?_⟩
      have h := HI7.out
      rw [HTK.out,HTO.out]
      simpa only [if_true,Bool.false_eq_true,if_false,List.append_nil,List.append_assoc] using h
  ·obtain rfl : k = l := by omega
   rw [show ts.take k = ts from List.take_of_length_le (by rw [HL.out];exact Nat.le_refl _)] at HBI hlen
   have HP9 := Lib.hid (put8_any ga q base z1 S' (M4 ++ toksB z1 z2 ts) 256 wr HR1.out (HLAW.out wr HBI.out.mod).lc HBI.out.wr (by omega) (by have := HBI.out.mod.size;have := HM4.out.size;have := HM3.out.size;omega))
   go_wp2_with (go_at_call 111;refine HP9.out.mono ?_;rintro e w9 ⟨rfl,S9,hw9,hm9,hs9⟩;have HI9 := Lib.hid (HBI.out.next hw9 hm9 hs9);clear hw9 hm9 hs9)
   go_ret
   refine ⟨rfl,S9,?_,HMW.out _ HI9.out.mod,fun j hj => (HI9.out.own j hj).elim (HOW.out j) (fun h => .inr (by have := HM4.out.size;have := HM3.out.size;have := HB2.out.size;omega))⟩
   have h := HI9.out.wr
   rw [HBLK.out,HM4E.out]
   exact h
end Go.Proofs.YtaknladkodibaaaGreatDoor
namespace Go.Proofs.YtaknladkodibaaaGreatDoor
open Go.RowKit BitsP SymP
attribute [local go_sem ↓] Go.wp_at_zero Go.wp_at_succ
end Go.Proofs.YtaknladkodibaaaGreatDoor
namespace Go.Proofs.YtaknladkodibaaaGreatDoor
open Go.RowKit BitsP SymP
def ToksOf (w : World) (A : Option Addr) (l : Nat) (ts : List Tk) : Prop :=
 (∀ t ∈ ts,okT t) ∧ (∀ k t,ts[k]? = some t → TkAt w A k (t.1.toNat : Int) (t.2.1 : Int) (t.2.2 : Int)) ∧ (ts.length = l ∨ (ts.length < l ∧ ∃ y ln d,TkAt w A ts.length y ln d ∧ rightT y ln d = false))
theorem ToksOf.below {w W : World} {A : Option Addr} {l : Nat} {ts : List Tk} (h : ToksOf w A l ts) (hb : Below w.heap.size w W) : ToksOf W A l ts :=
 ⟨h.1,fun k t ht => (h.2.1 k t ht).below hb,h.2.2.imp id fun ⟨h1,y,ln,d,h2,h3⟩ => ⟨h1,y,ln,d,h2.below hb,h3⟩⟩
section
variable {A : Option Addr} {l c : Nat} {ts : List Tk} {w : World}
end
end Go.Proofs.YtaknladkodibaaaGreatDoor
namespace Go.Proofs.YtaknladkodibaaaGreatDoor
open BitsP
end Go.Proofs.YtaknladkodibaaaGreatDoor
namespace Go.Proofs.YtaknladkodibaaaGreatDoor
open BitsP SymP
theorem lensW_le {ws : List Nat} (hl : ws.length ≤ 320) : ∀ y ∈ lensW ws,y ≤ 15 := fun y hy => by
 obtain ⟨k,hk⟩ := List.mem_iff_getElem?.1 hy
 have hkl := (List.getElem?_eq_some_iff.1 hk).1
 rw [lensW_len] at hkl
 have h2 := (lensW_pos (ns := ws) (by omega) (List.getElem?_eq_getElem hkl)).2
 rw [List.getD,hk] at h2
 exact h2
theorem tokAt_kind (bs : List UInt8) (lv : Int) (p : Nat) : tokAt bs lv p = (bs.getD p 0,0,0) ∨
  ∃ n d : Nat,tokAt bs lv p = (0,n,d) ∧ 3 ≤ n ∧ n ≤ 258 ∧ 1 ≤ d ∧ d ≤ 32768 ∧ d ≤ p ∧ p + n ≤ bs.length := by
 unfold tokAt
 split
 ·exact .inl rfl
 ·rename_i h
  refine .inr ⟨_,_,rfl,?_⟩
  rcases bestM_of bs (p : Int) (depthN lv) with h0 | ⟨hd,hn⟩
  ·exact absurd (.inl (by rw [h0])) h
  ·have h3 := lenI_three hd
   have hb := bestM_le bs (p : Int) (depthN lv)
   obtain ⟨_,hc1,hc2,hc3,hc4,_⟩ := cand_of hd
   rw [hn] at hb ⊢
   have hr := lenI_at bs (a := p) (d := (bestM bs (p : Int) (depthN lv)).2) (by omega) hc2 hc3 (by omega)
   rw [hr] at h3 hb ⊢
   have hle := runM_le bs p (bestM bs (p : Int) (depthN lv)).2 (capM bs p) 0
   have hcap : capM bs p ≤ bs.length - p := by unfold capM;omega
   exact ⟨h3,hb,hc2,hc3,by omega,by omega⟩
theorem tokAt_okT (bs : List UInt8) (lv : Int) (p : Nat) : okT (tokAt bs lv p) := by
 rcases tokAt_kind bs lv p with h | ⟨n,d,h,h1,h2,h3,h4,_⟩
 ·rw [h];exact .inl ⟨rfl,rfl⟩
 ·rw [h];exact .inr ⟨h1,h2,h3,h4,rfl⟩
theorem toks_okT (bs : List UInt8) (lv : Int) : ∀ (k p : Nat),bs.length - p ≤ k → ∀ t ∈ toks bs lv p,okT t
 | 0,p,h => by rw [toks_end (by omega)];intro t ht;cases ht
 | k + 1,p,h => by
  by_cases hp : p < bs.length
  ·have h1 := tsz_pos (tokAt bs lv p)
   rw [toks_step hp]
   intro t ht
   rcases List.mem_cons.1 ht with rfl | ht
   ·exact tokAt_okT _ _ _
   ·exact toks_okT bs lv k _ (by omega) t ht
  ·rw [toks_end (by omega)];intro t ht;cases ht
theorem tab_few {ws : List Nat} (hws : ws.length ≤ 320) (hex : ∃ s x : Nat,ws[s]? = some x ∧ 0 < x) : (tabP (lensW ws)).length ≤ 100000 := by
 obtain ⟨s,x,hx,h0⟩ := hex
 have hv := lensW_le hws
 obtain ⟨t,ht⟩ := partsP_ne (ls := lensW ws) (by rw [lensW_len];have := (List.getElem?_eq_some_iff.1 hx).1;omega)
 have h2 := partsB_len (lnP_right ht (partsP_all hv t ht)) (partsP (lensW ws) 0)
 have h3 := parts_few (lensW ws)
 rw [lensW_len] at h3
 rw [tabP,List.length_append,List.length_append,bitsOf_length,lensB_len,lnP_len]
 omega
theorem blkB_few {ts : List Tk} (hok : ∀ t ∈ ts,okT t) : (blkB ts).length ≤ 200015 + 56 * ts.length := by
 have h1 := tab_few (ws := wt1 ts) (by rw [wt1_len];omega) (by obtain ⟨x,h1,h2⟩ := wt1_end ts;exact ⟨256,x,h1,h2⟩)
 have h2 := tab_few (ws := wt2 ts) (by rw [wt2_len];omega) (wt2_some ts hok)
 have hr1 : caR (zN (lensW (wt1 ts))) = true := by
  obtain ⟨x,hx,h0⟩ := wt1_end ts
  exact lensW_caR (by rw [wt1_len];omega) hx h0
 have hr2 : caR (zN (lensW (wt2 ts))) = true := by
  obtain ⟨s,x,hx,h0⟩ := wt2_some ts hok
  exact lensW_caR (by rw [wt2_len];omega) hx h0
 have h3 := toksB_len hr1 hr2 hok
 have h4 := symB_len hr1 256
 rw [blkB,List.length_append,List.length_append,List.length_append]
 omega
end Go.Proofs.YtaknladkodibaaaGreatDoor
namespace Go.Proofs.YtaknladkodibaaaGreatDoor
open Go.RowKit BitsP SymP
theorem toksOf_tk {w : World} {A : Option Addr} {ts : List Tk} (h : ∀ t ∈ ts,okT t) (hc : Cells w w.heap.size A (ts.map tkC).flatten) : ToksOf w A ts.length ts := by
 refine ⟨h,fun k t ht => ?_,.inl rfl⟩
 have c0 := code_at (tkC_len ts) (j := 0) ht rfl
 have c1 := code_at (tkC_len ts) (j := 1) ht rfl
 have c2 := code_at (tkC_len ts) (j := 2) ht rfl
 obtain ⟨b,o,h1,h2,h3⟩ := hc (by have := (List.getElem?_eq_some_iff.1 c0).1;omega)
 exact ⟨b,o,h1,h2,h3 _ _ c0,by have h4 := h3 _ _ c1;rw [← Nat.add_assoc] at h4;exact h4,by have h4 := h3 _ _ c2;rw [← Nat.add_assoc] at h4;exact h4⟩
theorem LCa.below_ {w w' : World} {n g : Nat} {zs : List Int} (h : LCa w n g zs) (hb : Below w.heap.size w w') : LCa w' n g zs := h.keep2 (Mod.of_below hb) (fun _ h => h.elim)
set_option maxRecDepth 100000 in
set_option maxHeartbeats 2000000 in
theorem blktake_any (F : List Int → List Bool → Int × Int × Nat) (hF : FunT F) (r base : Nat) (S : Nat → Prop) (bs : List UInt8) (p : Nat) (most : Int) (w : World) (hrd : RdS w r base S bs p) (hbl : bs.length ≤ 1000000) (m0 : -9223372036854775808 ≤ most) (m1 : most ≤ 9223372036854775807) :
  Calls Tryz.prog 136 #[.pointer (some ⟨r,0,none⟩),.int .i64 most] w
   fun e w' => ∃ (A : Option Addr) (c p' : Nat) (t : Int × List Tk × Nat),blkF F (unpack bs) p most = t ∧ e = .returned (.tuple #[.slice A t.2.1.length c,.int .i64 t.1]) ∧ w'.ownsRow w.heap.size 164 3 (.slice A t.2.1.length c) t.2.1.length (t.2.1.flatMap tcC) ∧ RdS w' r base S bs p' ∧ (t.1 = 0 → p' = t.2.2) ∧ Mod (oneB r) w w' := by
 obtain ⟨hrl0,hp8,_⟩ := rd_low hrd
 have HA := Lib.hid (tkalph_any F hF r base S bs p w hrd hbl)
 clear hrd
 go_enter Tryz.func136,Tryz.ntmps136
 go_wp2_with fail
 refine HA.out.mono ?_
 rintro e w2 ⟨a,b,n,m,er,p2,rfl,hrd2,hm2,⟨hne,hbk⟩ | ⟨rfl,z1,z2,ga,gb,rfl,rfl,rfl,rfl,h1,h2,hz1,hz2,hla,hlb,hbk⟩⟩
 ·have HB := Lib.hid (hbk most)
  have HR2 := Lib.hid hrd2
  have HM2 := Lib.hid hm2
  have HNE := Lib.hid hne
  have t1 : (er != 0) = true := by simpa using hne
  have hbx := (Below.refl w2.heap.size w2).alloc (Nat.le_refl _) (.cells #[.pointer a,.int .i64 n,.pointer b,.int .i64 m] 251)
  have HBX := Lib.hid hbx
  clear hne hbk hrd2 hm2 hbx
  unfold alC
  go_wp2
  refine bodyPost_ret (results_tmp2 rfl _ _ _) rfl ?_
  exact ⟨none,0,p2,_,HB.out,by rfl,World.ownsRow_nil _ _ _ _,HR2.out.keep (Mod.of_below HBX.out) (fun _ _ h => h),fun h => absurd h HNE.out,HM2.out.then_ ((Mod.of_below HBX.out).mono fun _ h => h.elim)⟩
 ·have HB := Lib.hid (hbk most)
  have HM2 := Lib.hid hm2
  have hbx := (Below.refl w2.heap.size w2).alloc (Nat.le_refl _) (.cells #[.pointer (some ⟨ga,0,none⟩),.int .i64 257,.pointer (some ⟨gb,0,none⟩),.int .i64 0] 251)
  have hs2 := hm2.size
  have HTS := Lib.hid (tktoks_any F hF r base w.heap.size ga gb S bs p2 most z1 z2 (w2.alloc (.cells #[.pointer (some ⟨ga,0,none⟩),.int .i64 257,.pointer (some ⟨gb,0,none⟩),.int .i64 0] 251)) h1 h2 hz1 hz2 (hla.below_ hbx) (hlb.below_ hbx) hrl0 (hrd2.keep (Mod.of_below hbx) (fun _ _ h => h)) hbl m0 m1)
  have HBX := Lib.hid hbx
  clear hbk hrd2 hm2 hbx hla hlb
  unfold alC at HTS ⊢
  go_wp2_with (go_at_call 173;refine HTS.out.mono ?_;rintro e w3 ⟨A3,c3,p3,t3,ht3,rfl,hown3,hrd3,hpe3,hm3⟩;have HT3 := Lib.hid (And.intro ht3 (And.intro hown3 (And.intro hrd3 (And.intro hpe3 hm3))));clear ht3 hown3 hrd3 hpe3 hm3)
  obtain ⟨ht3,hown3,hrd3,hpe3,hm3⟩ := HT3.out
  refine bodyPost_ret (results_tmp2 rfl _ _ _) rfl ?_
  exact ⟨A3,c3,p3,t3,HB.out.trans ht3,by rfl,own_leT hown3 (by simp;omega),hrd3,hpe3,(HM2.out.then_ ((Mod.of_below HBX.out).mono fun _ h => h.elim)).then_ hm3⟩
end Go.Proofs.YtaknladkodibaaaGreatDoor
namespace Go.Proofs.YtaknladkodibaaaGreatDoor
open Go.RowKit BitsP
theorem own_capT {w : World} {base : Nat} {e : TypeId} {size n c : Nat} {A : Option Addr} {xs : List Value} (h : w.ownsRow base e size (.slice A n c) n xs) : n ≤ c := by
 obtain ⟨_,h2⟩ := h
 rcases h2 with ⟨h2,h3⟩ | ⟨g,cap,cur,hv,_,_,hnc,_⟩
 ·cases h2
  exact Nat.le_refl _
 ·simp only [Value.slice.injEq] at hv
  obtain ⟨_,_,rfl⟩ := hv
  exact hnc
end Go.Proofs.YtaknladkodibaaaGreatDoor
namespace Go.Proofs.YtaknladkodibaaaGreatDoor
open Go.RowKit BitsP SymP
attribute [local go_sem ↓] Go.wp_at_zero Go.wp_at_succ
theorem expE_le {most : Int} : ∀ (L : List Ti) (out o : List UInt8),expE most L out = (0,o) → (out.length : Int) ≤ most → (o.length : Int) ≤ most
 | [],out,o,h,h1 => by
  rw [expE] at h
  rw [← (Prod.mk.inj h).2]
  exact h1
 | t :: L,out,o,h,h1 => by
  rw [expE] at h
  split at h
  ·cases (Prod.mk.inj h).1
  ·rename_i h2
   split at h
   ·cases (Prod.mk.inj h).1
   ·rename_i h3
    refine expE_le L _ o h ?_
    rw [putT_len out (by cases hk : okX t with | true => rfl | false => exact absurd (.inl hk) h2)]
    omega
def unB (F : List Int → List Bool → Int × Int × Nat) (area : List UInt8) (size : Int) : Int × List UInt8 :=
 if (blkF F (unpack area) 0 size).1 ≠ 0 then ((blkF F (unpack area) 0 size).1,[])
 else if (szs (blkF F (unpack area) 0 size).2.1 : Int) ≠ size then (5,[])
 else if 7 < 8 * area.length - (blkF F (unpack area) 0 size).2.2 ∨ numA (unpack area) (blkF F (unpack area) 0 size).2.2 8 ≠ 0 then (3,[])
 else (0,(expE size ((blkF F (unpack area) 0 size).2.1.map ti) []).2)
theorem blkF_many (F : List Int → List Bool → Int × Int × Nat) (L : List Bool) (p : Nat) (most : Int) : (blkF F L p most).2.1.length ≤ L.length + 1 := by
 have key : ∀ (z1 z2 : List Int) (k : Nat) (ts : List Tk) (size p : Nat),(blkL F z1 z2 L most k ts size p).2.1.length ≤ ts.length + k := by
  intro z1 z2 k
  induction k with
  | zero => intro ts size p;exact Nat.zero_le _
  | succ k ih =>
   intro ts size p
   rw [blkL]
   split
   ·exact Nat.zero_le _
   split
   ·show ts.length ≤ _;omega
   split
   ·exact Nat.zero_le _
   split
   ·exact Nat.zero_le _
   ·split
    ·exact Nat.zero_le _
    split
    ·exact Nat.zero_le _
    ·refine Nat.le_trans (ih _ _ _) ?_
     rw [List.length_append,List.length_singleton]
     omega
 unfold blkF
 split
 ·exact Nat.zero_le _
 split
 ·exact Nat.zero_le _
 split
 ·exact Nat.zero_le _
 split
 ·exact Nat.zero_le _
 ·refine Nat.le_trans (key _ _ _ _ _ _) ?_
  rw [List.length_nil]
  omega
theorem own_len {w : World} {base : Nat} {v : Value} {n : Nat} {xs : List UInt8} (h : OwnB w base 5 v n xs) : xs.length = n := by
 have h1 := h.1
 rw [byteCells_length,Nat.mul_one] at h1
 exact h1
theorem ti_row {w : World} {A : Option Addr} {B : Nat} {ts : List Tk} (h : Cells w B A (ts.flatMap tcC)) : Cells w B A ((ts.map ti).map tiC).flatten := by
 rw [List.flatMap_def] at h
 rw [List.map_map]
 exact h
set_option maxRecDepth 100000 in
set_option maxHeartbeats 2000000 in
theorem cdunpack_any (F : List Int → List Bool → Int × Int × Nat) (hF : FunT F) (A : Option Addr) (l c : Nat) (bs : List UInt8) (size : Int) (w : World) (hl : bs.length = l) (hm : l ≤ 12000) (h0 : 0 ≤ size) (h1 : size ≤ 65536) (hb : Bytes w w.heap.size A bs) :
  Calls Tryz.prog 98 #[.slice A l c,.int .i64 size] w fun e w' => ∃ A' c',e = .returned (.tuple #[.slice A' (unB F bs size).2.length c',.int .i64 (unB F bs size).1]) ∧ Bytes w' w'.heap.size A' (unB F bs size).2 ∧ Below w.heap.size w w' := by
 have HNEW := Lib.hid (rnew_any A l c w.heap.size bs w hl (by omega) (Nat.le_refl _) hb)
 have HTK : Hid (∀ (W : World) (base g : Nat) (S : Nat → Prop),RdS W g base S bs 0 → _) := fun W base g S hW => blktake_any F hF g base S bs 0 size W hW (by omega) (by omega) (by omega)
 have hlen := blkF_many F (unpack bs) 0 size
 rw [unpack_length,hl] at hlen
 obtain ⟨⟨er,ts,q⟩,hT⟩ : ∃ T,blkF F (unpack bs) 0 size = T := ⟨_,rfl⟩
 have HU : Hid (unB F bs size = if er ≠ 0 then (er,[]) else if (szs ts : Int) ≠ size then (5,[]) else if 7 < 8 * l - q ∨ numA (unpack bs) q 8 ≠ 0 then (3,[]) else (0,(expE size (ts.map ti) []).2)) := by show _ = _;rw [unB,hT,hl]
 rw [hT] at HTK hlen
 dsimp only at hlen
 obtain ⟨n,hn⟩ : ∃ n,ts.length = n := ⟨_,rfl⟩
 have HN := Lib.hid hn
 have HLL := Lib.hid hl
 have hn4 : n ≤ 100000 := by omega
 have HUL : Hid ((unpack bs).length = 8 * l) := by show _ = _;rw [unpack_length,hl]
 by_cases her : er = 0
 rotate_left
 ·have HE : Hid (unB F bs size = (er,[])) := by show _ = _;rw [HU.out,if_pos her]
  have v1 : (er != 0) = true := by simpa using her
  clear hb hl hT hlen hn her HU
  rw [HE.out]
  dsimp only
  go_enter Tryz.func98,Tryz.ntmps98
  go_wp2_with (first
   | (go_at_call 135;refine HNEW.out.mono ?_;rintro e w2 ⟨g,S,rfl,hrd2,hb2,hS2⟩;have HB2 := Lib.hid hb2;have HR2 := Lib.hid hrd2;have HG2 : Hid (w.heap.size ≤ g) := hS2 g (rd_low hrd2).2.2;clear hrd2 hb2 hS2)
   | (go_at_call 136;refine (HTK.out w2 w.heap.size g S HR2.out).mono ?_;rintro e w3 ⟨A3,c3,p3,t3,rfl,rfl,hown3,hrd3,hpe3,hm3⟩;dsimp only at hown3 hpe3;dsimp only;rw [HN.out] at hown3;rw [HN.out];have HO3 := Lib.hid (cells_of_own7 hown3);have HR3 := Lib.hid hrd3;have HPE := Lib.hid hpe3;have HB3 := Lib.hid (hm3.below HB2.out HB2.out.size (fun k hk => by cases hk;exact HG2.out));clear hown3 hrd3 hpe3 hm3))
  exact bodyPost_ret (results_tmp2 rfl _ _ _) rfl ⟨none,0,rfl,Cells.nil _ _ _,HB3.out⟩
 subst her
 obtain ⟨out,ho,hol⟩ := blkF_exp hT
 have hle := expE_le _ _ _ ho (by simpa using h0)
 have HEX : Hid (∀ (W : World) (A3 : Option Addr) (c3 : Nat),Cells W W.heap.size A3 (ts.flatMap tcC) → _) := fun W A3 c3 hW => Expand_any A3 n c3 (ts.map ti) size W (by rw [List.length_map];exact hn) (by omega) (by omega) (by omega) (ti_row hW)
 rw [ho] at HEX HU
 dsimp only at HEX
 rw [if_neg (by simp)] at HU
 obtain ⟨ol,holl⟩ : ∃ ol,out.length = ol := ⟨_,rfl⟩
 have HOL := Lib.hid holl
 rw [← hol,holl] at HU
 rw [holl] at HEX hle
 by_cases hsz : (ol : Int) = size
 rotate_left
 ·have HE : Hid (unB F bs size = (5,[])) := by show _ = _;rw [HU.out,if_pos hsz]
  have v2 : decide ((ol : Int) < size) = true := decide_eq_true (by omega)
  clear hb hl hT hlen hn hsz HU hol ho holl
  rw [HE.out]
  dsimp only
  go_enter Tryz.func98,Tryz.ntmps98
  go_wp2_with (first
   | (go_at_call 135;refine HNEW.out.mono ?_;rintro e w2 ⟨g,S,rfl,hrd2,hb2,hS2⟩;have HB2 := Lib.hid hb2;have HR2 := Lib.hid hrd2;have HG2 : Hid (w.heap.size ≤ g) := hS2 g (rd_low hrd2).2.2;clear hrd2 hb2 hS2)
   | (go_at_call 136;refine (HTK.out w2 w.heap.size g S HR2.out).mono ?_;rintro e w3 ⟨A3,c3,p3,t3,rfl,rfl,hown3,hrd3,hpe3,hm3⟩;dsimp only at hown3 hpe3;dsimp only;rw [HN.out] at hown3;rw [HN.out];have HO3 := Lib.hid (cells_of_own7 hown3);have HR3 := Lib.hid hrd3;have HPE := Lib.hid hpe3;have HB3 := Lib.hid (hm3.below HB2.out HB2.out.size (fun k hk => by cases hk;exact HG2.out));clear hown3 hrd3 hpe3 hm3)
   | (go_at_call 137;refine (HEX.out w3 A3 c3 HO3.out).mono ?_;rintro e w4 ⟨A4,c4,rfl,hc4,hb4⟩;have HC4 := Lib.hid hc4;have HB4 := Lib.hid (HB3.out.trans (hb4.mono HB3.out.size));obtain rfl := HPE.out rfl;have HR4 := Lib.hid (HR3.out.keep (Mod.of_below hb4) (fun _ _ h => h));clear hc4 hb4))
  exact bodyPost_ret (results_tmp2 rfl _ _ _) rfl ⟨none,0,rfl,Cells.nil _ _ _,HB4.out⟩
 have v2 : decide ((ol : Int) < size) = false := decide_eq_false (by omega)
 rw [if_neg (by omega)] at HU
 obtain ⟨lf,hlf⟩ : ∃ lf,8 * l - q = lf := ⟨_,rfl⟩
 have HLF := Lib.hid hlf
 rw [hlf] at HU
 by_cases h7 : 7 < lf
 ·have HE : Hid (unB F bs size = (3,[])) := by show _ = _;rw [HU.out,if_pos (.inl h7)]
  have v3 : decide ((8 : Int) ≤ (lf : Int)) = true := decide_eq_true (by omega)
  have v3n : decide (8 ≤ lf) = true := decide_eq_true (by omega)
  have v3m : decide ((7 : Int) < (lf : Int)) = true := decide_eq_true (by omega)
  clear hb hl hT hlen hn hsz HU hol ho holl hlf h7
  rw [HE.out]
  dsimp only
  go_enter Tryz.func98,Tryz.ntmps98
  go_wp2_with (first
   | (go_at_call 135;refine HNEW.out.mono ?_;rintro e w2 ⟨g,S,rfl,hrd2,hb2,hS2⟩;have HB2 := Lib.hid hb2;have HR2 := Lib.hid hrd2;have HG2 : Hid (w.heap.size ≤ g) := hS2 g (rd_low hrd2).2.2;clear hrd2 hb2 hS2)
   | (go_at_call 136;refine (HTK.out w2 w.heap.size g S HR2.out).mono ?_;rintro e w3 ⟨A3,c3,p3,t3,rfl,rfl,hown3,hrd3,hpe3,hm3⟩;dsimp only at hown3 hpe3;dsimp only;rw [HN.out] at hown3;rw [HN.out];have HO3 := Lib.hid (cells_of_own7 hown3);have HR3 := Lib.hid hrd3;have HPE := Lib.hid hpe3;have HB3 := Lib.hid (hm3.below HB2.out HB2.out.size (fun k hk => by cases hk;exact HG2.out));clear hown3 hrd3 hpe3 hm3)
   | (go_at_call 137;refine (HEX.out w3 A3 c3 HO3.out).mono ?_;rintro e w4 ⟨A4,c4,rfl,hc4,hb4⟩;have HC4 := Lib.hid hc4;have HB4 := Lib.hid (HB3.out.trans (hb4.mono HB3.out.size));obtain rfl := HPE.out rfl;have HR4 := Lib.hid (HR3.out.keep (Mod.of_below hb4) (fun _ _ h => h));clear hc4 hb4)
   | (go_at_call 138;refine (rleft_any g w.heap.size S bs _ w4 HR4.out (by rw [HLL.out];omega)).mono ?_;rintro e w' ⟨rfl,nl,rfl⟩;rw [HLL.out,HLF.out];have HR5 := Lib.hid (HR4.out.drewN nl);clear HR4))
  exact bodyPost_ret (results_tmp2 rfl _ _ _) rfl ⟨none,0,rfl,Cells.nil _ _ _,Below.drewN HB4.out nl⟩
 have v3 : decide ((8 : Int) ≤ (lf : Int)) = false := decide_eq_false (by omega)
 have v3n : decide (8 ≤ lf) = false := decide_eq_false (by omega)
 have v3m : decide ((7 : Int) < (lf : Int)) = false := decide_eq_false (by omega)
 have hlf7 : lf ≤ 7 := by omega
 have HPN : Hid (num (((unpack bs).drop q).take lf) = numA (unpack bs) q 8) := by
  show _ = _
  unfold numA
  rw [List.take_of_length_le (by rw [List.length_drop,HUL.out];omega),List.take_of_length_le (by rw [List.length_drop,HUL.out];omega)]
 obtain ⟨nm,hnm⟩ : ∃ nm,numA (unpack bs) q 8 = nm := ⟨_,rfl⟩
 rw [hnm] at HPN HU
 by_cases hz : nm = 0
 ·have HE : Hid (unB F bs size = (0,out)) := by show _ = _;rw [HU.out,if_neg (by omega)]
  have v4 : ((nm : Int) != 0) = false := by simp [hz]
  clear hb hl hT hlen hn hsz HU hol ho holl hlf h7 hnm hz
  rw [HE.out]
  dsimp only
  rw [HOL.out]
  go_enter Tryz.func98,Tryz.ntmps98
  go_wp2_with (first
   | (go_at_call 135;refine HNEW.out.mono ?_;rintro e w2 ⟨g,S,rfl,hrd2,hb2,hS2⟩;have HB2 := Lib.hid hb2;have HR2 := Lib.hid hrd2;have HG2 : Hid (w.heap.size ≤ g) := hS2 g (rd_low hrd2).2.2;clear hrd2 hb2 hS2)
   | (go_at_call 136;refine (HTK.out w2 w.heap.size g S HR2.out).mono ?_;rintro e w3 ⟨A3,c3,p3,t3,rfl,rfl,hown3,hrd3,hpe3,hm3⟩;dsimp only at hown3 hpe3;dsimp only;rw [HN.out] at hown3;rw [HN.out];have HO3 := Lib.hid (cells_of_own7 hown3);have HR3 := Lib.hid hrd3;have HPE := Lib.hid hpe3;have HB3 := Lib.hid (hm3.below HB2.out HB2.out.size (fun k hk => by cases hk;exact HG2.out));clear hown3 hrd3 hpe3 hm3)
   | (go_at_call 137;refine (HEX.out w3 A3 c3 HO3.out).mono ?_;rintro e w4 ⟨A4,c4,rfl,hc4,hb4⟩;have HC4 := Lib.hid hc4;have HB4 := Lib.hid (HB3.out.trans (hb4.mono HB3.out.size));obtain rfl := HPE.out rfl;have HR4 := Lib.hid (HR3.out.keep (Mod.of_below hb4) (fun _ _ h => h));clear hc4 hb4)
   | (go_at_call 138;refine (rleft_any g w.heap.size S bs _ w4 HR4.out (by rw [HLL.out];omega)).mono ?_;rintro e w' ⟨rfl,nl,rfl⟩;rw [HLL.out,HLF.out];have HR5 := Lib.hid (HR4.out.drewN nl);clear HR4)
   | (go_at_call 138;refine (rleft_any g w.heap.size S bs _ (w4.drewN nl) HR5.out (by rw [HLL.out];omega)).mono ?_;rintro e w' ⟨rfl,nl2,rfl⟩;rw [HLL.out,HLF.out];have HR6 := Lib.hid (HR5.out.drewN nl2);clear HR5)
   | (go_at_call 139;refine (rpeek_any g w.heap.size S bs p3 (lf : Int) _ ?_ (by rw [HLL.out];omega) (by omega) (by omega)).mono ?_;(exact HR6.out);rintro e w' ⟨rfl,np,rfl⟩;rw [cnt_nat (k := lf) (by omega),HPN.out]))
  exact bodyPost_ret (results_tmp2 rfl _ _ _) rfl ⟨A4,c4,rfl,HC4.out,Below.drewN HB4.out (nl + nl2 + np)⟩
 ·have HE : Hid (unB F bs size = (3,[])) := by show _ = _;rw [HU.out,if_pos (.inr hz)]
  have v4 : ((nm : Int) != 0) = true := by simpa using hz
  clear hb hl hT hlen hn hsz HU hol ho holl hlf h7 hnm hz
  rw [HE.out]
  dsimp only
  go_enter Tryz.func98,Tryz.ntmps98
  go_wp2_with (first
   | (go_at_call 135;refine HNEW.out.mono ?_;rintro e w2 ⟨g,S,rfl,hrd2,hb2,hS2⟩;have HB2 := Lib.hid hb2;have HR2 := Lib.hid hrd2;have HG2 : Hid (w.heap.size ≤ g) := hS2 g (rd_low hrd2).2.2;clear hrd2 hb2 hS2)
   | (go_at_call 136;refine (HTK.out w2 w.heap.size g S HR2.out).mono ?_;rintro e w3 ⟨A3,c3,p3,t3,rfl,rfl,hown3,hrd3,hpe3,hm3⟩;dsimp only at hown3 hpe3;dsimp only;rw [HN.out] at hown3;rw [HN.out];have HO3 := Lib.hid (cells_of_own7 hown3);have HR3 := Lib.hid hrd3;have HPE := Lib.hid hpe3;have HB3 := Lib.hid (hm3.below HB2.out HB2.out.size (fun k hk => by cases hk;exact HG2.out));clear hown3 hrd3 hpe3 hm3)
   | (go_at_call 137;refine (HEX.out w3 A3 c3 HO3.out).mono ?_;rintro e w4 ⟨A4,c4,rfl,hc4,hb4⟩;have HC4 := Lib.hid hc4;have HB4 := Lib.hid (HB3.out.trans (hb4.mono HB3.out.size));obtain rfl := HPE.out rfl;have HR4 := Lib.hid (HR3.out.keep (Mod.of_below hb4) (fun _ _ h => h));clear hc4 hb4)
   | (go_at_call 138;refine (rleft_any g w.heap.size S bs _ w4 HR4.out (by rw [HLL.out];omega)).mono ?_;rintro e w' ⟨rfl,nl,rfl⟩;rw [HLL.out,HLF.out];have HR5 := Lib.hid (HR4.out.drewN nl);clear HR4)
   | (go_at_call 138;refine (rleft_any g w.heap.size S bs _ (w4.drewN nl) HR5.out (by rw [HLL.out];omega)).mono ?_;rintro e w' ⟨rfl,nl2,rfl⟩;rw [HLL.out,HLF.out];have HR6 := Lib.hid (HR5.out.drewN nl2);clear HR5)
   | (go_at_call 139;refine (rpeek_any g w.heap.size S bs p3 (lf : Int) _ ?_ (by rw [HLL.out];omega) (by omega) (by omega)).mono ?_;(exact HR6.out);rintro e w' ⟨rfl,np,rfl⟩;rw [cnt_nat (k := lf) (by omega),HPN.out]))
  exact bodyPost_ret (results_tmp2 rfl _ _ _) rfl ⟨none,0,rfl,Cells.nil _ _ _,Below.drewN HB4.out (nl + nl2 + np)⟩
def unM (F : List Int → List Bool → Int × Int × Nat) (m : Int) (area : List UInt8) (size : Int) : Int × List UInt8 :=
 if m < 0 ∨ 2 < m then (1,[]) else if size < 0 ∨ 65536 < size then (5,[]) else if m = 1 then unB F area size
 else if m = 2 then (if (pcA area).2 ≠ 0 then ((pcA area).2,[]) else if ((pcA area).1.flatten.length : Int) ≠ size then (5,[]) else (0,(pcA area).1.flatten))
 else if (area.length : Int) ≠ size then (5,[]) else (0,area)
def UnQ (w : World) (t : Int × List UInt8) (e : Ending) (w' : World) : Prop := ∃ A' c',e = .returned (.tuple #[.slice A' t.2.length c',.int .i64 t.1]) ∧ Bytes w' w'.heap.size A' t.2 ∧ Below w.heap.size w w'
theorem UnQ.err {w w' : World} {er : Int} {t : Int × List UInt8} (ht : t = (er,[])) (hb : Below w.heap.size w w') : UnQ w t (.returned (.tuple #[.slice none 0 0,.int .i64 er])) w' := by
 subst ht
 exact ⟨none,0,rfl,Cells.nil _ _ _,hb⟩
set_option maxRecDepth 100000 in
set_option maxHeartbeats 1000000 in
theorem cdUnpack_any (F : List Int → List Bool → Int × Int × Nat) (hF : FunT F) (A : Option Addr) (l c : Nat) (bs : List UInt8) (m size : Int) (w : World) (hl : bs.length = l) (hm : l ≤ 1000000) (hmb : m = 1 → l ≤ 12000) (hc : l ≤ c) (hb : Bytes w w.heap.size A bs) :
  Calls Tryz.prog 54 #[.int .i64 m,.slice A l c,.int .i64 size] w (UnQ w (unM F m bs size)) := by
 by_cases hm1 : m < 0 ∨ 2 < m
 ·have HE : Hid (unM F m bs size = (1,[])) := by show _ = _;rw [unM,if_pos hm1]
  clear hb hl
  rcases hm1 with h | h
  ·have t1 : decide (m < 0) = true := decide_eq_true h
   clear h
   go_enter Tryz.func54,Tryz.ntmps54
   go_wp2
   refine bodyPost_ret (results_tmp2 rfl _ _ _) rfl ?_
   exact (UnQ.err HE.out (Below.refl _ _))
  ·have t1 : decide (m < 0) = false := decide_eq_false (by omega)
   have t2 : decide (2 < m) = true := decide_eq_true h
   clear h
   go_enter Tryz.func54,Tryz.ntmps54
   go_wp2
   refine bodyPost_ret (results_tmp2 rfl _ _ _) rfl ?_
   exact (UnQ.err HE.out (Below.refl _ _))
 have t1 : decide (m < 0) = false := decide_eq_false (by omega)
 have t2 : decide (2 < m) = false := decide_eq_false (by omega)
 by_cases hs1 : size < 0 ∨ 65536 < size
 ·have HE : Hid (unM F m bs size = (5,[])) := by show _ = _;rw [unM,if_neg hm1,if_pos hs1]
  clear hb hl hm1
  rcases hs1 with h | h
  ·have t3 : decide (size < 0) = true := decide_eq_true h
   clear h
   go_enter Tryz.func54,Tryz.ntmps54
   go_wp2
   refine bodyPost_ret (results_tmp2 rfl _ _ _) rfl ?_
   exact (UnQ.err HE.out (Below.refl _ _))
  ·have t3 : decide (size < 0) = false := decide_eq_false (by omega)
   have t4 : decide (65536 < size) = true := decide_eq_true h
   clear h
   go_enter Tryz.func54,Tryz.ntmps54
   go_wp2
   refine bodyPost_ret (results_tmp2 rfl _ _ _) rfl ?_
   exact (UnQ.err HE.out (Below.refl _ _))
 have t3 : decide (size < 0) = false := decide_eq_false (by omega)
 have t4 : decide (65536 < size) = false := decide_eq_false (by omega)
 by_cases hone : m = 1
 ·have HE : Hid (unM F m bs size = unB F bs size) := by show _ = _;rw [unM,if_neg hm1,if_neg hs1,if_pos hone]
  have HU := Lib.hid (cdunpack_any F hF A l c bs size w hl (hmb hone) (by omega) (by omega) hb)
  have t5 : (m == 1) = true := by simpa using hone
  rw [HE.out]
  obtain ⟨T,hT⟩ : ∃ T,unB F bs size = T := ⟨_,rfl⟩
  rw [hT] at HU ⊢
  clear hb hl hm1 hs1 hone hT HE
  go_enter Tryz.func54,Tryz.ntmps54
  go_wp2_with (go_at_call 98;refine HU.out.mono ?_;rintro e w2 ⟨A2,c2,rfl,hc2,hb2⟩;have HC2 := Lib.hid hc2;have HB2 := Lib.hid hb2;clear hc2 hb2)
  refine bodyPost_ret (results_tmp2 rfl _ _ _) rfl ?_
  exact ⟨A2,c2,rfl,HC2.out,HB2.out⟩
 have t5 : (m == 1) = false := by simpa using hone
 have HCL := Lib.hid (clone_any A l c w.heap.size bs w hl (by omega) (Nat.le_refl _) hb)
 by_cases htwo : m = 2
 ·have t6 : (m == 2) = true := by simpa using htwo
  have HP : Hid (∀ W,Below w.heap.size w W → _) := fun W hW => piecesOf_any A l c W.heap.size bs W hl (by omega) hc ((hb.below hW (Nat.le_refl _)).more hW.size) (Nat.le_refl _)
  obtain ⟨⟨ps,er⟩,hT⟩ : ∃ T,pcA bs = T := ⟨_,rfl⟩
  have HU : Hid (unM F m bs size = if er ≠ 0 then (er,[]) else if (ps.flatten.length : Int) ≠ size then (5,[]) else (0,ps.flatten)) := by show _ = _;rw [unM,if_neg hm1,if_neg hs1,if_neg hone,if_pos htwo,hT]
  rw [hT] at HP
  dsimp only at HP
  by_cases her : er = 0
  rotate_left
  ·have HE : Hid (unM F m bs size = (er,[])) := by show _ = _;rw [HU.out,if_pos her]
   have v1 : (er != 0) = true := by simpa using her
   clear hb hl hm1 hs1 hone htwo hT her HU
   go_enter Tryz.func54,Tryz.ntmps54
   go_wp2_with (first
    | (go_at_call 68;refine HCL.out.mono ?_;rintro e w2 ⟨A2,c2,rfl,hown2,hb2⟩;have HO2 := Lib.hid hown2;have HB2 := Lib.hid hb2;clear hown2 hb2)
    | (go_at_call 80;refine (HP.out w2 HB2.out).mono ?_;rintro e w3 ⟨v3,n3,cp3,A3,rfl,rfl,_,_,hb3⟩;have HB3 := Lib.hid (HB2.out.trans (hb3.mono HB2.out.size));clear hb3))
   refine bodyPost_ret (results_tmp2 rfl _ _ _) rfl ?_
   exact (UnQ.err HE.out HB3.out)
  subst her
  rw [if_neg (by simp)] at HU
  obtain ⟨R,hR⟩ : ∃ R,ps.flatten = R := ⟨_,rfl⟩
  rw [hR] at HP HU
  obtain ⟨rl,hrl⟩ : ∃ rl,R.length = rl := ⟨_,rfl⟩
  have HRL := Lib.hid hrl
  rw [hrl] at HU
  by_cases hsz : (rl : Int) = size
  ·have HE : Hid (unM F m bs size = (0,R)) := by show _ = _;rw [HU.out,if_neg (by omega)]
   have v2 : ((rl : Int) != size) = false := by simpa using hsz
   clear hb hl hm1 hs1 hone htwo hT HU hR hrl hsz
   rw [HE.out]
   go_enter Tryz.func54,Tryz.ntmps54
   go_wp2_with (first
    | (go_at_call 68;refine HCL.out.mono ?_;rintro e w2 ⟨A2,c2,rfl,hown2,hb2⟩;have HO2 := Lib.hid hown2;have HB2 := Lib.hid hb2;clear hown2 hb2)
    | (go_at_call 80;refine (HP.out w2 HB2.out).mono ?_;rintro e w3 ⟨v3,n3,cp3,A3,rfl,rfl,hown,_,hb3⟩;have hown2 := hown (by first | rfl | trivial);obtain rfl : n3 = rl := (own_len hown2).symm.trans HRL.out;have HO3 := Lib.hid hown2;have HB3 := Lib.hid (HB2.out.trans (hb3.mono HB2.out.size));clear hown hown2 hb3))
   refine bodyPost_ret (results_tmp2 rfl _ _ _) rfl ?_
   exact ⟨A3,cp3,by rw [HRL.out];rfl,Cells.of_own HO3.out,HB3.out⟩
  ·have HE : Hid (unM F m bs size = (5,[])) := by show _ = _;rw [HU.out,if_pos hsz]
   have v2 : ((rl : Int) != size) = true := by simpa using hsz
   clear hb hl hm1 hs1 hone htwo hT HU hR hrl hsz
   go_enter Tryz.func54,Tryz.ntmps54
   go_wp2_with (first
    | (go_at_call 68;refine HCL.out.mono ?_;rintro e w2 ⟨A2,c2,rfl,hown2,hb2⟩;have HO2 := Lib.hid hown2;have HB2 := Lib.hid hb2;clear hown2 hb2)
    | (go_at_call 80;refine (HP.out w2 HB2.out).mono ?_;rintro e w3 ⟨v3,n3,cp3,A3,rfl,rfl,hown,_,hb3⟩;have hown2 := hown (by first | rfl | trivial);obtain rfl : n3 = rl := (own_len hown2).symm.trans HRL.out;have HO3 := Lib.hid hown2;have HB3 := Lib.hid (HB2.out.trans (hb3.mono HB2.out.size));clear hown hown2 hb3))
   refine bodyPost_ret (results_tmp2 rfl _ _ _) rfl ?_
   exact (UnQ.err HE.out HB3.out)
 have t6 : (m == 2) = false := by simpa using htwo
 have HU : Hid (unM F m bs size = if (l : Int) ≠ size then (5,[]) else (0,bs)) := by show _ = _;rw [unM,if_neg hm1,if_neg hs1,if_neg hone,if_neg htwo,hl]
 have HLL := Lib.hid hl
 by_cases hsz : (l : Int) = size
 ·have HE : Hid (unM F m bs size = (0,bs)) := by show _ = _;rw [HU.out,if_neg (by omega)]
  have v2 : ((l : Int) != size) = false := by simpa using hsz
  clear hb hl hm1 hs1 hone htwo HU hsz
  rw [HE.out]
  go_enter Tryz.func54,Tryz.ntmps54
  go_wp2_with (first
    | (go_at_call 68;refine HCL.out.mono ?_;rintro e w2 ⟨A2,c2,rfl,hown2,hb2⟩;have HO2 := Lib.hid hown2;have HB2 := Lib.hid hb2;clear hown2 hb2))
  refine bodyPost_ret (results_tmp2 rfl _ _ _) rfl ?_
  exact ⟨A2,c2,by rw [HLL.out];rfl,Cells.of_own HO2.out,HB2.out⟩
 ·have HE : Hid (unM F m bs size = (5,[])) := by show _ = _;rw [HU.out,if_pos hsz]
  have v2 : ((l : Int) != size) = true := by simpa using hsz
  clear hb hl hm1 hs1 hone htwo HU hsz
  go_enter Tryz.func54,Tryz.ntmps54
  go_wp2_with (first
    | (go_at_call 68;refine HCL.out.mono ?_;rintro e w2 ⟨A2,c2,rfl,hown2,hb2⟩;have HO2 := Lib.hid hown2;have HB2 := Lib.hid hb2;clear hown2 hb2))
  refine bodyPost_ret (results_tmp2 rfl _ _ _) rfl ?_
  exact (UnQ.err HE.out HB2.out)
set_option maxRecDepth 100000 in
set_option maxHeartbeats 2000000 in
theorem rdUnpack_any (F : List Int → List Bool → Int × Int × Nat) (hF : FunT F) (A : Option Addr) (l c : Nat) (bs : List UInt8) (m size : Int) (w : World) (hl : bs.length = l) (hm : l ≤ 10000) (hc : l ≤ c) (hb : Bytes w w.heap.size A bs) :
  Calls Tryz.prog 56 #[.int .i64 m,.slice A l c,.int .i64 size] w (UnQ w (unM F m bs size)) := by
 have HBY := Lib.hid hb
 by_cases hm1 : m < 0 ∨ 2 < m
 ·have HE : Hid (unM F m bs size = (1,[])) := by show _ = _;rw [unM,if_pos hm1]
  clear hb hl
  rcases hm1 with h | h
  ·have t1 : decide (m < 0) = true := decide_eq_true h
   clear h
   go_enter Tryz.func56,Tryz.ntmps56
   go_wp2
   refine bodyPost_ret (results_tmp2 rfl _ _ _) rfl ?_
   exact (UnQ.err HE.out (Below.refl _ _))
  ·have t1 : decide (m < 0) = false := decide_eq_false (by omega)
   have t2 : decide (2 < m) = true := decide_eq_true h
   clear h
   go_enter Tryz.func56,Tryz.ntmps56
   go_wp2
   refine bodyPost_ret (results_tmp2 rfl _ _ _) rfl ?_
   exact (UnQ.err HE.out (Below.refl _ _))
 have t1 : decide (m < 0) = false := decide_eq_false (by omega)
 have t2 : decide (2 < m) = false := decide_eq_false (by omega)
 by_cases hs1 : size < 0 ∨ 65536 < size
 ·have HE : Hid (unM F m bs size = (5,[])) := by show _ = _;rw [unM,if_neg hm1,if_pos hs1]
  clear hb hl hm1
  rcases hs1 with h | h
  ·have t3 : decide (size < 0) = true := decide_eq_true h
   clear h
   go_enter Tryz.func56,Tryz.ntmps56
   go_wp2
   refine bodyPost_ret (results_tmp2 rfl _ _ _) rfl ?_
   exact (UnQ.err HE.out (Below.refl _ _))
  ·have t3 : decide (size < 0) = false := decide_eq_false (by omega)
   have t4 : decide (65536 < size) = true := decide_eq_true h
   clear h
   go_enter Tryz.func56,Tryz.ntmps56
   go_wp2
   refine bodyPost_ret (results_tmp2 rfl _ _ _) rfl ?_
   exact (UnQ.err HE.out (Below.refl _ _))
 have t3 : decide (size < 0) = false := decide_eq_false (by omega)
 have t4 : decide (65536 < size) = false := decide_eq_false (by omega)
 by_cases hone : m = 1
 ·have HE0 : Hid (unM F m bs size = unB F bs size) := by show _ = _;rw [unM,if_neg hm1,if_neg hs1,if_pos hone]
  have t5 : (m == 1) = true := by simpa using hone
  rw [HE0.out]
  have HUP := Lib.hid (refUnpack_any A l c bs w hl (by omega) hb)
  have hun : (unpack bs).length = 8 * l := by rw [unpack_length,hl]
  have HRT : Hid (∀ (W : World) (A6 : Option Addr) (c6 : Nat),8 * l ≤ c6 → Bytes W W.heap.size A6 (bitBytes (unpack bs)) → Calls Tryz.prog 100 #[.slice A6 (8 * l) c6,.int .i64 0,.int .i64 size] W (RtQ W (8 * l) (blkF F (unpack bs) 0 size))) := fun W A6 c6 hc hbb => rtake13_any F hF A6 (8 * l) c6 (unpack bs) 0 size W hun (by omega) hc hbb (Nat.zero_le _) (by omega) (by omega)
  have HNU : Hid (∀ (W : World) (A6 : Option Addr) (c6 a : Nat),a ≤ 8 * l → Bytes W W.heap.size A6 (bitBytes (unpack bs)) → Calls Tryz.prog 101 #[.slice A6 (8 * l) c6,.int .i64 (a : Int),.int .i64 8] W fun e w' => e = .returned (.int .u32 (numA (unpack bs) a 8 : Nat)) ∧ W = w') := fun W A6 c6 a ha hbb => by
   have h := refNumber_any A6 (8 * l) c6 W.heap.size (unpack bs) a ((8 : Nat) : Int) W hun (by omega) (by omega) (by omega) (by omega) hbb
   rw [cnt_nat (by omega)] at h
   exact h
  have hlen := blkF_many F (unpack bs) 0 size
  rw [hun] at hlen
  obtain ⟨⟨er,ts,q⟩,hT⟩ : ∃ T,blkF F (unpack bs) 0 size = T := ⟨_,rfl⟩
  have HU : Hid (unB F bs size = if er ≠ 0 then (er,[]) else if (szs ts : Int) ≠ size then (5,[]) else if 7 < 8 * l - q ∨ numA (unpack bs) q 8 ≠ 0 then (3,[]) else (0,(expE size (ts.map ti) []).2)) := by show _ = _;rw [unB,hT,hl]
  rw [hT] at HRT hlen
  dsimp only at hlen
  obtain ⟨n,hn⟩ : ∃ n,ts.length = n := ⟨_,rfl⟩
  have HN := Lib.hid hn
  have hn4 : n ≤ 90000 := by omega
  have HEX : Hid (∀ (W : World) (A3 : Option Addr) (c3 : Nat),Cells W W.heap.size A3 (ts.flatMap tcC) → _) := fun W A3 c3 hW => rExpand_any A3 n c3 (ts.map ti) size W (by rw [List.length_map];exact hn) (by omega) (by omega) (by omega) (ti_row hW)
  by_cases her : er = 0
  rotate_left
  ·have HE : Hid (unB F bs size = (er,[])) := by show _ = _;rw [HU.out,if_pos her]
   have v1 : (er != 0) = true := by simpa using her
   clear hb hl hm1 hs1 hone hT hlen hn her HU HE0 hun
   go_enter Tryz.func56,Tryz.ntmps56
   go_upto_region 9 with (first
    | (go_at_call 99;refine HUP.out.mono ?_;rintro e w2 ⟨A2,c2,rfl,hown2,hb2⟩;have HCP := Lib.hid (own_capT hown2);have HY2 := Lib.hid (Cells.of_own hown2);have HB2 := Lib.hid hb2;clear hown2 hb2)
    | (go_at_call 100;refine (HRT.out w2 A2 c2 HCP.out HY2.out).mono ?_;rintro e w3 ⟨A3,c3,sz3,at3,rfl,hok3,hown3,hb3⟩;dsimp only at hok3 hown3;dsimp only;rw [HN.out] at hown3;rw [HN.out];have hb4 : Below w3.heap.size w3 (w3.alloc (.cells #[.slice A3 n c3,.int .i64 (sz3 : Int),.int .i64 (at3 : Int),.int .i64 er] 150)) := (Below.refl _ w3).alloc (Nat.le_refl _) _;obtain ⟨W4,hW4⟩ : ∃ W4,w3.alloc (.cells #[.slice A3 n c3,.int .i64 (sz3 : Int),.int .i64 (at3 : Int),.int .i64 er] 150) = W4 := ⟨_,rfl⟩;have hx4 : W4.heap[w3.heap.size]? = some (.cells #[.slice A3 n c3,.int .i64 (sz3 : Int),.int .i64 (at3 : Int),.int .i64 er] 150 (0,0)) := (by rw [← hW4];exact heap_alloc_new w3 _);rw [hW4] at hb4;have HOK := Lib.hid hok3;have HB4 := Lib.hid ((HB2.out.trans (hb3.mono HB2.out.size)).trans (hb4.mono (Nat.le_trans HB2.out.size hb3.size)));have HO34 := Lib.hid ((Cells.below (cells_of_own7 hown3) hb4 (Nat.le_refl _)).more hb4.size);have HY24 := Lib.hid (((HY2.out.below hb3 (Nat.le_refl _)).below hb4 hb3.size).more (Nat.le_trans hb3.size hb4.size));have HW4 := Lib.hid hW4;clear hok3 hown3 hb3 hb4 hW4))
   rw [HW4.out]
   have g0 : W4.cell? ⟨w3.heap.size,0,none⟩ = some (.slice A3 n c3) := cell_of_row _ _ 0 _ _ _ hx4
   have g1 : W4.cell? ⟨w3.heap.size,1,none⟩ = some (.int .i64 (sz3 : Int)) := cell_of_row _ _ 1 _ _ _ hx4
   have g2 : W4.cell? ⟨w3.heap.size,2,none⟩ = some (.int .i64 (at3 : Int)) := cell_of_row _ _ 2 _ _ _ hx4
   have g3 : W4.cell? ⟨w3.heap.size,3,none⟩ = some (.int .i64 er) := cell_of_row _ _ 3 _ _ _ hx4
   clear hx4 HW4
   go_upto_region 10 with fail
   go_region
   go_wp2
   refine bodyPost_ret (results_tmp2 rfl _ _ _) rfl ?_
   exact (UnQ.err HE.out HB4.out.drew)
  subst her
  obtain ⟨out,ho,hol⟩ := blkF_exp hT
  rw [ho] at HEX HU
  dsimp only at HEX
  rw [if_neg (by simp)] at HU
  obtain ⟨ol,holl⟩ : ∃ ol,szs ts = ol := ⟨_,rfl⟩
  have HOL := Lib.hid holl
  have HOL2 : Hid (out.length = ol) := hol.trans holl
  rw [holl] at HU
  by_cases hsz : (ol : Int) = size
  rotate_left
  ·have HE : Hid (unB F bs size = (5,[])) := by show _ = _;rw [HU.out,if_pos hsz]
   have v2 : ((ol : Int) != size) = true := by simpa using hsz
   clear hb hl hm1 hs1 hone hT hlen hn HU HE0 hun ho hol holl hsz
   go_enter Tryz.func56,Tryz.ntmps56
   go_upto_region 9 with (first
    | (go_at_call 99;refine HUP.out.mono ?_;rintro e w2 ⟨A2,c2,rfl,hown2,hb2⟩;have HCP := Lib.hid (own_capT hown2);have HY2 := Lib.hid (Cells.of_own hown2);have HB2 := Lib.hid hb2;clear hown2 hb2)
    | (go_at_call 100;refine (HRT.out w2 A2 c2 HCP.out HY2.out).mono ?_;rintro e w3 ⟨A3,c3,sz3,at3,rfl,hok3,hown3,hb3⟩;dsimp only at hok3 hown3;dsimp only;rw [HN.out] at hown3;rw [HN.out];have hb4 : Below w3.heap.size w3 (w3.alloc (.cells #[.slice A3 n c3,.int .i64 (sz3 : Int),.int .i64 (at3 : Int),.int .i64 0] 150)) := (Below.refl _ w3).alloc (Nat.le_refl _) _;obtain ⟨W4,hW4⟩ : ∃ W4,w3.alloc (.cells #[.slice A3 n c3,.int .i64 (sz3 : Int),.int .i64 (at3 : Int),.int .i64 0] 150) = W4 := ⟨_,rfl⟩;have hx4 : W4.heap[w3.heap.size]? = some (.cells #[.slice A3 n c3,.int .i64 (sz3 : Int),.int .i64 (at3 : Int),.int .i64 0] 150 (0,0)) := (by rw [← hW4];exact heap_alloc_new w3 _);rw [hW4] at hb4;have HOK := Lib.hid hok3;have HB4 := Lib.hid ((HB2.out.trans (hb3.mono HB2.out.size)).trans (hb4.mono (Nat.le_trans HB2.out.size hb3.size)));have HO34 := Lib.hid ((Cells.below (cells_of_own7 hown3) hb4 (Nat.le_refl _)).more hb4.size);have HY24 := Lib.hid (((HY2.out.below hb3 (Nat.le_refl _)).below hb4 hb3.size).more (Nat.le_trans hb3.size hb4.size));have HW4 := Lib.hid hW4;clear hok3 hown3 hb3 hb4 hW4))
   rw [HW4.out]
   have g0 : W4.cell? ⟨w3.heap.size,0,none⟩ = some (.slice A3 n c3) := cell_of_row _ _ 0 _ _ _ hx4
   have g1 : W4.cell? ⟨w3.heap.size,1,none⟩ = some (.int .i64 (sz3 : Int)) := cell_of_row _ _ 1 _ _ _ hx4
   have g2 : W4.cell? ⟨w3.heap.size,2,none⟩ = some (.int .i64 (at3 : Int)) := cell_of_row _ _ 2 _ _ _ hx4
   have g3 : W4.cell? ⟨w3.heap.size,3,none⟩ = some (.int .i64 0) := cell_of_row _ _ 3 _ _ _ hx4
   clear hx4 HW4
   obtain ⟨hq1,rfl,hq8⟩ := HOK.out rfl
   obtain rfl := hq1.trans HOL.out
   go_wp2
   refine bodyPost_ret (results_tmp2 rfl _ _ _) rfl ?_
   exact (UnQ.err HE.out HB4.out)
  have v2 : ((ol : Int) != size) = false := by simpa using hsz
  rw [if_neg (by omega)] at HU
  by_cases h7 : 7 < 8 * l - q
  ·have HE : Hid (unB F bs size = (3,[])) := by show _ = _;rw [HU.out,if_pos (.inl h7)]
   have v3 : decide ((7 : Int) < 8 * (l : Int) - (q : Int)) = true := decide_eq_true (by omega)
   clear hb hl hm1 hs1 hone hT hlen hn HU HE0 hun ho hol holl hsz h7
   go_enter Tryz.func56,Tryz.ntmps56
   go_upto_region 9 with (first
    | (go_at_call 99;refine HUP.out.mono ?_;rintro e w2 ⟨A2,c2,rfl,hown2,hb2⟩;have HCP := Lib.hid (own_capT hown2);have HY2 := Lib.hid (Cells.of_own hown2);have HB2 := Lib.hid hb2;clear hown2 hb2)
    | (go_at_call 100;refine (HRT.out w2 A2 c2 HCP.out HY2.out).mono ?_;rintro e w3 ⟨A3,c3,sz3,at3,rfl,hok3,hown3,hb3⟩;dsimp only at hok3 hown3;dsimp only;rw [HN.out] at hown3;rw [HN.out];have hb4 : Below w3.heap.size w3 (w3.alloc (.cells #[.slice A3 n c3,.int .i64 (sz3 : Int),.int .i64 (at3 : Int),.int .i64 0] 150)) := (Below.refl _ w3).alloc (Nat.le_refl _) _;obtain ⟨W4,hW4⟩ : ∃ W4,w3.alloc (.cells #[.slice A3 n c3,.int .i64 (sz3 : Int),.int .i64 (at3 : Int),.int .i64 0] 150) = W4 := ⟨_,rfl⟩;have hx4 : W4.heap[w3.heap.size]? = some (.cells #[.slice A3 n c3,.int .i64 (sz3 : Int),.int .i64 (at3 : Int),.int .i64 0] 150 (0,0)) := (by rw [← hW4];exact heap_alloc_new w3 _);rw [hW4] at hb4;have HOK := Lib.hid hok3;have HB4 := Lib.hid ((HB2.out.trans (hb3.mono HB2.out.size)).trans (hb4.mono (Nat.le_trans HB2.out.size hb3.size)));have HO34 := Lib.hid ((Cells.below (cells_of_own7 hown3) hb4 (Nat.le_refl _)).more hb4.size);have HY24 := Lib.hid (((HY2.out.below hb3 (Nat.le_refl _)).below hb4 hb3.size).more (Nat.le_trans hb3.size hb4.size));have HW4 := Lib.hid hW4;clear hok3 hown3 hb3 hb4 hW4))
   rw [HW4.out]
   have g0 : W4.cell? ⟨w3.heap.size,0,none⟩ = some (.slice A3 n c3) := cell_of_row _ _ 0 _ _ _ hx4
   have g1 : W4.cell? ⟨w3.heap.size,1,none⟩ = some (.int .i64 (sz3 : Int)) := cell_of_row _ _ 1 _ _ _ hx4
   have g2 : W4.cell? ⟨w3.heap.size,2,none⟩ = some (.int .i64 (at3 : Int)) := cell_of_row _ _ 2 _ _ _ hx4
   have g3 : W4.cell? ⟨w3.heap.size,3,none⟩ = some (.int .i64 0) := cell_of_row _ _ 3 _ _ _ hx4
   clear hx4 HW4
   obtain ⟨hq1,rfl,hq8⟩ := HOK.out rfl
   obtain rfl := hq1.trans HOL.out
   go_wp2
   refine bodyPost_ret (results_tmp2 rfl _ _ _) rfl ?_
   exact (UnQ.err HE.out HB4.out)
  have v3 : q ≤ 8 * l → decide ((7 : Int) < 8 * (l : Int) - (q : Int)) = false := fun h => decide_eq_false (by omega)
  have HV3 := Lib.hid v3
  obtain ⟨nm,hnm⟩ : ∃ nm,numA (unpack bs) q 8 = nm := ⟨_,rfl⟩
  have HNM := Lib.hid hnm
  rw [hnm] at HU
  by_cases hz : nm = 0
  ·have HE : Hid (unB F bs size = (0,out)) := by show _ = _;rw [HU.out,if_neg (by omega)]
   have v4 : ((nm : Int) != 0) = false := by simp [hz]
   clear hb hl hm1 hs1 hone hT hlen hn HU HE0 hun ho hol holl hsz h7 hnm hz v3
   rw [HE.out]
   go_enter Tryz.func56,Tryz.ntmps56
   go_upto_region 9 with (first
    | (go_at_call 99;refine HUP.out.mono ?_;rintro e w2 ⟨A2,c2,rfl,hown2,hb2⟩;have HCP := Lib.hid (own_capT hown2);have HY2 := Lib.hid (Cells.of_own hown2);have HB2 := Lib.hid hb2;clear hown2 hb2)
    | (go_at_call 100;refine (HRT.out w2 A2 c2 HCP.out HY2.out).mono ?_;rintro e w3 ⟨A3,c3,sz3,at3,rfl,hok3,hown3,hb3⟩;dsimp only at hok3 hown3;dsimp only;rw [HN.out] at hown3;rw [HN.out];have hb4 : Below w3.heap.size w3 (w3.alloc (.cells #[.slice A3 n c3,.int .i64 (sz3 : Int),.int .i64 (at3 : Int),.int .i64 0] 150)) := (Below.refl _ w3).alloc (Nat.le_refl _) _;obtain ⟨W4,hW4⟩ : ∃ W4,w3.alloc (.cells #[.slice A3 n c3,.int .i64 (sz3 : Int),.int .i64 (at3 : Int),.int .i64 0] 150) = W4 := ⟨_,rfl⟩;have hx4 : W4.heap[w3.heap.size]? = some (.cells #[.slice A3 n c3,.int .i64 (sz3 : Int),.int .i64 (at3 : Int),.int .i64 0] 150 (0,0)) := (by rw [← hW4];exact heap_alloc_new w3 _);rw [hW4] at hb4;have HOK := Lib.hid hok3;have HB4 := Lib.hid ((HB2.out.trans (hb3.mono HB2.out.size)).trans (hb4.mono (Nat.le_trans HB2.out.size hb3.size)));have HO34 := Lib.hid ((Cells.below (cells_of_own7 hown3) hb4 (Nat.le_refl _)).more hb4.size);have HY24 := Lib.hid (((HY2.out.below hb3 (Nat.le_refl _)).below hb4 hb3.size).more (Nat.le_trans hb3.size hb4.size));have HW4 := Lib.hid hW4;clear hok3 hown3 hb3 hb4 hW4))
   rw [HW4.out]
   have g0 : W4.cell? ⟨w3.heap.size,0,none⟩ = some (.slice A3 n c3) := cell_of_row _ _ 0 _ _ _ hx4
   have g1 : W4.cell? ⟨w3.heap.size,1,none⟩ = some (.int .i64 (sz3 : Int)) := cell_of_row _ _ 1 _ _ _ hx4
   have g2 : W4.cell? ⟨w3.heap.size,2,none⟩ = some (.int .i64 (at3 : Int)) := cell_of_row _ _ 2 _ _ _ hx4
   have g3 : W4.cell? ⟨w3.heap.size,3,none⟩ = some (.int .i64 0) := cell_of_row _ _ 3 _ _ _ hx4
   clear hx4 HW4
   obtain ⟨hq1,rfl,hq8⟩ := HOK.out rfl
   obtain rfl := hq1.trans HOL.out
   have v3 := HV3.out hq8
   go_wp2_with (first
    | (go_at_call 101;refine (HNU.out W4 A2 c2 _ hq8 HY24.out).mono ?_;rintro e w' ⟨rfl,rfl⟩;rw [HNM.out])
    | (go_at_call 102;refine (HEX.out W4 A3 c3 HO34.out).mono ?_;rintro e w5 ⟨A5,c5,rfl,hc5,hb5⟩;have HC5 := Lib.hid hc5;have HB5 := Lib.hid (HB4.out.trans (hb5.mono HB4.out.size));clear hc5 hb5))
   refine bodyPost_ret (results_tmp2 rfl _ _ _) rfl ?_
   exact ⟨A5,c5,rfl,HC5.out,HB5.out⟩
  ·have HE : Hid (unB F bs size = (3,[])) := by show _ = _;rw [HU.out,if_pos (.inr hz)]
   have v4 : ((nm : Int) != 0) = true := by simpa using hz
   clear hb hl hm1 hs1 hone hT hlen hn HU HE0 hun ho hol holl hsz h7 hnm hz v3
   go_enter Tryz.func56,Tryz.ntmps56
   go_upto_region 9 with (first
    | (go_at_call 99;refine HUP.out.mono ?_;rintro e w2 ⟨A2,c2,rfl,hown2,hb2⟩;have HCP := Lib.hid (own_capT hown2);have HY2 := Lib.hid (Cells.of_own hown2);have HB2 := Lib.hid hb2;clear hown2 hb2)
    | (go_at_call 100;refine (HRT.out w2 A2 c2 HCP.out HY2.out).mono ?_;rintro e w3 ⟨A3,c3,sz3,at3,rfl,hok3,hown3,hb3⟩;dsimp only at hok3 hown3;dsimp only;rw [HN.out] at hown3;rw [HN.out];have hb4 : Below w3.heap.size w3 (w3.alloc (.cells #[.slice A3 n c3,.int .i64 (sz3 : Int),.int .i64 (at3 : Int),.int .i64 0] 150)) := (Below.refl _ w3).alloc (Nat.le_refl _) _;obtain ⟨W4,hW4⟩ : ∃ W4,w3.alloc (.cells #[.slice A3 n c3,.int .i64 (sz3 : Int),.int .i64 (at3 : Int),.int .i64 0] 150) = W4 := ⟨_,rfl⟩;have hx4 : W4.heap[w3.heap.size]? = some (.cells #[.slice A3 n c3,.int .i64 (sz3 : Int),.int .i64 (at3 : Int),.int .i64 0] 150 (0,0)) := (by rw [← hW4];exact heap_alloc_new w3 _);rw [hW4] at hb4;have HOK := Lib.hid hok3;have HB4 := Lib.hid ((HB2.out.trans (hb3.mono HB2.out.size)).trans (hb4.mono (Nat.le_trans HB2.out.size hb3.size)));have HO34 := Lib.hid ((Cells.below (cells_of_own7 hown3) hb4 (Nat.le_refl _)).more hb4.size);have HY24 := Lib.hid (((HY2.out.below hb3 (Nat.le_refl _)).below hb4 hb3.size).more (Nat.le_trans hb3.size hb4.size));have HW4 := Lib.hid hW4;clear hok3 hown3 hb3 hb4 hW4))
   rw [HW4.out]
   have g0 : W4.cell? ⟨w3.heap.size,0,none⟩ = some (.slice A3 n c3) := cell_of_row _ _ 0 _ _ _ hx4
   have g1 : W4.cell? ⟨w3.heap.size,1,none⟩ = some (.int .i64 (sz3 : Int)) := cell_of_row _ _ 1 _ _ _ hx4
   have g2 : W4.cell? ⟨w3.heap.size,2,none⟩ = some (.int .i64 (at3 : Int)) := cell_of_row _ _ 2 _ _ _ hx4
   have g3 : W4.cell? ⟨w3.heap.size,3,none⟩ = some (.int .i64 0) := cell_of_row _ _ 3 _ _ _ hx4
   clear hx4 HW4
   obtain ⟨hq1,rfl,hq8⟩ := HOK.out rfl
   obtain rfl := hq1.trans HOL.out
   have v3 := HV3.out hq8
   go_wp2_with (go_at_call 101;refine (HNU.out W4 A2 c2 _ hq8 HY24.out).mono ?_;rintro e w' ⟨rfl,rfl⟩;rw [HNM.out])
   refine bodyPost_ret (results_tmp2 rfl _ _ _) rfl ?_
   exact (UnQ.err HE.out HB4.out)
 have t5 : (m == 1) = false := by simpa using hone
 by_cases htwo : m = 2
 ·have t6 : (m == 2) = true := by simpa using htwo
  have HP := Lib.hid (refPieces_any A l c w.heap.size bs w hl (by omega) hc hb (Nat.le_refl _))
  unfold PcPost at HP
  obtain ⟨⟨ps,er⟩,hT⟩ : ∃ T,pcA bs = T := ⟨_,rfl⟩
  have HU : Hid (unM F m bs size = if er ≠ 0 then (er,[]) else if (ps.flatten.length : Int) ≠ size then (5,[]) else (0,ps.flatten)) := by show _ = _;rw [unM,if_neg hm1,if_neg hs1,if_neg hone,if_pos htwo,hT]
  rw [hT] at HP
  dsimp only at HP
  by_cases her : er = 0
  rotate_left
  ·have HE : Hid (unM F m bs size = (er,[])) := by show _ = _;rw [HU.out,if_pos her]
   have v1 : (er != 0) = true := by simpa using her
   clear hb hl hm1 hs1 hone htwo hT her HU
   go_enter Tryz.func56,Tryz.ntmps56
   go_wp2_with (go_at_call 83;refine HP.out.mono ?_;rintro e w3 ⟨v3,n3,cp3,A3,rfl,rfl,_,_,hb3⟩;have HB3 := Lib.hid hb3;clear hb3)
   refine bodyPost_ret (results_tmp2 rfl _ _ _) rfl ?_
   exact (UnQ.err HE.out HB3.out)
  subst her
  rw [if_neg (by simp)] at HU
  obtain ⟨R,hR⟩ : ∃ R,ps.flatten = R := ⟨_,rfl⟩
  rw [hR] at HP HU
  obtain ⟨rl,hrl⟩ : ∃ rl,R.length = rl := ⟨_,rfl⟩
  have HRL := Lib.hid hrl
  rw [hrl] at HU
  by_cases hsz : (rl : Int) = size
  ·have HE : Hid (unM F m bs size = (0,R)) := by show _ = _;rw [HU.out,if_neg (by omega)]
   have v2 : ((rl : Int) != size) = false := by simpa using hsz
   clear hb hl hm1 hs1 hone htwo hT HU hR hrl hsz
   rw [HE.out]
   go_enter Tryz.func56,Tryz.ntmps56
   go_wp2_with (go_at_call 83;refine HP.out.mono ?_;rintro e w3 ⟨v3,n3,cp3,A3,rfl,rfl,hown,_,hb3⟩;have hown2 := hown (by first | rfl | trivial);obtain rfl : n3 = rl := (own_len hown2).symm.trans HRL.out;have HO3 := Lib.hid hown2;have HB3 := Lib.hid hb3;clear hown hown2 hb3)
   refine bodyPost_ret (results_tmp2 rfl _ _ _) rfl ?_
   exact ⟨A3,cp3,by rw [HRL.out];rfl,Cells.of_own HO3.out,HB3.out⟩
  ·have HE : Hid (unM F m bs size = (5,[])) := by show _ = _;rw [HU.out,if_pos hsz]
   have v2 : ((rl : Int) != size) = true := by simpa using hsz
   clear hb hl hm1 hs1 hone htwo hT HU hR hrl hsz
   go_enter Tryz.func56,Tryz.ntmps56
   go_wp2_with (go_at_call 83;refine HP.out.mono ?_;rintro e w3 ⟨v3,n3,cp3,A3,rfl,rfl,hown,_,hb3⟩;have hown2 := hown (by first | rfl | trivial);obtain rfl : n3 = rl := (own_len hown2).symm.trans HRL.out;have HB3 := Lib.hid hb3;clear hown hown2 hb3)
   refine bodyPost_ret (results_tmp2 rfl _ _ _) rfl ?_
   exact (UnQ.err HE.out HB3.out)
 have t6 : (m == 2) = false := by simpa using htwo
 have HU : Hid (unM F m bs size = if (l : Int) ≠ size then (5,[]) else (0,bs)) := by show _ = _;rw [unM,if_neg hm1,if_neg hs1,if_neg hone,if_neg htwo,hl]
 have HLL := Lib.hid hl
 by_cases hsz : (l : Int) = size
 ·have HE : Hid (unM F m bs size = (0,bs)) := by show _ = _;rw [HU.out,if_neg (by omega)]
  have v2 : ((l : Int) != size) = false := by simpa using hsz
  clear hb hl hm1 hs1 hone htwo HU hsz
  rw [HE.out]
  go_enter Tryz.func56,Tryz.ntmps56
  go_wp2
  refine bodyPost_ret (results_tmp2 rfl _ _ _) rfl ?_
  exact ⟨A,c,by rw [HLL.out];rfl,HBY.out,Below.refl _ _⟩
 ·have HE : Hid (unM F m bs size = (5,[])) := by show _ = _;rw [HU.out,if_pos hsz]
  have v2 : ((l : Int) != size) = true := by simpa using hsz
  clear hb hl hm1 hs1 hone htwo HU hsz
  go_enter Tryz.func56,Tryz.ntmps56
  go_wp2
  refine bodyPost_ret (results_tmp2 rfl _ _ _) rfl ?_
  exact (UnQ.err HE.out (Below.refl _ _))
end Go.Proofs.YtaknladkodibaaaGreatDoor
namespace Go.Proofs.YtaknladkodibaaaGreatDoor
open Go.RowKit CrcP FieldP BitsP SymP
attribute [local go_sem ↓] Go.wp_at_zero Go.wp_at_succ
def areaB (bs : List UInt8) (fr ar : Int) : List UInt8 := (bs.drop fr.toNat).take ar.toNat
def datM (F : List Int → List Bool → Int × Int × Nat) (bs : List UInt8) (nm : ByteArray) (at_ fr ar sz su me : Int) : Int × List UInt8 :=
 if memB nm at_ fr ar sz me = false then (1,[]) else if (bs.length : Int) < fr + ar then (2,[]) else if (CrcP.sumN (areaB bs fr ar) : Int) = su then unM F me (areaB bs fr ar) sz else (4,[])
theorem memB_nums {nm : ByteArray} {at_ fr ar sz me : Int} (h : memB nm at_ fr ar sz me = true) : 0 ≤ me ∧ me ≤ 2 ∧ 1024 ≤ at_ ∧ at_ ≤ 1073741824 ∧ fr = at_ + (22 + (nm.size : Int)) ∧ nm.size ≤ 64 ∧ 0 ≤ ar ∧ ar ≤ 262144 ∧ 0 ≤ sz ∧ sz ≤ 65536 := by
 simp only [memB,Bool.and_eq_true,beq_iff_eq] at h
 obtain ⟨⟨⟨⟨⟨h1,h2⟩,h3⟩,h4⟩,h5⟩,h6⟩ := h
 have := rightB_size h1
 have := inB_yes h2
 have := inB_yes h3
 have := inB_yes h5
 have := inB_yes h6
 omega
theorem datM_no {F : List Int → List Bool → Int × Int × Nat} {bs : List UInt8} {nm : ByteArray} {at_ fr ar sz su me : Int} (h : memB nm at_ fr ar sz me = false) : datM F bs nm at_ fr ar sz su me = (1,[]) := if_pos h
theorem datM_end {F : List Int → List Bool → Int × Int × Nat} {bs : List UInt8} {nm : ByteArray} {at_ fr ar sz su me : Int} (h : memB nm at_ fr ar sz me = true) (h2 : (bs.length : Int) < fr + ar) : datM F bs nm at_ fr ar sz su me = (2,[]) := by
 unfold datM
 rw [if_neg (by rw [h];decide),if_pos h2]
theorem datM_sum {F : List Int → List Bool → Int × Int × Nat} {bs : List UInt8} {nm : ByteArray} {at_ fr ar sz su me : Int} (h : memB nm at_ fr ar sz me = true) (h2 : ¬ (bs.length : Int) < fr + ar) (h3 : ¬ (CrcP.sumN (areaB bs fr ar) : Int) = su) : datM F bs nm at_ fr ar sz su me = (4,[]) := by
 unfold datM
 rw [if_neg (by rw [h];decide),if_neg h2,if_neg h3]
theorem datM_yes {F : List Int → List Bool → Int × Int × Nat} {bs : List UInt8} {nm : ByteArray} {at_ fr ar sz su me : Int} (h : memB nm at_ fr ar sz me = true) (h2 : ¬ (bs.length : Int) < fr + ar) (h3 : (CrcP.sumN (areaB bs fr ar) : Int) = su) : datM F bs nm at_ fr ar sz su me = unM F me (areaB bs fr ar) sz := by
 unfold datM
 rw [if_neg (by rw [h];decide),if_neg h2,if_pos h3]
set_option maxRecDepth 100000 in
set_option maxHeartbeats 1000000 in
theorem recData_any (F : List Int → List Bool → Int × Int × Nat) (hF : FunT F) (tg : Nat) (A : Option Addr) (l c : Nat) (bs : List UInt8) (nm : ByteArray) (at_ fr ar sz su me : Int) (w : World) (hT : Table w tg) (hm : nm.size ≤ maxLen) (hl : bs.length = l) (hl2 : l ≤ 1000000) (hme : me = 1 → ar ≤ 10000 ∨ l ≤ 10000) (hc : l ≤ c) (hb : Bytes w w.heap.size A bs) :
  Calls Tryz.prog 19 #[.pointer (some ⟨tg,0,none⟩),.slice A l c,.agg #[.string nm,.int .i64 at_,.int .i64 fr,.int .i64 ar,.int .i64 sz,.int .u32 su,.int .i64 me]] w fun e w' => UnQ w (datM F bs nm at_ fr ar sz su me) e w' := by
 obtain ⟨W0,hW0⟩ : ∃ W0,w.alloc (.cells #[.string nm,.int .i64 at_,.int .i64 fr,.int .i64 ar,.int .i64 sz,.int .u32 su,.int .i64 me] 39) = W0 := ⟨_,rfl⟩
 have HX0 : Hid (Box W0 w.heap.size #[.string nm,.int .i64 at_,.int .i64 fr,.int .i64 ar,.int .i64 sz,.int .u32 su,.int .i64 me] 39) := by show Box _ _ _ _;rw [← hW0];exact heap_alloc_new w _
 have HB0 : Hid (Below w.heap.size w W0) := by show Below _ _ _;rw [← hW0];exact (Below.refl _ w).alloc (Nat.le_refl _) _
 have HZ0 : Hid (W0.heap.size = w.heap.size + 1) := by show _ = _;rw [← hW0];simp
 have HRI := Lib.hid (fun W => enRight_any nm at_ fr ar sz su me W hm)
 have HYS : Hid (∀ W,Below (w.heap.size + 1) W0 W → W.cell? ⟨w.heap.size,0,none⟩ = some (.string nm) ∧ W.cell? ⟨w.heap.size,1,none⟩ = some (.int .i64 at_) ∧ W.cell? ⟨w.heap.size,2,none⟩ = some (.int .i64 fr) ∧ W.cell? ⟨w.heap.size,3,none⟩ = some (.int .i64 ar) ∧ W.cell? ⟨w.heap.size,4,none⟩ = some (.int .i64 sz) ∧ W.cell? ⟨w.heap.size,5,none⟩ = some (.int .u32 su) ∧ W.cell? ⟨w.heap.size,6,none⟩ = some (.int .i64 me)) := fun W hW => by
  have h := HX0.out.below hW (Nat.lt_succ_self _)
  exact ⟨h.cell 0,h.cell 1,h.cell 2,h.cell 3,h.cell 4,h.cell 5,h.cell 6⟩
 have HT := Lib.hid hT
 have HBY := Lib.hid hb
 have HL := Lib.hid hl
 have htl := hT.lt
 obtain ⟨y0,y1,y2,y3,y4,y5,y6⟩ := HYS.out W0 (Below.refl _ _)
 clear hT hb hl
 have HWW := Lib.hid hW0
 clear hW0
 cases hM : memB nm at_ fr ar sz me with
 | false =>
  rw [datM_no hM]
  rw [hM] at HRI
  go_enter Tryz.func19,Tryz.ntmps19
  go_wp2_with fail
  rw [HWW.out]
  go_wp2_with (go_at_call 53;refine (HRI.out _).mono ?_;rintro e w1 ⟨rfl,hb1⟩;have HB1 := Lib.hid (HB0.out.trans (hb1.mono HB0.out.size));clear hb1)
  exact bodyPost_ret (results_tmp2 rfl _ _ _) rfl (UnQ.err rfl HB1.out)
 | true =>
  obtain ⟨m0,m1,a0,a1,f2,n64,r0,r1,s0,s1⟩ := memB_nums hM
  rw [hM] at HRI
  obtain ⟨f,hf⟩ : ∃ f : Nat,fr = f := ⟨fr.toNat,by omega⟩
  obtain ⟨a,ha⟩ : ∃ a : Nat,ar = a := ⟨ar.toNat,by omega⟩
  subst hf
  subst ha
  have hf2 : 1046 ≤ f ∧ f ≤ 1073741910 := by omega
  have ha2 : a ≤ 262144 := by omega
  have HWI := Lib.hid (fun W => rcWithin_any A l c nm at_ f a sz su me W (by omega) (by omega) (by omega))
  have hme2 : me = 1 → a ≤ 10000 ∨ l ≤ 10000 := fun h => by have := hme h;omega
  clear m0 m1 a0 a1 f2 n64 r0 r1 s0 s1 hme
  by_cases h2 : (l : Int) < f + a
  ·rw [datM_end hM (by rw [HL.out];omega)]
   rw [show decide ((a : Int) ≤ (l : Int) - (f : Int)) = false from decide_eq_false (by omega)] at HWI
   clear h2 hme2
   go_enter Tryz.func19,Tryz.ntmps19
   go_wp2_with fail
   rw [HWW.out]
   go_wp2_with (first
    | (go_at_call 53;refine (HRI.out _).mono ?_;rintro e w1 ⟨rfl,hb1⟩;have HC1 : Hid (Below (w.heap.size + 1) W0 w1) := hb1.mono (by rw [HZ0.out];exact Nat.le_refl _);obtain ⟨y0,y1,y2,y3,y4,y5,y6⟩ := HYS.out w1 HC1.out;have HB1 := Lib.hid (HB0.out.trans (hb1.mono HB0.out.size));clear hb1)
    | (go_at_call 48;refine (HWI.out _).mono ?_;rintro e w2 ⟨rfl,hb2⟩;have HB2 := Lib.hid (HB1.out.trans (hb2.mono HB1.out.size));clear hb2))
   exact bodyPost_ret (results_tmp2 rfl _ _ _) rfl (UnQ.err rfl HB2.out)
  ·rw [show decide ((a : Int) ≤ (l : Int) - (f : Int)) = true from decide_eq_true (by omega)] at HWI
   obtain ⟨b,o,rfl,hbB,hcell⟩ := HBY.out (by rw [byteCells_length,HL.out];omega)
   have har : areaB bs f a = (bs.drop f).take a := by unfold areaB;simp
   have hal : ((bs.drop f).take a).length = a := by rw [List.length_take,List.length_drop,HL.out];omega
   have hby := bytes_partD hbB hcell f a
   have hDM : ∀ er,(CrcP.sumN (areaB bs f a) : Int) = su → er = datM F bs nm at_ f a sz su me → er = unM F me (areaB bs f a) sz := fun er h3 h4 => by rw [h4,datM_yes hM (by rw [HL.out];omega) h3]
   have hDN : ¬ (CrcP.sumN (areaB bs f a) : Int) = su → datM F bs nm at_ f a sz su me = (4,[]) := fun h3 => datM_sum hM (by rw [HL.out];omega) h3
   obtain ⟨ab,hab⟩ : ∃ ab,areaB bs f a = ab := ⟨_,rfl⟩
   rw [hab] at hDM hDN
   rw [← har,hab] at hal hby
   have HAL := Lib.hid hal
   have HABY := Lib.hid (fun W (hW : Below w.heap.size w W) => hby.below hW (Nat.le_refl _))
   have HSU := Lib.hid (fun A8 c8 W (hW : Below w.heap.size w W) (hB8 : Bytes W w.heap.size A8 ab) => sum_any tg A8 a c8 ab w.heap.size W HAL.out (by omega) (HT.out.below hW htl) hB8)
   have HUN := Lib.hid (fun A8 c8 W (h8 : a ≤ c8) (hW : Below w.heap.size w W) (hB8 : Bytes W w.heap.size A8 ab) => cdUnpack_any F hF A8 a c8 ab me sz W HAL.out (by omega) (fun h => by have := hme2 h;omega) h8 (hB8.more hW.size))
   obtain ⟨s,hs⟩ : ∃ s,CrcP.sumN ab = s := ⟨_,rfl⟩
   rw [hs] at HSU hDM hDN
   have u1 : f ≤ l := by omega
   have u2 : f + a ≤ l := by omega
   clear hbB hcell har hal hby hab hs h2 hme2
   by_cases hcf : c = f
   ·subst hcf
    have HAZ : Hid (∀ W,Bytes W w.heap.size (some ⟨b,o,none⟩) ab) := fun W hp => by rw [byteCells_length,HAL.out] at hp;omega
    have HCF : Hid (a ≤ 0) := by show _ ≤ _;omega
    by_cases h3 : (s : Int) = su
    ·have HE := Lib.hid (hDM _ h3 rfl)
     rw [HE.out]
     have v1 : ((s : Int) != su) = false := by simpa using h3
     obtain ⟨T,hT⟩ : ∃ T,unM F me ab sz = T := ⟨_,rfl⟩
     rw [hT] at HUN ⊢
     clear h3 hDM hDN hT HE
     go_enter Tryz.func19,Tryz.ntmps19
     go_wp2_with fail
     rw [HWW.out]
     go_wp2_with (first
      | (go_at_call 53;refine (HRI.out _).mono ?_;rintro e w1 ⟨rfl,hb1⟩;have HC1 : Hid (Below (w.heap.size + 1) W0 w1) := hb1.mono (by rw [HZ0.out];exact Nat.le_refl _);obtain ⟨y0,y1,y2,y3,y4,y5,y6⟩ := HYS.out w1 HC1.out;have HB1 := Lib.hid (HB0.out.trans (hb1.mono HB0.out.size));have y5d : w1.drew.cell? ⟨w.heap.size,5,none⟩ = some (.int .u32 su) := y5;clear hb1)
      | (go_at_call 48;refine (HWI.out _).mono ?_;rintro e w2 ⟨rfl,hb2⟩;obtain ⟨y0,y1,y2,y3,y4,y5,y6⟩ := HYS.out w2 (HC1.out.trans (hb2.mono (by have := HC1.out.size;have := HZ0.out;omega)));have HB2 := Lib.hid (HB1.out.trans (hb2.mono HB1.out.size));have y5d : w2.drew.cell? ⟨w.heap.size,5,none⟩ = some (.int .u32 su) := y5;clear hb2))
     go_region_with (go_at_call 33;refine (HSU.out (some ⟨b,o,none⟩) 0 w2.drew HB2.out.drew (HAZ.out _)).mono ?_;rintro e w3 ⟨rfl,rfl⟩)
     all_goals
      go_wp2_with (go_at_call 54;refine (HUN.out (some ⟨b,o,none⟩) 0 _ HCF.out HB2.out.drew (HAZ.out _)).mono ?_;rintro e w4 ⟨A4,c4,rfl,hc4,hb4⟩;have HC4 := Lib.hid hc4;have HB4 := Lib.hid (HB2.out.drew.trans (hb4.mono HB2.out.drew.size));clear hc4 hb4)
      refine bodyPost_ret (results_tmp2 rfl _ _ _) rfl ?_
      exact ⟨A4,c4,rfl,HC4.out,HB4.out⟩
    ·have HE := Lib.hid (hDN h3)
     rw [HE.out]
     have v1 : ((s : Int) != su) = true := by simpa using h3
     clear h3 hDM hDN HE
     go_enter Tryz.func19,Tryz.ntmps19
     go_wp2_with fail
     rw [HWW.out]
     go_wp2_with (first
      | (go_at_call 53;refine (HRI.out _).mono ?_;rintro e w1 ⟨rfl,hb1⟩;have HC1 : Hid (Below (w.heap.size + 1) W0 w1) := hb1.mono (by rw [HZ0.out];exact Nat.le_refl _);obtain ⟨y0,y1,y2,y3,y4,y5,y6⟩ := HYS.out w1 HC1.out;have HB1 := Lib.hid (HB0.out.trans (hb1.mono HB0.out.size));have y5d : w1.drew.cell? ⟨w.heap.size,5,none⟩ = some (.int .u32 su) := y5;clear hb1)
      | (go_at_call 48;refine (HWI.out _).mono ?_;rintro e w2 ⟨rfl,hb2⟩;obtain ⟨y0,y1,y2,y3,y4,y5,y6⟩ := HYS.out w2 (HC1.out.trans (hb2.mono (by have := HC1.out.size;have := HZ0.out;omega)));have HB2 := Lib.hid (HB1.out.trans (hb2.mono HB1.out.size));have y5d : w2.drew.cell? ⟨w.heap.size,5,none⟩ = some (.int .u32 su) := y5;clear hb2))
     go_region_with (go_at_call 33;refine (HSU.out (some ⟨b,o,none⟩) 0 w2.drew HB2.out.drew (HAZ.out _)).mono ?_;rintro e w3 ⟨rfl,rfl⟩)
     all_goals
      go_wp2
      refine bodyPost_ret (results_tmp2 rfl _ _ _) rfl ?_
      exact UnQ.err rfl HB2.out.drew
   ·have hcf2 : ¬ c - f = 0 := by omega
    have hcf3 : ¬ c ≤ f := by omega
    have HCF : Hid (a ≤ c - f) := by show _ ≤ _;omega
    by_cases h3 : (s : Int) = su
    ·have HE := Lib.hid (hDM _ h3 rfl)
     rw [HE.out]
     have v1 : ((s : Int) != su) = false := by simpa using h3
     obtain ⟨T,hT⟩ : ∃ T,unM F me ab sz = T := ⟨_,rfl⟩
     rw [hT] at HUN ⊢
     clear h3 hDM hDN hT HE
     go_enter Tryz.func19,Tryz.ntmps19
     go_wp2_with fail
     rw [HWW.out]
     go_wp2_with (first
      | (go_at_call 53;refine (HRI.out _).mono ?_;rintro e w1 ⟨rfl,hb1⟩;have HC1 : Hid (Below (w.heap.size + 1) W0 w1) := hb1.mono (by rw [HZ0.out];exact Nat.le_refl _);obtain ⟨y0,y1,y2,y3,y4,y5,y6⟩ := HYS.out w1 HC1.out;have HB1 := Lib.hid (HB0.out.trans (hb1.mono HB0.out.size));have y5d : w1.drew.cell? ⟨w.heap.size,5,none⟩ = some (.int .u32 su) := y5;clear hb1)
      | (go_at_call 48;refine (HWI.out _).mono ?_;rintro e w2 ⟨rfl,hb2⟩;obtain ⟨y0,y1,y2,y3,y4,y5,y6⟩ := HYS.out w2 (HC1.out.trans (hb2.mono (by have := HC1.out.size;have := HZ0.out;omega)));have HB2 := Lib.hid (HB1.out.trans (hb2.mono HB1.out.size));have y5d : w2.drew.cell? ⟨w.heap.size,5,none⟩ = some (.int .u32 su) := y5;clear hb2))
     go_region_with (go_at_call 33;refine (HSU.out (some ⟨b,o + f,none⟩) (c - f) w2.drew HB2.out.drew (HABY.out _ HB2.out.drew)).mono ?_;rintro e w3 ⟨rfl,rfl⟩)
     all_goals
      go_wp2_with (go_at_call 54;refine (HUN.out (some ⟨b,o + f,none⟩) (c - f) _ HCF.out HB2.out.drew (HABY.out _ HB2.out.drew)).mono ?_;rintro e w4 ⟨A4,c4,rfl,hc4,hb4⟩;have HC4 := Lib.hid hc4;have HB4 := Lib.hid (HB2.out.drew.trans (hb4.mono HB2.out.drew.size));clear hc4 hb4)
      refine bodyPost_ret (results_tmp2 rfl _ _ _) rfl ?_
      exact ⟨A4,c4,rfl,HC4.out,HB4.out⟩
    ·have HE := Lib.hid (hDN h3)
     rw [HE.out]
     have v1 : ((s : Int) != su) = true := by simpa using h3
     clear h3 hDM hDN HE
     go_enter Tryz.func19,Tryz.ntmps19
     go_wp2_with fail
     rw [HWW.out]
     go_wp2_with (first
      | (go_at_call 53;refine (HRI.out _).mono ?_;rintro e w1 ⟨rfl,hb1⟩;have HC1 : Hid (Below (w.heap.size + 1) W0 w1) := hb1.mono (by rw [HZ0.out];exact Nat.le_refl _);obtain ⟨y0,y1,y2,y3,y4,y5,y6⟩ := HYS.out w1 HC1.out;have HB1 := Lib.hid (HB0.out.trans (hb1.mono HB0.out.size));have y5d : w1.drew.cell? ⟨w.heap.size,5,none⟩ = some (.int .u32 su) := y5;clear hb1)
      | (go_at_call 48;refine (HWI.out _).mono ?_;rintro e w2 ⟨rfl,hb2⟩;obtain ⟨y0,y1,y2,y3,y4,y5,y6⟩ := HYS.out w2 (HC1.out.trans (hb2.mono (by have := HC1.out.size;have := HZ0.out;omega)));have HB2 := Lib.hid (HB1.out.trans (hb2.mono HB1.out.size));have y5d : w2.drew.cell? ⟨w.heap.size,5,none⟩ = some (.int .u32 su) := y5;clear hb2))
     go_region_with (go_at_call 33;refine (HSU.out (some ⟨b,o + f,none⟩) (c - f) w2.drew HB2.out.drew (HABY.out _ HB2.out.drew)).mono ?_;rintro e w3 ⟨rfl,rfl⟩)
     all_goals
      go_wp2
      refine bodyPost_ret (results_tmp2 rfl _ _ _) rfl ?_
      exact UnQ.err rfl HB2.out.drew
set_option maxRecDepth 100000 in
set_option maxHeartbeats 1000000 in
theorem refData_any (F : List Int → List Bool → Int × Int × Nat) (hF : FunT F) (A : Option Addr) (l c : Nat) (bs : List UInt8) (nm : ByteArray) (at_ fr ar sz su me : Int) (w : World) (hm : nm.size ≤ maxLen) (f0 : -9223372036854775808 ≤ fr) (f1 : fr ≤ 9223372036854775807) (hl : bs.length = l) (hl2 : l ≤ 10000) (hc : l ≤ c) (hb : Bytes w w.heap.size A bs) :
  Calls Tryz.prog 20 #[.slice A l c,.agg #[.string nm,.int .i64 at_,.int .i64 fr,.int .i64 ar,.int .i64 sz,.int .u32 su,.int .i64 me]] w fun e w' => UnQ w (datM F bs nm at_ fr ar sz su me) e w' := by
 obtain ⟨W0,hW0⟩ : ∃ W0,w.alloc (.cells #[.string nm,.int .i64 at_,.int .i64 fr,.int .i64 ar,.int .i64 sz,.int .u32 su,.int .i64 me] 39) = W0 := ⟨_,rfl⟩
 have HX0 : Hid (Box W0 w.heap.size #[.string nm,.int .i64 at_,.int .i64 fr,.int .i64 ar,.int .i64 sz,.int .u32 su,.int .i64 me] 39) := by show Box _ _ _ _;rw [← hW0];exact heap_alloc_new w _
 have HB0 : Hid (Below w.heap.size w W0) := by show Below _ _ _;rw [← hW0];exact (Below.refl _ w).alloc (Nat.le_refl _) _
 have HZ0 : Hid (W0.heap.size = w.heap.size + 1) := by show _ = _;rw [← hW0];simp
 have HRI := Lib.hid (fun W => refEn_any nm at_ fr ar sz su me W hm f0 f1)
 have HYS : Hid (∀ W,Below (w.heap.size + 1) W0 W → W.cell? ⟨w.heap.size,0,none⟩ = some (.string nm) ∧ W.cell? ⟨w.heap.size,1,none⟩ = some (.int .i64 at_) ∧ W.cell? ⟨w.heap.size,2,none⟩ = some (.int .i64 fr) ∧ W.cell? ⟨w.heap.size,3,none⟩ = some (.int .i64 ar) ∧ W.cell? ⟨w.heap.size,4,none⟩ = some (.int .i64 sz) ∧ W.cell? ⟨w.heap.size,5,none⟩ = some (.int .u32 su) ∧ W.cell? ⟨w.heap.size,6,none⟩ = some (.int .i64 me)) := fun W hW => by
  have h := HX0.out.below hW (Nat.lt_succ_self _)
  exact ⟨h.cell 0,h.cell 1,h.cell 2,h.cell 3,h.cell 4,h.cell 5,h.cell 6⟩
 have HBY := Lib.hid hb
 have HL := Lib.hid hl
 obtain ⟨y0,y1,y2,y3,y4,y5,y6⟩ := HYS.out W0 (Below.refl _ _)
 clear hb hl f0 f1
 have HWW := Lib.hid hW0
 clear hW0
 cases hM : memB nm at_ fr ar sz me with
 | false =>
  rw [datM_no hM]
  rw [hM] at HRI
  go_enter Tryz.func20,Tryz.ntmps20
  go_wp2_with fail
  rw [HWW.out]
  go_wp2_with (go_at_call 55;refine (HRI.out _).mono ?_;rintro e w1 ⟨rfl,hb1⟩;have HB1 := Lib.hid (HB0.out.trans (hb1.mono HB0.out.size));clear hb1)
  exact bodyPost_ret (results_tmp2 rfl _ _ _) rfl (UnQ.err rfl HB1.out)
 | true =>
  obtain ⟨m0,m1,a0,a1,f2,n64,r0,r1,s0,s1⟩ := memB_nums hM
  rw [hM] at HRI
  obtain ⟨f,hf⟩ : ∃ f : Nat,fr = f := ⟨fr.toNat,by omega⟩
  obtain ⟨a,ha⟩ : ∃ a : Nat,ar = a := ⟨ar.toNat,by omega⟩
  subst hf
  subst ha
  have hf2 : 1046 ≤ f ∧ f ≤ 1073741910 := by omega
  have ha2 : a ≤ 262144 := by omega
  clear m0 m1 a0 a1 f2 n64 r0 r1 s0 s1
  by_cases h2 : (l : Int) < f + a
  ·rw [datM_end hM (by rw [HL.out];omega)]
   by_cases h4 : (l : Int) < f
   ·have t1 : decide ((l : Int) < (f : Int)) = true := decide_eq_true h4
    have t1n : decide (l < f) = true := decide_eq_true (by omega)
    clear h2 h4
    go_enter Tryz.func20,Tryz.ntmps20
    go_wp2_with fail
    rw [HWW.out]
    go_wp2_with (first
     | (go_at_call 55;refine (HRI.out _).mono ?_;rintro e w1 ⟨rfl,hb1⟩;have HC1 : Hid (Below (w.heap.size + 1) W0 w1) := hb1.mono (by rw [HZ0.out];exact Nat.le_refl _);obtain ⟨y0,y1,y2,y3,y4,y5,y6⟩ := HYS.out w1 HC1.out;have HB1 := Lib.hid (HB0.out.trans (hb1.mono HB0.out.size));clear hb1))
    exact bodyPost_ret (results_tmp2 rfl _ _ _) rfl (UnQ.err rfl HB1.out)
   ·have t1 : decide ((l : Int) < (f : Int)) = false := decide_eq_false h4
    have t1n : decide (l < f) = false := decide_eq_false (by omega)
    have t2 : decide ((l : Int) - (f : Int) < (a : Int)) = true := decide_eq_true (by omega)
    clear h2 h4
    go_enter Tryz.func20,Tryz.ntmps20
    go_wp2_with fail
    rw [HWW.out]
    go_wp2_with (first
     | (go_at_call 55;refine (HRI.out _).mono ?_;rintro e w1 ⟨rfl,hb1⟩;have HC1 : Hid (Below (w.heap.size + 1) W0 w1) := hb1.mono (by rw [HZ0.out];exact Nat.le_refl _);obtain ⟨y0,y1,y2,y3,y4,y5,y6⟩ := HYS.out w1 HC1.out;have HB1 := Lib.hid (HB0.out.trans (hb1.mono HB0.out.size));clear hb1))
    exact bodyPost_ret (results_tmp2 rfl _ _ _) rfl (UnQ.err rfl HB1.out)
  ·obtain ⟨b,o,rfl,hbB,hcell⟩ := HBY.out (by rw [byteCells_length,HL.out];omega)
   have har : areaB bs f a = (bs.drop f).take a := by unfold areaB;simp
   have hal : ((bs.drop f).take a).length = a := by rw [List.length_take,List.length_drop,HL.out];omega
   have hby := bytes_partD hbB hcell f a
   have hDM : ∀ er,(CrcP.sumN (areaB bs f a) : Int) = su → er = datM F bs nm at_ f a sz su me → er = unM F me (areaB bs f a) sz := fun er h3 h4 => by rw [h4,datM_yes hM (by rw [HL.out];omega) h3]
   have hDN : ¬ (CrcP.sumN (areaB bs f a) : Int) = su → datM F bs nm at_ f a sz su me = (4,[]) := fun h3 => datM_sum hM (by rw [HL.out];omega) h3
   obtain ⟨ab,hab⟩ : ∃ ab,areaB bs f a = ab := ⟨_,rfl⟩
   rw [hab] at hDM hDN
   rw [← har,hab] at hal hby
   have HAL := Lib.hid hal
   have HABY := Lib.hid (fun W (hW : Below w.heap.size w W) => hby.below hW (Nat.le_refl _))
   have HSU := Lib.hid (fun A8 c8 W (hB8 : Bytes W w.heap.size A8 ab) => refSum_any A8 a c8 ab w.heap.size W HAL.out (by omega) hB8)
   have HUN := Lib.hid (fun A8 c8 W (h8 : a ≤ c8) (hW : Below w.heap.size w W) (hB8 : Bytes W w.heap.size A8 ab) => rdUnpack_any F hF A8 a c8 ab me sz W HAL.out (by omega) h8 (hB8.more hW.size))
   obtain ⟨s,hs⟩ : ∃ s,CrcP.sumN ab = s := ⟨_,rfl⟩
   rw [hs] at HSU hDM hDN
   have u1 : f ≤ l := by omega
   have u2 : f + a ≤ l := by omega
   have t1 : decide ((l : Int) < (f : Int)) = false := decide_eq_false (by omega)
   have t1n : decide (l < f) = false := decide_eq_false (by omega)
   have t2 : decide ((l : Int) - (f : Int) < (a : Int)) = false := decide_eq_false (by omega)
   clear hbB hcell har hal hby hab hs h2
   by_cases hcf : c = f
   ·subst hcf
    have HAZ : Hid (∀ W,Bytes W w.heap.size (some ⟨b,o,none⟩) ab) := fun W hp => by rw [byteCells_length,HAL.out] at hp;omega
    have HCF : Hid (a ≤ 0) := by show _ ≤ _;omega
    by_cases h3 : (s : Int) = su
    ·have HE := Lib.hid (hDM _ h3 rfl)
     rw [HE.out]
     have v1 : ((s : Int) != su) = false := by simpa using h3
     obtain ⟨T,hT⟩ : ∃ T,unM F me ab sz = T := ⟨_,rfl⟩
     rw [hT] at HUN ⊢
     clear h3 hDM hDN hT HE
     go_enter Tryz.func20,Tryz.ntmps20
     go_wp2_with fail
     rw [HWW.out]
     go_wp2_with (go_at_call 55;refine (HRI.out _).mono ?_;rintro e w1 ⟨rfl,hb1⟩;have HC1 : Hid (Below (w.heap.size + 1) W0 w1) := hb1.mono (by rw [HZ0.out];exact Nat.le_refl _);obtain ⟨y0,y1,y2,y3,y4,y5,y6⟩ := HYS.out w1 HC1.out;have HB1 := Lib.hid (HB0.out.trans (hb1.mono HB0.out.size));have y5d : w1.drew.cell? ⟨w.heap.size,5,none⟩ = some (.int .u32 su) := y5;clear hb1)
     go_region_with (go_at_call 36;refine (HSU.out (some ⟨b,o,none⟩) 0 w1.drew (HAZ.out _)).mono ?_;rintro e w3 ⟨rfl,rfl⟩)
     all_goals
      go_wp2_with (go_at_call 56;refine (HUN.out (some ⟨b,o,none⟩) 0 _ HCF.out HB1.out.drew (HAZ.out _)).mono ?_;rintro e w4 ⟨A4,c4,rfl,hc4,hb4⟩;have HC4 := Lib.hid hc4;have HB4 := Lib.hid (HB1.out.drew.trans (hb4.mono HB1.out.drew.size));clear hc4 hb4)
      refine bodyPost_ret (results_tmp2 rfl _ _ _) rfl ?_
      exact ⟨A4,c4,rfl,HC4.out,HB4.out⟩
    ·have HE := Lib.hid (hDN h3)
     rw [HE.out]
     have v1 : ((s : Int) != su) = true := by simpa using h3
     clear h3 hDM hDN HE
     go_enter Tryz.func20,Tryz.ntmps20
     go_wp2_with fail
     rw [HWW.out]
     go_wp2_with (go_at_call 55;refine (HRI.out _).mono ?_;rintro e w1 ⟨rfl,hb1⟩;have HC1 : Hid (Below (w.heap.size + 1) W0 w1) := hb1.mono (by rw [HZ0.out];exact Nat.le_refl _);obtain ⟨y0,y1,y2,y3,y4,y5,y6⟩ := HYS.out w1 HC1.out;have HB1 := Lib.hid (HB0.out.trans (hb1.mono HB0.out.size));have y5d : w1.drew.cell? ⟨w.heap.size,5,none⟩ = some (.int .u32 su) := y5;clear hb1)
     go_region_with (go_at_call 36;refine (HSU.out (some ⟨b,o,none⟩) 0 w1.drew (HAZ.out _)).mono ?_;rintro e w3 ⟨rfl,rfl⟩)
     all_goals
      go_wp2
      refine bodyPost_ret (results_tmp2 rfl _ _ _) rfl ?_
      exact UnQ.err rfl HB1.out.drew
   ·have hcf2 : ¬ c - f = 0 := by omega
    have hcf3 : ¬ c ≤ f := by omega
    have HCF : Hid (a ≤ c - f) := by show _ ≤ _;omega
    by_cases h3 : (s : Int) = su
    ·have HE := Lib.hid (hDM _ h3 rfl)
     rw [HE.out]
     have v1 : ((s : Int) != su) = false := by simpa using h3
     obtain ⟨T,hT⟩ : ∃ T,unM F me ab sz = T := ⟨_,rfl⟩
     rw [hT] at HUN ⊢
     clear h3 hDM hDN hT HE
     go_enter Tryz.func20,Tryz.ntmps20
     go_wp2_with fail
     rw [HWW.out]
     go_wp2_with (go_at_call 55;refine (HRI.out _).mono ?_;rintro e w1 ⟨rfl,hb1⟩;have HC1 : Hid (Below (w.heap.size + 1) W0 w1) := hb1.mono (by rw [HZ0.out];exact Nat.le_refl _);obtain ⟨y0,y1,y2,y3,y4,y5,y6⟩ := HYS.out w1 HC1.out;have HB1 := Lib.hid (HB0.out.trans (hb1.mono HB0.out.size));have y5d : w1.drew.cell? ⟨w.heap.size,5,none⟩ = some (.int .u32 su) := y5;clear hb1)
     go_region_with (go_at_call 36;refine (HSU.out (some ⟨b,o + f,none⟩) (c - f) w1.drew (HABY.out _ HB1.out.drew)).mono ?_;rintro e w3 ⟨rfl,rfl⟩)
     all_goals
      go_wp2_with (go_at_call 56;refine (HUN.out (some ⟨b,o + f,none⟩) (c - f) _ HCF.out HB1.out.drew (HABY.out _ HB1.out.drew)).mono ?_;rintro e w4 ⟨A4,c4,rfl,hc4,hb4⟩;have HC4 := Lib.hid hc4;have HB4 := Lib.hid (HB1.out.drew.trans (hb4.mono HB1.out.drew.size));clear hc4 hb4)
      refine bodyPost_ret (results_tmp2 rfl _ _ _) rfl ?_
      exact ⟨A4,c4,rfl,HC4.out,HB4.out⟩
    ·have HE := Lib.hid (hDN h3)
     rw [HE.out]
     have v1 : ((s : Int) != su) = true := by simpa using h3
     clear h3 hDM hDN HE
     go_enter Tryz.func20,Tryz.ntmps20
     go_wp2_with fail
     rw [HWW.out]
     go_wp2_with (go_at_call 55;refine (HRI.out _).mono ?_;rintro e w1 ⟨rfl,hb1⟩;have HC1 : Hid (Below (w.heap.size + 1) W0 w1) := hb1.mono (by rw [HZ0.out];exact Nat.le_refl _);obtain ⟨y0,y1,y2,y3,y4,y5,y6⟩ := HYS.out w1 HC1.out;have HB1 := Lib.hid (HB0.out.trans (hb1.mono HB0.out.size));have y5d : w1.drew.cell? ⟨w.heap.size,5,none⟩ = some (.int .u32 su) := y5;clear hb1)
     go_region_with (go_at_call 36;refine (HSU.out (some ⟨b,o + f,none⟩) (c - f) w1.drew (HABY.out _ HB1.out.drew)).mono ?_;rintro e w3 ⟨rfl,rfl⟩)
     all_goals
      go_wp2
      refine bodyPost_ret (results_tmp2 rfl _ _ _) rfl ?_
      exact UnQ.err rfl HB1.out.drew
end Go.Proofs.YtaknladkodibaaaGreatDoor
namespace Go.Proofs.YtaknladkodibaaaGreatDoor
open Go.RowKit BitsP SymP
attribute [local go_sem ↓] Go.wp_at_zero Go.wp_at_succ
def pkB (lv : Int) (bs : List UInt8) : List UInt8 := pack (blkB (toks bs lv 0))
def pkM (lv : Int) (bs : List UInt8) : Int × List UInt8 := if lv < 0 then (0,bs) else if (pkB lv bs).length < bs.length then (1,pkB lv bs) else (0,bs)
theorem tkAt_wr {w : World} {A : Option Addr} {k q : Nat} {y l d : Int} (h : TkAt w A k y l d) (hq : w.heap[q]? = some (.cells zeroWr 114 (0,0))) : ∀ a,A = some a → a.block ≠ q := fun a ha he => by
 obtain ⟨b,o,h1,_,h3,_⟩ := h
 rw [h1] at ha
 cases ha
 have hb : b = q := he
 subst hb
 rw [show w.cell? ⟨b,o + k * 3,none⟩ = zeroWr[o + k * 3]? from cell_of_row w b (o + k * 3) _ _ _ hq] at h3
 generalize o + k * 3 = m at h3
 match m,h3 with
 | 0,h3 => simp [zeroWr] at h3
 | 1,h3 => simp [zeroWr] at h3
 | 2,h3 => simp [zeroWr] at h3
 | m + 3,h3 => simp [zeroWr] at h3
set_option maxRecDepth 100000 in
set_option maxHeartbeats 1000000 in
theorem pack14_any (A : Option Addr) (l c : Nat) (bs : List UInt8) (lv : Int) (w : World) (hl : bs.length = l) (hm : l ≤ 32000) (hcap : l ≤ c) (hb : Bytes w w.heap.size A bs) :
  Calls Tryz.prog 31 #[.slice A l c,.int .i64 lv] w fun e w' => ∃ A' c',e = .returned (.tuple #[.int .i64 (pkM lv bs).1,.slice A' (pkM lv bs).2.length c',.int .i64 0]) ∧ OwnB w' w.heap.size 5 (.slice A' (pkM lv bs).2.length c') (pkM lv bs).2.length (pkM lv bs).2 ∧ Below w.heap.size w w' := by
 have t0 : decide ((65536 : Int) < (l : Int)) = false := decide_eq_false (by omega)
 have HLL := Lib.hid hl
 by_cases hlv : lv < 0
 ·have HE : Hid (pkM lv bs = (0,bs)) := by show _ = _;unfold pkM;rw [if_pos hlv]
  have HC := Lib.hid (clone_any A l c w.heap.size bs w hl (by omega) (Nat.le_refl _) hb)
  have t1 : decide (0 ≤ lv) = false := decide_eq_false (by omega)
  rw [HE.out]
  dsimp only
  rw [hl]
  clear hl hb hlv
  go_enter Tryz.func31,Tryz.ntmps31
  go_wp2_with (go_at_call 68;refine HC.out.mono ?_;rintro e w2 ⟨A2,c2,rfl,hown2,hb2⟩;have HO2 := Lib.hid hown2;have HB2 := Lib.hid hb2;clear hown2 hb2)
  exact bodyPost_ret (results_tmp3 rfl _ _ _) rfl ⟨A2,c2,rfl,HO2.out,HB2.out⟩
 ·have t1 : decide (0 ≤ lv) = true := decide_eq_true (by omega)
  have hok := toks_okT bs lv bs.length 0 (by omega)
  have hfew := toks_few bs lv
  have hb1 : Below w.heap.size w (w.alloc (.cells zeroWr 114)) := (Below.refl _ w).alloc (Nat.le_refl _) _
  have HB1 := Lib.hid hb1
  have HSP := Lib.hid (split_any A l c bs lv (w.alloc (.cells zeroWr 114)) hl hm hcap ((hb.below hb1 (Nat.le_refl _)).more hb1.size))
  have HWZ : Hid (∀ W,Below (w.alloc (.cells zeroWr 114)).heap.size (w.alloc (.cells zeroWr 114)) W → W.heap[w.heap.size]? = some (.cells zeroWr 114 (0,0))) := fun W hW => (hW.block _ (by simp)).trans (heap_alloc_new w _)
  obtain ⟨ts,hts⟩ : ∃ ts,toks bs lv 0 = ts := ⟨_,rfl⟩
  have HPE : Hid (pkB lv bs = pack (blkB ts)) := by show _ = _;rw [pkB,hts]
  rw [hts] at hok hfew HSP
  have hfewB := blkB_few hok
  have HPT : Hid (∀ (W : World) (A2 : Option Addr) (c2 : Nat),Cells W W.heap.size A2 (ts.map tkC).flatten → Below (w.alloc (.cells zeroWr 114)).heap.size (w.alloc (.cells zeroWr 114)) W → _) := fun W A2 c2 hc hW =>
   blkput_any A2 ts.length c2 w.heap.size w.heap.size ts (oneB w.heap.size) [] W rfl (by omega) hok (toksOf_tk hok hc).2.1 (fun h0 a ha hk => by
    obtain ⟨t,ht⟩ : ∃ t,ts[0]? = some t := ⟨_,List.getElem?_eq_getElem h0⟩
    exact tkAt_wr ((toksOf_tk hok hc).2.1 0 t ht) (HWZ.out W hW) a ha hk) (WrS.zero _ (HWZ.out W hW)) (by simp) (by have := hW.size;simp at this;omega)
  have hPL : (pack (blkB ts)).length ≤ (blkB ts).length := pack_length _
  obtain ⟨P,hP⟩ : ∃ P,pack (blkB ts) = P := ⟨_,rfl⟩
  have HPP := Lib.hid hP
  rw [hP] at HPE hPL
  have hpl : P.length ≤ 3000000 := by omega
  have hbl : (blkB ts).length ≤ 3000000 := by omega
  have HBLL := Lib.hid hbl
  obtain ⟨k,hk⟩ : ∃ k,ts.length = k := ⟨_,rfl⟩
  rw [hk] at HSP HPT
  obtain ⟨pl,hpl2⟩ : ∃ pl,P.length = pl := ⟨_,rfl⟩
  have HPL := Lib.hid hpl2
  rw [hpl2] at hpl
  have HC : Hid (∀ W,Below w.heap.size w W → _) := fun W hW => clone_any A l c W.heap.size bs W hl (by omega) (Nat.le_refl _) ((hb.below hW (Nat.le_refl _)).more hW.size)
  unfold zeroWr at HSP HPT HB1
  by_cases hlt : pl < l
  ·have HE : Hid (pkM lv bs = (1,P)) := by show _ = _;unfold pkM;rw [if_neg hlv,HPE.out,if_pos (by rw [HPL.out,HLL.out];exact hlt)]
   rw [HE.out]
   dsimp only
   rw [HPL.out]
   have t2 : decide ((pl : Int) < (l : Int)) = true := decide_eq_true (by omega)
   have t2n : decide (pl < l) = true := decide_eq_true hlt
   clear hl hb hlv hok hfew hb1 hts hfewB hP hk hpl2 hlt hPL hbl
   go_enter Tryz.func31,Tryz.ntmps31
   go_wp2_with (first
    | (go_at_call 66;refine HSP.out.mono ?_;rintro e w2 ⟨A2,c2,rfl,hc2,hb2⟩;have HB2 := Lib.hid (HB1.out.trans (hb2.mono HB1.out.size));have HPU := Lib.hid (HPT.out w2 A2 c2 hc2 hb2);rw [List.nil_append] at HPU;clear hc2 hb2)
    | (go_at_call 65;refine HPU.out.mono ?_;rintro e w3 ⟨rfl,S3,hw3,hm3,hs3⟩;have HW3 := Lib.hid hw3;have HB3 := Lib.hid (hm3.below HB2.out HB2.out.size (fun k hk => by cases hk;exact Nat.le_refl _));clear hw3 hm3 hs3)
    | (go_at_call 67;refine (wbytes_any w.heap.size w.heap.size S3 (blkB ts) w3 HW3.out (by have := HBLL.out;omega)).mono ?_;rintro e w5 ⟨A5,c5,rfl,hown,hbel⟩;rw [HPP.out,HPL.out] at hown;rw [HPP.out,HPL.out];have HO5 := Lib.hid (own_leP hown HB3.out.size);have HB5 := Lib.hid (HB3.out.trans (hbel.mono HB3.out.size));clear hown hbel))
   exact bodyPost_ret (results_tmp3 rfl _ _ _) rfl ⟨A5,c5,rfl,HO5.out,HB5.out⟩
  ·have HE : Hid (pkM lv bs = (0,bs)) := by show _ = _;unfold pkM;rw [if_neg hlv,HPE.out,if_neg (by rw [HPL.out,HLL.out];exact hlt)]
   rw [HE.out]
   dsimp only
   rw [HLL.out]
   have t2 : decide ((pl : Int) < (l : Int)) = false := decide_eq_false (by omega)
   have t2n : decide (pl < l) = false := decide_eq_false hlt
   clear hl hb hlv hok hfew hb1 hts hfewB hP hk hpl2 hlt hPL hbl
   go_enter Tryz.func31,Tryz.ntmps31
   go_wp2_with (first
    | (go_at_call 66;refine HSP.out.mono ?_;rintro e w2 ⟨A2,c2,rfl,hc2,hb2⟩;have HB2 := Lib.hid (HB1.out.trans (hb2.mono HB1.out.size));have HPU := Lib.hid (HPT.out w2 A2 c2 hc2 hb2);rw [List.nil_append] at HPU;clear hc2 hb2)
    | (go_at_call 65;refine HPU.out.mono ?_;rintro e w3 ⟨rfl,S3,hw3,hm3,hs3⟩;have HW3 := Lib.hid hw3;have HB3 := Lib.hid (hm3.below HB2.out HB2.out.size (fun k hk => by cases hk;exact Nat.le_refl _));clear hw3 hm3 hs3)
    | (go_at_call 67;refine (wbytes_any w.heap.size w.heap.size S3 (blkB ts) w3 HW3.out (by have := HBLL.out;omega)).mono ?_;rintro e w5 ⟨A5,c5,rfl,hown,hbel⟩;rw [HPP.out,HPL.out];have HB5 := Lib.hid (HB3.out.trans (hbel.mono HB3.out.size));clear hown hbel)
    | (go_at_call 68;refine (HC.out _ HB5.out).mono ?_;rintro e w6 ⟨A6,c6,rfl,hown6,hb6⟩;have HO6 := Lib.hid (own_leP hown6 HB5.out.size);have HB6 := Lib.hid (HB5.out.trans (hb6.mono HB5.out.size));clear hown6 hb6))
   exact bodyPost_ret (results_tmp3 rfl _ _ _) rfl ⟨A6,c6,rfl,HO6.out,HB6.out⟩
end Go.Proofs.YtaknladkodibaaaGreatDoor
namespace Go.Proofs.YtaknladkodibaaaGreatDoor
open Go.RowKit CrcP FieldP BitsP SymP
attribute [local go_sem ↓] Go.wp_at_zero Go.wp_at_succ
def recB (lv : Int) (s : ByteArray) (bs : List UInt8) : List UInt8 := headB (pkM lv bs).1.toNat s.data.toList bs.length (pkM lv bs).2.length (CrcP.sumN (pkM lv bs).2) ++ (pkM lv bs).2
theorem pkM_two (lv : Int) (bs : List UInt8) : ∃ m : Nat,(pkM lv bs).1 = (m : Int) ∧ ((m = 0 ∧ (pkM lv bs).2.length = bs.length) ∨ (m = 1 ∧ (pkM lv bs).2.length < bs.length)) := by
 unfold pkM
 split
 ·exact ⟨0,rfl,.inl ⟨rfl,rfl⟩⟩
 ·split
  ·exact ⟨1,rfl,.inr ⟨rfl,by assumption⟩⟩
  ·exact ⟨0,rfl,.inl ⟨rfl,rfl⟩⟩
theorem hdB_pk {s : ByteArray} {m sz ar su : Nat} (hr : rightB s.data.toList = true) (hz : sz ≤ 65536) (h : (m = 0 ∧ ar = sz) ∨ (m = 1 ∧ ar < sz)) : hdB m s.data.toList sz ar su = true := by
 unfold hdB
 rw [hr]
 rcases h with ⟨rfl,rfl⟩ | ⟨rfl,h⟩
 ·simp;omega
 ·simp;omega
theorem recB_len (lv : Int) (s : ByteArray) (bs : List UInt8) : (recB lv s bs).length = 22 + s.size + (pkM lv bs).2.length := by
 unfold recB
 rw [List.length_append,headB_length]
 rfl
set_option maxRecDepth 100000 in
set_option maxHeartbeats 2000000 in
theorem recPut_yes (tg : Nat) (A : Option Addr) (l c : Nat) (bs : List UInt8) (s : ByteArray) (lv : Int) (w : World) (hT : Table w tg) (hW : Wid w) (hs : s.size ≤ maxLen) (hr : rightB s.data.toList = true) (hl : bs.length = l) (hm : l ≤ 32000) (hcap : l ≤ c) (hb : Bytes w w.heap.size A bs) :
  Calls Tryz.prog 12 #[.pointer (some ⟨tg,0,none⟩),.string s,.slice A l c,.int .i64 lv] w fun e w' => ∃ A' c',e = .returned (.tuple #[.slice A' (recB lv s bs).length c',.int .i64 0]) ∧ OwnY w' w.heap.size (.slice A' (recB lv s bs).length c') (recB lv s bs).length (recB lv s bs) ∧ Below w.heap.size w w' := by
 have HR := Lib.hid (rightM_any s w hs)
 rw [hr] at HR
 have htl := hT.lt
 have hw0 := hW.1
 have h64 := rightB_len' hr
 have hss : s.data.toList.length = s.size := by rw [Array.length_toList];rfl
 rw [hss] at h64
 have HPK : Hid (∀ W,Below w.heap.size w W → _) := fun W hW => pack14_any A l c bs lv W hl hm hcap ((hb.below hW (Nat.le_refl _)).more hW.size)
 obtain ⟨m,hpm,hpc⟩ := pkM_two lv bs
 rw [recB_len]
 have hRB : recB lv s bs = headB m s.data.toList l (pkM lv bs).2.length (CrcP.sumN (pkM lv bs).2) ++ (pkM lv bs).2 := by unfold recB;rw [hpm,hl];rfl
 rw [hRB]
 rw [hpm] at HPK
 rw [hl] at hpc
 obtain ⟨P,hP⟩ : ∃ P,(pkM lv bs).2 = P := ⟨_,rfl⟩
 rw [hP] at HPK hpc ⊢
 obtain ⟨n,hn⟩ : ∃ n,P.length = n := ⟨_,rfl⟩
 rw [hn] at HPK hpc ⊢
 have HN := Lib.hid hn
 have hn2 : n ≤ 32000 := by omega
 have hsl := sumN_lt P
 have HSU : Hid (∀ (W : World) (A2 : Option Addr) (c2 : Nat),Bytes W W.heap.size A2 P → Below w.heap.size w W → _) := fun W A2 c2 h2 hW => sum_any tg A2 n c2 P W.heap.size W hn (by omega) (hT.below hW htl) h2
 obtain ⟨su,hsu⟩ : ∃ su,CrcP.sumN P = su := ⟨_,rfl⟩
 rw [hsu] at HSU hsl ⊢
 have HLP : Hid (∀ W,Below w.heap.size w W → _) := fun W hW' => lcPut_yes tg m s l n su W (hW.below hW' hw0 (by have := hW'.size;omega)) hsl (hdB_pk hr (by omega) hpc) (hT.below hW' htl)
 obtain ⟨HD,hHD⟩ : ∃ HD,headB m s.data.toList l n su = HD := ⟨_,rfl⟩
 rw [hHD] at HLP ⊢
 clear hT hW hs hr hl hb hpm hRB hP hn hsu hHD hpc hss
 go_enter Tryz.func12,Tryz.ntmps12
 go_wp2_with (first
  | (go_at_call 30;refine HR.out.mono ?_;rintro e w1 ⟨rfl,hb1⟩;have HB1 := Lib.hid hb1;clear hb1)
  | (go_at_call 31;refine (HPK.out w1 HB1.out).mono ?_;rintro e w2 ⟨A2,c2,rfl,hown2,hb2⟩;have HC2 := Lib.hid (Cells.of_own hown2);have HB2 := Lib.hid (HB1.out.trans (hb2.mono HB1.out.size));clear hown2 hb2)
  | (go_at_call 33;refine (HSU.out w2 A2 c2 HC2.out HB2.out).mono ?_;rintro e w3 ⟨rfl,rfl⟩)
  | (go_at_call 32;refine (HLP.out w2 HB2.out).mono ?_;rintro e w4 ⟨A4,c4,rfl,ho4,hb4⟩;have HO4 := Lib.hid (ho4.le HB2.out.size);have HC4 := Lib.hid (HC2.out.below hb4 (Nat.le_refl _));have HB4 := Lib.hid (HB2.out.trans (hb4.mono HB2.out.size));clear ho4 hb4)
  | (at_builtin;refine wpList_appT w4 byteElem rfl (.tmp 43) (.tmp 44) rfl w.heap.size (.slice A4 (22 + s.size) c4) (22 + s.size) (byteCells HD) rfl HO4.out w2.heap.size A2 n c2 (byteCells P) rfl (by rw [byteCells_length,HN.out]) HC4.out (byteCells_one _) (by unfold maxLen;omega) (by omega) HB4.out.size ?_;intro A5 c5 w5 hap;have HAP := Lib.hid hap;clear hap))
 refine bodyPost_ret (results_tmp2 rfl _ _ _) rfl ?_
 refine ⟨A5,c5,rfl,?_,HAP.out.below HB4.out HB4.out.size (fun k hk => (HO4.out.lt k hk).1)⟩
 have h := HAP.out.own
 unfold OwnY
 rw [byteCells_append]
 exact h
end Go.Proofs.YtaknladkodibaaaGreatDoor
namespace Go.Proofs.YtaknladkodibaaaGreatDoor
open Go.RowKit CrcP FieldP
attribute [local go_sem ↓] Go.wp_at_zero Go.wp_at_succ
theorem headB_begin (m : Nat) (l : List UInt8) (sz ar su : Nat) : (headB m l sz ar su).take 4 = headBytes := by
 rw [headB_parts]
 rfl
theorem no_tomb {bs : List UInt8} {p : Nat} (h : (bs.drop p).take 4 = headBytes) : isB tombBytes bs p = false := by
 have hl : p + 4 ≤ bs.length := by
  have h2 := congrArg List.length h
  rw [List.length_take,List.length_drop] at h2
  have h3 : headBytes.length = 4 := rfl
  omega
 rw [isB_in (mk := tombBytes) (by show p + 4 ≤ _;exact hl),show tombBytes.length = 4 from rfl,h]
 decide
theorem head_at {bs : List UInt8} {p m sz ar su : Nat} {s : ByteArray} (hd : hdB m s.data.toList sz ar su = true) (hsu : su < 4294967296) (h : (bs.drop p).take (22 + s.size) = headB m s.data.toList sz ar su) :
  p + 22 + s.size ≤ bs.length ∧ isB tombBytes bs p = false ∧ lcAns bs p = .tuple #[.agg #[.int .i64 (m : Int),.string s,.int .i64 (sz : Int),.int .i64 (ar : Int),.int .u32 (su : Int)],.int .i64 ((p + 22 + s.size : Nat) : Int),.int .i64 0] := by
 have hss : s.data.toList.length = s.size := by rw [Array.length_toList];rfl
 obtain ⟨h1,h2,h3⟩ := head_back (bs := bs) (l := s.data.toList) (p := p) (m := m) (sz := sz) (ar := ar) (su := su) hd hsu (by rw [hss];exact h)
 rw [hss] at h1 h3
 have h4 : (bs.drop p).take 4 = headBytes := by
  have h5 := congrArg (List.take 4) h
  rw [List.take_take,headB_begin] at h5
  rwa [Nat.min_eq_left (by omega)] at h5
 refine ⟨h1,no_tomb h4,?_⟩
 unfold lcAns
 rw [if_neg (by omega),if_neg (by rw [h2];simp),Int.toNat_natCast,h3]
theorem sumN_none : CrcP.sumN [] = 0 := by decide
def nameA : ByteArray := ⟨#[97]⟩
theorem nameA_right : rightB nameA.data.toList = true := by decide
theorem recB_a : recB 0 nameA [] = headB 0 nameA.data.toList 0 0 0 := by
 have h : pkM 0 [] = (0,[]) := by
  unfold pkM
  rw [if_neg (by decide),if_neg (by simp)]
 unfold recB
 rw [h]
 show headB 0 nameA.data.toList 0 0 (CrcP.sumN []) ++ [] = _
 rw [sumN_none,List.append_nil]
theorem rec_a : isB tombBytes (recB 0 nameA []) 0 = false ∧ lcAns (recB 0 nameA []) 0 = .tuple #[.agg #[.int .i64 0,.string nameA,.int .i64 0,.int .i64 0,.int .u32 0],.int .i64 23,.int .i64 0] := by
 have h := head_at (bs := headB 0 nameA.data.toList 0 0 0) (p := 0) (m := 0) (sz := 0) (ar := 0) (su := 0) (s := nameA) (by decide) (by decide) (by rw [List.drop_zero];exact List.take_of_length_le (by rw [headB_length];exact Nat.le_refl _))
 rw [recB_a]
 exact h.2
set_option maxHeartbeats 400000 in
theorem recLen_any (k : Int) (S : ByteArray) (a b c d e f g : Int) (w : World) :
  Calls Tryz.prog 18 #[.agg #[.int .i64 k,.string S,.int .i64 a,.int .i64 b,.int .i64 c,.int .i64 d,.int .u32 e,.int .i64 f,.int .i64 g]] w fun x w' => x = .returned (.int .i64 (wrap64 (g - a))) ∧ w.alloc (.cells #[.int .i64 k,.string S,.int .i64 a,.int .i64 b,.int .i64 c,.int .i64 d,.int .u32 e,.int .i64 f,.int .i64 g] 41) = w' := by
 go_enter Tryz.func18,Tryz.ntmps18
 go_wp2
 go_ret
 exact ⟨rfl,rfl⟩
set_option maxRecDepth 100000 in
set_option maxHeartbeats 1000000 in
theorem lives22_any (w : World) (hW : Wid w) : Calls Tryz.prog 10 #[] w fun e w' => e = .returned (.bool true) ∧ Below w.heap.size w w' := by
 have hz := (zero_of_info tableInfo).1
 have HSZ := Lib.hid tableSize
 have hw0 := hW.1
 have HWI := Lib.hid hW
 have HN : Hid ((recB 0 nameA []).length = 23) := by show _ = _;rw [recB_a,headB_length];rfl
 have HV := Lib.hid rec_a
 have HLN := Lib.hid (fun W => recLen_any 1 nameA 0 23 0 0 0 0 23 W)
 rw [show wrap64 ((23 : Int) - 0) = 23 from by unfold wrap64;omega] at HLN
 have htA : nameA.toList = [97] := by rw [ByteArray.toList_eq];rfl
 have HP := Lib.hid (fun g W (hV : Wid W) (hT : Table W g) => recPut_yes g none 0 0 [] nameA 0 W hT hV (by decide) nameA_right rfl (by omega) (Nat.le_refl _) (Cells.nil _ _ _))
 clear hW
 go_enter Tryz.func10,Tryz.ntmps10
 go_wp2_with fail
 refine (make_any _).mono ?_
 rintro e w1 ⟨rfl,hb⟩
 have HG := Lib.hid (heap_alloc_last w1 (.cells (Array.replicate 256 (.int .u32 0)) 28))
 have HB := Lib.hid hb
 clear hb
 go_wp2_with (refine wpList_store_row rfl 28 _ _ rfl w1.heap.size tabCells rfl rfl 28 _ HG.out HSZ.out (by rw [Array.size_replicate,tabCells_size]) tabCells_one ?_;rw [World.setRow_alloc_new])
 have HTB := Lib.hid (table_new w1)
 have HB2 := Lib.hid (HB.out.alloc HB.out.size (.cells tabCells 28))
 generalize w1.alloc (.cells tabCells 28) = w2 at *
 clear hz HG HSZ
 refine (HP.out w1.heap.size w2 (HWI.out.below HB2.out hw0 (by have := HB2.out.size;omega)) HTB.out).mono ?_
 rintro e w3 ⟨A,c,rfl,hown,hbel⟩
 rw [HN.out] at hown ⊢
 have HO3 := Lib.hid hown
 have HB3 := Lib.hid (HB2.out.trans (hbel.mono HB2.out.size))
 have HT3 := Lib.hid (HTB.out.below hbel HTB.out.lt)
 have hc : 23 ≤ c := own_capK hown
 clear hown hbel
 have HTK := Lib.hid (recTake_plain w1.heap.size A 23 c _ 0 w3 0 nameA 0 0 0 23 HT3.out (HWI.out.below HB3.out hw0 (by have := HB3.out.size;omega)) HN.out (by omega) hc (by omega) (by omega) HO3.out.cells HV.out.1 HV.out.2 (by decide) (by decide))
 rw [show (23 : Int) + 0 = 23 from rfl] at HTK
 unfold recOk at HTK
 go_wp2_with (first
  | (go_at_call 16;refine HTK.out.mono ?_;rintro e w4 ⟨rfl,hbw⟩;have HB4 := Lib.hid (HB3.out.trans (hbw.mono HB3.out.size));have HB5 := Lib.hid (HB4.out.alloc HB4.out.size (.cells #[.int .i64 1,.string nameA,.int .i64 0,.int .i64 23,.int .i64 0,.int .i64 0,.int .u32 0,.int .i64 0,.int .i64 23] 41));clear hbw)
  | (go_at_call 18;refine (HLN.out _).mono ?_;rintro e w6 ⟨rfl,hw6⟩;have HB6 : Hid (Below w.heap.size w w6) := (by show Below _ _ _;rw [← hw6];exact HB5.out.alloc HB5.out.size _)))
 go_ret
 exact ⟨rfl,HB6.out⟩
set_option maxRecDepth 100000 in
set_option maxHeartbeats 1000000 in
theorem datas_law (A : Option Addr) (l c : Nat) (bs : List UInt8) (nm : ByteArray) (at_ fr ar sz su me : Int) (w : World) (hW : Wid w) (hm : nm.size ≤ maxLen) (f0 : -9223372036854775808 ≤ fr) (f1 : fr ≤ 9223372036854775807) (hl : bs.length = l) (hcap : l ≤ c) (hb : Bytes w w.heap.size A bs) :
  Calls Tryz.prog 5 #[.slice A l c,.agg #[.string nm,.int .i64 at_,.int .i64 fr,.int .i64 ar,.int .i64 sz,.int .u32 su,.int .i64 me]] w fun e w' => e = .returned (.bool true) ∧ Below w.heap.size w w' := by
 obtain ⟨W0,hW0⟩ : ∃ W0,w.alloc (.cells #[.string nm,.int .i64 at_,.int .i64 fr,.int .i64 ar,.int .i64 sz,.int .u32 su,.int .i64 me] 39) = W0 := ⟨_,rfl⟩
 have HX0 : Hid (Box W0 w.heap.size #[.string nm,.int .i64 at_,.int .i64 fr,.int .i64 ar,.int .i64 sz,.int .u32 su,.int .i64 me] 39) := by show Box _ _ _ _;rw [← hW0];exact heap_alloc_new w _
 have HB0 : Hid (Below w.heap.size w W0) := by show Below _ _ _;rw [← hW0];exact (Below.refl _ w).alloc (Nat.le_refl _) _
 have HZ0 : Hid (W0.heap.size = w.heap.size + 1) := by show _ = _;rw [← hW0];simp
 have HWW := Lib.hid hW0
 have hw0 := hW.1
 have HWI : Hid (∀ W,Below w.heap.size w W → Wid W) := fun W hB => hW.below hB hw0 (by have := hB.size;omega)
 clear hW0 hW
 by_cases h3 : 3000 < l
 ·have t0 : decide ((3000 : Int) < (l : Int)) = true := decide_eq_true (by omega)
  clear hb hl hm f0 f1 h3
  go_enter Tryz.func5,Tryz.ntmps5
  go_wp2_with fail
  rw [HWW.out]
  go_wp2_with (go_at_call 10;refine (lives22_any _ (HWI.out _ HB0.out)).mono ?_;rintro e w4 ⟨rfl,hb4⟩;have HB4 := Lib.hid (HB0.out.trans (hb4.mono HB0.out.size));clear hb4)
  go_ret
  exact ⟨rfl,HB4.out⟩
 have t0 : decide ((3000 : Int) < (l : Int)) = false := decide_eq_false (by omega)
 have hz := (zero_of_info tableInfo).1
 have HSZ := Lib.hid tableSize
 obtain ⟨F,hF⟩ := funT_ex
 have HYS : Hid (∀ W,Below (w.heap.size + 1) W0 W → W.cell? ⟨w.heap.size,0,none⟩ = some (.string nm) ∧ W.cell? ⟨w.heap.size,1,none⟩ = some (.int .i64 at_) ∧ W.cell? ⟨w.heap.size,2,none⟩ = some (.int .i64 fr) ∧ W.cell? ⟨w.heap.size,3,none⟩ = some (.int .i64 ar) ∧ W.cell? ⟨w.heap.size,4,none⟩ = some (.int .i64 sz) ∧ W.cell? ⟨w.heap.size,5,none⟩ = some (.int .u32 su) ∧ W.cell? ⟨w.heap.size,6,none⟩ = some (.int .i64 me)) := fun W hW => by
  have h := HX0.out.below hW (Nat.lt_succ_self _)
  exact ⟨h.cell 0,h.cell 1,h.cell 2,h.cell 3,h.cell 4,h.cell 5,h.cell 6⟩
 have HP : Hid (∀ (tg : Nat) W,Table W tg → Below w.heap.size w W → _) := fun tg W hT hW => recData_any F hF tg A l c bs nm at_ fr ar sz su me W hT hm hl (by omega) (fun _ => .inr (by omega)) hcap ((hb.below hW (Nat.le_refl _)).more hW.size)
 have HR : Hid (∀ W,Below w.heap.size w W → _) := fun W hW => refData_any F hF A l c bs nm at_ fr ar sz su me W hm f0 f1 hl (by omega) hcap ((hb.below hW (Nat.le_refl _)).more hW.size)
 obtain ⟨⟨er,R⟩,hT⟩ : ∃ T,datM F bs nm at_ fr ar sz su me = T := ⟨_,rfl⟩
 rw [hT] at HP HR
 unfold UnQ at HP HR
 dsimp only at HP HR
 obtain ⟨n,hn⟩ : ∃ n,R.length = n := ⟨_,rfl⟩
 have HN := Lib.hid hn
 rw [hn] at HP HR
 obtain ⟨str,hS⟩ : ∃ str : ByteArray,(⟨R.toArray⟩ : ByteArray) = str := ⟨_,rfl⟩
 have HSTR := Lib.hid hS
 clear hb hl hT hn hS hm f0 f1 h3
 go_enter Tryz.func5,Tryz.ntmps5
 go_wp2_with fail
 rw [HWW.out]
 go_wp2_with fail
 refine (make_any _).mono ?_
 rintro e w1 ⟨rfl,hb⟩
 have HG := Lib.hid (heap_alloc_last w1 (.cells (Array.replicate 256 (.int .u32 0)) 28))
 have HC1 : Hid (Below (w.heap.size + 1) W0 w1) := by show Below _ _ _;rw [← HZ0.out];exact hb
 clear hb
 go_wp2_with (refine wpList_store_row rfl 28 _ _ rfl w1.heap.size tabCells rfl rfl 28 _ HG.out HSZ.out (by rw [Array.size_replicate,tabCells_size]) tabCells_one ?_;rw [World.setRow_alloc_new];have HTB := Lib.hid (table_new w1);have HC2 := Lib.hid (HC1.out.alloc (by have := HC1.out.size;have := HZ0.out;omega) (.cells tabCells 28));generalize w1.alloc (.cells tabCells 28) = w2 at *;obtain ⟨y0,y1,y2,y3,y4,y5,y6⟩ := HYS.out w2 HC2.out;have HB2 := Lib.hid (HB0.out.trans (HC2.out.mono (Nat.le_succ _))))
 clear hz HG HSZ
 refine (HP.out _ _ HTB.out HB2.out).mono ?_
 rintro e w3 ⟨A3,c3,rfl,hc3,hb3⟩
 have HCC3 := Lib.hid hc3
 have HC3 := Lib.hid (HC2.out.trans (hb3.mono (by have := HC2.out.size;have := HZ0.out;omega)))
 have HB3 := Lib.hid (HB2.out.trans (hb3.mono HB2.out.size))
 clear hb3 hc3
 obtain ⟨y0,y1,y2,y3,y4,y5,y6⟩ := HYS.out w3 HC3.out
 go_upto_region 6 with (go_at_call 20;refine (HR.out _ HB3.out).mono ?_;rintro e w4 ⟨A4,c4,rfl,hc4,hb4⟩;have HC4 := Lib.hid hc4;have HC34 := Lib.hid (HCC3.out.below hb4 (Nat.le_refl _));have HB4 := Lib.hid (HB3.out.trans (hb4.mono HB3.out.size));clear hc4 hb4)
 have k2 := str_any w4 A3 n c3 _ R HC34.out HN.out
 have k3 := str_any w4 A4 n c4 _ R HC4.out HN.out
 rw [HSTR.out] at k2 k3
 go_wp2_with (go_at_call 10;refine (lives22_any _ (HWI.out _ HB4.out)).mono ?_;rintro e w5 ⟨rfl,hb5⟩;have HB5 := Lib.hid (HB4.out.trans (hb5.mono HB4.out.size));clear hb5)
 go_ret
 exact ⟨rfl,HB5.out⟩
end Go.Proofs.YtaknladkodibaaaGreatDoor
