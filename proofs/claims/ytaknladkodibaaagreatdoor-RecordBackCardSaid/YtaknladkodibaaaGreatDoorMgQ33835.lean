/- Layer 16: heads are taken. -/
import Derived.Test.YtaknladkodibaaaGreatDoorMgQ33832
import Derived.Test.YtaknladkodibaaaGreatDoorMgQ33819
import Derived.Test.YtaknladkodibaaaGreatDoorMgQ338STail
import Derived.Test.YtaknladkodibaaaGreatDoorQuietF
import Derived.WalkLawsBesides
import Derived.StillTailTactics
namespace Go.Proofs.YtaknladkodibaaaGreatDoor
open Go.RowKit CrcP FieldP
def headMark:ByteArray:=⟨#[76,77,66,82]⟩
def headBytes:List UInt8:=[76,77,66,82]
def wid:Nat→Nat
 | 0 => 1
 | 1 => 1
 | _ => 4
theorem wid_le:∀ k,wid k ≤ 4
 | 0 => by decide
 | 1 => by decide
 | _ + 2 => Nat.le_refl _
def Wid (w:World):Prop:=0 < w.heap.size∧∀ k,k < 5→w.cell? ⟨0,k,none⟩ = some (.int .i64 (wid k:Nat))
theorem Wid.below {w w':World} {B:Nat} (h:Wid w) (hb:Below B w w') (hB:0 < B) (hs:0 < w'.heap.size):Wid w':=⟨hs,fun k hk => (hb.cell (p:=⟨0,k,none⟩) hB).trans (h.2 k hk)⟩
def lcS (bs:List UInt8) (s:RSt):Nat→RSt
 | 0 => s
 | k + 1 => ((lcS bs s k).num bs (wid k)).2
def lcN (bs:List UInt8) (s:RSt) (k:Nat):Nat:=((lcS bs s k).num bs (wid k)).1
theorem lcS_le {bs:List UInt8} {s:RSt} (h:s.p ≤ bs.length):∀ k,(lcS bs s k).p ≤ bs.length
 | 0 => h
 | k + 1 => num_le (lcS_le h k)
theorem lcS_ge (bs:List UInt8) (s:RSt):∀ k,s.p ≤ (lcS bs s k).p
 | 0 => Nat.le_refl _
 | k + 1 => Nat.le_trans (lcS_ge bs s k) (num_ge _ _ _)
theorem lcN_lt (bs:List UInt8) (s:RSt) (k:Nat):lcN bs s k < 4294967296:=num_lt (wid_le k)
def lcX (bs:List UInt8) (p:Nat):List UInt8 × RSt:=(lcS bs (openS bs p) 5).row bs (lcN bs (openS bs p) 1)
def lcHd (bs:List UInt8) (p:Nat):Bool:=hdB (lcN bs (openS bs p) 0:Nat) (lcX bs p).1 (lcN bs (openS bs p) 2:Nat) (lcN bs (openS bs p) 3:Nat) (lcN bs (openS bs p) 4:Nat)
def lcR (bs:List UInt8) (p:Nat):Nat:=if chkN bs p (lcX bs p).2 = 0 then (if lcHd bs p = true then 0 else 3) else chkN bs p (lcX bs p).2
def lcV (bs:List UInt8) (p:Nat):Value :=
 if lcR bs p = 0 then .tuple #[.agg #[.int .i64 (lcN bs (openS bs p) 0:Nat),.string ⟨(lcX bs p).1.toArray⟩,.int .i64 (lcN bs (openS bs p) 2:Nat),.int .i64 (lcN bs (openS bs p) 3:Nat),.int .u32 (lcN bs (openS bs p) 4:Nat)],.int .i64 (((lcX bs p).2.num bs 4).2.p:Int),.int .i64 0]
 else .tuple #[.agg #[.int .i64 0,.string ⟨#[]⟩,.int .i64 0,.int .i64 0,.int .u32 0],.int .i64 0,.int .i64 (lcR bs p:Nat)]
theorem lcV_bad {bs:List UInt8} {p:Nat} (h:lcR bs p ≠ 0):lcV bs p = .tuple #[.agg #[.int .i64 0,.string ⟨#[]⟩,.int .i64 0,.int .i64 0,.int .u32 0],.int .i64 0,.int .i64 (lcR bs p:Nat)]:=if_neg h
theorem lcV_good {bs:List UInt8} {p:Nat} (h:lcR bs p = 0):lcV bs p = .tuple #[.agg #[.int .i64 (lcN bs (openS bs p) 0:Nat),.string ⟨(lcX bs p).1.toArray⟩,.int .i64 (lcN bs (openS bs p) 2:Nat),.int .i64 (lcN bs (openS bs p) 3:Nat),.int .u32 (lcN bs (openS bs p) 4:Nat)],.int .i64 (((lcX bs p).2.num bs 4).2.p:Int),.int .i64 0]:=if_pos h
def arr5 (v0 v1 v2 v3 v4:Nat):Nat→Array Value
 | 0 => #[.int .u32 0,.int .u32 0,.int .u32 0,.int .u32 0,.int .u32 0]
 | 1 => #[.int .u32 (v0:Int),.int .u32 0,.int .u32 0,.int .u32 0,.int .u32 0]
 | 2 => #[.int .u32 (v0:Int),.int .u32 (v1:Int),.int .u32 0,.int .u32 0,.int .u32 0]
 | 3 => #[.int .u32 (v0:Int),.int .u32 (v1:Int),.int .u32 (v2:Int),.int .u32 0,.int .u32 0]
 | 4 => #[.int .u32 (v0:Int),.int .u32 (v1:Int),.int .u32 (v2:Int),.int .u32 (v3:Int),.int .u32 0]
 | _ => #[.int .u32 (v0:Int),.int .u32 (v1:Int),.int .u32 (v2:Int),.int .u32 (v3:Int),.int .u32 (v4:Int)]
set_option maxRecDepth 100000 in
set_option maxHeartbeats 1000000 in
theorem lcTake_arg (tg:Nat) (A:Option Addr) (l c:Nat) (p:Int) (w:World) (h:p < 0 ∨ (l:Int) < p) :
  Calls Tryz.prog 46 #[.pointer (some ⟨tg,0,none⟩),.slice A l c,.int .i64 p] w fun e w' => e = .returned (.tuple #[.agg #[.int .i64 0,.string ⟨#[]⟩,.int .i64 0,.int .i64 0,.int .u32 0],.int .i64 0,.int .i64 1])∧Below w.heap.size w w':=by
 have HO:=Lib.hid (fun W => open_arg headMark A l c p W h)
 clear h
 go_enter Tryz.func46,Tryz.ntmps46
 go_wp2_with (go_at_call 87;refine (HO.out _).mono ?_;rintro e w' ⟨rfl,rfl⟩)
 exact bodyPost_ret (v:=.tuple #[.agg #[.int .i64 0,.string ⟨#[]⟩,.int .i64 0,.int .i64 0,.int .u32 0],.int .i64 0,.int .i64 1]) (by simp [results,Tryz.results46,go_sem]) rfl ⟨rfl,(Below.refl w.heap.size w).alloc (Nat.le_refl _) _⟩
set_option maxRecDepth 100000 in
set_option maxHeartbeats 1000000 in
theorem lcTake_form (tg:Nat) (A:Option Addr) (l c:Nat) (bs:List UInt8) (B:Nat) (p:Nat) (w:World) (hl:bs.length = l) (hm:l ≤ 1099511627776) (hlc:l ≤ c)
  (hb:Bytes w B A bs) (hB:B ≤ w.heap.size) (hp:p + 4 ≤ l) (hi:isB headBytes bs p = false) :
  Calls Tryz.prog 46 #[.pointer (some ⟨tg,0,none⟩),.slice A l c,.int .i64 (p:Int)] w fun e w' => e = .returned (.tuple #[.agg #[.int .i64 0,.string ⟨#[]⟩,.int .i64 0,.int .i64 0,.int .u32 0],.int .i64 0,.int .i64 3])∧Below w.heap.size w w':=by
 have HO:=Lib.hid (open_form headMark A l c bs B p _ rfl hl hm hlc (hb.alloc hB (.cells #[.int .i64 0,.string ⟨#[]⟩,.int .i64 0,.int .i64 0,.int .u32 0] 71)) hp hi)
 clear hi hb hl
 go_enter Tryz.func46,Tryz.ntmps46
 go_wp2_with (go_at_call 87;refine HO.out.mono ?_;rintro e w' ⟨rfl,rfl⟩)
 exact bodyPost_ret (v:=.tuple #[.agg #[.int .i64 0,.string ⟨#[]⟩,.int .i64 0,.int .i64 0,.int .u32 0],.int .i64 0,.int .i64 3]) (by simp [results,Tryz.results46,go_sem]) rfl ⟨rfl,(Below.refl w.heap.size w).alloc (Nat.le_refl _) _⟩
set_option maxRecDepth 100000 in
set_option maxHeartbeats 4000000 in
theorem lcTake_ok (tg:Nat) (A:Option Addr) (l c:Nat) (bs:List UInt8) (B:Nat) (p:Nat) (w:World) (hT:Table w tg) (hW:Wid w) (hl:bs.length = l) (hm:l ≤ 1099511627776) (hlc:l ≤ c)
  (hb:Bytes w B A bs) (hB:B ≤ w.heap.size) (hp:p ≤ l) (hi:p + 4 ≤ l→isB headBytes bs p = true) :
  Calls Tryz.prog 46 #[.pointer (some ⟨tg,0,none⟩),.slice A l c,.int .i64 (p:Int)] w fun e w' => e = .returned (lcV bs p)∧Below w.heap.size w w':=by
 have HO:=Lib.hid (open_ok headMark A l c bs B p _ rfl hl hm hlc (hb.alloc hB (.cells #[.int .i64 0,.string ⟨#[]⟩,.int .i64 0,.int .i64 0,.int .u32 0] 71)) (by simp;omega) hp hi)
 have HT0:=Lib.hid hT
 have HW:=Lib.hid hW
 have hw0:=hW.1
 have HBA:=Lib.hid hb
 have HL:=Lib.hid hl
 have htl:=hT.lt
 have HB0:=Lib.hid ((Below.refl w.heap.size w).alloc (Nat.le_refl _) (.cells #[.int .i64 0,.string ⟨#[]⟩,.int .i64 0,.int .i64 0,.int .u32 0] 71))
 have HX0:Hid (Box (w.alloc (.cells #[.int .i64 0,.string ⟨#[]⟩,.int .i64 0,.int .i64 0,.int .u32 0] 71)) w.heap.size #[.int .i64 0,.string ⟨#[]⟩,.int .i64 0,.int .i64 0,.int .u32 0] 71):=heap_alloc_new w _
 have HZ0:Hid ((w.alloc (.cells #[.int .i64 0,.string ⟨#[]⟩,.int .i64 0,.int .i64 0,.int .u32 0] 71)).heap.size = w.heap.size + 1):=by show _ = _;simp
 have HS0:=Lib.hid (openS_le (bs:=bs) (p:=p) (by omega))
 have HG0:=Lib.hid (openS_ge bs p)
 have HXD:Hid (lcX bs p = (lcS bs (openS bs p) 5).row bs (lcN bs (openS bs p) 1)):=rfl
 have HRD:Hid (lcR bs p = if chkN bs p (lcX bs p).2 = 0 then (if lcHd bs p = true then 0 else 3) else chkN bs p (lcX bs p).2):=rfl
 have HHD:Hid (lcHd bs p = hdB (lcN bs (openS bs p) 0:Nat) (lcX bs p).1 (lcN bs (openS bs p) 2:Nat) (lcN bs (openS bs p) 3:Nat) (lcN bs (openS bs p) 4:Nat)):=rfl
 have HVG:=Lib.hid (lcV_good (bs:=bs) (p:=p))
 have HVB:=Lib.hid (lcV_bad (bs:=bs) (p:=p))
 have hcv:∀ (W:World) (A:Option Addr) (m c' B:Nat) (xs:List UInt8),Bytes W B A xs→xs.length = m→(convert 25 9 (.slice A m c')).run Tryz.prog W = .ok (.string ⟨xs.toArray⟩) W:=fun W A m c' B xs h hl => run_string_of 25 9 5 Tryz.underlying25 Tryz.underlying5 Tryz.underlying9 h hl
 have HCV:=Lib.hid hcv
 clear hi hb hl hT hcv hW
 generalize hs0:openS bs p = s0 at *
 generalize hw0':w.alloc (.cells #[.int .i64 0,.string ⟨#[]⟩,.int .i64 0,.int .i64 0,.int .u32 0] 71) = w0 at *
 go_enter Tryz.func46,Tryz.ntmps46
 go_wp2_with (go_at_call 87;refine HO.out.mono ?_;rintro e w1 ⟨g,rfl,hg,hr,hbw⟩;have HR1:=Lib.hid hr;have HB1:=Lib.hid hbw;clear hr hbw)
 have hz0:=HZ0.out
 have hz1:=HB1.out.size
 have hgl:=HR1.out.lt
 have HM1:=Lib.hid (HB0.out.trans (HB1.out.mono (by omega)))
 have HX1:=Lib.hid (HX0.out.below HB1.out (by omega))
 have HA1:=Lib.hid ((Below.refl w1.heap.size w1).alloc (Nat.le_refl _) (.cells #[.int .u32 0,.int .u32 0,.int .u32 0,.int .u32 0,.int .u32 0] 121))
 have HRs:Hid (RdK (w1.alloc (.cells #[.int .u32 0,.int .u32 0,.int .u32 0,.int .u32 0,.int .u32 0] 121)) g A l c s0):=Rd.below HR1.out HA1.out hgl
 have HNs:Hid (Box (w1.alloc (.cells #[.int .u32 0,.int .u32 0,.int .u32 0,.int .u32 0,.int .u32 0] 121)) w1.heap.size #[.int .u32 0,.int .u32 0,.int .u32 0,.int .u32 0,.int .u32 0] 121):=heap_alloc_new w1 _
 have HXs:=Lib.hid (HX1.out.alloc (.cells #[.int .u32 0,.int .u32 0,.int .u32 0,.int .u32 0,.int .u32 0] 121))
 have HMs:=Lib.hid (HM1.out.trans (HA1.out.mono (by omega)))
 obtain ⟨N,hN⟩:∃ N,w1.heap.size = N:=⟨_,rfl⟩
 rw [hN] at HNs hgl
 rw [hN]
 have hNw:w.heap.size + 1 ≤ N:=by omega
 clear HR1 HB1 HM1 HX1 HA1 HO HX0 HB0
 generalize hv0:lcN bs s0 0 = v0 at *
 have HV0:=Lib.hid hv0
 have hl0:v0 < 4294967296:=by rw [← hv0];exact lcN_lt _ _ _
 clear hv0
 generalize hv1:lcN bs s0 1 = v1 at *
 have HV1:=Lib.hid hv1
 have hl1:v1 < 4294967296:=by rw [← hv1];exact lcN_lt _ _ _
 clear hv1
 generalize hv2:lcN bs s0 2 = v2 at *
 have HV2:=Lib.hid hv2
 have hl2:v2 < 4294967296:=by rw [← hv2];exact lcN_lt _ _ _
 clear hv2
 generalize hv3:lcN bs s0 3 = v3 at *
 have HV3:=Lib.hid hv3
 have hl3:v3 < 4294967296:=by rw [← hv3];exact lcN_lt _ _ _
 clear hv3
 generalize hv4:lcN bs s0 4 = v4 at *
 have HV4:=Lib.hid hv4
 have hl4:v4 < 4294967296:=by rw [← hv4];exact lcN_lt _ _ _
 clear hv4
 go_loopw [11,24] (fun _ i wr => ∃ k:Nat,k ≤ 5∧i = .int .i64 k∧RdK wr g A l c (lcS bs s0 k)∧Box wr N (arr5 v0 v1 v2 v3 v4 k) 121∧Box wr w.heap.size #[.int .i64 0,.string ⟨#[]⟩,.int .i64 0,.int .i64 0,.int .u32 0] 71∧Below w.heap.size w wr) (fun _ i _ => 5 - (intOf i).toNat)
 case atStart => exact ⟨0,by omega,rfl,HRs.out,HNs.out,HXs.out,HMs.out⟩
 case round =>
  clear HRs HNs HXs HMs
  obtain ⟨k,hk,rfl,hr,hn,hx,hm2⟩:=hrel
  have HRk:=Lib.hid hr
  have HNk:=Lib.hid hn
  have HXk:=Lib.hid hx
  have HMk:=Lib.hid hm2
  clear hr hn hx hm2
  have hgN:g ≠ N:=by omega
  have hgw:w.heap.size ≠ g:=by omega
  have hg0:g ≠ 0:=by omega
  by_cases hk3:k < 5
  ·have hk4:k = 0 ∨ k = 1 ∨ k = 2 ∨ k = 3 ∨ k = 4:=by omega
   rcases hk4 with rfl | rfl | rfl | rfl | rfl
   ·have HNU:=Lib.hid (number_st g A l c bs B (lcS bs s0 0) 1 1 _ HRk.out HL.out hm (by have:=lcS_le HS0.out 0;have:=HL.out;omega) (by omega) (by omega) rfl (HBA.out.below HMk.out hB))
    have hv:((lcS bs s0 0).num bs 1).1 = v0:=HV0.out
    rw [hv] at HNU
    have hwd:=(HMk.out.cell (p:=⟨0,0,none⟩) hw0).trans (HW.out.2 0 (by omega))
    rw [show ((wid 0:Nat):Int) = 1 from rfl] at hwd
    clear hv
    go_wp2_with (go_at_call 88;refine HNU.out.mono ?_;rintro e w2 ⟨rfl,hr,ho⟩;have HR2:=Lib.hid hr;have HN2:=Lib.hid (HNk.out.only ho hgN.symm);have HX2:=Lib.hid (HXk.out.only ho hgw);have HM2:=Lib.hid (only_below ho HMk.out HMk.out.size (by omega));clear hr ho hwd;have hc:w2.cell? ⟨N,0,none⟩ = some (.int .u32 0):=HN2.out.cell 0;have hf:=frozen_of_row w2 N 0 _ _ HN2.out)
    exact ⟨⟨1,by omega,rfl,HR2.out.set_other _ hgN,HN2.out.set _,HX2.out.set_other _ (by omega),HM2.out.setCell (p:=⟨N,0,none⟩) (by show w.heap.size ≤ N;omega) _⟩,by simp [intOf]⟩
   ·have HNU:=Lib.hid (number_st g A l c bs B (lcS bs s0 1) 1 1 _ HRk.out HL.out hm (by have:=lcS_le HS0.out 1;have:=HL.out;omega) (by omega) (by omega) rfl (HBA.out.below HMk.out hB))
    have hv:((lcS bs s0 1).num bs 1).1 = v1:=HV1.out
    rw [hv] at HNU
    have hwd:=(HMk.out.cell (p:=⟨0,1,none⟩) hw0).trans (HW.out.2 1 (by omega))
    rw [show ((wid 1:Nat):Int) = 1 from rfl] at hwd
    clear hv
    go_wp2_with (go_at_call 88;refine HNU.out.mono ?_;rintro e w2 ⟨rfl,hr,ho⟩;have HR2:=Lib.hid hr;have HN2:=Lib.hid (HNk.out.only ho hgN.symm);have HX2:=Lib.hid (HXk.out.only ho hgw);have HM2:=Lib.hid (only_below ho HMk.out HMk.out.size (by omega));clear hr ho hwd;have hc:w2.cell? ⟨N,1,none⟩ = some (.int .u32 0):=HN2.out.cell 1;have hf:=frozen_of_row w2 N 1 _ _ HN2.out)
    exact ⟨⟨2,by omega,rfl,HR2.out.set_other _ hgN,HN2.out.set _,HX2.out.set_other _ (by omega),HM2.out.setCell (p:=⟨N,1,none⟩) (by show w.heap.size ≤ N;omega) _⟩,by simp [intOf]⟩
   ·have HNU:=Lib.hid (number_st g A l c bs B (lcS bs s0 2) 4 4 _ HRk.out HL.out hm (by have:=lcS_le HS0.out 2;have:=HL.out;omega) (by omega) (by omega) rfl (HBA.out.below HMk.out hB))
    have hv:((lcS bs s0 2).num bs 4).1 = v2:=HV2.out
    rw [hv] at HNU
    have hwd:=(HMk.out.cell (p:=⟨0,2,none⟩) hw0).trans (HW.out.2 2 (by omega))
    rw [show ((wid 2:Nat):Int) = 4 from rfl] at hwd
    clear hv
    go_wp2_with (go_at_call 88;refine HNU.out.mono ?_;rintro e w2 ⟨rfl,hr,ho⟩;have HR2:=Lib.hid hr;have HN2:=Lib.hid (HNk.out.only ho hgN.symm);have HX2:=Lib.hid (HXk.out.only ho hgw);have HM2:=Lib.hid (only_below ho HMk.out HMk.out.size (by omega));clear hr ho hwd;have hc:w2.cell? ⟨N,2,none⟩ = some (.int .u32 0):=HN2.out.cell 2;have hf:=frozen_of_row w2 N 2 _ _ HN2.out)
    exact ⟨⟨3,by omega,rfl,HR2.out.set_other _ hgN,HN2.out.set _,HX2.out.set_other _ (by omega),HM2.out.setCell (p:=⟨N,2,none⟩) (by show w.heap.size ≤ N;omega) _⟩,by simp [intOf]⟩
   ·have HNU:=Lib.hid (number_st g A l c bs B (lcS bs s0 3) 4 4 _ HRk.out HL.out hm (by have:=lcS_le HS0.out 3;have:=HL.out;omega) (by omega) (by omega) rfl (HBA.out.below HMk.out hB))
    have hv:((lcS bs s0 3).num bs 4).1 = v3:=HV3.out
    rw [hv] at HNU
    have hwd:=(HMk.out.cell (p:=⟨0,3,none⟩) hw0).trans (HW.out.2 3 (by omega))
    rw [show ((wid 3:Nat):Int) = 4 from rfl] at hwd
    clear hv
    go_wp2_with (go_at_call 88;refine HNU.out.mono ?_;rintro e w2 ⟨rfl,hr,ho⟩;have HR2:=Lib.hid hr;have HN2:=Lib.hid (HNk.out.only ho hgN.symm);have HX2:=Lib.hid (HXk.out.only ho hgw);have HM2:=Lib.hid (only_below ho HMk.out HMk.out.size (by omega));clear hr ho hwd;have hc:w2.cell? ⟨N,3,none⟩ = some (.int .u32 0):=HN2.out.cell 3;have hf:=frozen_of_row w2 N 3 _ _ HN2.out)
    exact ⟨⟨4,by omega,rfl,HR2.out.set_other _ hgN,HN2.out.set _,HX2.out.set_other _ (by omega),HM2.out.setCell (p:=⟨N,3,none⟩) (by show w.heap.size ≤ N;omega) _⟩,by simp [intOf]⟩
   ·have HNU:=Lib.hid (number_st g A l c bs B (lcS bs s0 4) 4 4 _ HRk.out HL.out hm (by have:=lcS_le HS0.out 4;have:=HL.out;omega) (by omega) (by omega) rfl (HBA.out.below HMk.out hB))
    have hv:((lcS bs s0 4).num bs 4).1 = v4:=HV4.out
    rw [hv] at HNU
    have hwd:=(HMk.out.cell (p:=⟨0,4,none⟩) hw0).trans (HW.out.2 4 (by omega))
    rw [show ((wid 4:Nat):Int) = 4 from rfl] at hwd
    clear hv
    go_wp2_with (go_at_call 88;refine HNU.out.mono ?_;rintro e w2 ⟨rfl,hr,ho⟩;have HR2:=Lib.hid hr;have HN2:=Lib.hid (HNk.out.only ho hgN.symm);have HX2:=Lib.hid (HXk.out.only ho hgw);have HM2:=Lib.hid (only_below ho HMk.out HMk.out.size (by omega));clear hr ho hwd;have hc:w2.cell? ⟨N,4,none⟩ = some (.int .u32 0):=HN2.out.cell 4;have hf:=frozen_of_row w2 N 4 _ _ HN2.out)
    exact ⟨⟨5,by omega,rfl,HR2.out.set_other _ hgN,HN2.out.set _,HX2.out.set_other _ (by omega),HM2.out.setCell (p:=⟨N,4,none⟩) (by show w.heap.size ≤ N;omega) _⟩,by simp [intOf]⟩
  ·obtain rfl:k = 5:=by omega
   have hn1:_ = some (Value.int .u32 (v1:Int)):=HNk.out.cell 1
   go_wp2_with fail
   refine (bytes_st g A l c bs B (lcS bs s0 5) v1 _ HRk.out HL.out hm hlc (by have:=lcS_le HS0.out 5;have:=HL.out;omega) (HBA.out.below HMk.out hB) (Nat.le_trans hB HMk.out.size)).mono ?_
   rintro e w2 ⟨A',m,kk,rfl,hown,hr,ho⟩
   have hlx:(lcX bs p).2.p ≤ bs.length:=by rw [HXD.out];exact row_le (lcS_le HS0.out 5)
   have hgx:p ≤ (lcX bs p).2.p:=by rw [HXD.out];exact Nat.le_trans HG0.out (Nat.le_trans (lcS_ge bs s0 5) (row_ge _ _ _))
   have hrl:(lcX bs p).1.length ≤ v1:=by rw [HXD.out];exact row_len _ _
   rw [← HXD.out] at hr hown
   have HR2:=Lib.hid hr
   have HN2:=Lib.hid (HNk.out.only ho hgN.symm)
   have HX2:=Lib.hid (HXk.out.only ho hgw)
   have HM2:=Lib.hid (only_below ho HMk.out HMk.out.size (by omega))
   have hxl:(lcX bs p).1.length = m:=by have:=(OwnT.of hown).1;rwa [byteCells_length] at this
   have hcv:=HCV.out w2 A' m kk _ _ (OwnT.of hown).cells hxl
   clear hr ho hown hn1
   obtain ⟨T,hT⟩:∃ T:ByteArray,(⟨(lcX bs p).1.toArray⟩:ByteArray) = T:=⟨_,rfl⟩
   rw [hT] at hcv HVG
   have HRT:Hid (∀ W,Calls Tryz.prog 69 #[.agg #[.int .i64 (v0:Int),.string T,.int .i64 (v2:Int),.int .i64 (v3:Int),.int .u32 (v4:Int)]] W fun e w' => e = .returned (.bool (lcHd bs p))∧Below W.heap.size W w'):=fun W => by
    have:=lcRight_any (v0:Int) T (v2:Int) (v3:Int) (v4:Int) W (by rw [← hT];show (lcX bs p).1.toArray.size ≤ maxLen;rw [List.size_toArray];unfold maxLen;omega)
    rw [HHD.out]
    rw [← hT] at this ⊢
    exact this
   have HCK:=Lib.hid (check_any tg g A l c bs B p (lcX bs p).2 _ (HT0.out.below HM2.out htl) HR2.out HL.out hm hlc (by rw [← HL.out];exact hlx) hgx (HBA.out.below HM2.out hB) (by omega))
   clear hT hlx hgx hrl hxl
   obtain ⟨r,hr⟩:∃ r,chkN bs p (lcX bs p).2 = r:=⟨_,rfl⟩
   rw [hr] at HCK HRD
   clear hr HHD HXD
   by_cases hr0:r = 0
   ·subst hr0
    obtain ⟨hd,hhd⟩:∃ hd,lcHd bs p = hd:=⟨_,rfl⟩
    rw [hhd] at HRT HRD
    clear hhd
    go_wp2_with (go_at_call 90;refine HCK.out.mono ?_;rintro e w3 ⟨rfl,hr3,ho⟩;have HR3:=Lib.hid hr3;have HN3:=Lib.hid (HN2.out.only ho hgN.symm);have HX4:=Lib.hid (HX2.out.only ho hgw);have HM3:=Lib.hid (only_below ho HM2.out HM2.out.size (by omega));clear hr3 ho;have hn0:w3.cell? ⟨N,0,none⟩ = some (.int .u32 (v0:Int)):=HN3.out.cell 0;have hn2:w3.cell? ⟨N,2,none⟩ = some (.int .u32 (v2:Int)):=HN3.out.cell 2;have hn3:w3.cell? ⟨N,3,none⟩ = some (.int .u32 (v3:Int)):=HN3.out.cell 3;have hn4:w3.cell? ⟨N,4,none⟩ = some (.int .u32 (v4:Int)):=HN3.out.cell 4;have hx0:w3.cell? ⟨w.heap.size,0,none⟩ = some (.int .i64 0):=HX4.out.cell 0;have hf0:=frozen_of_row w3 w.heap.size 0 _ _ HX4.out;have hx1:w3.cell? ⟨w.heap.size,1,none⟩ = some (.string ⟨#[]⟩):=HX4.out.cell 1;have hf1:=frozen_of_row w3 w.heap.size 1 _ _ HX4.out;have hx2:w3.cell? ⟨w.heap.size,2,none⟩ = some (.int .i64 0):=HX4.out.cell 2;have hf2:=frozen_of_row w3 w.heap.size 2 _ _ HX4.out;have hx3:w3.cell? ⟨w.heap.size,3,none⟩ = some (.int .i64 0):=HX4.out.cell 3;have hf3:=frozen_of_row w3 w.heap.size 3 _ _ HX4.out;have hx4:w3.cell? ⟨w.heap.size,4,none⟩ = some (.int .u32 0):=HX4.out.cell 4;have hf4:=frozen_of_row w3 w.heap.size 4 _ _ HX4.out)
    have hgw':g ≠ w.heap.size:=hgw.symm
    have HXQ:=Lib.hid (((((HX4.out.set (i:=0) (.int .i64 (v0:Int))).set (i:=1) (.string T)).set (i:=2) (.int .i64 (v2:Int))).set (i:=3) (.int .i64 (v3:Int))).set (i:=4) (.int .u32 (v4:Int)))
    have HBQ:=Lib.hid (((((HM3.out.setCell (p:=⟨w.heap.size,0,none⟩) (Nat.le_refl _) (.int .i64 (v0:Int))).setCell (p:=⟨w.heap.size,1,none⟩) (Nat.le_refl _) (.string T)).setCell (p:=⟨w.heap.size,2,none⟩) (Nat.le_refl _) (.int .i64 (v2:Int))).setCell (p:=⟨w.heap.size,3,none⟩) (Nat.le_refl _) (.int .i64 (v3:Int))).setCell (p:=⟨w.heap.size,4,none⟩) (Nat.le_refl _) (.int .u32 (v4:Int)))
    have HRQ:=Lib.hid (((((HR3.out.set_other (i:=0) (.int .i64 (v0:Int)) hgw').set_other (i:=1) (.string T) hgw').set_other (i:=2) (.int .i64 (v2:Int)) hgw').set_other (i:=3) (.int .i64 (v3:Int)) hgw').set_other (i:=4) (.int .u32 (v4:Int)) hgw')
    clear hn0 hn2 hn3 hn4 hx0 hx1 hx2 hx3 hx4 hf0 hf1 hf2 hf3 hf4
    generalize ((((w3.setCell ⟨w.heap.size,0,none⟩ (.int .i64 (v0:Int))).setCell ⟨w.heap.size,1,none⟩ (.string T)).setCell ⟨w.heap.size,2,none⟩ (.int .i64 (v2:Int))).setCell ⟨w.heap.size,3,none⟩ (.int .i64 (v3:Int))).setCell ⟨w.heap.size,4,none⟩ (.int .u32 (v4:Int)) = w4 at *
    refine (HRT.out w4).mono ?_
    rintro e w5 ⟨rfl,hb⟩
    have HX5:Hid (Box w5 w.heap.size #[.int .i64 (v0:Int),.string T,.int .i64 (v2:Int),.int .i64 (v3:Int),.int .u32 (v4:Int)] 71):=HXQ.out.below hb HXQ.out.lt
    have HM5:=Lib.hid (HBQ.out.trans (hb.mono HBQ.out.size))
    have HR5:=Lib.hid (Rd.below HRQ.out hb HRQ.out.lt)
    clear hb
    have hx0:w5.cell? ⟨w.heap.size,0,none⟩ = some (.int .i64 (v0:Int)):=HX5.out.cell 0
    have hx1:w5.cell? ⟨w.heap.size,1,none⟩ = some (.string T):=HX5.out.cell 1
    have hx2:w5.cell? ⟨w.heap.size,2,none⟩ = some (.int .i64 (v2:Int)):=HX5.out.cell 2
    have hx3:w5.cell? ⟨w.heap.size,3,none⟩ = some (.int .i64 (v3:Int)):=HX5.out.cell 3
    have hx4:w5.cell? ⟨w.heap.size,4,none⟩ = some (.int .u32 (v4:Int)):=HX5.out.cell 4
    have hf0:=frozen_of_row w5 w.heap.size 0 _ _ HX5.out
    have hf1:=frozen_of_row w5 w.heap.size 1 _ _ HX5.out
    have hf2:=frozen_of_row w5 w.heap.size 2 _ _ HX5.out
    have hf3:=frozen_of_row w5 w.heap.size 3 _ _ HX5.out
    have hf4:=frozen_of_row w5 w.heap.size 4 _ _ HX5.out
    cases hd with
    | false =>
     have HR6:Hid (lcR bs p = 3):=HRD.out
     go_wp2
     refine bodyPost_ret (v:=.tuple #[.agg #[.int .i64 0,.string ⟨#[]⟩,.int .i64 0,.int .i64 0,.int .u32 0],.int .i64 0,.int .i64 3]) (by simp [results,Tryz.results46,hx0,hx1,hx2,hx3,hx4,go_sem]) rfl ⟨by rw [HVB.out (by rw [HR6.out];decide),HR6.out];rfl,?_⟩
     exact (((((HM5.out.setCell (p:=⟨w.heap.size,0,none⟩) (Nat.le_refl _) _).setCell (p:=⟨w.heap.size,1,none⟩) (Nat.le_refl _) _).setCell (p:=⟨w.heap.size,2,none⟩) (Nat.le_refl _) _).setCell (p:=⟨w.heap.size,3,none⟩) (Nat.le_refl _) _).setCell (p:=⟨w.heap.size,4,none⟩) (Nat.le_refl _) _)
    | true =>
     have HR6:Hid (lcR bs p = 0):=HRD.out
     obtain ⟨q,hq⟩:∃ q,((lcX bs p).2.num bs 4).2.p = q:=⟨_,rfl⟩
     have HAT:=Lib.hid (fun n => at_any g A l c _ _ (w5.drewN n) (HR5.out.drewN n))
     rw [hq] at HVG HAT
     clear hq
     go_wp2_with fail
     go_region_with (go_at_call 91;refine (HAT.out 1).mono ?_;rintro e w' ⟨rfl,rfl⟩)
     all_goals
      go_wp2
      refine bodyPost_ret (v:=.tuple #[.agg #[.int .i64 (v0:Int),.string T,.int .i64 (v2:Int),.int .i64 (v3:Int),.int .u32 (v4:Int)],.int .i64 (q:Int),.int .i64 0]) (by simp [results,Tryz.results46,hx0,hx1,hx2,hx3,hx4,go_sem]) rfl ⟨by rw [HVG.out HR6.out],?_⟩
      first | exact HM5.out.drew | exact (((((HM5.out.drew.setCell (p:=⟨w.heap.size,0,none⟩) (Nat.le_refl _) _).setCell (p:=⟨w.heap.size,1,none⟩) (Nat.le_refl _) _).setCell (p:=⟨w.heap.size,2,none⟩) (Nat.le_refl _) _).setCell (p:=⟨w.heap.size,3,none⟩) (Nat.le_refl _) _).setCell (p:=⟨w.heap.size,4,none⟩) (Nat.le_refl _) _)
   ·have hne:((r:Int) != 0) = true:=by simp;omega
    have HR6:Hid (lcR bs p = r):=by show _ = _;rw [HRD.out,if_neg hr0]
    go_wp2_with (go_at_call 90;refine HCK.out.mono ?_;rintro e w3 ⟨rfl,_,ho⟩;have HX4:=Lib.hid (HX2.out.only ho hgw);have HM3:=Lib.hid (only_below ho HM2.out HM2.out.size (by omega));clear ho;have hx0:w3.cell? ⟨w.heap.size,0,none⟩ = some (.int .i64 0):=HX4.out.cell 0;have hf0:=frozen_of_row w3 w.heap.size 0 _ _ HX4.out;have hx1:w3.cell? ⟨w.heap.size,1,none⟩ = some (.string ⟨#[]⟩):=HX4.out.cell 1;have hf1:=frozen_of_row w3 w.heap.size 1 _ _ HX4.out;have hx2:w3.cell? ⟨w.heap.size,2,none⟩ = some (.int .i64 0):=HX4.out.cell 2;have hf2:=frozen_of_row w3 w.heap.size 2 _ _ HX4.out;have hx3:w3.cell? ⟨w.heap.size,3,none⟩ = some (.int .i64 0):=HX4.out.cell 3;have hf3:=frozen_of_row w3 w.heap.size 3 _ _ HX4.out;have hx4:w3.cell? ⟨w.heap.size,4,none⟩ = some (.int .u32 0):=HX4.out.cell 4;have hf4:=frozen_of_row w3 w.heap.size 4 _ _ HX4.out)
    refine bodyPost_ret (v:=.tuple #[.agg #[.int .i64 0,.string ⟨#[]⟩,.int .i64 0,.int .i64 0,.int .u32 0],.int .i64 0,.int .i64 (r:Int)]) (by simp [results,Tryz.results46,hx0,hx1,hx2,hx3,hx4,go_sem]) rfl ⟨by rw [HVB.out (by rw [HR6.out];exact hr0),HR6.out],?_⟩
    exact (((((HM3.out.setCell (p:=⟨w.heap.size,0,none⟩) (Nat.le_refl _) _).setCell (p:=⟨w.heap.size,1,none⟩) (Nat.le_refl _) _).setCell (p:=⟨w.heap.size,2,none⟩) (Nat.le_refl _) _).setCell (p:=⟨w.heap.size,3,none⟩) (Nat.le_refl _) _).setCell (p:=⟨w.heap.size,4,none⟩) (Nat.le_refl _) _)
def lcAns (bs:List UInt8) (p:Int):Value :=
 if p < 0 ∨ (bs.length:Int) < p then .tuple #[.agg #[.int .i64 0,.string ⟨#[]⟩,.int .i64 0,.int .i64 0,.int .u32 0],.int .i64 0,.int .i64 1]
 else if p + 4 ≤ bs.length∧isB headBytes bs p = false then .tuple #[.agg #[.int .i64 0,.string ⟨#[]⟩,.int .i64 0,.int .i64 0,.int .u32 0],.int .i64 0,.int .i64 3]
 else lcV bs p.toNat
theorem lcAns_form (bs:List UInt8) (p:Int):∃ m S sz ar su K E,lcAns bs p = .tuple #[.agg #[.int .i64 m,.string S,.int .i64 sz,.int .i64 ar,.int .u32 su],.int .i64 K,.int .i64 E]:=by
 unfold lcAns
 split
 ·exact ⟨_,_,_,_,_,_,_,rfl⟩
 ·split
  ·exact ⟨_,_,_,_,_,_,_,rfl⟩
  ·unfold lcV
   split
   ·exact ⟨_,_,_,_,_,_,_,rfl⟩
   ·exact ⟨_,_,_,_,_,_,_,rfl⟩
theorem lcTake_all (tg:Nat) (A:Option Addr) (l c:Nat) (bs:List UInt8) (B:Nat) (p:Int) (w:World) (hT:Table w tg) (hW:Wid w) (hl:bs.length = l) (hm:l ≤ 1099511627776) (hlc:l ≤ c)
  (hb:Bytes w B A bs) (hB:B ≤ w.heap.size) :
  Calls Tryz.prog 46 #[.pointer (some ⟨tg,0,none⟩),.slice A l c,.int .i64 p] w fun e w' => e = .returned (lcAns bs p)∧Below w.heap.size w w':=by
 by_cases h1:p < 0 ∨ (bs.length:Int) < p
 ·have e1:lcAns bs p = .tuple #[.agg #[.int .i64 0,.string ⟨#[]⟩,.int .i64 0,.int .i64 0,.int .u32 0],.int .i64 0,.int .i64 1]:=by unfold lcAns;rw [if_pos h1]
  rw [e1]
  exact lcTake_arg tg A l c p w (by rw [← hl];exact h1)
 obtain ⟨q,rfl⟩:=Int.eq_ofNat_of_zero_le (show 0 ≤ p by omega)
 by_cases h2:(q:Int) + 4 ≤ bs.length∧isB headBytes bs q = false
 ·have e1:lcAns bs q = .tuple #[.agg #[.int .i64 0,.string ⟨#[]⟩,.int .i64 0,.int .i64 0,.int .u32 0],.int .i64 0,.int .i64 3]:=by unfold lcAns;rw [if_neg h1,if_pos h2]
  rw [e1]
  exact lcTake_form tg A l c bs B q w hl hm hlc hb hB (by omega) h2.2
 ·have e1:lcAns bs q = lcV bs q:=by unfold lcAns;rw [if_neg h1,if_neg h2,Int.toNat_natCast]
  rw [e1]
  exact lcTake_ok tg A l c bs B q w hT hW hl hm hlc hb hB (by omega) (fun h => by cases hi:isB headBytes bs q with | true => rfl | false => exact absurd ⟨by omega,hi⟩ h2)
end Go.Proofs.YtaknladkodibaaaGreatDoor
namespace Go.Proofs.YtaknladkodibaaaGreatDoor
open Go.RowKit
structure LM where
 nm:ByteArray
 at_:Int
 fr:Int
 ar:Int
 sz:Int
 su:Int
 me:Int
def LM.cells (m:LM):List Value:=[.string m.nm,.int .i64 m.at_,.int .i64 m.fr,.int .i64 m.ar,.int .i64 m.sz,.int .u32 m.su,.int .i64 m.me]
def inB (n a b:Int):Bool:=decide (a ≤ n) && decide (n ≤ b)
def memB (nm:ByteArray) (at_ fr ar sz me:Int):Bool:=rightB nm.data.toList && inB me 0 2 && inB at_ 1024 1073741824 && (fr == at_ + (22 + (nm.size:Int))) && inB ar 0 262144 && inB sz 0 65536
theorem rightB_size {nm:ByteArray} (h:rightB nm.data.toList = true):1 ≤ nm.size∧nm.size ≤ 64:=by
 simp only [rightB,Bool.and_eq_true,decide_eq_true_eq,Array.length_toList] at h
 exact ⟨h.1.1.1,h.1.1.2⟩
theorem inB_yes {n a b:Int} (h:inB n a b = true):a ≤ n∧n ≤ b:=by simpa [inB] using h
set_option maxHeartbeats 1000000 in
theorem enWithin_any (n a b:Int) (w:World):Calls Tryz.prog 96 #[.int .i64 n,.int .i64 a,.int .i64 b] w fun e w' => e = .returned (.bool (inB n a b))∧w = w':=by
 by_cases h1:a ≤ n
 ·by_cases h2:n ≤ b
  ·have HD:Hid (inB n a b = true):=by show _ = _;simp [inB,h1,h2]
   go_enter Tryz.func96,Tryz.ntmps96
   go_wp2
   go_ret
   exact ⟨by rw [HD.out];rfl,rfl⟩
  ·have HD:Hid (inB n a b = false):=by show _ = _;simp [inB,h2]
   have h2':decide (n ≤ b) = false:=by simpa using h2
   clear h2
   go_enter Tryz.func96,Tryz.ntmps96
   go_wp2
   go_ret
   exact ⟨by rw [HD.out];rfl,rfl⟩
 ·have HD:Hid (inB n a b = false):=by show _ = _;simp [inB,h1]
  go_enter Tryz.func96,Tryz.ntmps96
  go_wp2
  go_ret
  exact ⟨by rw [HD.out];rfl,rfl⟩
set_option maxHeartbeats 400000 in
theorem locLen_any (s:ByteArray) (w:World) (hm:s.size ≤ 1000000000):Calls Tryz.prog 134 #[.string s] w fun e w' => e = .returned (.int .i64 (22 + (s.size:Int)))∧w = w':=by
 go_enter Tryz.func134,Tryz.ntmps134
 go_wp2
 go_ret
 exact ⟨rfl,rfl⟩
set_option maxHeartbeats 1000000 in
theorem enFrom_any (nm:ByteArray) (at_ fr ar sz su me:Int) (w:World) (hm:nm.size ≤ 1000000000) (h0:0 ≤ at_) (h1:at_ ≤ 1099511627776) :
  Calls Tryz.prog 97 #[.agg #[.string nm,.int .i64 at_,.int .i64 fr,.int .i64 ar,.int .i64 sz,.int .u32 su,.int .i64 me]] w fun e w' => e = .returned (.int .i64 (at_ + (22 + (nm.size:Int))))∧Below w.heap.size w w':=by
 obtain ⟨w0,hw0⟩:∃ w0,w.alloc (.cells #[.string nm,.int .i64 at_,.int .i64 fr,.int .i64 ar,.int .i64 sz,.int .u32 su,.int .i64 me] 39) = w0:=⟨_,rfl⟩
 have HX0:Hid (Box w0 w.heap.size #[.string nm,.int .i64 at_,.int .i64 fr,.int .i64 ar,.int .i64 sz,.int .u32 su,.int .i64 me] 39):=by rw [← hw0];exact heap_alloc_new w _
 have HB0:Hid (Below w.heap.size w w0):=by rw [← hw0];exact (Below.refl w.heap.size w).alloc (Nat.le_refl _) _
 have hsum:IntKind.i64.wrap (at_ + (22 + (nm.size:Int))) = at_ + (22 + (nm.size:Int)):=IntWalk.i64_in _ (by omega)
 go_enter Tryz.func97,Tryz.ntmps97
 go_wp2_with fail
 obtain ⟨ι,f,n0,hf0,hfb,hfu⟩:=below_class w0
 have HFU:=Lib.hid hfu
 have HFB:=Lib.hid hfb
 have y0:∀ n,(f n).cell? ⟨w.heap.size,0,none⟩ = some (.string nm):=fun n => by rw [(HFB.out n).cell (show w.heap.size < w0.heap.size from HX0.out.lt)];exact HX0.out.cell 0
 have y1:∀ n,(f n).cell? ⟨w.heap.size,1,none⟩ = some (.int .i64 at_):=fun n => by rw [(HFB.out n).cell (show w.heap.size < w0.heap.size from HX0.out.lt)];exact HX0.out.cell 1
 have y2:∀ n,(f n).cell? ⟨w.heap.size,2,none⟩ = some (.int .i64 fr):=fun n => by rw [(HFB.out n).cell (show w.heap.size < w0.heap.size from HX0.out.lt)];exact HX0.out.cell 2
 have y3:∀ n,(f n).cell? ⟨w.heap.size,3,none⟩ = some (.int .i64 ar):=fun n => by rw [(HFB.out n).cell (show w.heap.size < w0.heap.size from HX0.out.lt)];exact HX0.out.cell 3
 have y4:∀ n,(f n).cell? ⟨w.heap.size,4,none⟩ = some (.int .i64 sz):=fun n => by rw [(HFB.out n).cell (show w.heap.size < w0.heap.size from HX0.out.lt)];exact HX0.out.cell 4
 have y5:∀ n,(f n).cell? ⟨w.heap.size,5,none⟩ = some (.int .u32 su):=fun n => by rw [(HFB.out n).cell (show w.heap.size < w0.heap.size from HX0.out.lt)];exact HX0.out.cell 5
 have y6:∀ n,(f n).cell? ⟨w.heap.size,6,none⟩ = some (.int .i64 me):=fun n => by rw [(HFB.out n).cell (show w.heap.size < w0.heap.size from HX0.out.lt)];exact HX0.out.cell 6
 haveI:Nonempty ι:=⟨n0⟩
 clear hfb hfu
 refine region_quiet_f f n0 hf0 (by kernel_rfl) (by kernel_rfl) ?_
 repeat (go_big_quiet_step ((go_at_call 134;exact quiet_same (locLen_any _ _ hm))))
 refine wpQuiet_nil ?_
 rintro _ ⟨nq,rfl⟩
 have HB1:=Lib.hid (HB0.out.trans ((HFB.out nq).mono HB0.out.size))
 generalize f nq = w1 at *
 go_wp2
 go_ret
 exact ⟨rfl,HB1.out⟩
set_option maxRecDepth 100000 in
set_option maxHeartbeats 4000000 in
theorem enRight_no (nm:ByteArray) (at_ fr ar sz su me:Int) (w:World) (hm:nm.size ≤ maxLen) (hr:rightB nm.data.toList = false) :
  Calls Tryz.prog 53 #[.agg #[.string nm,.int .i64 at_,.int .i64 fr,.int .i64 ar,.int .i64 sz,.int .u32 su,.int .i64 me]] w fun e w' => e = .returned (.bool false)∧Below w.heap.size w w':=by
 obtain ⟨w0,hw0⟩:∃ w0,w.alloc (.cells #[.string nm,.int .i64 at_,.int .i64 fr,.int .i64 ar,.int .i64 sz,.int .u32 su,.int .i64 me] 39) = w0:=⟨_,rfl⟩
 have HX0:Hid (Box w0 w.heap.size #[.string nm,.int .i64 at_,.int .i64 fr,.int .i64 ar,.int .i64 sz,.int .u32 su,.int .i64 me] 39):=by rw [← hw0];exact heap_alloc_new w _
 have HB0:Hid (Below w.heap.size w w0):=by rw [← hw0];exact (Below.refl w.heap.size w).alloc (Nat.le_refl _) _
 have HR:=Lib.hid (fun W => rightM_any nm W hm)
 rw [hr] at HR
 clear hr hm
 go_enter Tryz.func53,Tryz.ntmps53
 go_wp2_with fail
 obtain ⟨ι,f,n0,hf0,hfb,hfu⟩:=below_class w0
 have HFU:=Lib.hid hfu
 have HFB:=Lib.hid hfb
 have y0:∀ n,(f n).cell? ⟨w.heap.size,0,none⟩ = some (.string nm):=fun n => by rw [(HFB.out n).cell (show w.heap.size < w0.heap.size from HX0.out.lt)];exact HX0.out.cell 0
 have y1:∀ n,(f n).cell? ⟨w.heap.size,1,none⟩ = some (.int .i64 at_):=fun n => by rw [(HFB.out n).cell (show w.heap.size < w0.heap.size from HX0.out.lt)];exact HX0.out.cell 1
 have y2:∀ n,(f n).cell? ⟨w.heap.size,2,none⟩ = some (.int .i64 fr):=fun n => by rw [(HFB.out n).cell (show w.heap.size < w0.heap.size from HX0.out.lt)];exact HX0.out.cell 2
 have y3:∀ n,(f n).cell? ⟨w.heap.size,3,none⟩ = some (.int .i64 ar):=fun n => by rw [(HFB.out n).cell (show w.heap.size < w0.heap.size from HX0.out.lt)];exact HX0.out.cell 3
 have y4:∀ n,(f n).cell? ⟨w.heap.size,4,none⟩ = some (.int .i64 sz):=fun n => by rw [(HFB.out n).cell (show w.heap.size < w0.heap.size from HX0.out.lt)];exact HX0.out.cell 4
 have y5:∀ n,(f n).cell? ⟨w.heap.size,5,none⟩ = some (.int .u32 su):=fun n => by rw [(HFB.out n).cell (show w.heap.size < w0.heap.size from HX0.out.lt)];exact HX0.out.cell 5
 have y6:∀ n,(f n).cell? ⟨w.heap.size,6,none⟩ = some (.int .i64 me):=fun n => by rw [(HFB.out n).cell (show w.heap.size < w0.heap.size from HX0.out.lt)];exact HX0.out.cell 6
 haveI:Nonempty ι:=⟨n0⟩
 clear hfb hfu
 refine region_quiet_f f n0 hf0 (by kernel_rfl) (by kernel_rfl) ?_
 repeat (go_big_quiet_step (first | (go_at_call 30;exact quiet_f HFU.out (HR.out _))))
 refine wpQuiet_nil ?_
 rintro _ ⟨nq,rfl⟩
 have HB1:=Lib.hid (HB0.out.trans ((HFB.out nq).mono HB0.out.size))
 generalize f nq = w1 at *
 go_wp2
 go_ret
 exact ⟨rfl,HB1.out⟩
set_option maxRecDepth 100000 in
set_option maxHeartbeats 4000000 in
theorem enRight_a (nm:ByteArray) (at_ fr ar sz su me:Int) (w:World) (hm:nm.size ≤ maxLen) (hr:rightB nm.data.toList = true) (hme:inB me 0 2 = false) :
  Calls Tryz.prog 53 #[.agg #[.string nm,.int .i64 at_,.int .i64 fr,.int .i64 ar,.int .i64 sz,.int .u32 su,.int .i64 me]] w fun e w' => e = .returned (.bool false)∧Below w.heap.size w w':=by
 obtain ⟨w0,hw0⟩:∃ w0,w.alloc (.cells #[.string nm,.int .i64 at_,.int .i64 fr,.int .i64 ar,.int .i64 sz,.int .u32 su,.int .i64 me] 39) = w0:=⟨_,rfl⟩
 have HX0:Hid (Box w0 w.heap.size #[.string nm,.int .i64 at_,.int .i64 fr,.int .i64 ar,.int .i64 sz,.int .u32 su,.int .i64 me] 39):=by rw [← hw0];exact heap_alloc_new w _
 have HB0:Hid (Below w.heap.size w w0):=by rw [← hw0];exact (Below.refl w.heap.size w).alloc (Nat.le_refl _) _
 have HR:=Lib.hid (fun W => rightM_any nm W hm)
 rw [hr] at HR
 have HWM:=Lib.hid (fun W => enWithin_any me 0 2 W)
 rw [hme] at HWM
 clear hme
 clear hr hm
 go_enter Tryz.func53,Tryz.ntmps53
 go_wp2_with fail
 obtain ⟨ι,f,n0,hf0,hfb,hfu⟩:=below_class w0
 have HFU:=Lib.hid hfu
 have HFB:=Lib.hid hfb
 have y0:∀ n,(f n).cell? ⟨w.heap.size,0,none⟩ = some (.string nm):=fun n => by rw [(HFB.out n).cell (show w.heap.size < w0.heap.size from HX0.out.lt)];exact HX0.out.cell 0
 have y1:∀ n,(f n).cell? ⟨w.heap.size,1,none⟩ = some (.int .i64 at_):=fun n => by rw [(HFB.out n).cell (show w.heap.size < w0.heap.size from HX0.out.lt)];exact HX0.out.cell 1
 have y2:∀ n,(f n).cell? ⟨w.heap.size,2,none⟩ = some (.int .i64 fr):=fun n => by rw [(HFB.out n).cell (show w.heap.size < w0.heap.size from HX0.out.lt)];exact HX0.out.cell 2
 have y3:∀ n,(f n).cell? ⟨w.heap.size,3,none⟩ = some (.int .i64 ar):=fun n => by rw [(HFB.out n).cell (show w.heap.size < w0.heap.size from HX0.out.lt)];exact HX0.out.cell 3
 have y4:∀ n,(f n).cell? ⟨w.heap.size,4,none⟩ = some (.int .i64 sz):=fun n => by rw [(HFB.out n).cell (show w.heap.size < w0.heap.size from HX0.out.lt)];exact HX0.out.cell 4
 have y5:∀ n,(f n).cell? ⟨w.heap.size,5,none⟩ = some (.int .u32 su):=fun n => by rw [(HFB.out n).cell (show w.heap.size < w0.heap.size from HX0.out.lt)];exact HX0.out.cell 5
 have y6:∀ n,(f n).cell? ⟨w.heap.size,6,none⟩ = some (.int .i64 me):=fun n => by rw [(HFB.out n).cell (show w.heap.size < w0.heap.size from HX0.out.lt)];exact HX0.out.cell 6
 haveI:Nonempty ι:=⟨n0⟩
 clear hfb hfu
 refine region_quiet_f f n0 hf0 (by kernel_rfl) (by kernel_rfl) ?_
 repeat (go_big_quiet_step (first | (go_at_call 30;exact quiet_f HFU.out (HR.out _)) | (go_at_call 96;with_reducible exact quiet_same (HWM.out _))))
 refine wpQuiet_nil ?_
 rintro _ ⟨nq,rfl⟩
 have HB1:=Lib.hid (HB0.out.trans ((HFB.out nq).mono HB0.out.size))
 generalize f nq = w1 at *
 go_wp2
 go_ret
 exact ⟨rfl,HB1.out⟩
set_option maxRecDepth 100000 in
set_option maxHeartbeats 4000000 in
theorem enRight_b (nm:ByteArray) (at_ fr ar sz su me:Int) (w:World) (hm:nm.size ≤ maxLen) (hr:rightB nm.data.toList = true) (hme:inB me 0 2 = true) (hat:inB at_ 1024 1073741824 = false) :
  Calls Tryz.prog 53 #[.agg #[.string nm,.int .i64 at_,.int .i64 fr,.int .i64 ar,.int .i64 sz,.int .u32 su,.int .i64 me]] w fun e w' => e = .returned (.bool false)∧Below w.heap.size w w':=by
 obtain ⟨w0,hw0⟩:∃ w0,w.alloc (.cells #[.string nm,.int .i64 at_,.int .i64 fr,.int .i64 ar,.int .i64 sz,.int .u32 su,.int .i64 me] 39) = w0:=⟨_,rfl⟩
 have HX0:Hid (Box w0 w.heap.size #[.string nm,.int .i64 at_,.int .i64 fr,.int .i64 ar,.int .i64 sz,.int .u32 su,.int .i64 me] 39):=by rw [← hw0];exact heap_alloc_new w _
 have HB0:Hid (Below w.heap.size w w0):=by rw [← hw0];exact (Below.refl w.heap.size w).alloc (Nat.le_refl _) _
 have HR:=Lib.hid (fun W => rightM_any nm W hm)
 rw [hr] at HR
 have HWM:=Lib.hid (fun W => enWithin_any me 0 2 W)
 rw [hme] at HWM
 have HWA:=Lib.hid (fun W => enWithin_any at_ 1024 1073741824 W)
 rw [hat] at HWA
 clear hme hat
 clear hr hm
 go_enter Tryz.func53,Tryz.ntmps53
 go_wp2_with fail
 obtain ⟨ι,f,n0,hf0,hfb,hfu⟩:=below_class w0
 have HFU:=Lib.hid hfu
 have HFB:=Lib.hid hfb
 have y0:∀ n,(f n).cell? ⟨w.heap.size,0,none⟩ = some (.string nm):=fun n => by rw [(HFB.out n).cell (show w.heap.size < w0.heap.size from HX0.out.lt)];exact HX0.out.cell 0
 have y1:∀ n,(f n).cell? ⟨w.heap.size,1,none⟩ = some (.int .i64 at_):=fun n => by rw [(HFB.out n).cell (show w.heap.size < w0.heap.size from HX0.out.lt)];exact HX0.out.cell 1
 have y2:∀ n,(f n).cell? ⟨w.heap.size,2,none⟩ = some (.int .i64 fr):=fun n => by rw [(HFB.out n).cell (show w.heap.size < w0.heap.size from HX0.out.lt)];exact HX0.out.cell 2
 have y3:∀ n,(f n).cell? ⟨w.heap.size,3,none⟩ = some (.int .i64 ar):=fun n => by rw [(HFB.out n).cell (show w.heap.size < w0.heap.size from HX0.out.lt)];exact HX0.out.cell 3
 have y4:∀ n,(f n).cell? ⟨w.heap.size,4,none⟩ = some (.int .i64 sz):=fun n => by rw [(HFB.out n).cell (show w.heap.size < w0.heap.size from HX0.out.lt)];exact HX0.out.cell 4
 have y5:∀ n,(f n).cell? ⟨w.heap.size,5,none⟩ = some (.int .u32 su):=fun n => by rw [(HFB.out n).cell (show w.heap.size < w0.heap.size from HX0.out.lt)];exact HX0.out.cell 5
 have y6:∀ n,(f n).cell? ⟨w.heap.size,6,none⟩ = some (.int .i64 me):=fun n => by rw [(HFB.out n).cell (show w.heap.size < w0.heap.size from HX0.out.lt)];exact HX0.out.cell 6
 haveI:Nonempty ι:=⟨n0⟩
 clear hfb hfu
 refine region_quiet_f f n0 hf0 (by kernel_rfl) (by kernel_rfl) ?_
 repeat (go_big_quiet_step (first | (go_at_call 30;exact quiet_f HFU.out (HR.out _)) | (go_at_call 96;with_reducible exact quiet_same (HWM.out _)) | (go_at_call 96;with_reducible exact quiet_same (HWA.out _))))
 refine wpQuiet_nil ?_
 rintro _ ⟨nq,rfl⟩
 have HB1:=Lib.hid (HB0.out.trans ((HFB.out nq).mono HB0.out.size))
 generalize f nq = w1 at *
 go_wp2
 go_ret
 exact ⟨rfl,HB1.out⟩
set_option maxRecDepth 100000 in
set_option maxHeartbeats 4000000 in
theorem enRight_c (nm:ByteArray) (at_ fr ar sz su me:Int) (w:World) (hm:nm.size ≤ maxLen) (hr:rightB nm.data.toList = true) (hme:inB me 0 2 = true) (hat:inB at_ 1024 1073741824 = true) (hfr:(fr == at_ + (22 + (nm.size:Int))) = false) :
  Calls Tryz.prog 53 #[.agg #[.string nm,.int .i64 at_,.int .i64 fr,.int .i64 ar,.int .i64 sz,.int .u32 su,.int .i64 me]] w fun e w' => e = .returned (.bool false)∧Below w.heap.size w w':=by
 obtain ⟨w0,hw0⟩:∃ w0,w.alloc (.cells #[.string nm,.int .i64 at_,.int .i64 fr,.int .i64 ar,.int .i64 sz,.int .u32 su,.int .i64 me] 39) = w0:=⟨_,rfl⟩
 have HX0:Hid (Box w0 w.heap.size #[.string nm,.int .i64 at_,.int .i64 fr,.int .i64 ar,.int .i64 sz,.int .u32 su,.int .i64 me] 39):=by rw [← hw0];exact heap_alloc_new w _
 have HB0:Hid (Below w.heap.size w w0):=by rw [← hw0];exact (Below.refl w.heap.size w).alloc (Nat.le_refl _) _
 have HR:=Lib.hid (fun W => rightM_any nm W hm)
 rw [hr] at HR
 have HWM:=Lib.hid (fun W => enWithin_any me 0 2 W)
 rw [hme] at HWM
 have HWA:=Lib.hid (fun W => enWithin_any at_ 1024 1073741824 W)
 rw [hat] at HWA
 have HFM:=Lib.hid (fun W => enFrom_any nm at_ fr ar sz su me W (by have:=rightB_size hr;omega) (by have:=inB_yes hat;omega) (by have:=inB_yes hat;omega))
 have hfr':(fr == at_ + (22 + (nm.size:Int))) = false:=hfr
 clear hme hat hfr
 clear hr hm
 go_enter Tryz.func53,Tryz.ntmps53
 go_wp2_with fail
 obtain ⟨ι,f,n0,hf0,hfb,hfu⟩:=below_class w0
 have HFU:=Lib.hid hfu
 have HFB:=Lib.hid hfb
 have y0:∀ n,(f n).cell? ⟨w.heap.size,0,none⟩ = some (.string nm):=fun n => by rw [(HFB.out n).cell (show w.heap.size < w0.heap.size from HX0.out.lt)];exact HX0.out.cell 0
 have y1:∀ n,(f n).cell? ⟨w.heap.size,1,none⟩ = some (.int .i64 at_):=fun n => by rw [(HFB.out n).cell (show w.heap.size < w0.heap.size from HX0.out.lt)];exact HX0.out.cell 1
 have y2:∀ n,(f n).cell? ⟨w.heap.size,2,none⟩ = some (.int .i64 fr):=fun n => by rw [(HFB.out n).cell (show w.heap.size < w0.heap.size from HX0.out.lt)];exact HX0.out.cell 2
 have y3:∀ n,(f n).cell? ⟨w.heap.size,3,none⟩ = some (.int .i64 ar):=fun n => by rw [(HFB.out n).cell (show w.heap.size < w0.heap.size from HX0.out.lt)];exact HX0.out.cell 3
 have y4:∀ n,(f n).cell? ⟨w.heap.size,4,none⟩ = some (.int .i64 sz):=fun n => by rw [(HFB.out n).cell (show w.heap.size < w0.heap.size from HX0.out.lt)];exact HX0.out.cell 4
 have y5:∀ n,(f n).cell? ⟨w.heap.size,5,none⟩ = some (.int .u32 su):=fun n => by rw [(HFB.out n).cell (show w.heap.size < w0.heap.size from HX0.out.lt)];exact HX0.out.cell 5
 have y6:∀ n,(f n).cell? ⟨w.heap.size,6,none⟩ = some (.int .i64 me):=fun n => by rw [(HFB.out n).cell (show w.heap.size < w0.heap.size from HX0.out.lt)];exact HX0.out.cell 6
 haveI:Nonempty ι:=⟨n0⟩
 clear hfb hfu
 refine region_quiet_f f n0 hf0 (by kernel_rfl) (by kernel_rfl) ?_
 repeat (go_big_quiet_step (first | (go_at_call 30;exact quiet_f HFU.out (HR.out _)) | (go_at_call 96;with_reducible exact quiet_same (HWM.out _)) | (go_at_call 96;with_reducible exact quiet_same (HWA.out _)) | (go_at_call 97;exact quiet_f HFU.out (HFM.out _))))
 refine wpQuiet_nil ?_
 rintro _ ⟨nq,rfl⟩
 have HB1:=Lib.hid (HB0.out.trans ((HFB.out nq).mono HB0.out.size))
 generalize f nq = w1 at *
 go_wp2
 go_ret
 exact ⟨rfl,HB1.out⟩
set_option maxRecDepth 100000 in
set_option maxHeartbeats 4000000 in
theorem enRight_d (nm:ByteArray) (at_ fr ar sz su me:Int) (w:World) (hm:nm.size ≤ maxLen) (hr:rightB nm.data.toList = true) (hme:inB me 0 2 = true) (hat:inB at_ 1024 1073741824 = true) (hfr:(fr == at_ + (22 + (nm.size:Int))) = true) (har:inB ar 0 262144 = false) :
  Calls Tryz.prog 53 #[.agg #[.string nm,.int .i64 at_,.int .i64 fr,.int .i64 ar,.int .i64 sz,.int .u32 su,.int .i64 me]] w fun e w' => e = .returned (.bool false)∧Below w.heap.size w w':=by
 obtain ⟨w0,hw0⟩:∃ w0,w.alloc (.cells #[.string nm,.int .i64 at_,.int .i64 fr,.int .i64 ar,.int .i64 sz,.int .u32 su,.int .i64 me] 39) = w0:=⟨_,rfl⟩
 have HX0:Hid (Box w0 w.heap.size #[.string nm,.int .i64 at_,.int .i64 fr,.int .i64 ar,.int .i64 sz,.int .u32 su,.int .i64 me] 39):=by rw [← hw0];exact heap_alloc_new w _
 have HB0:Hid (Below w.heap.size w w0):=by rw [← hw0];exact (Below.refl w.heap.size w).alloc (Nat.le_refl _) _
 have HR:=Lib.hid (fun W => rightM_any nm W hm)
 rw [hr] at HR
 have HWM:=Lib.hid (fun W => enWithin_any me 0 2 W)
 rw [hme] at HWM
 have HWA:=Lib.hid (fun W => enWithin_any at_ 1024 1073741824 W)
 rw [hat] at HWA
 have HFM:=Lib.hid (fun W => enFrom_any nm at_ fr ar sz su me W (by have:=rightB_size hr;omega) (by have:=inB_yes hat;omega) (by have:=inB_yes hat;omega))
 have hfr':(fr == at_ + (22 + (nm.size:Int))) = true:=hfr
 have HWR:=Lib.hid (fun W => enWithin_any ar 0 262144 W)
 rw [har] at HWR
 clear hme hat hfr har
 clear hr hm
 go_enter Tryz.func53,Tryz.ntmps53
 go_wp2_with fail
 obtain ⟨ι,f,n0,hf0,hfb,hfu⟩:=below_class w0
 have HFU:=Lib.hid hfu
 have HFB:=Lib.hid hfb
 have y0:∀ n,(f n).cell? ⟨w.heap.size,0,none⟩ = some (.string nm):=fun n => by rw [(HFB.out n).cell (show w.heap.size < w0.heap.size from HX0.out.lt)];exact HX0.out.cell 0
 have y1:∀ n,(f n).cell? ⟨w.heap.size,1,none⟩ = some (.int .i64 at_):=fun n => by rw [(HFB.out n).cell (show w.heap.size < w0.heap.size from HX0.out.lt)];exact HX0.out.cell 1
 have y2:∀ n,(f n).cell? ⟨w.heap.size,2,none⟩ = some (.int .i64 fr):=fun n => by rw [(HFB.out n).cell (show w.heap.size < w0.heap.size from HX0.out.lt)];exact HX0.out.cell 2
 have y3:∀ n,(f n).cell? ⟨w.heap.size,3,none⟩ = some (.int .i64 ar):=fun n => by rw [(HFB.out n).cell (show w.heap.size < w0.heap.size from HX0.out.lt)];exact HX0.out.cell 3
 have y4:∀ n,(f n).cell? ⟨w.heap.size,4,none⟩ = some (.int .i64 sz):=fun n => by rw [(HFB.out n).cell (show w.heap.size < w0.heap.size from HX0.out.lt)];exact HX0.out.cell 4
 have y5:∀ n,(f n).cell? ⟨w.heap.size,5,none⟩ = some (.int .u32 su):=fun n => by rw [(HFB.out n).cell (show w.heap.size < w0.heap.size from HX0.out.lt)];exact HX0.out.cell 5
 have y6:∀ n,(f n).cell? ⟨w.heap.size,6,none⟩ = some (.int .i64 me):=fun n => by rw [(HFB.out n).cell (show w.heap.size < w0.heap.size from HX0.out.lt)];exact HX0.out.cell 6
 haveI:Nonempty ι:=⟨n0⟩
 clear hfb hfu
 refine region_quiet_f f n0 hf0 (by kernel_rfl) (by kernel_rfl) ?_
 repeat (go_big_quiet_step (first | (go_at_call 30;exact quiet_f HFU.out (HR.out _)) | (go_at_call 96;with_reducible exact quiet_same (HWM.out _)) | (go_at_call 96;with_reducible exact quiet_same (HWA.out _)) | (go_at_call 97;exact quiet_f HFU.out (HFM.out _)) | (go_at_call 96;with_reducible exact quiet_same (HWR.out _))))
 refine wpQuiet_nil ?_
 rintro _ ⟨nq,rfl⟩
 have HB1:=Lib.hid (HB0.out.trans ((HFB.out nq).mono HB0.out.size))
 generalize f nq = w1 at *
 go_wp2
 go_ret
 exact ⟨rfl,HB1.out⟩
set_option maxRecDepth 100000 in
set_option maxHeartbeats 4000000 in
theorem enRight_e (nm:ByteArray) (at_ fr ar sz su me:Int) (w:World) (hm:nm.size ≤ maxLen) (hr:rightB nm.data.toList = true) (hme:inB me 0 2 = true) (hat:inB at_ 1024 1073741824 = true) (hfr:(fr == at_ + (22 + (nm.size:Int))) = true) (har:inB ar 0 262144 = true) (hsz:inB sz 0 65536 = false) :
  Calls Tryz.prog 53 #[.agg #[.string nm,.int .i64 at_,.int .i64 fr,.int .i64 ar,.int .i64 sz,.int .u32 su,.int .i64 me]] w fun e w' => e = .returned (.bool false)∧Below w.heap.size w w':=by
 obtain ⟨w0,hw0⟩:∃ w0,w.alloc (.cells #[.string nm,.int .i64 at_,.int .i64 fr,.int .i64 ar,.int .i64 sz,.int .u32 su,.int .i64 me] 39) = w0:=⟨_,rfl⟩
 have HX0:Hid (Box w0 w.heap.size #[.string nm,.int .i64 at_,.int .i64 fr,.int .i64 ar,.int .i64 sz,.int .u32 su,.int .i64 me] 39):=by rw [← hw0];exact heap_alloc_new w _
 have HB0:Hid (Below w.heap.size w w0):=by rw [← hw0];exact (Below.refl w.heap.size w).alloc (Nat.le_refl _) _
 have HR:=Lib.hid (fun W => rightM_any nm W hm)
 rw [hr] at HR
 have HWM:=Lib.hid (fun W => enWithin_any me 0 2 W)
 rw [hme] at HWM
 have HWA:=Lib.hid (fun W => enWithin_any at_ 1024 1073741824 W)
 rw [hat] at HWA
 have HFM:=Lib.hid (fun W => enFrom_any nm at_ fr ar sz su me W (by have:=rightB_size hr;omega) (by have:=inB_yes hat;omega) (by have:=inB_yes hat;omega))
 have hfr':(fr == at_ + (22 + (nm.size:Int))) = true:=hfr
 have HWR:=Lib.hid (fun W => enWithin_any ar 0 262144 W)
 rw [har] at HWR
 have HWS:=Lib.hid (fun W => enWithin_any sz 0 65536 W)
 rw [hsz] at HWS
 clear hme hat hfr har hsz
 clear hr hm
 go_enter Tryz.func53,Tryz.ntmps53
 go_wp2_with fail
 obtain ⟨ι,f,n0,hf0,hfb,hfu⟩:=below_class w0
 have HFU:=Lib.hid hfu
 have HFB:=Lib.hid hfb
 have y0:∀ n,(f n).cell? ⟨w.heap.size,0,none⟩ = some (.string nm):=fun n => by rw [(HFB.out n).cell (show w.heap.size < w0.heap.size from HX0.out.lt)];exact HX0.out.cell 0
 have y1:∀ n,(f n).cell? ⟨w.heap.size,1,none⟩ = some (.int .i64 at_):=fun n => by rw [(HFB.out n).cell (show w.heap.size < w0.heap.size from HX0.out.lt)];exact HX0.out.cell 1
 have y2:∀ n,(f n).cell? ⟨w.heap.size,2,none⟩ = some (.int .i64 fr):=fun n => by rw [(HFB.out n).cell (show w.heap.size < w0.heap.size from HX0.out.lt)];exact HX0.out.cell 2
 have y3:∀ n,(f n).cell? ⟨w.heap.size,3,none⟩ = some (.int .i64 ar):=fun n => by rw [(HFB.out n).cell (show w.heap.size < w0.heap.size from HX0.out.lt)];exact HX0.out.cell 3
 have y4:∀ n,(f n).cell? ⟨w.heap.size,4,none⟩ = some (.int .i64 sz):=fun n => by rw [(HFB.out n).cell (show w.heap.size < w0.heap.size from HX0.out.lt)];exact HX0.out.cell 4
 have y5:∀ n,(f n).cell? ⟨w.heap.size,5,none⟩ = some (.int .u32 su):=fun n => by rw [(HFB.out n).cell (show w.heap.size < w0.heap.size from HX0.out.lt)];exact HX0.out.cell 5
 have y6:∀ n,(f n).cell? ⟨w.heap.size,6,none⟩ = some (.int .i64 me):=fun n => by rw [(HFB.out n).cell (show w.heap.size < w0.heap.size from HX0.out.lt)];exact HX0.out.cell 6
 haveI:Nonempty ι:=⟨n0⟩
 clear hfb hfu
 refine region_quiet_f f n0 hf0 (by kernel_rfl) (by kernel_rfl) ?_
 repeat (go_big_quiet_step (first | (go_at_call 30;exact quiet_f HFU.out (HR.out _)) | (go_at_call 96;with_reducible exact quiet_same (HWM.out _)) | (go_at_call 96;with_reducible exact quiet_same (HWA.out _)) | (go_at_call 97;exact quiet_f HFU.out (HFM.out _)) | (go_at_call 96;with_reducible exact quiet_same (HWR.out _)) | (go_at_call 96;with_reducible exact quiet_same (HWS.out _))))
 refine wpQuiet_nil ?_
 rintro _ ⟨nq,rfl⟩
 have HB1:=Lib.hid (HB0.out.trans ((HFB.out nq).mono HB0.out.size))
 generalize f nq = w1 at *
 go_wp2
 go_ret
 exact ⟨rfl,HB1.out⟩
set_option maxRecDepth 100000 in
set_option maxHeartbeats 4000000 in
theorem enRight_yes (nm:ByteArray) (at_ fr ar sz su me:Int) (w:World) (hm:nm.size ≤ maxLen) (hr:rightB nm.data.toList = true) (hme:inB me 0 2 = true) (hat:inB at_ 1024 1073741824 = true) (hfr:(fr == at_ + (22 + (nm.size:Int))) = true) (har:inB ar 0 262144 = true) (hsz:inB sz 0 65536 = true) :
  Calls Tryz.prog 53 #[.agg #[.string nm,.int .i64 at_,.int .i64 fr,.int .i64 ar,.int .i64 sz,.int .u32 su,.int .i64 me]] w fun e w' => e = .returned (.bool true)∧Below w.heap.size w w':=by
 obtain ⟨w0,hw0⟩:∃ w0,w.alloc (.cells #[.string nm,.int .i64 at_,.int .i64 fr,.int .i64 ar,.int .i64 sz,.int .u32 su,.int .i64 me] 39) = w0:=⟨_,rfl⟩
 have HX0:Hid (Box w0 w.heap.size #[.string nm,.int .i64 at_,.int .i64 fr,.int .i64 ar,.int .i64 sz,.int .u32 su,.int .i64 me] 39):=by rw [← hw0];exact heap_alloc_new w _
 have HB0:Hid (Below w.heap.size w w0):=by rw [← hw0];exact (Below.refl w.heap.size w).alloc (Nat.le_refl _) _
 have HR:=Lib.hid (fun W => rightM_any nm W hm)
 rw [hr] at HR
 have HWM:=Lib.hid (fun W => enWithin_any me 0 2 W)
 rw [hme] at HWM
 have HWA:=Lib.hid (fun W => enWithin_any at_ 1024 1073741824 W)
 rw [hat] at HWA
 have HFM:=Lib.hid (fun W => enFrom_any nm at_ fr ar sz su me W (by have:=rightB_size hr;omega) (by have:=inB_yes hat;omega) (by have:=inB_yes hat;omega))
 have hfr':(fr == at_ + (22 + (nm.size:Int))) = true:=hfr
 have HWR:=Lib.hid (fun W => enWithin_any ar 0 262144 W)
 rw [har] at HWR
 have HWS:=Lib.hid (fun W => enWithin_any sz 0 65536 W)
 rw [hsz] at HWS
 clear hme hat hfr har hsz
 clear hr hm
 go_enter Tryz.func53,Tryz.ntmps53
 go_wp2_with fail
 obtain ⟨ι,f,n0,hf0,hfb,hfu⟩:=below_class w0
 have HFU:=Lib.hid hfu
 have HFB:=Lib.hid hfb
 have y0:∀ n,(f n).cell? ⟨w.heap.size,0,none⟩ = some (.string nm):=fun n => by rw [(HFB.out n).cell (show w.heap.size < w0.heap.size from HX0.out.lt)];exact HX0.out.cell 0
 have y1:∀ n,(f n).cell? ⟨w.heap.size,1,none⟩ = some (.int .i64 at_):=fun n => by rw [(HFB.out n).cell (show w.heap.size < w0.heap.size from HX0.out.lt)];exact HX0.out.cell 1
 have y2:∀ n,(f n).cell? ⟨w.heap.size,2,none⟩ = some (.int .i64 fr):=fun n => by rw [(HFB.out n).cell (show w.heap.size < w0.heap.size from HX0.out.lt)];exact HX0.out.cell 2
 have y3:∀ n,(f n).cell? ⟨w.heap.size,3,none⟩ = some (.int .i64 ar):=fun n => by rw [(HFB.out n).cell (show w.heap.size < w0.heap.size from HX0.out.lt)];exact HX0.out.cell 3
 have y4:∀ n,(f n).cell? ⟨w.heap.size,4,none⟩ = some (.int .i64 sz):=fun n => by rw [(HFB.out n).cell (show w.heap.size < w0.heap.size from HX0.out.lt)];exact HX0.out.cell 4
 have y5:∀ n,(f n).cell? ⟨w.heap.size,5,none⟩ = some (.int .u32 su):=fun n => by rw [(HFB.out n).cell (show w.heap.size < w0.heap.size from HX0.out.lt)];exact HX0.out.cell 5
 have y6:∀ n,(f n).cell? ⟨w.heap.size,6,none⟩ = some (.int .i64 me):=fun n => by rw [(HFB.out n).cell (show w.heap.size < w0.heap.size from HX0.out.lt)];exact HX0.out.cell 6
 haveI:Nonempty ι:=⟨n0⟩
 clear hfb hfu
 refine region_quiet_f f n0 hf0 (by kernel_rfl) (by kernel_rfl) ?_
 repeat (go_big_quiet_step (first | (go_at_call 30;exact quiet_f HFU.out (HR.out _)) | (go_at_call 96;with_reducible exact quiet_same (HWM.out _)) | (go_at_call 96;with_reducible exact quiet_same (HWA.out _)) | (go_at_call 97;exact quiet_f HFU.out (HFM.out _)) | (go_at_call 96;with_reducible exact quiet_same (HWR.out _)) | (go_at_call 96;with_reducible exact quiet_same (HWS.out _))))
 refine wpQuiet_nil ?_
 rintro _ ⟨nq,rfl⟩
 have HB1:=Lib.hid (HB0.out.trans ((HFB.out nq).mono HB0.out.size))
 generalize f nq = w1 at *
 go_wp2
 go_ret
 exact ⟨rfl,HB1.out⟩
theorem enRight_any (nm:ByteArray) (at_ fr ar sz su me:Int) (w:World) (hm:nm.size ≤ maxLen) :
  Calls Tryz.prog 53 #[.agg #[.string nm,.int .i64 at_,.int .i64 fr,.int .i64 ar,.int .i64 sz,.int .u32 su,.int .i64 me]] w fun e w' => e = .returned (.bool (memB nm at_ fr ar sz me))∧Below w.heap.size w w':=by
 unfold memB
 cases hr:rightB nm.data.toList with
 | false => exact enRight_no nm at_ fr ar sz su me w hm hr
 | true =>
 cases h1:inB me 0 2 with
 | false => exact enRight_a nm at_ fr ar sz su me w hm hr h1
 | true =>
 cases h2:inB at_ 1024 1073741824 with
 | false => exact enRight_b nm at_ fr ar sz su me w hm hr h1 h2
 | true =>
 cases h3:(fr == at_ + (22 + (nm.size:Int))) with
 | false => exact enRight_c nm at_ fr ar sz su me w hm hr h1 h2 h3
 | true =>
 cases h4:inB ar 0 262144 with
 | false => exact enRight_d nm at_ fr ar sz su me w hm hr h1 h2 h3 h4
 | true =>
 cases h5:inB sz 0 65536 with
 | false => exact enRight_e nm at_ fr ar sz su me w hm hr h1 h2 h3 h4 h5
 | true => exact enRight_yes nm at_ fr ar sz su me w hm hr h1 h2 h3 h4 h5
theorem inB_of {n a b:Int} (h1:a ≤ n) (h2:n ≤ b):inB n a b = true:=by simp [inB,h1,h2]
end Go.Proofs.YtaknladkodibaaaGreatDoor
