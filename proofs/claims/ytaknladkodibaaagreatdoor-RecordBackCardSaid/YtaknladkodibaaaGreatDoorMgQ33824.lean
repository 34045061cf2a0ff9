/- The reference's bytes and their sum. -/
import Derived.Test.YtaknladkodibaaaGreatDoorMgQ33818
import Derived.Test.YtaknladkodibaaaGreatDoorMgQ33819
import Derived.Lib.SmallJoins
namespace Go.Proofs.YtaknladkodibaaaGreatDoor
open Go.RowKit CrcP FieldP
def dcB (c l:Int):Bool:=decide (0 ≤ c) && decide (c ≤ 65536) && decide (2 ≤ l) && decide (l ≤ 262144)
theorem dcB_yes {c l:Int} (h:dcB c l = true):0 ≤ c∧c ≤ 65536∧2 ≤ l∧l ≤ 262144:=by
 simp only [dcB,Bool.and_eq_true,decide_eq_true_eq] at h
 omega
theorem dcB_ways (c l:Int):(dcB c l = false∧c < 0) ∨ (dcB c l = false∧0 ≤ c∧65536 < c) ∨ (dcB c l = false∧0 ≤ c∧c ≤ 65536∧l < 2) ∨ (dcB c l = false∧0 ≤ c∧c ≤ 65536∧2 ≤ l∧262144 < l) ∨ (dcB c l = true∧0 ≤ c∧c ≤ 65536∧2 ≤ l∧l ≤ 262144):=by
 simp only [dcB,Bool.and_eq_false_iff,Bool.and_eq_true,decide_eq_true_eq,decide_eq_false_iff_not]
 omega
set_option maxHeartbeats 1000000 in
theorem dcRight_any (c l s:Int) (w:World):Calls Tryz.prog 81 #[.agg #[.int .i64 c,.int .i64 l,.int .u32 s]] w fun e w' => e = .returned (.bool (dcB c l))∧w.alloc (.cells #[.int .i64 c,.int .i64 l,.int .u32 s] 78) = w':=by
 rcases dcB_ways c l with ⟨h,h1⟩ | ⟨h,h1,h2⟩ | ⟨h,h1,h2,h3⟩ | ⟨h,h1,h2,h3,h4⟩ | ⟨h,h1,h2,h3,h4⟩
 all_goals
  rw [h]
  clear h
  go_enter Tryz.func81,Tryz.ntmps81
  go_wp2
  go_ret
  refine ⟨?_,rfl⟩
  first
   | rfl
   | (show Ending.returned (.bool (decide _)) = _;congr 2;simp;omega)
def descMark:ByteArray:=⟨#[68,69,83,67]⟩
def descBytes:List UInt8:=[68,69,83,67]
def descB (c l s:Int):List UInt8:=threeB descBytes c.toNat l.toNat s.toNat
set_option maxHeartbeats 1000000 in
theorem dcPut_yes (g:Nat) (c l s:Int) (w:World) (h:dcB c l = true) (s0:0 ≤ s) (s1:s < 4294967296) (hT:Table w g):Calls Tryz.prog 40 #[.pointer (some ⟨g,0,none⟩),.agg #[.int .i64 c,.int .i64 l,.int .u32 s]] w fun e w' =>
  ∃ A k,e = .returned (.tuple #[.slice A 20 k,.int .i64 0])∧OwnY w' w.heap.size (.slice A 20 k) 20 (descB c l s)∧Below w.heap.size w w':=by
 obtain ⟨hc0,hc1,hl0,hl1⟩:=dcB_yes h
 have HR:=Lib.hid (fun W => dcRight_any c l s W)
 rw [h] at HR
 obtain ⟨c,rfl⟩:=Int.eq_ofNat_of_zero_le hc0
 obtain ⟨l,rfl⟩:=Int.eq_ofNat_of_zero_le (show 0 ≤ l by omega)
 obtain ⟨s,rfl⟩:=Int.eq_ofNat_of_zero_le s0
 have HT:=Lib.hid ((hT.alloc (.cells #[.int .i64 (c:Int),.int .i64 (l:Int),.int .u32 (s:Int)] 78)).alloc (.cells #[.int .i64 (c:Int),.int .i64 (l:Int),.int .u32 (s:Int)] 78))
 have HB:=Lib.hid (((Below.refl w.heap.size w).alloc (Nat.le_refl _) (.cells #[.int .i64 (c:Int),.int .i64 (l:Int),.int .u32 (s:Int)] 78)).alloc (by simp) (.cells #[.int .i64 (c:Int),.int .i64 (l:Int),.int .u32 (s:Int)] 78))
 clear h hT
 go_enter Tryz.func40,Tryz.ntmps40
 go_wp2_with (first | (go_at_call 81;refine (HR.out _).mono ?_;rintro e w' ⟨rfl,rfl⟩) | (go_at_call 82;refine (putThree_any g descMark c l s _ (by decide) (by omega) (by omega) (by omega) HT.out).mono ?_;rintro e w2 ⟨A2,c2,rfl,hown,hbel⟩;have HO2:=Lib.hid hown;have HB2:=Lib.hid hbel;clear hown hbel))
 go_ret2
 exact ⟨A2,c2,rfl,HO2.out.le (by simp;omega),HB.out.trans (HB2.out.mono (by simp;omega))⟩
end Go.Proofs.YtaknladkodibaaaGreatDoor
namespace Go.Proofs.YtaknladkodibaaaGreatDoor
open Go.RowKit CrcP FieldP
attribute [local go_sem ↓] Go.wp_at_zero Go.wp_at_succ
def dcR (bs:List UInt8) (p:Int):Nat:=if p < 0 ∨ (bs.length:Int) < p then 1 else if bs.length < p.toNat + 20 then 2 else if isB descBytes bs p.toNat = false then 3 else if threeR bs p.toNat ≠ 0 then threeR bs p.toNat else if dcB (vaK bs (openS bs p.toNat) 0:Nat) (vaK bs (openS bs p.toNat) 1:Nat) = false then 3 else 0
def dcA (bs:List UInt8) (p:Int):Value:=if dcR bs p = 0 then .agg #[.int .i64 (vaK bs (openS bs p.toNat) 0:Nat),.int .i64 (vaK bs (openS bs p.toNat) 1:Nat),.int .u32 (vaK bs (openS bs p.toNat) 2:Nat)] else .agg #[.int .i64 0,.int .i64 0,.int .u32 0]
set_option maxHeartbeats 1000000 in
theorem dcTake_arg (tg:Nat) (A:Option Addr) (l c:Nat) (p:Int) (w:World) (h:p < 0 ∨ (l:Int) < p) :
  Calls Tryz.prog 93 #[.pointer (some ⟨tg,0,none⟩),.slice A l c,.int .i64 p] w fun e w' => e = .returned (.tuple #[.agg #[.int .i64 0,.int .i64 0,.int .u32 0],.int .i64 1])∧Below w.heap.size w w':=by
 by_cases h0:p < 0
 ·clear h
  go_enter Tryz.func93,Tryz.ntmps93
  go_wp2
  exact bodyPost_ret (v:=.tuple #[.agg #[.int .i64 0,.int .i64 0,.int .u32 0],.int .i64 1]) (by simp [results,Tryz.results93,go_sem]) rfl ⟨rfl,(Below.refl _ _).alloc (Nat.le_refl _) _⟩
 ·have h1:(l:Int) < p:=by omega
  clear h
  go_enter Tryz.func93,Tryz.ntmps93
  go_wp2
  exact bodyPost_ret (v:=.tuple #[.agg #[.int .i64 0,.int .i64 0,.int .u32 0],.int .i64 1]) (by simp [results,Tryz.results93,go_sem]) rfl ⟨rfl,(Below.refl _ _).alloc (Nat.le_refl _) _⟩
set_option maxHeartbeats 1000000 in
theorem dcTake_short (tg:Nat) (A:Option Addr) (l c p:Nat) (w:World) (hp:p ≤ l) (h:l < p + 20) :
  Calls Tryz.prog 93 #[.pointer (some ⟨tg,0,none⟩),.slice A l c,.int .i64 (p:Int)] w fun e w' => e = .returned (.tuple #[.agg #[.int .i64 0,.int .i64 0,.int .u32 0],.int .i64 2])∧Below w.heap.size w w':=by
 have h1:¬ (l:Int) < (p:Int):=by omega
 have h2:(l:Int) - (p:Int) < 20:=by omega
 clear h
 go_enter Tryz.func93,Tryz.ntmps93
 go_wp2
 exact bodyPost_ret (v:=.tuple #[.agg #[.int .i64 0,.int .i64 0,.int .u32 0],.int .i64 2]) (by simp [results,Tryz.results93,go_sem]) rfl ⟨rfl,(Below.refl _ _).alloc (Nat.le_refl _) _⟩
set_option maxRecDepth 100000 in
set_option maxHeartbeats 1000000 in
theorem dcTake_err (tg:Nat) (A:Option Addr) (l c p:Nat) (r:Nat) (w:World) (hp:p + 20 ≤ l) (hm:l ≤ 1099511627776) (hr:r ≠ 0)
  (HT:Calls Tryz.prog 132 #[.pointer (some ⟨tg,0,none⟩),.string descMark,.slice A l c,.int .i64 (p:Int)] (w.alloc (.cells #[.int .i64 0,.int .i64 0,.int .u32 0] 78)) fun e w' => e = .returned (.tuple #[.agg #[.int .u32 0,.int .u32 0,.int .u32 0],.int .i64 (r:Nat)])∧Below (w.alloc (.cells #[.int .i64 0,.int .i64 0,.int .u32 0] 78)).heap.size (w.alloc (.cells #[.int .i64 0,.int .i64 0,.int .u32 0] 78)) w') :
  Calls Tryz.prog 93 #[.pointer (some ⟨tg,0,none⟩),.slice A l c,.int .i64 (p:Int)] w fun e w' => e = .returned (.tuple #[.agg #[.int .i64 0,.int .i64 0,.int .u32 0],.int .i64 (r:Nat)])∧Below w.heap.size w w':=by
 have HTT:=Lib.hid HT
 have hl0:¬ (l:Int) < (p:Int):=by omega
 have hl20:¬ (l:Int) - (p:Int) < 20:=by omega
 have hne:((r:Int) != 0) = true:=by simp;omega
 have HX0:Hid (Box (w.alloc (.cells #[.int .i64 0,.int .i64 0,.int .u32 0] 78)) w.heap.size #[.int .i64 0,.int .i64 0,.int .u32 0] 78):=heap_alloc_new w _
 have HB0:=Lib.hid ((Below.refl w.heap.size w).alloc (Nat.le_refl _) (.cells #[.int .i64 0,.int .i64 0,.int .u32 0] 78))
 have HZ0:Hid ((w.alloc (.cells #[.int .i64 0,.int .i64 0,.int .u32 0] 78)).heap.size = w.heap.size + 1):=by show _ = _;simp
 clear HT hr
 go_enter Tryz.func93,Tryz.ntmps93
 go_wp2_with (go_at_call 132;refine HTT.out.mono ?_;rintro e w1 ⟨rfl,hbw⟩;have HX1:=Lib.hid (HX0.out.below hbw (by rw [HZ0.out];omega));have HB1:=Lib.hid (HB0.out.trans (hbw.mono (by rw [HZ0.out];omega)));clear hbw;have hx0:w1.cell? ⟨w.heap.size,0,none⟩ = some (.int .i64 0):=HX1.out.cell 0;have hx1:w1.cell? ⟨w.heap.size,1,none⟩ = some (.int .i64 0):=HX1.out.cell 1;have hx2:w1.cell? ⟨w.heap.size,2,none⟩ = some (.int .u32 0):=HX1.out.cell 2;have hf0:=frozen_of_row w1 w.heap.size 0 _ _ HX1.out;have hf1:=frozen_of_row w1 w.heap.size 1 _ _ HX1.out;have hf2:=frozen_of_row w1 w.heap.size 2 _ _ HX1.out;have hz1:w.heap.size < w1.heap.size:=HX1.out.lt)
 have HXS:=Lib.hid (Box.alloc (((HX1.out.set (i:=0) (.int .i64 0)).set (i:=1) (.int .i64 0)).set (i:=2) (.int .u32 0)) (.cells #[.int .u32 0,.int .u32 0,.int .u32 0] 133))
 have HBS:=Lib.hid (Below.alloc (Below.setCell (Below.setCell (Below.setCell HB1.out (p:=⟨w.heap.size,0,none⟩) (Nat.le_refl _) (.int .i64 0)) (p:=⟨w.heap.size,1,none⟩) (Nat.le_refl _) (.int .i64 0)) (p:=⟨w.heap.size,2,none⟩) (Nat.le_refl _) (.int .u32 0)) (Below.size (Below.setCell (Below.setCell (Below.setCell HB1.out (p:=⟨w.heap.size,0,none⟩) (Nat.le_refl _) (.int .i64 0)) (p:=⟨w.heap.size,1,none⟩) (Nat.le_refl _) (.int .i64 0)) (p:=⟨w.heap.size,2,none⟩) (Nat.le_refl _) (.int .u32 0))) (.cells #[.int .u32 0,.int .u32 0,.int .u32 0] 133))
 generalize (((w1.setCell ⟨w.heap.size,0,none⟩ (.int .i64 0)).setCell ⟨w.heap.size,1,none⟩ (.int .i64 0)).setCell ⟨w.heap.size,2,none⟩ (.int .u32 0)).alloc (.cells #[.int .u32 0,.int .u32 0,.int .u32 0] 133) = W at *
 have hq0:W.cell? ⟨w.heap.size,0,none⟩ = some (.int .i64 0):=HXS.out.cell 0
 have hq1:W.cell? ⟨w.heap.size,1,none⟩ = some (.int .i64 0):=HXS.out.cell 1
 have hq2:W.cell? ⟨w.heap.size,2,none⟩ = some (.int .u32 0):=HXS.out.cell 2
 exact bodyPost_ret (v:=.tuple #[.agg #[.int .i64 0,.int .i64 0,.int .u32 0],.int .i64 (r:Nat)]) (by simp [results,Tryz.results93,hq0,hq1,hq2,go_sem]) rfl ⟨rfl,HBS.out⟩
set_option maxRecDepth 100000 in
set_option maxHeartbeats 1000000 in
theorem dcTake_wrong (tg:Nat) (A:Option Addr) (l c:Nat) (bs:List UInt8) (B:Nat) (p x y z:Nat) (w:World) (hT:Table w tg) (hl:bs.length = l) (hm:l ≤ 1099511627776) (hlc:l ≤ c) (hp:p + 20 ≤ l)
  (hb:Bytes w B A bs) (hB:B ≤ w.heap.size) (hi:isB descBytes bs p = true) (h3:threeR bs p = 0) (h0:vaK bs (openS bs p) 0 = x) (h1:vaK bs (openS bs p) 1 = y) (h2:vaK bs (openS bs p) 2 = z) (hf:dcB x y = false) :
  Calls Tryz.prog 93 #[.pointer (some ⟨tg,0,none⟩),.slice A l c,.int .i64 (p:Int)] w fun e w' => e = .returned (.tuple #[.agg #[.int .i64 0,.int .i64 0,.int .u32 0],.int .i64 3])∧Below w.heap.size w w':=by
 have HT:=Lib.hid (take3_ok tg descMark A l c bs B p _ (hT.alloc (.cells #[.int .i64 0,.int .i64 0,.int .u32 0] 78)) (by decide) hl hm hlc (hb.alloc hB (.cells #[.int .i64 0,.int .i64 0,.int .u32 0] 78)) (by simp;omega) (by omega) (fun _ => hi))
 rw [take3V_good h3,h0,h1,h2] at HT
 have HFR:=Lib.hid (fun W => dcRight_any x y z W)
 rw [hf] at HFR
 have hl0:¬ (l:Int) < (p:Int):=by omega
 have hl20:¬ (l:Int) - (p:Int) < 20:=by omega
 have HX0:Hid (Box (w.alloc (.cells #[.int .i64 0,.int .i64 0,.int .u32 0] 78)) w.heap.size #[.int .i64 0,.int .i64 0,.int .u32 0] 78):=heap_alloc_new w _
 have HB0:=Lib.hid ((Below.refl w.heap.size w).alloc (Nat.le_refl _) (.cells #[.int .i64 0,.int .i64 0,.int .u32 0] 78))
 have HZ0:Hid ((w.alloc (.cells #[.int .i64 0,.int .i64 0,.int .u32 0] 78)).heap.size = w.heap.size + 1):=by show _ = _;simp
 have hx32:x < 4294967296:=by rw [← h0];exact num_lt (Nat.le_refl _)
 have hy32:y < 4294967296:=by rw [← h1];exact num_lt (Nat.le_refl _)
 have hz32:z < 4294967296:=by rw [← h2];exact num_lt (Nat.le_refl _)
 clear hi h3 h0 h1 h2 hf hT hb hl hlc hB
 go_enter Tryz.func93,Tryz.ntmps93
 go_wp2_with (go_at_call 132;refine HT.out.mono ?_;rintro e w1 ⟨rfl,hbw⟩;have HX1:=Lib.hid (HX0.out.below hbw (by rw [HZ0.out];omega));have HB1:=Lib.hid (HB0.out.trans (hbw.mono (by rw [HZ0.out];omega)));clear hbw;have hx0:w1.cell? ⟨w.heap.size,0,none⟩ = some (.int .i64 0):=HX1.out.cell 0;have hx1:w1.cell? ⟨w.heap.size,1,none⟩ = some (.int .i64 0):=HX1.out.cell 1;have hx2:w1.cell? ⟨w.heap.size,2,none⟩ = some (.int .u32 0):=HX1.out.cell 2;have hf0:=frozen_of_row w1 w.heap.size 0 _ _ HX1.out;have hf1:=frozen_of_row w1 w.heap.size 1 _ _ HX1.out;have hf2:=frozen_of_row w1 w.heap.size 2 _ _ HX1.out;have hz1:w.heap.size < w1.heap.size:=HX1.out.lt)
 refine (HFR.out _).mono ?_
 rintro e w2 ⟨rfl,hw2⟩
 have HX2:Hid (Box w2 w.heap.size #[.int .i64 0,.int .i64 0,.int .u32 0] 78):=by (rw [← hw2];exact ((HX1.out.alloc _).alloc _).alloc _)
 have HB2:Hid (Below w.heap.size w w2):=by (rw [← hw2];exact ((HB1.out.alloc HB1.out.size _).alloc (by simp;omega) _).alloc (by simp;omega) _)
 clear hw2 hx0 hx1 hx2 hf0 hf1 hf2
 have hx0:w2.cell? ⟨w.heap.size,0,none⟩ = some (.int .i64 0):=HX2.out.cell 0
 have hx1:w2.cell? ⟨w.heap.size,1,none⟩ = some (.int .i64 0):=HX2.out.cell 1
 have hx2:w2.cell? ⟨w.heap.size,2,none⟩ = some (.int .u32 0):=HX2.out.cell 2
 have hf0:=frozen_of_row w2 w.heap.size 0 _ _ HX2.out
 have hf1:=frozen_of_row w2 w.heap.size 1 _ _ HX2.out
 have hf2:=frozen_of_row w2 w.heap.size 2 _ _ HX2.out
 go_wp2
 refine bodyPost_ret (v:=.tuple #[.agg #[.int .i64 0,.int .i64 0,.int .u32 0],.int .i64 3]) (by simp [results,Tryz.results93,hx0,hx1,hx2,go_sem]) rfl ⟨rfl,?_⟩
 exact (((HB2.out.setCell (p:=⟨w.heap.size,0,none⟩) (Nat.le_refl _) _).setCell (p:=⟨w.heap.size,1,none⟩) (Nat.le_refl _) _).setCell (p:=⟨w.heap.size,2,none⟩) (Nat.le_refl _) _)
set_option maxRecDepth 100000 in
set_option maxHeartbeats 1000000 in
theorem dcTake_good (tg:Nat) (A:Option Addr) (l c:Nat) (bs:List UInt8) (B:Nat) (p x y z:Nat) (w:World) (hT:Table w tg) (hl:bs.length = l) (hm:l ≤ 1099511627776) (hlc:l ≤ c) (hp:p + 20 ≤ l)
  (hb:Bytes w B A bs) (hB:B ≤ w.heap.size) (hi:isB descBytes bs p = true) (h3:threeR bs p = 0) (h0:vaK bs (openS bs p) 0 = x) (h1:vaK bs (openS bs p) 1 = y) (h2:vaK bs (openS bs p) 2 = z) (hf:dcB x y = true) :
  Calls Tryz.prog 93 #[.pointer (some ⟨tg,0,none⟩),.slice A l c,.int .i64 (p:Int)] w fun e w' => e = .returned (.tuple #[.agg #[.int .i64 (x:Int),.int .i64 (y:Int),.int .u32 (z:Int)],.int .i64 0])∧Below w.heap.size w w':=by
 obtain ⟨bx0,bx1,by0,by1⟩:=dcB_yes hf
 have HT:=Lib.hid (take3_ok tg descMark A l c bs B p _ (hT.alloc (.cells #[.int .i64 0,.int .i64 0,.int .u32 0] 78)) (by decide) hl hm hlc (hb.alloc hB (.cells #[.int .i64 0,.int .i64 0,.int .u32 0] 78)) (by simp;omega) (by omega) (fun _ => hi))
 rw [take3V_good h3,h0,h1,h2] at HT
 have HFR:=Lib.hid (fun W => dcRight_any x y z W)
 rw [hf] at HFR
 have hl0:¬ (l:Int) < (p:Int):=by omega
 have hl20:¬ (l:Int) - (p:Int) < 20:=by omega
 have HX0:Hid (Box (w.alloc (.cells #[.int .i64 0,.int .i64 0,.int .u32 0] 78)) w.heap.size #[.int .i64 0,.int .i64 0,.int .u32 0] 78):=heap_alloc_new w _
 have HB0:=Lib.hid ((Below.refl w.heap.size w).alloc (Nat.le_refl _) (.cells #[.int .i64 0,.int .i64 0,.int .u32 0] 78))
 have HZ0:Hid ((w.alloc (.cells #[.int .i64 0,.int .i64 0,.int .u32 0] 78)).heap.size = w.heap.size + 1):=by show _ = _;simp
 have hz32:z < 4294967296:=by rw [← h2];exact num_lt (Nat.le_refl _)
 clear hi h3 h0 h1 h2 hf hT hb hl hlc hB
 go_enter Tryz.func93,Tryz.ntmps93
 go_wp2_with (go_at_call 132;refine HT.out.mono ?_;rintro e w1 ⟨rfl,hbw⟩;have HW1:=Lib.hid hbw;have HX1:=Lib.hid (HX0.out.below hbw (by rw [HZ0.out];omega));have HB1:=Lib.hid (HB0.out.trans (hbw.mono (by rw [HZ0.out];omega)));clear hbw;have hx0:w1.cell? ⟨w.heap.size,0,none⟩ = some (.int .i64 0):=HX1.out.cell 0;have hx1:w1.cell? ⟨w.heap.size,1,none⟩ = some (.int .i64 0):=HX1.out.cell 1;have hx2:w1.cell? ⟨w.heap.size,2,none⟩ = some (.int .u32 0):=HX1.out.cell 2;have hf0:=frozen_of_row w1 w.heap.size 0 _ _ HX1.out;have hf1:=frozen_of_row w1 w.heap.size 1 _ _ HX1.out;have hf2:=frozen_of_row w1 w.heap.size 2 _ _ HX1.out;have hz1:w.heap.size < w1.heap.size:=HX1.out.lt)
 refine (HFR.out _).mono ?_
 rintro e w2 ⟨rfl,hw2⟩
 have HX2:Hid (Box w2 w.heap.size #[.int .i64 0,.int .i64 0,.int .u32 0] 78):=by (rw [← hw2];exact ((HX1.out.alloc _).alloc _).alloc _)
 have HY2:Hid (Box w2 (w1.heap.size + 1) #[.int .i64 (x:Int),.int .i64 (y:Int),.int .u32 (z:Int)] 78):=by (rw [← hw2,show w1.heap.size + 1 = (w1.alloc (.cells #[.int .u32 (x:Int),.int .u32 (y:Int),.int .u32 (z:Int)] 133)).heap.size by simp];exact Box.alloc (heap_alloc_new _ _) _)
 have HB2:Hid (Below w.heap.size w w2):=by (rw [← hw2];exact ((HB1.out.alloc HB1.out.size _).alloc (by simp;omega) _).alloc (by simp;omega) _)
 clear hw2 hx0 hx1 hx2 hf0 hf1 hf2
 have hx0:w2.cell? ⟨w.heap.size,0,none⟩ = some (.int .i64 0):=HX2.out.cell 0
 have hx1:w2.cell? ⟨w.heap.size,1,none⟩ = some (.int .i64 0):=HX2.out.cell 1
 have hx2:w2.cell? ⟨w.heap.size,2,none⟩ = some (.int .u32 0):=HX2.out.cell 2
 have hf0:=frozen_of_row w2 w.heap.size 0 _ _ HX2.out
 have hf1:=frozen_of_row w2 w.heap.size 1 _ _ HX2.out
 have hf2:=frozen_of_row w2 w.heap.size 2 _ _ HX2.out
 have hy0:w2.cell? ⟨w1.heap.size + 1,0,none⟩ = some (.int .i64 (x:Int)):=HY2.out.cell 0
 have hy1:w2.cell? ⟨w1.heap.size + 1,1,none⟩ = some (.int .i64 (y:Int)):=HY2.out.cell 1
 have hy2:w2.cell? ⟨w1.heap.size + 1,2,none⟩ = some (.int .u32 (z:Int)):=HY2.out.cell 2
 go_wp2
 refine bodyPost_ret (v:=.tuple #[.agg #[.int .i64 (x:Int),.int .i64 (y:Int),.int .u32 (z:Int)],.int .i64 0]) (by simp [results,Tryz.results93,hx0,hx1,hx2,go_sem]) rfl ⟨rfl,?_⟩
 exact ((HB2.out.setCell (p:=⟨w.heap.size,0,none⟩) (Nat.le_refl _) _).setCell (p:=⟨w.heap.size,1,none⟩) (Nat.le_refl _) _).setCell (p:=⟨w.heap.size,2,none⟩) (Nat.le_refl _) _
theorem dcTake_any (tg:Nat) (A:Option Addr) (l c:Nat) (bs:List UInt8) (B:Nat) (p:Int) (w:World) (hT:Table w tg) (hl:bs.length = l) (hm:l ≤ 1099511627776) (hlc:l ≤ c) (hb:Bytes w B A bs) (hB:B ≤ w.heap.size) :
  Calls Tryz.prog 93 #[.pointer (some ⟨tg,0,none⟩),.slice A l c,.int .i64 p] w fun e w' => e = .returned (.tuple #[dcA bs p,.int .i64 (dcR bs p:Nat)])∧Below w.heap.size w w':=by
 have bad:∀ r:Nat,r ≠ 0→dcR bs p = r→Value.tuple #[.agg #[.int .i64 0,.int .i64 0,.int .u32 0],.int .i64 (r:Nat)] = .tuple #[dcA bs p,.int .i64 (dcR bs p:Nat)]:=fun r hr e => by
  unfold dcA
  rw [e,if_neg hr]
 by_cases h0:p < 0 ∨ (l:Int) < p
 ·rw [← bad 1 (by decide) (by unfold dcR;rw [if_pos (by rw [hl];exact h0)])]
  exact dcTake_arg tg A l c p w h0
 obtain ⟨q,rfl⟩:=Int.eq_ofNat_of_zero_le (show 0 ≤ p by omega)
 have hR:dcR bs (q:Int) = if bs.length < q + 20 then 2 else if isB descBytes bs q = false then 3 else if threeR bs q ≠ 0 then threeR bs q else if dcB (vaK bs (openS bs q) 0:Nat) (vaK bs (openS bs q) 1:Nat) = false then 3 else 0:=by
  unfold dcR
  rw [if_neg (by rw [hl];exact h0),Int.toNat_natCast]
 by_cases h20:l < q + 20
 ·rw [← bad 2 (by decide) (by rw [hR,if_pos (by omega)])]
  exact dcTake_short tg A l c q w (by omega) h20
 rw [if_neg (by omega)] at hR
 cases hi:isB descBytes bs q with
 | false =>
  rw [← bad 3 (by decide) (by rw [hR,if_pos hi])]
  exact dcTake_err tg A l c q 3 w (by omega) hm (by decide) (take3_form tg descMark A l c bs B q _ (by decide) hl hm hlc (hb.alloc hB _) (by simp;omega) (by omega) hi)
 | true =>
 rw [hi,if_neg (by decide)] at hR
 by_cases h3:threeR bs q = 0
 ·rw [if_neg (by simpa using h3)] at hR
  cases hf:dcB (vaK bs (openS bs q) 0:Nat) (vaK bs (openS bs q) 1:Nat) with
  | false =>
   rw [← bad 3 (by decide) (by rw [hR,if_pos hf])]
   exact dcTake_wrong tg A l c bs B q _ _ _ w hT hl hm hlc (by omega) hb hB hi h3 rfl rfl rfl hf
  | true =>
   have e:dcR bs (q:Int) = 0:=by rw [hR,hf];rfl
   have:=dcTake_good tg A l c bs B q _ _ _ w hT hl hm hlc (by omega) hb hB hi h3 rfl rfl rfl hf
   unfold dcA
   rw [e,if_pos rfl,Int.toNat_natCast]
   exact this
 ·have e:dcR bs (q:Int) = threeR bs q:=by rw [hR,if_pos h3]
  rw [← bad _ h3 e]
  have:=take3_ok tg descMark A l c bs B q _ (hT.alloc (.cells #[.int .i64 0,.int .i64 0,.int .u32 0] 78)) (by decide) hl hm hlc (hb.alloc hB (.cells #[.int .i64 0,.int .i64 0,.int .u32 0] 78)) (by simp;omega) (by omega) (fun _ => hi)
  rw [take3V_bad h3] at this
  exact dcTake_err tg A l c q _ w (by omega) hm h3 this
theorem bytes_partD {w:World} {B b o:Nat} {bs:List UInt8} (hbB:b < B) (h:∀ j u,(byteCells bs)[j]? = some u→w.cell? ⟨b,o + j,none⟩ = some u) (p n:Nat):Bytes w B (some ⟨b,o + p,none⟩) ((bs.drop p).take n):=fun _ => ⟨b,o + p,rfl,hbB,fun j u hu => by
 have h2:(byteCells bs)[p + j]? = some u:=by
  unfold byteCells at hu ⊢
  rw [List.getElem?_map,List.getElem?_take] at hu
  split at hu
  ·rw [List.getElem?_drop] at hu
   rw [List.getElem?_map,hu]
  ·simp at hu
 have:=h (p + j) u h2
 rw [← Nat.add_assoc] at this
 exact this⟩
end Go.Proofs.YtaknladkodibaaaGreatDoor
namespace Go.Proofs.YtaknladkodibaaaGreatDoor
open Go.RowKit CrcP FieldP
end Go.Proofs.YtaknladkodibaaaGreatDoor
