/- Layer 22, plainly: what stands at a place. -/
import Derived.Test.YtaknladkodibaaaGreatDoorMgQ33835
import Derived.Test.YtaknladkodibaaaGreatDoorMgQ33838
import Derived.Test.YtaknladkodibaaaGreatDoorMgQ338SDcEn
import Derived.Test.YtaknladkodibaaaGreatDoorMgQ33841
import Derived.Test.YtaknladkodibaaaGreatDoorMgQ33816
import Derived.Test.YtaknladkodibaaaGreatDoorMgQ33824
import Derived.Deep.LoopGhost
namespace Go.Proofs.YtaknladkodibaaaGreatDoor
open Go.RowKit CrcP FieldP
def recBad (e:Int):Value:=.tuple #[.agg #[.int .i64 0,.string ⟨#[]⟩,.int .i64 0,.int .i64 0,.int .i64 0,.int .i64 0,.int .u32 0,.int .i64 0,.int .i64 0],.int .i64 e]
def recOk (k:Int) (S:ByteArray) (p fr ar sz su me nx:Int):Value:=.tuple #[.agg #[.int .i64 k,.string S,.int .i64 p,.int .i64 fr,.int .i64 ar,.int .i64 sz,.int .u32 su,.int .i64 me,.int .i64 nx],.int .i64 0]
def recGone (p:Int) (S:ByteArray) (K E:Int):Value:=if E = 0 then recOk 2 S p 0 0 0 0 0 K else recBad E
def recDs2 (bs:List UInt8) (p:Int) (S:ByteArray) (K n a b s:Int):Value:=if dcR bs n = 0 then (if b = n - K then recOk 1 S p K b a s 2 (n + 20) else recBad 3) else recBad (dcR bs n:Nat)
def recDs (bs:List UInt8) (p:Int) (S:ByteArray) (K n x:Int):Value:=if x = 0 then (match dcA bs n with
 | .agg ys => (match ys.toList with
  | [.int _ a,.int _ b,.int _ s] => recDs2 bs p S K n a b s
  | _ => recBad 0)
 | _ => recBad 0) else recBad x
def recLc2 (bs:List UInt8) (p:Int) (m:Int) (S:ByteArray) (sz ar su K E:Int):Value:=if E = 0 then (if m = 2 then (match endV bs K with
 | .tuple xs => (match xs.toList with
  | [.int _ n,.int _ x] => recDs bs p S K n x
  | _ => recBad 0)
 | _ => recBad 0) else if (bs.length:Int) < K + ar then recBad 2 else recOk 1 S p K ar sz su m (K + ar)) else recBad E
def recV (bs:List UInt8) (p:Int):Value:=if isB tombBytes bs p = true then (match stAns bs p with
 | .tuple xs => (match xs.toList with
  | [.string S,.int _ K,.int _ E] => recGone p S K E
  | _ => recBad 0)
 | _ => recBad 0) else (match lcAns bs p with
 | .tuple xs => (match xs.toList with
  | [.agg ys,.int _ K,.int _ E] => (match ys.toList with
   | [.int _ m,.string S,.int _ sz,.int _ ar,.int _ su] => recLc2 bs p m S sz ar su K E
   | _ => recBad 0)
  | _ => recBad 0)
 | _ => recBad 0)
theorem recV_st {bs:List UInt8} {p:Int} {S:ByteArray} {K E:Int} (h:isB tombBytes bs p = true) (he:stAns bs p = .tuple #[.string S,.int .i64 K,.int .i64 E]):recV bs p = recGone p S K E:=by
 unfold recV
 rw [if_pos h,he]
theorem recV_lc {bs:List UInt8} {p:Int} {m:Int} {S:ByteArray} {sz ar su K E:Int} (h:isB tombBytes bs p = false) (he:lcAns bs p = .tuple #[.agg #[.int .i64 m,.string S,.int .i64 sz,.int .i64 ar,.int .u32 su],.int .i64 K,.int .i64 E]):recV bs p = recLc2 bs p m S sz ar su K E:=by
 unfold recV
 rw [if_neg (by rw [h];decide),he]
theorem recLc2_bad {bs:List UInt8} {p:Int} {m:Int} {S:ByteArray} {sz ar su K E:Int} (h:E ≠ 0):recLc2 bs p m S sz ar su K E = recBad E:=if_neg h
theorem recLc2_end {bs:List UInt8} {p:Int} {m:Int} {S:ByteArray} {sz ar su K:Int} (h:m ≠ 2) (h2:(bs.length:Int) < K + ar):recLc2 bs p m S sz ar su K 0 = recBad 2:=by
 unfold recLc2
 rw [if_pos rfl,if_neg h,if_pos h2]
theorem recLc2_ok {bs:List UInt8} {p:Int} {m:Int} {S:ByteArray} {sz ar su K:Int} (h:m ≠ 2) (h2:¬ (bs.length:Int) < K + ar):recLc2 bs p m S sz ar su K 0 = recOk 1 S p K ar sz su m (K + ar):=by
 unfold recLc2
 rw [if_pos rfl,if_neg h,if_neg h2]
theorem recLc2_ds {bs:List UInt8} {p:Int} {S:ByteArray} {sz ar su K n x:Int} (he:endV bs K = .tuple #[.int .i64 n,.int .i64 x]):recLc2 bs p 2 S sz ar su K 0 = recDs bs p S K n x:=by
 unfold recLc2
 rw [if_pos rfl,if_pos rfl,he]
theorem recDs_bad {bs:List UInt8} {p:Int} {S:ByteArray} {K n x:Int} (h:x ≠ 0):recDs bs p S K n x = recBad x:=if_neg h
theorem recDs_in {bs:List UInt8} {p:Int} {S:ByteArray} {K n a b s:Int} (he:dcA bs n = .agg #[.int .i64 a,.int .i64 b,.int .u32 s]):recDs bs p S K n 0 = recDs2 bs p S K n a b s:=by
 unfold recDs
 rw [if_pos rfl,he]
theorem endV_ok {bs:List UInt8} {p n:Int} (h:endV bs p = .tuple #[.int .i64 n,.int .i64 0]):0 ≤ n∧n ≤ bs.length:=by
 have key:∀ (k:Nat) (q:Nat),bs.length - q ≤ k→∀ e,endN bs q = some e→e ≤ bs.length:=by
  intro k
  induction k with
  | zero =>
   intro q hq e he
   by_cases h2:q + 2 ≤ bs.length
   ·omega
   ·rw [endN_none h2] at he
    cases he
  | succ k ih =>
   intro q hq e he
   by_cases h2:q + 2 ≤ bs.length
   ·by_cases h3:two bs q = 0
    ·rw [endN_zero h2 h3] at he
     cases he
     exact h2
    ·rw [endN_more h2 h3] at he
     exact ih _ (by omega) e he
   ·rw [endN_none h2] at he
    cases he
 unfold endV at h
 split at h
 ·simp at h
 ·cases hE:endN bs p.toNat with
  | none => rw [hE] at h;simp [endP] at h
  | some e =>
   rw [hE] at h
   simp only [endP,Value.tuple.injEq,Array.mk.injEq,List.cons.injEq,Value.int.injEq,true_and,and_true] at h
   have:=key _ _ (Nat.le_refl _) e hE
   omega
theorem lcAns_ok {bs:List UInt8} {p m:Int} {S:ByteArray} {sz ar su K:Int} (h:lcAns bs p = .tuple #[.agg #[.int .i64 m,.string S,.int .i64 sz,.int .i64 ar,.int .u32 su],.int .i64 K,.int .i64 0]) :
  hdB m S.data.toList sz ar su = true∧0 ≤ K∧K ≤ bs.length∧0 ≤ su∧su < 4294967296:=by
 unfold lcAns at h
 split at h
 ·simp at h
 ·rename_i h1
  split at h
  ·simp at h
  ·by_cases hr:lcR bs p.toNat = 0
   ·rw [lcV_good hr] at h
    simp only [Value.tuple.injEq,Value.agg.injEq,Array.mk.injEq,List.cons.injEq,Value.int.injEq,Value.string.injEq,true_and,and_true] at h
    obtain ⟨⟨rfl,rfl,rfl,rfl,rfl⟩,rfl⟩:=h
    have hle:p.toNat ≤ bs.length:=by omega
    have hk:((lcX bs p.toNat).2.num bs 4).2.p ≤ bs.length:=num_le (row_le (lcS_le (openS_le hle) 5))
    have hd:lcHd bs p.toNat = true:=by
     unfold lcR at hr
     split at hr
     ·split at hr
      ·assumption
      ·cases hr
     ·rename_i h0
      exact absurd hr h0
    have hsl:=lcN_lt bs (openS bs p.toNat) 4
    refine ⟨hd,by omega,by omega,by omega,by omega⟩
   ·rw [lcV_bad hr] at h
    simp only [Value.tuple.injEq,Array.mk.injEq,List.cons.injEq,Value.int.injEq,true_and,and_true] at h
    omega
theorem hdB_three {m:Int} {l:List UInt8} {sz ar su:Int} (h:hdB m l sz ar su = true):(m = 0 ∨ m = 1 ∨ m = 2)∧0 ≤ ar∧ar ≤ 65536∧0 ≤ sz∧sz ≤ 65536∧(m = 2→sz = 0∧ar = 0∧su = 0):=by
 unfold hdB at h
 simp only [Bool.and_eq_true,decide_eq_true_eq] at h
 obtain ⟨⟨⟨_,h1⟩,h2⟩,h3⟩:=h
 split at h3
 ·rename_i hm
  have:=eq_of_beq h3
  exact ⟨.inl hm,by omega,by omega,h1,h2,fun e => by omega⟩
 ·split at h3
  ·rename_i hm
   simp only [Bool.and_eq_true,decide_eq_true_eq] at h3
   exact ⟨.inr (.inl hm),by omega,by omega,h1,h2,fun e => by omega⟩
  ·split at h3
   ·rename_i hm
    simp only [Bool.and_eq_true,beq_iff_eq] at h3
    exact ⟨.inr (.inr hm),by omega,by omega,h1,h2,fun _ => ⟨h3.1.1,h3.1.2,h3.2⟩⟩
   ·cases h3
end Go.Proofs.YtaknladkodibaaaGreatDoor
namespace Go.Proofs.YtaknladkodibaaaGreatDoor
open Go.RowKit CrcP FieldP
attribute [local go_sem ↓] Go.wp_at_zero Go.wp_at_succ
set_option maxRecDepth 100000 in
set_option maxHeartbeats 2000000 in
theorem recTake_plain (tg:Nat) (A:Option Addr) (l c:Nat) (bs:List UInt8) (p:Int) (w:World) (m:Int) (S:ByteArray) (sz ar su K:Int) (hT:Table w tg) (hW:Wid w) (hl:bs.length = l) (hm:l ≤ 1000000) (hlc:l ≤ c) (p0:-9223372036854775808 ≤ p) (p1:p ≤ 9223372036854775807) (hb:Bytes w w.heap.size A bs) (hi:isB tombBytes bs p = false) (he:lcAns bs p = .tuple #[.agg #[.int .i64 m,.string S,.int .i64 sz,.int .i64 ar,.int .u32 su],.int .i64 K,.int .i64 0]) (h2:m ≠ 2) (h4:¬ (l:Int) < K + ar) :
  Calls Tryz.prog 16 #[.pointer (some ⟨tg,0,none⟩),.slice A l c,.int .i64 p] w fun e w' => e = .returned (recOk 1 S p K ar sz su m (K + ar))∧Below w.heap.size w w':=by
 have HX0:Hid (Box (w.alloc (.cells #[.int .i64 0,.string ⟨#[]⟩,.int .i64 0,.int .i64 0,.int .i64 0,.int .i64 0,.int .u32 0,.int .i64 0,.int .i64 0] 41)) w.heap.size #[.int .i64 0,.string ⟨#[]⟩,.int .i64 0,.int .i64 0,.int .i64 0,.int .i64 0,.int .u32 0,.int .i64 0,.int .i64 0] 41):=heap_alloc_new w _
 have HB0:=Lib.hid ((Below.refl w.heap.size w).alloc (Nat.le_refl _) (.cells #[.int .i64 0,.string ⟨#[]⟩,.int .i64 0,.int .i64 0,.int .i64 0,.int .i64 0,.int .u32 0,.int .i64 0,.int .i64 0] 41))
 have HZ0:Hid ((w.alloc (.cells #[.int .i64 0,.string ⟨#[]⟩,.int .i64 0,.int .i64 0,.int .i64 0,.int .i64 0,.int .u32 0,.int .i64 0,.int .i64 0] 41)).heap.size = w.heap.size + 1):=by show _ = _;simp
 have htl:=hT.lt
 have hw0:=hW.1
 have HL:=Lib.hid hl
 have hb0:=hb.below HB0.out (Nat.le_refl _)
 have hT0:=hT.alloc (.cells #[.int .i64 0,.string ⟨#[]⟩,.int .i64 0,.int .i64 0,.int .i64 0,.int .i64 0,.int .u32 0,.int .i64 0,.int .i64 0] 41)
 have HIS:=Lib.hid (stIs_any A l c bs w.heap.size p (w.alloc (.cells #[.int .i64 0,.string ⟨#[]⟩,.int .i64 0,.int .i64 0,.int .i64 0,.int .i64 0,.int .u32 0,.int .i64 0,.int .i64 0] 41)) hl hm hlc p0 p1 hb0)
 rw [hi] at HIS
 have HLC:=Lib.hid (lcTake_all tg A l c bs w.heap.size p (w.alloc (.cells #[.int .i64 0,.string ⟨#[]⟩,.int .i64 0,.int .i64 0,.int .i64 0,.int .i64 0,.int .u32 0,.int .i64 0,.int .i64 0] 41)) hT0 (hW.below HB0.out hw0 (by have:=HB0.out.size;omega)) hl (by omega) hlc hb0 HB0.out.size)
 rw [he] at HLC
 obtain ⟨hd,k0,k1,u0,u1⟩:=lcAns_ok he
 obtain ⟨h3,r0,r1,s0,s1,-⟩:=hdB_three hd
 rw [HL.out] at k1
 have v2:(m == 2) = false:=by simpa using h2
 have HWI:=Lib.hid (fun W => rcWithin_any A l c S p K ar sz su m W (by omega) k0 (by omega))
 rw [show decide (ar ≤ (l:Int) - K) = true from decide_eq_true (by omega)] at HWI
 clear hT hb hl hb0 hT0 he hi hW hd h3 h2 h4
 go_enter Tryz.func16,Tryz.ntmps16
 go_wp2_with (first
  | (go_at_call 44;refine HIS.out.mono ?_;rintro e w' ⟨rfl,rfl⟩)
  | (go_at_call 46;refine HLC.out.mono ?_;rintro e w1 ⟨rfl,hbw⟩;have HX1:=Lib.hid (HX0.out.below hbw HX0.out.lt);have HB1:=Lib.hid (HB0.out.trans (hbw.mono HB0.out.size));clear hbw;obtain ⟨W2,hW2⟩:∃ W2,w1.alloc (.cells #[.int .i64 m,.string S,.int .i64 sz,.int .i64 ar,.int .u32 su] 71) = W2:=⟨_,rfl⟩;have HX2:Hid (Box W2 w.heap.size #[.int .i64 0,.string ⟨#[]⟩,.int .i64 0,.int .i64 0,.int .i64 0,.int .i64 0,.int .u32 0,.int .i64 0,.int .i64 0] 41):=(by show Box _ _ _ _;rw [← hW2];exact HX1.out.alloc _);have HH2:Hid (Box W2 w1.heap.size #[.int .i64 m,.string S,.int .i64 sz,.int .i64 ar,.int .u32 su] 71):=(by show Box _ _ _ _;rw [← hW2];exact heap_alloc_new w1 _);have HB2:Hid (Below w.heap.size w W2):=(by show Below _ _ _;rw [← hW2];exact HB1.out.alloc HB1.out.size _);have hx0:W2.cell? ⟨w.heap.size,0,none⟩ = some (.int .i64 0):=HX2.out.cell 0;have hx1:W2.cell? ⟨w.heap.size,1,none⟩ = some (.string ⟨#[]⟩):=HX2.out.cell 1;have hx2:W2.cell? ⟨w.heap.size,2,none⟩ = some (.int .i64 0):=HX2.out.cell 2;have hx3:W2.cell? ⟨w.heap.size,3,none⟩ = some (.int .i64 0):=HX2.out.cell 3;have hx4:W2.cell? ⟨w.heap.size,4,none⟩ = some (.int .i64 0):=HX2.out.cell 4;have hx5:W2.cell? ⟨w.heap.size,5,none⟩ = some (.int .i64 0):=HX2.out.cell 5;have hx6:W2.cell? ⟨w.heap.size,6,none⟩ = some (.int .u32 0):=HX2.out.cell 6;have hx7:W2.cell? ⟨w.heap.size,7,none⟩ = some (.int .i64 0):=HX2.out.cell 7;have hx8:W2.cell? ⟨w.heap.size,8,none⟩ = some (.int .i64 0):=HX2.out.cell 8;have hf0:=frozen_of_row W2 w.heap.size 0 _ _ HX2.out;have hf1:=frozen_of_row W2 w.heap.size 1 _ _ HX2.out;have hf2:=frozen_of_row W2 w.heap.size 2 _ _ HX2.out;have hf3:=frozen_of_row W2 w.heap.size 3 _ _ HX2.out;have hf4:=frozen_of_row W2 w.heap.size 4 _ _ HX2.out;have hf5:=frozen_of_row W2 w.heap.size 5 _ _ HX2.out;have hf6:=frozen_of_row W2 w.heap.size 6 _ _ HX2.out;have hf7:=frozen_of_row W2 w.heap.size 7 _ _ HX2.out;have hf8:=frozen_of_row W2 w.heap.size 8 _ _ HX2.out;have hz1:w.heap.size < W2.heap.size:=HX2.out.lt;have g0:W2.cell? ⟨w1.heap.size,0,none⟩ = some (.int .i64 m):=HH2.out.cell 0;have g1:W2.cell? ⟨w1.heap.size,1,none⟩ = some (.string S):=HH2.out.cell 1;have g2:W2.cell? ⟨w1.heap.size,2,none⟩ = some (.int .i64 sz):=HH2.out.cell 2;have g3:W2.cell? ⟨w1.heap.size,3,none⟩ = some (.int .i64 ar):=HH2.out.cell 3;have g4:W2.cell? ⟨w1.heap.size,4,none⟩ = some (.int .u32 su):=HH2.out.cell 4;obtain ⟨W3,hW3⟩:∃ W3,W2.alloc (.cells #[.string S,.int .i64 p,.int .i64 K,.int .i64 ar,.int .i64 sz,.int .u32 su,.int .i64 m] 39) = W3:=⟨_,rfl⟩;have HX3:Hid (Box W3 w.heap.size #[.int .i64 0,.string ⟨#[]⟩,.int .i64 0,.int .i64 0,.int .i64 0,.int .i64 0,.int .u32 0,.int .i64 0,.int .i64 0] 41):=(by show Box _ _ _ _;rw [← hW3];exact HX2.out.alloc _);have HH3:Hid (Box W3 w1.heap.size #[.int .i64 m,.string S,.int .i64 sz,.int .i64 ar,.int .u32 su] 71):=(by show Box _ _ _ _;rw [← hW3];exact HH2.out.alloc _);have HM3:Hid (Box W3 W2.heap.size #[.string S,.int .i64 p,.int .i64 K,.int .i64 ar,.int .i64 sz,.int .u32 su,.int .i64 m] 39):=(by show Box _ _ _ _;rw [← hW3];exact heap_alloc_new W2 _);have HB3:Hid (Below w.heap.size w W3):=(by show Below _ _ _;rw [← hW3];exact HB2.out.alloc HB2.out.size _);have hx0:W3.cell? ⟨w.heap.size,0,none⟩ = some (.int .i64 0):=HX3.out.cell 0;have hx1:W3.cell? ⟨w.heap.size,1,none⟩ = some (.string ⟨#[]⟩):=HX3.out.cell 1;have hx2:W3.cell? ⟨w.heap.size,2,none⟩ = some (.int .i64 0):=HX3.out.cell 2;have hx3:W3.cell? ⟨w.heap.size,3,none⟩ = some (.int .i64 0):=HX3.out.cell 3;have hx4:W3.cell? ⟨w.heap.size,4,none⟩ = some (.int .i64 0):=HX3.out.cell 4;have hx5:W3.cell? ⟨w.heap.size,5,none⟩ = some (.int .i64 0):=HX3.out.cell 5;have hx6:W3.cell? ⟨w.heap.size,6,none⟩ = some (.int .u32 0):=HX3.out.cell 6;have hx7:W3.cell? ⟨w.heap.size,7,none⟩ = some (.int .i64 0):=HX3.out.cell 7;have hx8:W3.cell? ⟨w.heap.size,8,none⟩ = some (.int .i64 0):=HX3.out.cell 8;have hf0:=frozen_of_row W3 w.heap.size 0 _ _ HX3.out;have hf1:=frozen_of_row W3 w.heap.size 1 _ _ HX3.out;have hf2:=frozen_of_row W3 w.heap.size 2 _ _ HX3.out;have hf3:=frozen_of_row W3 w.heap.size 3 _ _ HX3.out;have hf4:=frozen_of_row W3 w.heap.size 4 _ _ HX3.out;have hf5:=frozen_of_row W3 w.heap.size 5 _ _ HX3.out;have hf6:=frozen_of_row W3 w.heap.size 6 _ _ HX3.out;have hf7:=frozen_of_row W3 w.heap.size 7 _ _ HX3.out;have hf8:=frozen_of_row W3 w.heap.size 8 _ _ HX3.out;have hz1:w.heap.size < W3.heap.size:=HX3.out.lt;have g0:W3.cell? ⟨w1.heap.size,0,none⟩ = some (.int .i64 m):=HH3.out.cell 0;have g1:W3.cell? ⟨w1.heap.size,1,none⟩ = some (.string S):=HH3.out.cell 1;have g2:W3.cell? ⟨w1.heap.size,2,none⟩ = some (.int .i64 sz):=HH3.out.cell 2;have g3:W3.cell? ⟨w1.heap.size,3,none⟩ = some (.int .i64 ar):=HH3.out.cell 3;have g4:W3.cell? ⟨w1.heap.size,4,none⟩ = some (.int .u32 su):=HH3.out.cell 4;have y0:W3.cell? ⟨W2.heap.size,0,none⟩ = some (.string S):=HM3.out.cell 0;have y1:W3.cell? ⟨W2.heap.size,1,none⟩ = some (.int .i64 p):=HM3.out.cell 1;have y2:W3.cell? ⟨W2.heap.size,2,none⟩ = some (.int .i64 K):=HM3.out.cell 2;have y3:W3.cell? ⟨W2.heap.size,3,none⟩ = some (.int .i64 ar):=HM3.out.cell 3;have y4:W3.cell? ⟨W2.heap.size,4,none⟩ = some (.int .i64 sz):=HM3.out.cell 4;have y5:W3.cell? ⟨W2.heap.size,5,none⟩ = some (.int .u32 su):=HM3.out.cell 5;have y6:W3.cell? ⟨W2.heap.size,6,none⟩ = some (.int .i64 m):=HM3.out.cell 6)
  | (go_at_call 48;refine (HWI.out W3).mono ?_;rintro e w4 ⟨rfl,hbw⟩;have HX4:=Lib.hid (HX3.out.below hbw HX3.out.lt);have HH4:=Lib.hid (HH3.out.below hbw HH3.out.lt);have HM4:=Lib.hid (HM3.out.below hbw HM3.out.lt);have HB4:=Lib.hid (HB3.out.trans (hbw.mono HB3.out.size));clear hbw;have hx0:w4.cell? ⟨w.heap.size,0,none⟩ = some (.int .i64 0):=HX4.out.cell 0;have hx1:w4.cell? ⟨w.heap.size,1,none⟩ = some (.string ⟨#[]⟩):=HX4.out.cell 1;have hx2:w4.cell? ⟨w.heap.size,2,none⟩ = some (.int .i64 0):=HX4.out.cell 2;have hx3:w4.cell? ⟨w.heap.size,3,none⟩ = some (.int .i64 0):=HX4.out.cell 3;have hx4:w4.cell? ⟨w.heap.size,4,none⟩ = some (.int .i64 0):=HX4.out.cell 4;have hx5:w4.cell? ⟨w.heap.size,5,none⟩ = some (.int .i64 0):=HX4.out.cell 5;have hx6:w4.cell? ⟨w.heap.size,6,none⟩ = some (.int .u32 0):=HX4.out.cell 6;have hx7:w4.cell? ⟨w.heap.size,7,none⟩ = some (.int .i64 0):=HX4.out.cell 7;have hx8:w4.cell? ⟨w.heap.size,8,none⟩ = some (.int .i64 0):=HX4.out.cell 8;have hf0:=frozen_of_row w4 w.heap.size 0 _ _ HX4.out;have hf1:=frozen_of_row w4 w.heap.size 1 _ _ HX4.out;have hf2:=frozen_of_row w4 w.heap.size 2 _ _ HX4.out;have hf3:=frozen_of_row w4 w.heap.size 3 _ _ HX4.out;have hf4:=frozen_of_row w4 w.heap.size 4 _ _ HX4.out;have hf5:=frozen_of_row w4 w.heap.size 5 _ _ HX4.out;have hf6:=frozen_of_row w4 w.heap.size 6 _ _ HX4.out;have hf7:=frozen_of_row w4 w.heap.size 7 _ _ HX4.out;have hf8:=frozen_of_row w4 w.heap.size 8 _ _ HX4.out;have hz1:w.heap.size < w4.heap.size:=HX4.out.lt;have g0:w4.cell? ⟨w1.heap.size,0,none⟩ = some (.int .i64 m):=HH4.out.cell 0;have g1:w4.cell? ⟨w1.heap.size,1,none⟩ = some (.string S):=HH4.out.cell 1;have g2:w4.cell? ⟨w1.heap.size,2,none⟩ = some (.int .i64 sz):=HH4.out.cell 2;have g3:w4.cell? ⟨w1.heap.size,3,none⟩ = some (.int .i64 ar):=HH4.out.cell 3;have g4:w4.cell? ⟨w1.heap.size,4,none⟩ = some (.int .u32 su):=HH4.out.cell 4;have y0:w4.cell? ⟨W2.heap.size,0,none⟩ = some (.string S):=HM4.out.cell 0;have y1:w4.cell? ⟨W2.heap.size,1,none⟩ = some (.int .i64 p):=HM4.out.cell 1;have y2:w4.cell? ⟨W2.heap.size,2,none⟩ = some (.int .i64 K):=HM4.out.cell 2;have y3:w4.cell? ⟨W2.heap.size,3,none⟩ = some (.int .i64 ar):=HM4.out.cell 3;have y4:w4.cell? ⟨W2.heap.size,4,none⟩ = some (.int .i64 sz):=HM4.out.cell 4;have y5:w4.cell? ⟨W2.heap.size,5,none⟩ = some (.int .u32 su):=HM4.out.cell 5;have y6:w4.cell? ⟨W2.heap.size,6,none⟩ = some (.int .i64 m):=HM4.out.cell 6))
 refine bodyPost_ret (v:=.tuple #[.agg #[.int .i64 1,.string S,.int .i64 p,.int .i64 K,.int .i64 ar,.int .i64 sz,.int .u32 su,.int .i64 m,.int .i64 (K + ar)],.int .i64 0]) (by simp [results,Tryz.results16,hx0,hx1,hx2,hx3,hx4,hx5,hx6,hx7,hx8,go_sem]) rfl ⟨rfl,?_⟩
 iterate 9 (refine Below.setCell ?_ ?_ _;rotate_left;first | exact Nat.le_refl _ | exact Nat.le_succ _)
 exact HB4.out
set_option maxRecDepth 100000 in
set_option maxHeartbeats 1000000 in
theorem rcGone_any (tg:Nat) (A:Option Addr) (l c:Nat) (bs:List UInt8) (p:Int) (w:World) (S:ByteArray) (K E:Int) (hT:Table w tg) (hl:bs.length = l) (hm:l ≤ 1000000) (hlc:l ≤ c) (hb:Bytes w w.heap.size A bs) (he:stAns bs p = .tuple #[.string S,.int .i64 K,.int .i64 E]) :
  Calls Tryz.prog 45 #[.pointer (some ⟨tg,0,none⟩),.slice A l c,.int .i64 p] w fun e w' => e = .returned (recGone p S K E)∧Below w.heap.size w w':=by
 have HX0:Hid (Box (w.alloc (.cells #[.int .i64 0,.string ⟨#[]⟩,.int .i64 0,.int .i64 0,.int .i64 0,.int .i64 0,.int .u32 0,.int .i64 0,.int .i64 0] 41)) w.heap.size #[.int .i64 0,.string ⟨#[]⟩,.int .i64 0,.int .i64 0,.int .i64 0,.int .i64 0,.int .u32 0,.int .i64 0,.int .i64 0] 41):=heap_alloc_new w _
 have HB0:=Lib.hid ((Below.refl w.heap.size w).alloc (Nat.le_refl _) (.cells #[.int .i64 0,.string ⟨#[]⟩,.int .i64 0,.int .i64 0,.int .i64 0,.int .i64 0,.int .u32 0,.int .i64 0,.int .i64 0] 41))
 have HZ0:Hid ((w.alloc (.cells #[.int .i64 0,.string ⟨#[]⟩,.int .i64 0,.int .i64 0,.int .i64 0,.int .i64 0,.int .u32 0,.int .i64 0,.int .i64 0] 41)).heap.size = w.heap.size + 1):=by show _ = _;simp
 have HST:=Lib.hid (stTake_any tg A l c bs w.heap.size p (w.alloc (.cells #[.int .i64 0,.string ⟨#[]⟩,.int .i64 0,.int .i64 0,.int .i64 0,.int .i64 0,.int .u32 0,.int .i64 0,.int .i64 0] 41)) (hT.alloc _) hl hm hlc (hb.below HB0.out (Nat.le_refl _)) HB0.out.size)
 rw [he] at HST
 clear hT hb hl he
 by_cases hE:E = 0
 ·have HG:Hid (recGone p S K E = recOk 2 S p 0 0 0 0 0 K):=if_pos hE
  have v1:(E != 0) = false:=by simpa using hE
  rw [HG.out]
  clear hE
  go_enter Tryz.func45,Tryz.ntmps45
  go_wp2_with (go_at_call 86;refine HST.out.mono ?_;rintro e w1 ⟨rfl,hbw⟩;have HX1:=Lib.hid (HX0.out.below hbw (by rw [HZ0.out];omega));have HB1:=Lib.hid (HB0.out.trans (hbw.mono (by rw [HZ0.out];omega)));clear hbw;have hx0:w1.cell? ⟨w.heap.size,0,none⟩ = some (.int .i64 0):=HX1.out.cell 0;have hx1:w1.cell? ⟨w.heap.size,1,none⟩ = some (.string ⟨#[]⟩):=HX1.out.cell 1;have hx2:w1.cell? ⟨w.heap.size,2,none⟩ = some (.int .i64 0):=HX1.out.cell 2;have hx3:w1.cell? ⟨w.heap.size,3,none⟩ = some (.int .i64 0):=HX1.out.cell 3;have hx4:w1.cell? ⟨w.heap.size,4,none⟩ = some (.int .i64 0):=HX1.out.cell 4;have hx5:w1.cell? ⟨w.heap.size,5,none⟩ = some (.int .i64 0):=HX1.out.cell 5;have hx6:w1.cell? ⟨w.heap.size,6,none⟩ = some (.int .u32 0):=HX1.out.cell 6;have hx7:w1.cell? ⟨w.heap.size,7,none⟩ = some (.int .i64 0):=HX1.out.cell 7;have hx8:w1.cell? ⟨w.heap.size,8,none⟩ = some (.int .i64 0):=HX1.out.cell 8;have hf0:=frozen_of_row w1 w.heap.size 0 _ _ HX1.out;have hf1:=frozen_of_row w1 w.heap.size 1 _ _ HX1.out;have hf2:=frozen_of_row w1 w.heap.size 2 _ _ HX1.out;have hf3:=frozen_of_row w1 w.heap.size 3 _ _ HX1.out;have hf4:=frozen_of_row w1 w.heap.size 4 _ _ HX1.out;have hf5:=frozen_of_row w1 w.heap.size 5 _ _ HX1.out;have hf6:=frozen_of_row w1 w.heap.size 6 _ _ HX1.out;have hf7:=frozen_of_row w1 w.heap.size 7 _ _ HX1.out;have hf8:=frozen_of_row w1 w.heap.size 8 _ _ HX1.out;have hz1:w.heap.size < w1.heap.size:=HX1.out.lt)
  refine bodyPost_ret (v:=.tuple #[.agg #[.int .i64 2,.string S,.int .i64 p,.int .i64 0,.int .i64 0,.int .i64 0,.int .u32 0,.int .i64 0,.int .i64 K],.int .i64 0]) (by simp [results,Tryz.results45,hx0,hx1,hx2,hx3,hx4,hx5,hx6,hx7,hx8,go_sem]) rfl ⟨rfl,?_⟩
  iterate 9 (refine Below.setCell ?_ ?_ _;rotate_left;exact Nat.le_refl _)
  exact HB1.out
 ·have HG:Hid (recGone p S K E = recBad E):=if_neg hE
  have v1:(E != 0) = true:=by simpa using hE
  rw [HG.out]
  clear hE
  go_enter Tryz.func45,Tryz.ntmps45
  go_wp2_with (go_at_call 86;refine HST.out.mono ?_;rintro e w1 ⟨rfl,hbw⟩;have HX1:=Lib.hid (HX0.out.below hbw (by rw [HZ0.out];omega));have HB1:=Lib.hid (HB0.out.trans (hbw.mono (by rw [HZ0.out];omega)));clear hbw;have hx0:w1.cell? ⟨w.heap.size,0,none⟩ = some (.int .i64 0):=HX1.out.cell 0;have hx1:w1.cell? ⟨w.heap.size,1,none⟩ = some (.string ⟨#[]⟩):=HX1.out.cell 1;have hx2:w1.cell? ⟨w.heap.size,2,none⟩ = some (.int .i64 0):=HX1.out.cell 2;have hx3:w1.cell? ⟨w.heap.size,3,none⟩ = some (.int .i64 0):=HX1.out.cell 3;have hx4:w1.cell? ⟨w.heap.size,4,none⟩ = some (.int .i64 0):=HX1.out.cell 4;have hx5:w1.cell? ⟨w.heap.size,5,none⟩ = some (.int .i64 0):=HX1.out.cell 5;have hx6:w1.cell? ⟨w.heap.size,6,none⟩ = some (.int .u32 0):=HX1.out.cell 6;have hx7:w1.cell? ⟨w.heap.size,7,none⟩ = some (.int .i64 0):=HX1.out.cell 7;have hx8:w1.cell? ⟨w.heap.size,8,none⟩ = some (.int .i64 0):=HX1.out.cell 8;have hf0:=frozen_of_row w1 w.heap.size 0 _ _ HX1.out;have hf1:=frozen_of_row w1 w.heap.size 1 _ _ HX1.out;have hf2:=frozen_of_row w1 w.heap.size 2 _ _ HX1.out;have hf3:=frozen_of_row w1 w.heap.size 3 _ _ HX1.out;have hf4:=frozen_of_row w1 w.heap.size 4 _ _ HX1.out;have hf5:=frozen_of_row w1 w.heap.size 5 _ _ HX1.out;have hf6:=frozen_of_row w1 w.heap.size 6 _ _ HX1.out;have hf7:=frozen_of_row w1 w.heap.size 7 _ _ HX1.out;have hf8:=frozen_of_row w1 w.heap.size 8 _ _ HX1.out;have hz1:w.heap.size < w1.heap.size:=HX1.out.lt)
  refine bodyPost_ret (v:=.tuple #[.agg #[.int .i64 0,.string ⟨#[]⟩,.int .i64 0,.int .i64 0,.int .i64 0,.int .i64 0,.int .u32 0,.int .i64 0,.int .i64 0],.int .i64 E]) (by simp [results,Tryz.results45,hx0,hx1,hx2,hx3,hx4,hx5,hx6,hx7,hx8,go_sem]) rfl ⟨rfl,?_⟩
  iterate 9 (refine Below.setCell ?_ ?_ _;rotate_left;exact Nat.le_refl _)
  exact HB1.out
def isRec (v:Value):Prop:=∃ (k:Int) (S:ByteArray) (a b c d e f g x:Int),v = .tuple #[.agg #[.int .i64 k,.string S,.int .i64 a,.int .i64 b,.int .i64 c,.int .i64 d,.int .u32 e,.int .i64 f,.int .i64 g],.int .i64 x]
theorem isRec_bad (e:Int):isRec (recBad e):=⟨_,_,_,_,_,_,_,_,_,_,rfl⟩
theorem isRec_ok (k:Int) (S:ByteArray) (p fr ar sz su me nx:Int):isRec (recOk k S p fr ar sz su me nx):=⟨_,_,_,_,_,_,_,_,_,_,rfl⟩
theorem recGone_form (p:Int) (S:ByteArray) (K E:Int):isRec (recGone p S K E):=by
 unfold recGone
 split
 ·exact isRec_ok _ _ _ _ _ _ _ _ _
 ·exact isRec_bad _
theorem recDs_form (bs:List UInt8) (p:Int) (S:ByteArray) (K n x:Int):isRec (recDs bs p S K n x):=by
 by_cases hx:x = 0
 ·subst hx
  obtain ⟨a,b,s,he⟩:=dcA_form bs n
  rw [recDs_in he]
  unfold recDs2
  split
  ·split
   ·exact isRec_ok _ _ _ _ _ _ _ _ _
   ·exact isRec_bad _
  ·exact isRec_bad _
 ·rw [recDs_bad hx]
  exact isRec_bad _
set_option maxRecDepth 100000 in
set_option maxHeartbeats 2000000 in
theorem rcStr_any (tg:Nat) (A:Option Addr) (l c:Nat) (bs:List UInt8) (p:Int) (w:World) (S:ByteArray) (K ar sz su n x:Int) (hT:Table w tg) (hl:bs.length = l) (hm:l ≤ 1000000) (hlc:l ≤ c) (hb:Bytes w w.heap.size A bs) (hK:0 ≤ K∧K ≤ l) (he:endV bs K = .tuple #[.int .i64 n,.int .i64 x]) :
  Calls Tryz.prog 47 #[.pointer (some ⟨tg,0,none⟩),.slice A l c,.agg #[.string S,.int .i64 p,.int .i64 K,.int .i64 ar,.int .i64 sz,.int .u32 su,.int .i64 2]] w fun e w' => e = .returned (recDs bs p S K n x)∧Below w.heap.size w w':=by
 obtain ⟨V1,hV1⟩:∃ V1,w.alloc (.cells #[.string S,.int .i64 p,.int .i64 K,.int .i64 ar,.int .i64 sz,.int .u32 su,.int .i64 2] 39) = V1:=⟨_,rfl⟩
 have hv1:V1.heap.size = w.heap.size + 1:=by rw [← hV1];simp
 have HM1:Hid (Box V1 w.heap.size #[.string S,.int .i64 p,.int .i64 K,.int .i64 ar,.int .i64 sz,.int .u32 su,.int .i64 2] 39):=by show Box _ _ _ _;rw [← hV1];exact heap_alloc_new w _
 have HV1:Hid (Below w.heap.size w V1):=by show Below _ _ _;rw [← hV1];exact (Below.refl _ w).alloc (Nat.le_refl _) _
 have HVV:=Lib.hid hV1
 have HX0:Hid (Box (V1.alloc (.cells #[.int .i64 0,.string ⟨#[]⟩,.int .i64 0,.int .i64 0,.int .i64 0,.int .i64 0,.int .u32 0,.int .i64 0,.int .i64 0] 41)) (w.heap.size + 1) #[.int .i64 0,.string ⟨#[]⟩,.int .i64 0,.int .i64 0,.int .i64 0,.int .i64 0,.int .u32 0,.int .i64 0,.int .i64 0] 41):=by show Box _ _ _ _;rw [← hv1];exact heap_alloc_new V1 _
 have HM0:=Lib.hid (Box.alloc HM1.out (.cells #[.int .i64 0,.string ⟨#[]⟩,.int .i64 0,.int .i64 0,.int .i64 0,.int .i64 0,.int .u32 0,.int .i64 0,.int .i64 0] 41))
 have HB0:=Lib.hid (HV1.out.alloc HV1.out.size (.cells #[.int .i64 0,.string ⟨#[]⟩,.int .i64 0,.int .i64 0,.int .i64 0,.int .i64 0,.int .u32 0,.int .i64 0,.int .i64 0] 41))
 have HZ0:Hid ((V1.alloc (.cells #[.int .i64 0,.string ⟨#[]⟩,.int .i64 0,.int .i64 0,.int .i64 0,.int .i64 0,.int .u32 0,.int .i64 0,.int .i64 0] 41)).heap.size = w.heap.size + 2):=by show _ = _;simp [hv1]
 clear hV1 hv1
 have htl:=hT.lt
 have HT:=Lib.hid hT
 have HL:=Lib.hid hl
 have HEN:=Lib.hid (dcEnd_any A l c bs K (V1.alloc (.cells #[.int .i64 0,.string ⟨#[]⟩,.int .i64 0,.int .i64 0,.int .i64 0,.int .i64 0,.int .u32 0,.int .i64 0,.int .i64 0] 41)) hl hm ((hb.below HB0.out (Nat.le_refl _)).more HB0.out.size))
 have HTK:=Lib.hid (fun W (hW:Below w.heap.size w W) => dcTake_any tg A l c bs w.heap.size n W (hT.below hW htl) hl (by omega) hlc (hb.below hW (Nat.le_refl _)) hW.size)
 rw [he] at HEN
 clear hT hb hl
 by_cases hx:x = 0
 ·subst hx
  obtain ⟨hn0,hn1⟩:=endV_ok he
  rw [HL.out] at hn1
  clear he
  obtain ⟨a,b,s,hA⟩:=dcA_form bs n
  have HDI:=Lib.hid (recDs_in (p:=p) (S:=S) (K:=K) hA)
  rw [HDI.out]
  rw [hA] at HTK
  obtain ⟨r,hr⟩:∃ r,dcR bs n = r:=⟨_,rfl⟩
  rw [hr] at HTK
  by_cases hr0:r = 0
  ·subst hr0
   by_cases hbn:b = n - K
   ·have HG:Hid (recDs2 bs p S K n a b s = recOk 1 S p K b a s 2 (n + 20)):=by show _ = _;unfold recDs2;rw [if_pos hr,if_pos hbn]
    have v1:(b != n - K) = false:=by simpa using hbn
    rw [HG.out]
    clear hA hr HDI hbn
    go_enter Tryz.func47,Tryz.ntmps47
    go_wp2_with fail
    rw [HVV.out]
    go_wp2_with (first
     | (go_at_call 92;refine HEN.out.mono ?_;rintro e w1 ⟨rfl,hbw⟩;have HX1:=Lib.hid (HX0.out.below hbw HX0.out.lt);have HM1:=Lib.hid (HM0.out.below hbw HM0.out.lt);have HB1:=Lib.hid (HB0.out.trans (hbw.mono HB0.out.size));clear hbw;have hx0:w1.cell? ⟨(w.heap.size + 1),0,none⟩ = some (.int .i64 0):=HX1.out.cell 0;have hx1:w1.cell? ⟨(w.heap.size + 1),1,none⟩ = some (.string ⟨#[]⟩):=HX1.out.cell 1;have hx2:w1.cell? ⟨(w.heap.size + 1),2,none⟩ = some (.int .i64 0):=HX1.out.cell 2;have hx3:w1.cell? ⟨(w.heap.size + 1),3,none⟩ = some (.int .i64 0):=HX1.out.cell 3;have hx4:w1.cell? ⟨(w.heap.size + 1),4,none⟩ = some (.int .i64 0):=HX1.out.cell 4;have hx5:w1.cell? ⟨(w.heap.size + 1),5,none⟩ = some (.int .i64 0):=HX1.out.cell 5;have hx6:w1.cell? ⟨(w.heap.size + 1),6,none⟩ = some (.int .u32 0):=HX1.out.cell 6;have hx7:w1.cell? ⟨(w.heap.size + 1),7,none⟩ = some (.int .i64 0):=HX1.out.cell 7;have hx8:w1.cell? ⟨(w.heap.size + 1),8,none⟩ = some (.int .i64 0):=HX1.out.cell 8;have hf0:=frozen_of_row w1 (w.heap.size + 1) 0 _ _ HX1.out;have hf1:=frozen_of_row w1 (w.heap.size + 1) 1 _ _ HX1.out;have hf2:=frozen_of_row w1 (w.heap.size + 1) 2 _ _ HX1.out;have hf3:=frozen_of_row w1 (w.heap.size + 1) 3 _ _ HX1.out;have hf4:=frozen_of_row w1 (w.heap.size + 1) 4 _ _ HX1.out;have hf5:=frozen_of_row w1 (w.heap.size + 1) 5 _ _ HX1.out;have hf6:=frozen_of_row w1 (w.heap.size + 1) 6 _ _ HX1.out;have hf7:=frozen_of_row w1 (w.heap.size + 1) 7 _ _ HX1.out;have hf8:=frozen_of_row w1 (w.heap.size + 1) 8 _ _ HX1.out;have hz1:(w.heap.size + 1) < w1.heap.size:=HX1.out.lt;have y0:w1.cell? ⟨w.heap.size,0,none⟩ = some (.string S):=HM1.out.cell 0;have y1:w1.cell? ⟨w.heap.size,1,none⟩ = some (.int .i64 p):=HM1.out.cell 1;have y2:w1.cell? ⟨w.heap.size,2,none⟩ = some (.int .i64 K):=HM1.out.cell 2;have y3:w1.cell? ⟨w.heap.size,3,none⟩ = some (.int .i64 ar):=HM1.out.cell 3;have y4:w1.cell? ⟨w.heap.size,4,none⟩ = some (.int .i64 sz):=HM1.out.cell 4;have y5:w1.cell? ⟨w.heap.size,5,none⟩ = some (.int .u32 su):=HM1.out.cell 5;have y6:w1.cell? ⟨w.heap.size,6,none⟩ = some (.int .i64 2):=HM1.out.cell 6;have yf0:=frozen_of_row w1 w.heap.size 0 _ _ HM1.out;have yf1:=frozen_of_row w1 w.heap.size 1 _ _ HM1.out;have yf2:=frozen_of_row w1 w.heap.size 2 _ _ HM1.out;have yf3:=frozen_of_row w1 w.heap.size 3 _ _ HM1.out;have yf4:=frozen_of_row w1 w.heap.size 4 _ _ HM1.out;have yf5:=frozen_of_row w1 w.heap.size 5 _ _ HM1.out;have yf6:=frozen_of_row w1 w.heap.size 6 _ _ HM1.out;have yz:w.heap.size < w1.heap.size:=HM1.out.lt)
     | (go_at_call 93;refine (HTK.out w1 HB1.out).mono ?_;rintro e w2 ⟨rfl,hbw⟩;have HX2:=Lib.hid (HX1.out.below hbw HX1.out.lt);have HM2:=Lib.hid (HM1.out.below hbw HM1.out.lt);have HB2:=Lib.hid (HB1.out.trans (hbw.mono HB1.out.size));clear hbw;have hx0:w2.cell? ⟨(w.heap.size + 1),0,none⟩ = some (.int .i64 0):=HX2.out.cell 0;have hx1:w2.cell? ⟨(w.heap.size + 1),1,none⟩ = some (.string ⟨#[]⟩):=HX2.out.cell 1;have hx2:w2.cell? ⟨(w.heap.size + 1),2,none⟩ = some (.int .i64 0):=HX2.out.cell 2;have hx3:w2.cell? ⟨(w.heap.size + 1),3,none⟩ = some (.int .i64 0):=HX2.out.cell 3;have hx4:w2.cell? ⟨(w.heap.size + 1),4,none⟩ = some (.int .i64 0):=HX2.out.cell 4;have hx5:w2.cell? ⟨(w.heap.size + 1),5,none⟩ = some (.int .i64 0):=HX2.out.cell 5;have hx6:w2.cell? ⟨(w.heap.size + 1),6,none⟩ = some (.int .u32 0):=HX2.out.cell 6;have hx7:w2.cell? ⟨(w.heap.size + 1),7,none⟩ = some (.int .i64 0):=HX2.out.cell 7;have hx8:w2.cell? ⟨(w.heap.size + 1),8,none⟩ = some (.int .i64 0):=HX2.out.cell 8;have y0:w2.cell? ⟨w.heap.size,0,none⟩ = some (.string S):=HM2.out.cell 0;have y1:w2.cell? ⟨w.heap.size,1,none⟩ = some (.int .i64 p):=HM2.out.cell 1;have y2:w2.cell? ⟨w.heap.size,2,none⟩ = some (.int .i64 K):=HM2.out.cell 2;have y3:w2.cell? ⟨w.heap.size,3,none⟩ = some (.int .i64 ar):=HM2.out.cell 3;have y4:w2.cell? ⟨w.heap.size,4,none⟩ = some (.int .i64 sz):=HM2.out.cell 4;have y5:w2.cell? ⟨w.heap.size,5,none⟩ = some (.int .u32 su):=HM2.out.cell 5;have y6:w2.cell? ⟨w.heap.size,6,none⟩ = some (.int .i64 2):=HM2.out.cell 6;obtain ⟨W3,hW3⟩:∃ W3,w2.alloc (.cells #[.int .i64 a,.int .i64 b,.int .u32 s] 78) = W3:=⟨_,rfl⟩;have HX3:Hid (Box W3 (w.heap.size + 1) #[.int .i64 0,.string ⟨#[]⟩,.int .i64 0,.int .i64 0,.int .i64 0,.int .i64 0,.int .u32 0,.int .i64 0,.int .i64 0] 41):=(by show Box _ _ _ _;rw [← hW3];exact HX2.out.alloc _);have HM3:Hid (Box W3 w.heap.size #[.string S,.int .i64 p,.int .i64 K,.int .i64 ar,.int .i64 sz,.int .u32 su,.int .i64 2] 39):=(by show Box _ _ _ _;rw [← hW3];exact HM2.out.alloc _);have HD3:Hid (Box W3 w2.heap.size #[.int .i64 a,.int .i64 b,.int .u32 s] 78):=(by show Box _ _ _ _;rw [← hW3];exact heap_alloc_new w2 _);have HB3:Hid (Below w.heap.size w W3):=(by show Below _ _ _;rw [← hW3];exact HB2.out.alloc HB2.out.size _);have hx0:W3.cell? ⟨(w.heap.size + 1),0,none⟩ = some (.int .i64 0):=HX3.out.cell 0;have hx1:W3.cell? ⟨(w.heap.size + 1),1,none⟩ = some (.string ⟨#[]⟩):=HX3.out.cell 1;have hx2:W3.cell? ⟨(w.heap.size + 1),2,none⟩ = some (.int .i64 0):=HX3.out.cell 2;have hx3:W3.cell? ⟨(w.heap.size + 1),3,none⟩ = some (.int .i64 0):=HX3.out.cell 3;have hx4:W3.cell? ⟨(w.heap.size + 1),4,none⟩ = some (.int .i64 0):=HX3.out.cell 4;have hx5:W3.cell? ⟨(w.heap.size + 1),5,none⟩ = some (.int .i64 0):=HX3.out.cell 5;have hx6:W3.cell? ⟨(w.heap.size + 1),6,none⟩ = some (.int .u32 0):=HX3.out.cell 6;have hx7:W3.cell? ⟨(w.heap.size + 1),7,none⟩ = some (.int .i64 0):=HX3.out.cell 7;have hx8:W3.cell? ⟨(w.heap.size + 1),8,none⟩ = some (.int .i64 0):=HX3.out.cell 8;have hf0:=frozen_of_row W3 (w.heap.size + 1) 0 _ _ HX3.out;have hf1:=frozen_of_row W3 (w.heap.size + 1) 1 _ _ HX3.out;have hf2:=frozen_of_row W3 (w.heap.size + 1) 2 _ _ HX3.out;have hf3:=frozen_of_row W3 (w.heap.size + 1) 3 _ _ HX3.out;have hf4:=frozen_of_row W3 (w.heap.size + 1) 4 _ _ HX3.out;have hf5:=frozen_of_row W3 (w.heap.size + 1) 5 _ _ HX3.out;have hf6:=frozen_of_row W3 (w.heap.size + 1) 6 _ _ HX3.out;have hf7:=frozen_of_row W3 (w.heap.size + 1) 7 _ _ HX3.out;have hf8:=frozen_of_row W3 (w.heap.size + 1) 8 _ _ HX3.out;have hz1:(w.heap.size + 1) < W3.heap.size:=HX3.out.lt;have y0:W3.cell? ⟨w.heap.size,0,none⟩ = some (.string S):=HM3.out.cell 0;have y1:W3.cell? ⟨w.heap.size,1,none⟩ = some (.int .i64 p):=HM3.out.cell 1;have y2:W3.cell? ⟨w.heap.size,2,none⟩ = some (.int .i64 K):=HM3.out.cell 2;have y3:W3.cell? ⟨w.heap.size,3,none⟩ = some (.int .i64 ar):=HM3.out.cell 3;have y4:W3.cell? ⟨w.heap.size,4,none⟩ = some (.int .i64 sz):=HM3.out.cell 4;have y5:W3.cell? ⟨w.heap.size,5,none⟩ = some (.int .u32 su):=HM3.out.cell 5;have y6:W3.cell? ⟨w.heap.size,6,none⟩ = some (.int .i64 2):=HM3.out.cell 6;have yf0:=frozen_of_row W3 w.heap.size 0 _ _ HM3.out;have yf1:=frozen_of_row W3 w.heap.size 1 _ _ HM3.out;have yf2:=frozen_of_row W3 w.heap.size 2 _ _ HM3.out;have yf3:=frozen_of_row W3 w.heap.size 3 _ _ HM3.out;have yf4:=frozen_of_row W3 w.heap.size 4 _ _ HM3.out;have yf5:=frozen_of_row W3 w.heap.size 5 _ _ HM3.out;have yf6:=frozen_of_row W3 w.heap.size 6 _ _ HM3.out;have yz:w.heap.size < W3.heap.size:=HM3.out.lt;have d0:W3.cell? ⟨w2.heap.size,0,none⟩ = some (.int .i64 a):=HD3.out.cell 0;have d1:W3.cell? ⟨w2.heap.size,1,none⟩ = some (.int .i64 b):=HD3.out.cell 1;have d2:W3.cell? ⟨w2.heap.size,2,none⟩ = some (.int .u32 s):=HD3.out.cell 2))
    go_region
    obtain ⟨W4,hW4⟩:∃ W4,(((W3.setCell ⟨w.heap.size,4,none⟩ (.int .i64 a)).setCell ⟨w.heap.size,3,none⟩ (.int .i64 b)).setCell ⟨w.heap.size,5,none⟩ (.int .u32 s)).drew = W4:=⟨_,rfl⟩
    have HX4:Hid (Box W4 (w.heap.size + 1) #[.int .i64 0,.string ⟨#[]⟩,.int .i64 0,.int .i64 0,.int .i64 0,.int .i64 0,.int .u32 0,.int .i64 0,.int .i64 0] 41):=by show Box _ _ _ _;rw [← hW4];exact ((HX3.out.set_other (i:=4) (.int .i64 a) (Nat.succ_ne_self w.heap.size)).set_other (i:=3) (.int .i64 b) (Nat.succ_ne_self w.heap.size)).set_other (i:=5) (.int .u32 s) (Nat.succ_ne_self w.heap.size)
    have HM4:Hid (Box W4 w.heap.size #[.string S,.int .i64 p,.int .i64 K,.int .i64 b,.int .i64 a,.int .u32 s,.int .i64 2] 39):=by show Box _ _ _ _;rw [← hW4];exact ((HM3.out.set (i:=4) (.int .i64 a)).set (i:=3) (.int .i64 b)).set (i:=5) (.int .u32 s)
    have HB4:Hid (Below w.heap.size w W4):=by show Below _ _ _;rw [← hW4];exact (((HB3.out.setCell (p:=⟨w.heap.size,4,none⟩) (Nat.le_refl _) _).setCell (p:=⟨w.heap.size,3,none⟩) (Nat.le_refl _) _).setCell (p:=⟨w.heap.size,5,none⟩) (Nat.le_refl _) _).drew
    rw [hW4]
    have hx0:W4.cell? ⟨(w.heap.size + 1),0,none⟩ = some (.int .i64 0):=HX4.out.cell 0
    have hx1:W4.cell? ⟨(w.heap.size + 1),1,none⟩ = some (.string ⟨#[]⟩):=HX4.out.cell 1
    have hx2:W4.cell? ⟨(w.heap.size + 1),2,none⟩ = some (.int .i64 0):=HX4.out.cell 2
    have hx3:W4.cell? ⟨(w.heap.size + 1),3,none⟩ = some (.int .i64 0):=HX4.out.cell 3
    have hx4:W4.cell? ⟨(w.heap.size + 1),4,none⟩ = some (.int .i64 0):=HX4.out.cell 4
    have hx5:W4.cell? ⟨(w.heap.size + 1),5,none⟩ = some (.int .i64 0):=HX4.out.cell 5
    have hx6:W4.cell? ⟨(w.heap.size + 1),6,none⟩ = some (.int .u32 0):=HX4.out.cell 6
    have hx7:W4.cell? ⟨(w.heap.size + 1),7,none⟩ = some (.int .i64 0):=HX4.out.cell 7
    have hx8:W4.cell? ⟨(w.heap.size + 1),8,none⟩ = some (.int .i64 0):=HX4.out.cell 8
    have hf0:=frozen_of_row W4 (w.heap.size + 1) 0 _ _ HX4.out
    have hf1:=frozen_of_row W4 (w.heap.size + 1) 1 _ _ HX4.out
    have hf2:=frozen_of_row W4 (w.heap.size + 1) 2 _ _ HX4.out
    have hf3:=frozen_of_row W4 (w.heap.size + 1) 3 _ _ HX4.out
    have hf4:=frozen_of_row W4 (w.heap.size + 1) 4 _ _ HX4.out
    have hf5:=frozen_of_row W4 (w.heap.size + 1) 5 _ _ HX4.out
    have hf6:=frozen_of_row W4 (w.heap.size + 1) 6 _ _ HX4.out
    have hf7:=frozen_of_row W4 (w.heap.size + 1) 7 _ _ HX4.out
    have hf8:=frozen_of_row W4 (w.heap.size + 1) 8 _ _ HX4.out
    have hz1:(w.heap.size + 1) < W4.heap.size:=HX4.out.lt
    have y0:W4.cell? ⟨w.heap.size,0,none⟩ = some (.string S):=HM4.out.cell 0
    have y1:W4.cell? ⟨w.heap.size,1,none⟩ = some (.int .i64 p):=HM4.out.cell 1
    have y2:W4.cell? ⟨w.heap.size,2,none⟩ = some (.int .i64 K):=HM4.out.cell 2
    have y3:W4.cell? ⟨w.heap.size,3,none⟩ = some (.int .i64 b):=HM4.out.cell 3
    have y4:W4.cell? ⟨w.heap.size,4,none⟩ = some (.int .i64 a):=HM4.out.cell 4
    have y5:W4.cell? ⟨w.heap.size,5,none⟩ = some (.int .u32 s):=HM4.out.cell 5
    have y6:W4.cell? ⟨w.heap.size,6,none⟩ = some (.int .i64 2):=HM4.out.cell 6
    go_wp2
    refine bodyPost_ret (v:=.tuple #[.agg #[.int .i64 1,.string S,.int .i64 p,.int .i64 K,.int .i64 b,.int .i64 a,.int .u32 s,.int .i64 2,.int .i64 (n + 20)],.int .i64 0]) (by simp [results,Tryz.results47,hx0,hx1,hx2,hx3,hx4,hx5,hx6,hx7,hx8,go_sem]) rfl ⟨rfl,?_⟩
    iterate 9 (refine Below.setCell ?_ ?_ _;rotate_left;first | exact Nat.le_refl _ | exact Nat.le_succ _)
    exact HB4.out
   ·have HG:Hid (recDs2 bs p S K n a b s = recBad 3):=by show _ = _;unfold recDs2;rw [if_pos hr,if_neg hbn]
    have v1:(b != n - K) = true:=by simpa using hbn
    rw [HG.out]
    clear hA hr HDI hbn
    go_enter Tryz.func47,Tryz.ntmps47
    go_wp2_with fail
    rw [HVV.out]
    go_wp2_with (first
     | (go_at_call 92;refine HEN.out.mono ?_;rintro e w1 ⟨rfl,hbw⟩;have HX1:=Lib.hid (HX0.out.below hbw HX0.out.lt);have HM1:=Lib.hid (HM0.out.below hbw HM0.out.lt);have HB1:=Lib.hid (HB0.out.trans (hbw.mono HB0.out.size));clear hbw;have hx0:w1.cell? ⟨(w.heap.size + 1),0,none⟩ = some (.int .i64 0):=HX1.out.cell 0;have hx1:w1.cell? ⟨(w.heap.size + 1),1,none⟩ = some (.string ⟨#[]⟩):=HX1.out.cell 1;have hx2:w1.cell? ⟨(w.heap.size + 1),2,none⟩ = some (.int .i64 0):=HX1.out.cell 2;have hx3:w1.cell? ⟨(w.heap.size + 1),3,none⟩ = some (.int .i64 0):=HX1.out.cell 3;have hx4:w1.cell? ⟨(w.heap.size + 1),4,none⟩ = some (.int .i64 0):=HX1.out.cell 4;have hx5:w1.cell? ⟨(w.heap.size + 1),5,none⟩ = some (.int .i64 0):=HX1.out.cell 5;have hx6:w1.cell? ⟨(w.heap.size + 1),6,none⟩ = some (.int .u32 0):=HX1.out.cell 6;have hx7:w1.cell? ⟨(w.heap.size + 1),7,none⟩ = some (.int .i64 0):=HX1.out.cell 7;have hx8:w1.cell? ⟨(w.heap.size + 1),8,none⟩ = some (.int .i64 0):=HX1.out.cell 8;have hf0:=frozen_of_row w1 (w.heap.size + 1) 0 _ _ HX1.out;have hf1:=frozen_of_row w1 (w.heap.size + 1) 1 _ _ HX1.out;have hf2:=frozen_of_row w1 (w.heap.size + 1) 2 _ _ HX1.out;have hf3:=frozen_of_row w1 (w.heap.size + 1) 3 _ _ HX1.out;have hf4:=frozen_of_row w1 (w.heap.size + 1) 4 _ _ HX1.out;have hf5:=frozen_of_row w1 (w.heap.size + 1) 5 _ _ HX1.out;have hf6:=frozen_of_row w1 (w.heap.size + 1) 6 _ _ HX1.out;have hf7:=frozen_of_row w1 (w.heap.size + 1) 7 _ _ HX1.out;have hf8:=frozen_of_row w1 (w.heap.size + 1) 8 _ _ HX1.out;have hz1:(w.heap.size + 1) < w1.heap.size:=HX1.out.lt;have y0:w1.cell? ⟨w.heap.size,0,none⟩ = some (.string S):=HM1.out.cell 0;have y1:w1.cell? ⟨w.heap.size,1,none⟩ = some (.int .i64 p):=HM1.out.cell 1;have y2:w1.cell? ⟨w.heap.size,2,none⟩ = some (.int .i64 K):=HM1.out.cell 2;have y3:w1.cell? ⟨w.heap.size,3,none⟩ = some (.int .i64 ar):=HM1.out.cell 3;have y4:w1.cell? ⟨w.heap.size,4,none⟩ = some (.int .i64 sz):=HM1.out.cell 4;have y5:w1.cell? ⟨w.heap.size,5,none⟩ = some (.int .u32 su):=HM1.out.cell 5;have y6:w1.cell? ⟨w.heap.size,6,none⟩ = some (.int .i64 2):=HM1.out.cell 6;have yf0:=frozen_of_row w1 w.heap.size 0 _ _ HM1.out;have yf1:=frozen_of_row w1 w.heap.size 1 _ _ HM1.out;have yf2:=frozen_of_row w1 w.heap.size 2 _ _ HM1.out;have yf3:=frozen_of_row w1 w.heap.size 3 _ _ HM1.out;have yf4:=frozen_of_row w1 w.heap.size 4 _ _ HM1.out;have yf5:=frozen_of_row w1 w.heap.size 5 _ _ HM1.out;have yf6:=frozen_of_row w1 w.heap.size 6 _ _ HM1.out;have yz:w.heap.size < w1.heap.size:=HM1.out.lt)
     | (go_at_call 93;refine (HTK.out w1 HB1.out).mono ?_;rintro e w2 ⟨rfl,hbw⟩;have HX2:=Lib.hid (HX1.out.below hbw HX1.out.lt);have HM2:=Lib.hid (HM1.out.below hbw HM1.out.lt);have HB2:=Lib.hid (HB1.out.trans (hbw.mono HB1.out.size));clear hbw;have hx0:w2.cell? ⟨(w.heap.size + 1),0,none⟩ = some (.int .i64 0):=HX2.out.cell 0;have hx1:w2.cell? ⟨(w.heap.size + 1),1,none⟩ = some (.string ⟨#[]⟩):=HX2.out.cell 1;have hx2:w2.cell? ⟨(w.heap.size + 1),2,none⟩ = some (.int .i64 0):=HX2.out.cell 2;have hx3:w2.cell? ⟨(w.heap.size + 1),3,none⟩ = some (.int .i64 0):=HX2.out.cell 3;have hx4:w2.cell? ⟨(w.heap.size + 1),4,none⟩ = some (.int .i64 0):=HX2.out.cell 4;have hx5:w2.cell? ⟨(w.heap.size + 1),5,none⟩ = some (.int .i64 0):=HX2.out.cell 5;have hx6:w2.cell? ⟨(w.heap.size + 1),6,none⟩ = some (.int .u32 0):=HX2.out.cell 6;have hx7:w2.cell? ⟨(w.heap.size + 1),7,none⟩ = some (.int .i64 0):=HX2.out.cell 7;have hx8:w2.cell? ⟨(w.heap.size + 1),8,none⟩ = some (.int .i64 0):=HX2.out.cell 8;have y0:w2.cell? ⟨w.heap.size,0,none⟩ = some (.string S):=HM2.out.cell 0;have y1:w2.cell? ⟨w.heap.size,1,none⟩ = some (.int .i64 p):=HM2.out.cell 1;have y2:w2.cell? ⟨w.heap.size,2,none⟩ = some (.int .i64 K):=HM2.out.cell 2;have y3:w2.cell? ⟨w.heap.size,3,none⟩ = some (.int .i64 ar):=HM2.out.cell 3;have y4:w2.cell? ⟨w.heap.size,4,none⟩ = some (.int .i64 sz):=HM2.out.cell 4;have y5:w2.cell? ⟨w.heap.size,5,none⟩ = some (.int .u32 su):=HM2.out.cell 5;have y6:w2.cell? ⟨w.heap.size,6,none⟩ = some (.int .i64 2):=HM2.out.cell 6;obtain ⟨W3,hW3⟩:∃ W3,w2.alloc (.cells #[.int .i64 a,.int .i64 b,.int .u32 s] 78) = W3:=⟨_,rfl⟩;have HX3:Hid (Box W3 (w.heap.size + 1) #[.int .i64 0,.string ⟨#[]⟩,.int .i64 0,.int .i64 0,.int .i64 0,.int .i64 0,.int .u32 0,.int .i64 0,.int .i64 0] 41):=(by show Box _ _ _ _;rw [← hW3];exact HX2.out.alloc _);have HM3:Hid (Box W3 w.heap.size #[.string S,.int .i64 p,.int .i64 K,.int .i64 ar,.int .i64 sz,.int .u32 su,.int .i64 2] 39):=(by show Box _ _ _ _;rw [← hW3];exact HM2.out.alloc _);have HD3:Hid (Box W3 w2.heap.size #[.int .i64 a,.int .i64 b,.int .u32 s] 78):=(by show Box _ _ _ _;rw [← hW3];exact heap_alloc_new w2 _);have HB3:Hid (Below w.heap.size w W3):=(by show Below _ _ _;rw [← hW3];exact HB2.out.alloc HB2.out.size _);have hx0:W3.cell? ⟨(w.heap.size + 1),0,none⟩ = some (.int .i64 0):=HX3.out.cell 0;have hx1:W3.cell? ⟨(w.heap.size + 1),1,none⟩ = some (.string ⟨#[]⟩):=HX3.out.cell 1;have hx2:W3.cell? ⟨(w.heap.size + 1),2,none⟩ = some (.int .i64 0):=HX3.out.cell 2;have hx3:W3.cell? ⟨(w.heap.size + 1),3,none⟩ = some (.int .i64 0):=HX3.out.cell 3;have hx4:W3.cell? ⟨(w.heap.size + 1),4,none⟩ = some (.int .i64 0):=HX3.out.cell 4;have hx5:W3.cell? ⟨(w.heap.size + 1),5,none⟩ = some (.int .i64 0):=HX3.out.cell 5;have hx6:W3.cell? ⟨(w.heap.size + 1),6,none⟩ = some (.int .u32 0):=HX3.out.cell 6;have hx7:W3.cell? ⟨(w.heap.size + 1),7,none⟩ = some (.int .i64 0):=HX3.out.cell 7;have hx8:W3.cell? ⟨(w.heap.size + 1),8,none⟩ = some (.int .i64 0):=HX3.out.cell 8;have hf0:=frozen_of_row W3 (w.heap.size + 1) 0 _ _ HX3.out;have hf1:=frozen_of_row W3 (w.heap.size + 1) 1 _ _ HX3.out;have hf2:=frozen_of_row W3 (w.heap.size + 1) 2 _ _ HX3.out;have hf3:=frozen_of_row W3 (w.heap.size + 1) 3 _ _ HX3.out;have hf4:=frozen_of_row W3 (w.heap.size + 1) 4 _ _ HX3.out;have hf5:=frozen_of_row W3 (w.heap.size + 1) 5 _ _ HX3.out;have hf6:=frozen_of_row W3 (w.heap.size + 1) 6 _ _ HX3.out;have hf7:=frozen_of_row W3 (w.heap.size + 1) 7 _ _ HX3.out;have hf8:=frozen_of_row W3 (w.heap.size + 1) 8 _ _ HX3.out;have hz1:(w.heap.size + 1) < W3.heap.size:=HX3.out.lt;have y0:W3.cell? ⟨w.heap.size,0,none⟩ = some (.string S):=HM3.out.cell 0;have y1:W3.cell? ⟨w.heap.size,1,none⟩ = some (.int .i64 p):=HM3.out.cell 1;have y2:W3.cell? ⟨w.heap.size,2,none⟩ = some (.int .i64 K):=HM3.out.cell 2;have y3:W3.cell? ⟨w.heap.size,3,none⟩ = some (.int .i64 ar):=HM3.out.cell 3;have y4:W3.cell? ⟨w.heap.size,4,none⟩ = some (.int .i64 sz):=HM3.out.cell 4;have y5:W3.cell? ⟨w.heap.size,5,none⟩ = some (.int .u32 su):=HM3.out.cell 5;have y6:W3.cell? ⟨w.heap.size,6,none⟩ = some (.int .i64 2):=HM3.out.cell 6;have yf0:=frozen_of_row W3 w.heap.size 0 _ _ HM3.out;have yf1:=frozen_of_row W3 w.heap.size 1 _ _ HM3.out;have yf2:=frozen_of_row W3 w.heap.size 2 _ _ HM3.out;have yf3:=frozen_of_row W3 w.heap.size 3 _ _ HM3.out;have yf4:=frozen_of_row W3 w.heap.size 4 _ _ HM3.out;have yf5:=frozen_of_row W3 w.heap.size 5 _ _ HM3.out;have yf6:=frozen_of_row W3 w.heap.size 6 _ _ HM3.out;have yz:w.heap.size < W3.heap.size:=HM3.out.lt;have d0:W3.cell? ⟨w2.heap.size,0,none⟩ = some (.int .i64 a):=HD3.out.cell 0;have d1:W3.cell? ⟨w2.heap.size,1,none⟩ = some (.int .i64 b):=HD3.out.cell 1;have d2:W3.cell? ⟨w2.heap.size,2,none⟩ = some (.int .u32 s):=HD3.out.cell 2))
    refine bodyPost_ret (v:=.tuple #[.agg #[.int .i64 0,.string ⟨#[]⟩,.int .i64 0,.int .i64 0,.int .i64 0,.int .i64 0,.int .u32 0,.int .i64 0,.int .i64 0],.int .i64 3]) (by simp [results,Tryz.results47,hx0,hx1,hx2,hx3,hx4,hx5,hx6,hx7,hx8,go_sem]) rfl ⟨rfl,?_⟩
    iterate 9 (refine Below.setCell ?_ ?_ _;rotate_left;first | exact Nat.le_refl _ | exact Nat.le_succ _)
    exact HB3.out
  ·have HG:Hid (recDs2 bs p S K n a b s = recBad (r:Nat)):=by show _ = _;unfold recDs2;rw [hr,if_neg hr0]
   have v1:((r:Int) != 0) = true:=by simpa using hr0
   rw [HG.out]
   clear hA hr HDI hr0
   go_enter Tryz.func47,Tryz.ntmps47
   go_wp2_with fail
   rw [HVV.out]
   go_wp2_with (first
    | (go_at_call 92;refine HEN.out.mono ?_;rintro e w1 ⟨rfl,hbw⟩;have HX1:=Lib.hid (HX0.out.below hbw HX0.out.lt);have HM1:=Lib.hid (HM0.out.below hbw HM0.out.lt);have HB1:=Lib.hid (HB0.out.trans (hbw.mono HB0.out.size));clear hbw;have hx0:w1.cell? ⟨(w.heap.size + 1),0,none⟩ = some (.int .i64 0):=HX1.out.cell 0;have hx1:w1.cell? ⟨(w.heap.size + 1),1,none⟩ = some (.string ⟨#[]⟩):=HX1.out.cell 1;have hx2:w1.cell? ⟨(w.heap.size + 1),2,none⟩ = some (.int .i64 0):=HX1.out.cell 2;have hx3:w1.cell? ⟨(w.heap.size + 1),3,none⟩ = some (.int .i64 0):=HX1.out.cell 3;have hx4:w1.cell? ⟨(w.heap.size + 1),4,none⟩ = some (.int .i64 0):=HX1.out.cell 4;have hx5:w1.cell? ⟨(w.heap.size + 1),5,none⟩ = some (.int .i64 0):=HX1.out.cell 5;have hx6:w1.cell? ⟨(w.heap.size + 1),6,none⟩ = some (.int .u32 0):=HX1.out.cell 6;have hx7:w1.cell? ⟨(w.heap.size + 1),7,none⟩ = some (.int .i64 0):=HX1.out.cell 7;have hx8:w1.cell? ⟨(w.heap.size + 1),8,none⟩ = some (.int .i64 0):=HX1.out.cell 8;have hf0:=frozen_of_row w1 (w.heap.size + 1) 0 _ _ HX1.out;have hf1:=frozen_of_row w1 (w.heap.size + 1) 1 _ _ HX1.out;have hf2:=frozen_of_row w1 (w.heap.size + 1) 2 _ _ HX1.out;have hf3:=frozen_of_row w1 (w.heap.size + 1) 3 _ _ HX1.out;have hf4:=frozen_of_row w1 (w.heap.size + 1) 4 _ _ HX1.out;have hf5:=frozen_of_row w1 (w.heap.size + 1) 5 _ _ HX1.out;have hf6:=frozen_of_row w1 (w.heap.size + 1) 6 _ _ HX1.out;have hf7:=frozen_of_row w1 (w.heap.size + 1) 7 _ _ HX1.out;have hf8:=frozen_of_row w1 (w.heap.size + 1) 8 _ _ HX1.out;have hz1:(w.heap.size + 1) < w1.heap.size:=HX1.out.lt;have y0:w1.cell? ⟨w.heap.size,0,none⟩ = some (.string S):=HM1.out.cell 0;have y1:w1.cell? ⟨w.heap.size,1,none⟩ = some (.int .i64 p):=HM1.out.cell 1;have y2:w1.cell? ⟨w.heap.size,2,none⟩ = some (.int .i64 K):=HM1.out.cell 2;have y3:w1.cell? ⟨w.heap.size,3,none⟩ = some (.int .i64 ar):=HM1.out.cell 3;have y4:w1.cell? ⟨w.heap.size,4,none⟩ = some (.int .i64 sz):=HM1.out.cell 4;have y5:w1.cell? ⟨w.heap.size,5,none⟩ = some (.int .u32 su):=HM1.out.cell 5;have y6:w1.cell? ⟨w.heap.size,6,none⟩ = some (.int .i64 2):=HM1.out.cell 6;have yf0:=frozen_of_row w1 w.heap.size 0 _ _ HM1.out;have yf1:=frozen_of_row w1 w.heap.size 1 _ _ HM1.out;have yf2:=frozen_of_row w1 w.heap.size 2 _ _ HM1.out;have yf3:=frozen_of_row w1 w.heap.size 3 _ _ HM1.out;have yf4:=frozen_of_row w1 w.heap.size 4 _ _ HM1.out;have yf5:=frozen_of_row w1 w.heap.size 5 _ _ HM1.out;have yf6:=frozen_of_row w1 w.heap.size 6 _ _ HM1.out;have yz:w.heap.size < w1.heap.size:=HM1.out.lt)
    | (go_at_call 93;refine (HTK.out w1 HB1.out).mono ?_;rintro e w2 ⟨rfl,hbw⟩;have HX2:=Lib.hid (HX1.out.below hbw HX1.out.lt);have HM2:=Lib.hid (HM1.out.below hbw HM1.out.lt);have HB2:=Lib.hid (HB1.out.trans (hbw.mono HB1.out.size));clear hbw;have hx0:w2.cell? ⟨(w.heap.size + 1),0,none⟩ = some (.int .i64 0):=HX2.out.cell 0;have hx1:w2.cell? ⟨(w.heap.size + 1),1,none⟩ = some (.string ⟨#[]⟩):=HX2.out.cell 1;have hx2:w2.cell? ⟨(w.heap.size + 1),2,none⟩ = some (.int .i64 0):=HX2.out.cell 2;have hx3:w2.cell? ⟨(w.heap.size + 1),3,none⟩ = some (.int .i64 0):=HX2.out.cell 3;have hx4:w2.cell? ⟨(w.heap.size + 1),4,none⟩ = some (.int .i64 0):=HX2.out.cell 4;have hx5:w2.cell? ⟨(w.heap.size + 1),5,none⟩ = some (.int .i64 0):=HX2.out.cell 5;have hx6:w2.cell? ⟨(w.heap.size + 1),6,none⟩ = some (.int .u32 0):=HX2.out.cell 6;have hx7:w2.cell? ⟨(w.heap.size + 1),7,none⟩ = some (.int .i64 0):=HX2.out.cell 7;have hx8:w2.cell? ⟨(w.heap.size + 1),8,none⟩ = some (.int .i64 0):=HX2.out.cell 8;have y0:w2.cell? ⟨w.heap.size,0,none⟩ = some (.string S):=HM2.out.cell 0;have y1:w2.cell? ⟨w.heap.size,1,none⟩ = some (.int .i64 p):=HM2.out.cell 1;have y2:w2.cell? ⟨w.heap.size,2,none⟩ = some (.int .i64 K):=HM2.out.cell 2;have y3:w2.cell? ⟨w.heap.size,3,none⟩ = some (.int .i64 ar):=HM2.out.cell 3;have y4:w2.cell? ⟨w.heap.size,4,none⟩ = some (.int .i64 sz):=HM2.out.cell 4;have y5:w2.cell? ⟨w.heap.size,5,none⟩ = some (.int .u32 su):=HM2.out.cell 5;have y6:w2.cell? ⟨w.heap.size,6,none⟩ = some (.int .i64 2):=HM2.out.cell 6;obtain ⟨W3,hW3⟩:∃ W3,w2.alloc (.cells #[.int .i64 a,.int .i64 b,.int .u32 s] 78) = W3:=⟨_,rfl⟩;have HX3:Hid (Box W3 (w.heap.size + 1) #[.int .i64 0,.string ⟨#[]⟩,.int .i64 0,.int .i64 0,.int .i64 0,.int .i64 0,.int .u32 0,.int .i64 0,.int .i64 0] 41):=(by show Box _ _ _ _;rw [← hW3];exact HX2.out.alloc _);have HM3:Hid (Box W3 w.heap.size #[.string S,.int .i64 p,.int .i64 K,.int .i64 ar,.int .i64 sz,.int .u32 su,.int .i64 2] 39):=(by show Box _ _ _ _;rw [← hW3];exact HM2.out.alloc _);have HD3:Hid (Box W3 w2.heap.size #[.int .i64 a,.int .i64 b,.int .u32 s] 78):=(by show Box _ _ _ _;rw [← hW3];exact heap_alloc_new w2 _);have HB3:Hid (Below w.heap.size w W3):=(by show Below _ _ _;rw [← hW3];exact HB2.out.alloc HB2.out.size _);have hx0:W3.cell? ⟨(w.heap.size + 1),0,none⟩ = some (.int .i64 0):=HX3.out.cell 0;have hx1:W3.cell? ⟨(w.heap.size + 1),1,none⟩ = some (.string ⟨#[]⟩):=HX3.out.cell 1;have hx2:W3.cell? ⟨(w.heap.size + 1),2,none⟩ = some (.int .i64 0):=HX3.out.cell 2;have hx3:W3.cell? ⟨(w.heap.size + 1),3,none⟩ = some (.int .i64 0):=HX3.out.cell 3;have hx4:W3.cell? ⟨(w.heap.size + 1),4,none⟩ = some (.int .i64 0):=HX3.out.cell 4;have hx5:W3.cell? ⟨(w.heap.size + 1),5,none⟩ = some (.int .i64 0):=HX3.out.cell 5;have hx6:W3.cell? ⟨(w.heap.size + 1),6,none⟩ = some (.int .u32 0):=HX3.out.cell 6;have hx7:W3.cell? ⟨(w.heap.size + 1),7,none⟩ = some (.int .i64 0):=HX3.out.cell 7;have hx8:W3.cell? ⟨(w.heap.size + 1),8,none⟩ = some (.int .i64 0):=HX3.out.cell 8;have hf0:=frozen_of_row W3 (w.heap.size + 1) 0 _ _ HX3.out;have hf1:=frozen_of_row W3 (w.heap.size + 1) 1 _ _ HX3.out;have hf2:=frozen_of_row W3 (w.heap.size + 1) 2 _ _ HX3.out;have hf3:=frozen_of_row W3 (w.heap.size + 1) 3 _ _ HX3.out;have hf4:=frozen_of_row W3 (w.heap.size + 1) 4 _ _ HX3.out;have hf5:=frozen_of_row W3 (w.heap.size + 1) 5 _ _ HX3.out;have hf6:=frozen_of_row W3 (w.heap.size + 1) 6 _ _ HX3.out;have hf7:=frozen_of_row W3 (w.heap.size + 1) 7 _ _ HX3.out;have hf8:=frozen_of_row W3 (w.heap.size + 1) 8 _ _ HX3.out;have hz1:(w.heap.size + 1) < W3.heap.size:=HX3.out.lt;have y0:W3.cell? ⟨w.heap.size,0,none⟩ = some (.string S):=HM3.out.cell 0;have y1:W3.cell? ⟨w.heap.size,1,none⟩ = some (.int .i64 p):=HM3.out.cell 1;have y2:W3.cell? ⟨w.heap.size,2,none⟩ = some (.int .i64 K):=HM3.out.cell 2;have y3:W3.cell? ⟨w.heap.size,3,none⟩ = some (.int .i64 ar):=HM3.out.cell 3;have y4:W3.cell? ⟨w.heap.size,4,none⟩ = some (.int .i64 sz):=HM3.out.cell 4;have y5:W3.cell? ⟨w.heap.size,5,none⟩ = some (.int .u32 su):=HM3.out.cell 5;have y6:W3.cell? ⟨w.heap.size,6,none⟩ = some (.int .i64 2):=HM3.out.cell 6;have yf0:=frozen_of_row W3 w.heap.size 0 _ _ HM3.out;have yf1:=frozen_of_row W3 w.heap.size 1 _ _ HM3.out;have yf2:=frozen_of_row W3 w.heap.size 2 _ _ HM3.out;have yf3:=frozen_of_row W3 w.heap.size 3 _ _ HM3.out;have yf4:=frozen_of_row W3 w.heap.size 4 _ _ HM3.out;have yf5:=frozen_of_row W3 w.heap.size 5 _ _ HM3.out;have yf6:=frozen_of_row W3 w.heap.size 6 _ _ HM3.out;have yz:w.heap.size < W3.heap.size:=HM3.out.lt;have d0:W3.cell? ⟨w2.heap.size,0,none⟩ = some (.int .i64 a):=HD3.out.cell 0;have d1:W3.cell? ⟨w2.heap.size,1,none⟩ = some (.int .i64 b):=HD3.out.cell 1;have d2:W3.cell? ⟨w2.heap.size,2,none⟩ = some (.int .u32 s):=HD3.out.cell 2))
   refine bodyPost_ret (v:=.tuple #[.agg #[.int .i64 0,.string ⟨#[]⟩,.int .i64 0,.int .i64 0,.int .i64 0,.int .i64 0,.int .u32 0,.int .i64 0,.int .i64 0],.int .i64 (r:Nat)]) (by simp [results,Tryz.results47,hx0,hx1,hx2,hx3,hx4,hx5,hx6,hx7,hx8,go_sem]) rfl ⟨rfl,?_⟩
   iterate 9 (refine Below.setCell ?_ ?_ _;rotate_left;first | exact Nat.le_refl _ | exact Nat.le_succ _)
   exact HB3.out
 ·have HG:Hid (recDs bs p S K n x = recBad x):=recDs_bad hx
  have v1:(x != 0) = true:=by simpa using hx
  rw [HG.out]
  clear hx he
  go_enter Tryz.func47,Tryz.ntmps47
  go_wp2_with fail
  rw [HVV.out]
  go_wp2_with (go_at_call 92;refine HEN.out.mono ?_;rintro e w1 ⟨rfl,hbw⟩;have HX1:=Lib.hid (HX0.out.below hbw HX0.out.lt);have HM1:=Lib.hid (HM0.out.below hbw HM0.out.lt);have HB1:=Lib.hid (HB0.out.trans (hbw.mono HB0.out.size));clear hbw;have hx0:w1.cell? ⟨(w.heap.size + 1),0,none⟩ = some (.int .i64 0):=HX1.out.cell 0;have hx1:w1.cell? ⟨(w.heap.size + 1),1,none⟩ = some (.string ⟨#[]⟩):=HX1.out.cell 1;have hx2:w1.cell? ⟨(w.heap.size + 1),2,none⟩ = some (.int .i64 0):=HX1.out.cell 2;have hx3:w1.cell? ⟨(w.heap.size + 1),3,none⟩ = some (.int .i64 0):=HX1.out.cell 3;have hx4:w1.cell? ⟨(w.heap.size + 1),4,none⟩ = some (.int .i64 0):=HX1.out.cell 4;have hx5:w1.cell? ⟨(w.heap.size + 1),5,none⟩ = some (.int .i64 0):=HX1.out.cell 5;have hx6:w1.cell? ⟨(w.heap.size + 1),6,none⟩ = some (.int .u32 0):=HX1.out.cell 6;have hx7:w1.cell? ⟨(w.heap.size + 1),7,none⟩ = some (.int .i64 0):=HX1.out.cell 7;have hx8:w1.cell? ⟨(w.heap.size + 1),8,none⟩ = some (.int .i64 0):=HX1.out.cell 8;have hf0:=frozen_of_row w1 (w.heap.size + 1) 0 _ _ HX1.out;have hf1:=frozen_of_row w1 (w.heap.size + 1) 1 _ _ HX1.out;have hf2:=frozen_of_row w1 (w.heap.size + 1) 2 _ _ HX1.out;have hf3:=frozen_of_row w1 (w.heap.size + 1) 3 _ _ HX1.out;have hf4:=frozen_of_row w1 (w.heap.size + 1) 4 _ _ HX1.out;have hf5:=frozen_of_row w1 (w.heap.size + 1) 5 _ _ HX1.out;have hf6:=frozen_of_row w1 (w.heap.size + 1) 6 _ _ HX1.out;have hf7:=frozen_of_row w1 (w.heap.size + 1) 7 _ _ HX1.out;have hf8:=frozen_of_row w1 (w.heap.size + 1) 8 _ _ HX1.out;have hz1:(w.heap.size + 1) < w1.heap.size:=HX1.out.lt;have y0:w1.cell? ⟨w.heap.size,0,none⟩ = some (.string S):=HM1.out.cell 0;have y1:w1.cell? ⟨w.heap.size,1,none⟩ = some (.int .i64 p):=HM1.out.cell 1;have y2:w1.cell? ⟨w.heap.size,2,none⟩ = some (.int .i64 K):=HM1.out.cell 2;have y3:w1.cell? ⟨w.heap.size,3,none⟩ = some (.int .i64 ar):=HM1.out.cell 3;have y4:w1.cell? ⟨w.heap.size,4,none⟩ = some (.int .i64 sz):=HM1.out.cell 4;have y5:w1.cell? ⟨w.heap.size,5,none⟩ = some (.int .u32 su):=HM1.out.cell 5;have y6:w1.cell? ⟨w.heap.size,6,none⟩ = some (.int .i64 2):=HM1.out.cell 6;have yf0:=frozen_of_row w1 w.heap.size 0 _ _ HM1.out;have yf1:=frozen_of_row w1 w.heap.size 1 _ _ HM1.out;have yf2:=frozen_of_row w1 w.heap.size 2 _ _ HM1.out;have yf3:=frozen_of_row w1 w.heap.size 3 _ _ HM1.out;have yf4:=frozen_of_row w1 w.heap.size 4 _ _ HM1.out;have yf5:=frozen_of_row w1 w.heap.size 5 _ _ HM1.out;have yf6:=frozen_of_row w1 w.heap.size 6 _ _ HM1.out;have yz:w.heap.size < w1.heap.size:=HM1.out.lt)
  refine bodyPost_ret (v:=.tuple #[.agg #[.int .i64 0,.string ⟨#[]⟩,.int .i64 0,.int .i64 0,.int .i64 0,.int .i64 0,.int .u32 0,.int .i64 0,.int .i64 0],.int .i64 x]) (by simp [results,Tryz.results47,hx0,hx1,hx2,hx3,hx4,hx5,hx6,hx7,hx8,go_sem]) rfl ⟨rfl,?_⟩
  iterate 9 (refine Below.setCell ?_ ?_ _;rotate_left;first | exact Nat.le_refl _ | exact Nat.le_succ _)
  exact HB1.out
set_option maxRecDepth 100000 in
set_option maxHeartbeats 2000000 in
theorem recTake_any (tg:Nat) (A:Option Addr) (l c:Nat) (bs:List UInt8) (p:Int) (w:World) (hT:Table w tg) (hW:Wid w) (hl:bs.length = l) (hm:l ≤ 1000000) (hlc:l ≤ c) (p0:-9223372036854775808 ≤ p) (p1:p ≤ 9223372036854775807) (hb:Bytes w w.heap.size A bs) :
  Calls Tryz.prog 16 #[.pointer (some ⟨tg,0,none⟩),.slice A l c,.int .i64 p] w fun e w' => e = .returned (recV bs p)∧Below w.heap.size w w':=by
 have HX0:Hid (Box (w.alloc (.cells #[.int .i64 0,.string ⟨#[]⟩,.int .i64 0,.int .i64 0,.int .i64 0,.int .i64 0,.int .u32 0,.int .i64 0,.int .i64 0] 41)) w.heap.size #[.int .i64 0,.string ⟨#[]⟩,.int .i64 0,.int .i64 0,.int .i64 0,.int .i64 0,.int .u32 0,.int .i64 0,.int .i64 0] 41):=heap_alloc_new w _
 have HB0:=Lib.hid ((Below.refl w.heap.size w).alloc (Nat.le_refl _) (.cells #[.int .i64 0,.string ⟨#[]⟩,.int .i64 0,.int .i64 0,.int .i64 0,.int .i64 0,.int .u32 0,.int .i64 0,.int .i64 0] 41))
 have HZ0:Hid ((w.alloc (.cells #[.int .i64 0,.string ⟨#[]⟩,.int .i64 0,.int .i64 0,.int .i64 0,.int .i64 0,.int .u32 0,.int .i64 0,.int .i64 0] 41)).heap.size = w.heap.size + 1):=by show _ = _;simp
 have htl:=hT.lt
 have hw0:=hW.1
 have HL:=Lib.hid hl
 have hb0:=hb.below HB0.out (Nat.le_refl _)
 have hT0:=hT.alloc (.cells #[.int .i64 0,.string ⟨#[]⟩,.int .i64 0,.int .i64 0,.int .i64 0,.int .i64 0,.int .u32 0,.int .i64 0,.int .i64 0] 41)
 have HIS:=Lib.hid (stIs_any A l c bs w.heap.size p (w.alloc (.cells #[.int .i64 0,.string ⟨#[]⟩,.int .i64 0,.int .i64 0,.int .i64 0,.int .i64 0,.int .u32 0,.int .i64 0,.int .i64 0] 41)) hl hm hlc p0 p1 hb0)
 cases hi:isB tombBytes bs p with
 | true =>
  rw [hi] at HIS
  obtain ⟨S,K,E,he⟩:=stAns_form bs p
  have HGN:=Lib.hid (rcGone_any tg A l c bs p (w.alloc (.cells #[.int .i64 0,.string ⟨#[]⟩,.int .i64 0,.int .i64 0,.int .i64 0,.int .i64 0,.int .u32 0,.int .i64 0,.int .i64 0] 41)) S K E hT0 hl hm hlc (hb0.more HB0.out.size) he)
  rw [recV_st hi he]
  obtain ⟨k,S2,a,b,d,q,u,f,g,x,hf⟩:=recGone_form p S K E
  rw [hf] at HGN ⊢
  clear hT hb hl hb0 hT0 he hf hi hW
  go_enter Tryz.func16,Tryz.ntmps16
  go_wp2_with (first
   | (go_at_call 44;refine HIS.out.mono ?_;rintro e w' ⟨rfl,rfl⟩)
   | (go_at_call 45;refine HGN.out.mono ?_;rintro e w1 ⟨rfl,hbw⟩;have HX1:=Lib.hid (HX0.out.below hbw HX0.out.lt);have HB1:=Lib.hid (HB0.out.trans (hbw.mono HB0.out.size));clear hbw;have hx0:w1.cell? ⟨w.heap.size,0,none⟩ = some (.int .i64 0):=HX1.out.cell 0;have hx1:w1.cell? ⟨w.heap.size,1,none⟩ = some (.string ⟨#[]⟩):=HX1.out.cell 1;have hx2:w1.cell? ⟨w.heap.size,2,none⟩ = some (.int .i64 0):=HX1.out.cell 2;have hx3:w1.cell? ⟨w.heap.size,3,none⟩ = some (.int .i64 0):=HX1.out.cell 3;have hx4:w1.cell? ⟨w.heap.size,4,none⟩ = some (.int .i64 0):=HX1.out.cell 4;have hx5:w1.cell? ⟨w.heap.size,5,none⟩ = some (.int .i64 0):=HX1.out.cell 5;have hx6:w1.cell? ⟨w.heap.size,6,none⟩ = some (.int .u32 0):=HX1.out.cell 6;have hx7:w1.cell? ⟨w.heap.size,7,none⟩ = some (.int .i64 0):=HX1.out.cell 7;have hx8:w1.cell? ⟨w.heap.size,8,none⟩ = some (.int .i64 0):=HX1.out.cell 8;have hf0:=frozen_of_row w1 w.heap.size 0 _ _ HX1.out;have hf1:=frozen_of_row w1 w.heap.size 1 _ _ HX1.out;have hf2:=frozen_of_row w1 w.heap.size 2 _ _ HX1.out;have hf3:=frozen_of_row w1 w.heap.size 3 _ _ HX1.out;have hf4:=frozen_of_row w1 w.heap.size 4 _ _ HX1.out;have hf5:=frozen_of_row w1 w.heap.size 5 _ _ HX1.out;have hf6:=frozen_of_row w1 w.heap.size 6 _ _ HX1.out;have hf7:=frozen_of_row w1 w.heap.size 7 _ _ HX1.out;have hf8:=frozen_of_row w1 w.heap.size 8 _ _ HX1.out;have hz1:w.heap.size < w1.heap.size:=HX1.out.lt))
  refine bodyPost_ret (v:=.tuple #[.agg #[.int .i64 k,.string S2,.int .i64 a,.int .i64 b,.int .i64 d,.int .i64 q,.int .u32 u,.int .i64 f,.int .i64 g],.int .i64 x]) (by simp [results,Tryz.results16,hx0,hx1,hx2,hx3,hx4,hx5,hx6,hx7,hx8,go_sem]) rfl ⟨rfl,?_⟩
  iterate 9 (refine Below.setCell ?_ ?_ _;rotate_left;first | exact Nat.le_refl _ | exact Nat.le_succ _)
  exact HB1.out
 | false =>
  rw [hi] at HIS
  obtain ⟨m,S,sz,ar,su,K,E,he⟩:=lcAns_form bs p
  have HLC:=Lib.hid (lcTake_all tg A l c bs w.heap.size p (w.alloc (.cells #[.int .i64 0,.string ⟨#[]⟩,.int .i64 0,.int .i64 0,.int .i64 0,.int .i64 0,.int .u32 0,.int .i64 0,.int .i64 0] 41)) hT0 (hW.below HB0.out hw0 (by have:=HB0.out.size;omega)) hl (by omega) hlc hb0 HB0.out.size)
  rw [he] at HLC
  rw [recV_lc hi he]
  by_cases hE:E = 0
  ·subst hE
   obtain ⟨hd,k0,k1,u0,u1⟩:=lcAns_ok he
   obtain ⟨h3,r0,r1,s0,s1,-⟩:=hdB_three hd
   rw [HL.out] at k1
   by_cases h2:m = 2
   ·subst h2
    obtain ⟨n,x,hEV⟩:=endV_form bs K
    have HSR:=Lib.hid (fun W (hW:Below w.heap.size w W) => rcStr_any tg A l c bs p W S K ar sz su n x (hT.below hW htl) hl hm hlc ((hb.below hW (Nat.le_refl _)).more hW.size) ⟨k0,k1⟩ hEV)
    rw [recLc2_ds hEV]
    obtain ⟨k,S2,a,b,d,q,u,f,g,x2,hf⟩:=recDs_form bs p S K n x
    rw [hf] at HSR ⊢
    clear hT hb hl hb0 hT0 he hf hi hW hEV hd h3
    go_enter Tryz.func16,Tryz.ntmps16
    go_wp2_with (first
     | (go_at_call 44;refine HIS.out.mono ?_;rintro e w' ⟨rfl,rfl⟩)
     | (go_at_call 46;refine HLC.out.mono ?_;rintro e w1 ⟨rfl,hbw⟩;have HX1:=Lib.hid (HX0.out.below hbw HX0.out.lt);have HB1:=Lib.hid (HB0.out.trans (hbw.mono HB0.out.size));clear hbw;obtain ⟨W2,hW2⟩:∃ W2,w1.alloc (.cells #[.int .i64 2,.string S,.int .i64 sz,.int .i64 ar,.int .u32 su] 71) = W2:=⟨_,rfl⟩;have HX2:Hid (Box W2 w.heap.size #[.int .i64 0,.string ⟨#[]⟩,.int .i64 0,.int .i64 0,.int .i64 0,.int .i64 0,.int .u32 0,.int .i64 0,.int .i64 0] 41):=(by show Box _ _ _ _;rw [← hW2];exact HX1.out.alloc _);have HH2:Hid (Box W2 w1.heap.size #[.int .i64 2,.string S,.int .i64 sz,.int .i64 ar,.int .u32 su] 71):=(by show Box _ _ _ _;rw [← hW2];exact heap_alloc_new w1 _);have HB2:Hid (Below w.heap.size w W2):=(by show Below _ _ _;rw [← hW2];exact HB1.out.alloc HB1.out.size _);have hx0:W2.cell? ⟨w.heap.size,0,none⟩ = some (.int .i64 0):=HX2.out.cell 0;have hx1:W2.cell? ⟨w.heap.size,1,none⟩ = some (.string ⟨#[]⟩):=HX2.out.cell 1;have hx2:W2.cell? ⟨w.heap.size,2,none⟩ = some (.int .i64 0):=HX2.out.cell 2;have hx3:W2.cell? ⟨w.heap.size,3,none⟩ = some (.int .i64 0):=HX2.out.cell 3;have hx4:W2.cell? ⟨w.heap.size,4,none⟩ = some (.int .i64 0):=HX2.out.cell 4;have hx5:W2.cell? ⟨w.heap.size,5,none⟩ = some (.int .i64 0):=HX2.out.cell 5;have hx6:W2.cell? ⟨w.heap.size,6,none⟩ = some (.int .u32 0):=HX2.out.cell 6;have hx7:W2.cell? ⟨w.heap.size,7,none⟩ = some (.int .i64 0):=HX2.out.cell 7;have hx8:W2.cell? ⟨w.heap.size,8,none⟩ = some (.int .i64 0):=HX2.out.cell 8;have hf0:=frozen_of_row W2 w.heap.size 0 _ _ HX2.out;have hf1:=frozen_of_row W2 w.heap.size 1 _ _ HX2.out;have hf2:=frozen_of_row W2 w.heap.size 2 _ _ HX2.out;have hf3:=frozen_of_row W2 w.heap.size 3 _ _ HX2.out;have hf4:=frozen_of_row W2 w.heap.size 4 _ _ HX2.out;have hf5:=frozen_of_row W2 w.heap.size 5 _ _ HX2.out;have hf6:=frozen_of_row W2 w.heap.size 6 _ _ HX2.out;have hf7:=frozen_of_row W2 w.heap.size 7 _ _ HX2.out;have hf8:=frozen_of_row W2 w.heap.size 8 _ _ HX2.out;have hz1:w.heap.size < W2.heap.size:=HX2.out.lt;have g0:W2.cell? ⟨w1.heap.size,0,none⟩ = some (.int .i64 2):=HH2.out.cell 0;have g1:W2.cell? ⟨w1.heap.size,1,none⟩ = some (.string S):=HH2.out.cell 1;have g2:W2.cell? ⟨w1.heap.size,2,none⟩ = some (.int .i64 sz):=HH2.out.cell 2;have g3:W2.cell? ⟨w1.heap.size,3,none⟩ = some (.int .i64 ar):=HH2.out.cell 3;have g4:W2.cell? ⟨w1.heap.size,4,none⟩ = some (.int .u32 su):=HH2.out.cell 4;obtain ⟨W3,hW3⟩:∃ W3,W2.alloc (.cells #[.string S,.int .i64 p,.int .i64 K,.int .i64 ar,.int .i64 sz,.int .u32 su,.int .i64 2] 39) = W3:=⟨_,rfl⟩;have HX3:Hid (Box W3 w.heap.size #[.int .i64 0,.string ⟨#[]⟩,.int .i64 0,.int .i64 0,.int .i64 0,.int .i64 0,.int .u32 0,.int .i64 0,.int .i64 0] 41):=(by show Box _ _ _ _;rw [← hW3];exact HX2.out.alloc _);have HH3:Hid (Box W3 w1.heap.size #[.int .i64 2,.string S,.int .i64 sz,.int .i64 ar,.int .u32 su] 71):=(by show Box _ _ _ _;rw [← hW3];exact HH2.out.alloc _);have HM3:Hid (Box W3 W2.heap.size #[.string S,.int .i64 p,.int .i64 K,.int .i64 ar,.int .i64 sz,.int .u32 su,.int .i64 2] 39):=(by show Box _ _ _ _;rw [← hW3];exact heap_alloc_new W2 _);have HB3:Hid (Below w.heap.size w W3):=(by show Below _ _ _;rw [← hW3];exact HB2.out.alloc HB2.out.size _);have hx0:W3.cell? ⟨w.heap.size,0,none⟩ = some (.int .i64 0):=HX3.out.cell 0;have hx1:W3.cell? ⟨w.heap.size,1,none⟩ = some (.string ⟨#[]⟩):=HX3.out.cell 1;have hx2:W3.cell? ⟨w.heap.size,2,none⟩ = some (.int .i64 0):=HX3.out.cell 2;have hx3:W3.cell? ⟨w.heap.size,3,none⟩ = some (.int .i64 0):=HX3.out.cell 3;have hx4:W3.cell? ⟨w.heap.size,4,none⟩ = some (.int .i64 0):=HX3.out.cell 4;have hx5:W3.cell? ⟨w.heap.size,5,none⟩ = some (.int .i64 0):=HX3.out.cell 5;have hx6:W3.cell? ⟨w.heap.size,6,none⟩ = some (.int .u32 0):=HX3.out.cell 6;have hx7:W3.cell? ⟨w.heap.size,7,none⟩ = some (.int .i64 0):=HX3.out.cell 7;have hx8:W3.cell? ⟨w.heap.size,8,none⟩ = some (.int .i64 0):=HX3.out.cell 8;have hf0:=frozen_of_row W3 w.heap.size 0 _ _ HX3.out;have hf1:=frozen_of_row W3 w.heap.size 1 _ _ HX3.out;have hf2:=frozen_of_row W3 w.heap.size 2 _ _ HX3.out;have hf3:=frozen_of_row W3 w.heap.size 3 _ _ HX3.out;have hf4:=frozen_of_row W3 w.heap.size 4 _ _ HX3.out;have hf5:=frozen_of_row W3 w.heap.size 5 _ _ HX3.out;have hf6:=frozen_of_row W3 w.heap.size 6 _ _ HX3.out;have hf7:=frozen_of_row W3 w.heap.size 7 _ _ HX3.out;have hf8:=frozen_of_row W3 w.heap.size 8 _ _ HX3.out;have hz1:w.heap.size < W3.heap.size:=HX3.out.lt;have g0:W3.cell? ⟨w1.heap.size,0,none⟩ = some (.int .i64 2):=HH3.out.cell 0;have g1:W3.cell? ⟨w1.heap.size,1,none⟩ = some (.string S):=HH3.out.cell 1;have g2:W3.cell? ⟨w1.heap.size,2,none⟩ = some (.int .i64 sz):=HH3.out.cell 2;have g3:W3.cell? ⟨w1.heap.size,3,none⟩ = some (.int .i64 ar):=HH3.out.cell 3;have g4:W3.cell? ⟨w1.heap.size,4,none⟩ = some (.int .u32 su):=HH3.out.cell 4;have y0:W3.cell? ⟨W2.heap.size,0,none⟩ = some (.string S):=HM3.out.cell 0;have y1:W3.cell? ⟨W2.heap.size,1,none⟩ = some (.int .i64 p):=HM3.out.cell 1;have y2:W3.cell? ⟨W2.heap.size,2,none⟩ = some (.int .i64 K):=HM3.out.cell 2;have y3:W3.cell? ⟨W2.heap.size,3,none⟩ = some (.int .i64 ar):=HM3.out.cell 3;have y4:W3.cell? ⟨W2.heap.size,4,none⟩ = some (.int .i64 sz):=HM3.out.cell 4;have y5:W3.cell? ⟨W2.heap.size,5,none⟩ = some (.int .u32 su):=HM3.out.cell 5;have y6:W3.cell? ⟨W2.heap.size,6,none⟩ = some (.int .i64 2):=HM3.out.cell 6)
     | (go_at_call 47;refine (HSR.out W3 HB3.out).mono ?_;rintro e w4 ⟨rfl,hbw⟩;have HX4:=Lib.hid (HX3.out.below hbw HX3.out.lt);have HB4:=Lib.hid (HB3.out.trans (hbw.mono HB3.out.size));clear hbw;have hx0:w4.cell? ⟨w.heap.size,0,none⟩ = some (.int .i64 0):=HX4.out.cell 0;have hx1:w4.cell? ⟨w.heap.size,1,none⟩ = some (.string ⟨#[]⟩):=HX4.out.cell 1;have hx2:w4.cell? ⟨w.heap.size,2,none⟩ = some (.int .i64 0):=HX4.out.cell 2;have hx3:w4.cell? ⟨w.heap.size,3,none⟩ = some (.int .i64 0):=HX4.out.cell 3;have hx4:w4.cell? ⟨w.heap.size,4,none⟩ = some (.int .i64 0):=HX4.out.cell 4;have hx5:w4.cell? ⟨w.heap.size,5,none⟩ = some (.int .i64 0):=HX4.out.cell 5;have hx6:w4.cell? ⟨w.heap.size,6,none⟩ = some (.int .u32 0):=HX4.out.cell 6;have hx7:w4.cell? ⟨w.heap.size,7,none⟩ = some (.int .i64 0):=HX4.out.cell 7;have hx8:w4.cell? ⟨w.heap.size,8,none⟩ = some (.int .i64 0):=HX4.out.cell 8;have hf0:=frozen_of_row w4 w.heap.size 0 _ _ HX4.out;have hf1:=frozen_of_row w4 w.heap.size 1 _ _ HX4.out;have hf2:=frozen_of_row w4 w.heap.size 2 _ _ HX4.out;have hf3:=frozen_of_row w4 w.heap.size 3 _ _ HX4.out;have hf4:=frozen_of_row w4 w.heap.size 4 _ _ HX4.out;have hf5:=frozen_of_row w4 w.heap.size 5 _ _ HX4.out;have hf6:=frozen_of_row w4 w.heap.size 6 _ _ HX4.out;have hf7:=frozen_of_row w4 w.heap.size 7 _ _ HX4.out;have hf8:=frozen_of_row w4 w.heap.size 8 _ _ HX4.out;have hz1:w.heap.size < w4.heap.size:=HX4.out.lt))
    refine bodyPost_ret (v:=.tuple #[.agg #[.int .i64 k,.string S2,.int .i64 a,.int .i64 b,.int .i64 d,.int .i64 q,.int .u32 u,.int .i64 f,.int .i64 g],.int .i64 x2]) (by simp [results,Tryz.results16,hx0,hx1,hx2,hx3,hx4,hx5,hx6,hx7,hx8,go_sem]) rfl ⟨rfl,?_⟩
    iterate 9 (refine Below.setCell ?_ ?_ _;rotate_left;first | exact Nat.le_refl _ | exact Nat.le_succ _)
    exact HB4.out
   ·have v2:(m == 2) = false:=by simpa using h2
    have HWI:=Lib.hid (fun W => rcWithin_any A l c S p K ar sz su m W (by omega) k0 (by omega))
    by_cases h4:(l:Int) < K + ar
    ·rw [recLc2_end h2 (by rw [HL.out];exact h4)]
     rw [show decide (ar ≤ (l:Int) - K) = false from decide_eq_false (by omega)] at HWI
     clear hT hb hl hb0 hT0 he hi hW hd h3 h2 h4
     go_enter Tryz.func16,Tryz.ntmps16
     go_wp2_with (first
      | (go_at_call 44;refine HIS.out.mono ?_;rintro e w' ⟨rfl,rfl⟩)
      | (go_at_call 46;refine HLC.out.mono ?_;rintro e w1 ⟨rfl,hbw⟩;have HX1:=Lib.hid (HX0.out.below hbw HX0.out.lt);have HB1:=Lib.hid (HB0.out.trans (hbw.mono HB0.out.size));clear hbw;obtain ⟨W2,hW2⟩:∃ W2,w1.alloc (.cells #[.int .i64 m,.string S,.int .i64 sz,.int .i64 ar,.int .u32 su] 71) = W2:=⟨_,rfl⟩;have HX2:Hid (Box W2 w.heap.size #[.int .i64 0,.string ⟨#[]⟩,.int .i64 0,.int .i64 0,.int .i64 0,.int .i64 0,.int .u32 0,.int .i64 0,.int .i64 0] 41):=(by show Box _ _ _ _;rw [← hW2];exact HX1.out.alloc _);have HH2:Hid (Box W2 w1.heap.size #[.int .i64 m,.string S,.int .i64 sz,.int .i64 ar,.int .u32 su] 71):=(by show Box _ _ _ _;rw [← hW2];exact heap_alloc_new w1 _);have HB2:Hid (Below w.heap.size w W2):=(by show Below _ _ _;rw [← hW2];exact HB1.out.alloc HB1.out.size _);have hx0:W2.cell? ⟨w.heap.size,0,none⟩ = some (.int .i64 0):=HX2.out.cell 0;have hx1:W2.cell? ⟨w.heap.size,1,none⟩ = some (.string ⟨#[]⟩):=HX2.out.cell 1;have hx2:W2.cell? ⟨w.heap.size,2,none⟩ = some (.int .i64 0):=HX2.out.cell 2;have hx3:W2.cell? ⟨w.heap.size,3,none⟩ = some (.int .i64 0):=HX2.out.cell 3;have hx4:W2.cell? ⟨w.heap.size,4,none⟩ = some (.int .i64 0):=HX2.out.cell 4;have hx5:W2.cell? ⟨w.heap.size,5,none⟩ = some (.int .i64 0):=HX2.out.cell 5;have hx6:W2.cell? ⟨w.heap.size,6,none⟩ = some (.int .u32 0):=HX2.out.cell 6;have hx7:W2.cell? ⟨w.heap.size,7,none⟩ = some (.int .i64 0):=HX2.out.cell 7;have hx8:W2.cell? ⟨w.heap.size,8,none⟩ = some (.int .i64 0):=HX2.out.cell 8;have hf0:=frozen_of_row W2 w.heap.size 0 _ _ HX2.out;have hf1:=frozen_of_row W2 w.heap.size 1 _ _ HX2.out;have hf2:=frozen_of_row W2 w.heap.size 2 _ _ HX2.out;have hf3:=frozen_of_row W2 w.heap.size 3 _ _ HX2.out;have hf4:=frozen_of_row W2 w.heap.size 4 _ _ HX2.out;have hf5:=frozen_of_row W2 w.heap.size 5 _ _ HX2.out;have hf6:=frozen_of_row W2 w.heap.size 6 _ _ HX2.out;have hf7:=frozen_of_row W2 w.heap.size 7 _ _ HX2.out;have hf8:=frozen_of_row W2 w.heap.size 8 _ _ HX2.out;have hz1:w.heap.size < W2.heap.size:=HX2.out.lt;have g0:W2.cell? ⟨w1.heap.size,0,none⟩ = some (.int .i64 m):=HH2.out.cell 0;have g1:W2.cell? ⟨w1.heap.size,1,none⟩ = some (.string S):=HH2.out.cell 1;have g2:W2.cell? ⟨w1.heap.size,2,none⟩ = some (.int .i64 sz):=HH2.out.cell 2;have g3:W2.cell? ⟨w1.heap.size,3,none⟩ = some (.int .i64 ar):=HH2.out.cell 3;have g4:W2.cell? ⟨w1.heap.size,4,none⟩ = some (.int .u32 su):=HH2.out.cell 4;obtain ⟨W3,hW3⟩:∃ W3,W2.alloc (.cells #[.string S,.int .i64 p,.int .i64 K,.int .i64 ar,.int .i64 sz,.int .u32 su,.int .i64 m] 39) = W3:=⟨_,rfl⟩;have HX3:Hid (Box W3 w.heap.size #[.int .i64 0,.string ⟨#[]⟩,.int .i64 0,.int .i64 0,.int .i64 0,.int .i64 0,.int .u32 0,.int .i64 0,.int .i64 0] 41):=(by show Box _ _ _ _;rw [← hW3];exact HX2.out.alloc _);have HH3:Hid (Box W3 w1.heap.size #[.int .i64 m,.string S,.int .i64 sz,.int .i64 ar,.int .u32 su] 71):=(by show Box _ _ _ _;rw [← hW3];exact HH2.out.alloc _);have HM3:Hid (Box W3 W2.heap.size #[.string S,.int .i64 p,.int .i64 K,.int .i64 ar,.int .i64 sz,.int .u32 su,.int .i64 m] 39):=(by show Box _ _ _ _;rw [← hW3];exact heap_alloc_new W2 _);have HB3:Hid (Below w.heap.size w W3):=(by show Below _ _ _;rw [← hW3];exact HB2.out.alloc HB2.out.size _);have hx0:W3.cell? ⟨w.heap.size,0,none⟩ = some (.int .i64 0):=HX3.out.cell 0;have hx1:W3.cell? ⟨w.heap.size,1,none⟩ = some (.string ⟨#[]⟩):=HX3.out.cell 1;have hx2:W3.cell? ⟨w.heap.size,2,none⟩ = some (.int .i64 0):=HX3.out.cell 2;have hx3:W3.cell? ⟨w.heap.size,3,none⟩ = some (.int .i64 0):=HX3.out.cell 3;have hx4:W3.cell? ⟨w.heap.size,4,none⟩ = some (.int .i64 0):=HX3.out.cell 4;have hx5:W3.cell? ⟨w.heap.size,5,none⟩ = some (.int .i64 0):=HX3.out.cell 5;have hx6:W3.cell? ⟨w.heap.size,6,none⟩ = some (.int .u32 0):=HX3.out.cell 6;have hx7:W3.cell? ⟨w.heap.size,7,none⟩ = some (.int .i64 0):=HX3.out.cell 7;have hx8:W3.cell? ⟨w.heap.size,8,none⟩ = some (.int .i64 0):=HX3.out.cell 8;have hf0:=frozen_of_row W3 w.heap.size 0 _ _ HX3.out;have hf1:=frozen_of_row W3 w.heap.size 1 _ _ HX3.out;have hf2:=frozen_of_row W3 w.heap.size 2 _ _ HX3.out;have hf3:=frozen_of_row W3 w.heap.size 3 _ _ HX3.out;have hf4:=frozen_of_row W3 w.heap.size 4 _ _ HX3.out;have hf5:=frozen_of_row W3 w.heap.size 5 _ _ HX3.out;have hf6:=frozen_of_row W3 w.heap.size 6 _ _ HX3.out;have hf7:=frozen_of_row W3 w.heap.size 7 _ _ HX3.out;have hf8:=frozen_of_row W3 w.heap.size 8 _ _ HX3.out;have hz1:w.heap.size < W3.heap.size:=HX3.out.lt;have g0:W3.cell? ⟨w1.heap.size,0,none⟩ = some (.int .i64 m):=HH3.out.cell 0;have g1:W3.cell? ⟨w1.heap.size,1,none⟩ = some (.string S):=HH3.out.cell 1;have g2:W3.cell? ⟨w1.heap.size,2,none⟩ = some (.int .i64 sz):=HH3.out.cell 2;have g3:W3.cell? ⟨w1.heap.size,3,none⟩ = some (.int .i64 ar):=HH3.out.cell 3;have g4:W3.cell? ⟨w1.heap.size,4,none⟩ = some (.int .u32 su):=HH3.out.cell 4;have y0:W3.cell? ⟨W2.heap.size,0,none⟩ = some (.string S):=HM3.out.cell 0;have y1:W3.cell? ⟨W2.heap.size,1,none⟩ = some (.int .i64 p):=HM3.out.cell 1;have y2:W3.cell? ⟨W2.heap.size,2,none⟩ = some (.int .i64 K):=HM3.out.cell 2;have y3:W3.cell? ⟨W2.heap.size,3,none⟩ = some (.int .i64 ar):=HM3.out.cell 3;have y4:W3.cell? ⟨W2.heap.size,4,none⟩ = some (.int .i64 sz):=HM3.out.cell 4;have y5:W3.cell? ⟨W2.heap.size,5,none⟩ = some (.int .u32 su):=HM3.out.cell 5;have y6:W3.cell? ⟨W2.heap.size,6,none⟩ = some (.int .i64 m):=HM3.out.cell 6)
      | (go_at_call 48;refine (HWI.out W3).mono ?_;rintro e w4 ⟨rfl,hbw⟩;have HX4:=Lib.hid (HX3.out.below hbw HX3.out.lt);have HH4:=Lib.hid (HH3.out.below hbw HH3.out.lt);have HM4:=Lib.hid (HM3.out.below hbw HM3.out.lt);have HB4:=Lib.hid (HB3.out.trans (hbw.mono HB3.out.size));clear hbw;have hx0:w4.cell? ⟨w.heap.size,0,none⟩ = some (.int .i64 0):=HX4.out.cell 0;have hx1:w4.cell? ⟨w.heap.size,1,none⟩ = some (.string ⟨#[]⟩):=HX4.out.cell 1;have hx2:w4.cell? ⟨w.heap.size,2,none⟩ = some (.int .i64 0):=HX4.out.cell 2;have hx3:w4.cell? ⟨w.heap.size,3,none⟩ = some (.int .i64 0):=HX4.out.cell 3;have hx4:w4.cell? ⟨w.heap.size,4,none⟩ = some (.int .i64 0):=HX4.out.cell 4;have hx5:w4.cell? ⟨w.heap.size,5,none⟩ = some (.int .i64 0):=HX4.out.cell 5;have hx6:w4.cell? ⟨w.heap.size,6,none⟩ = some (.int .u32 0):=HX4.out.cell 6;have hx7:w4.cell? ⟨w.heap.size,7,none⟩ = some (.int .i64 0):=HX4.out.cell 7;have hx8:w4.cell? ⟨w.heap.size,8,none⟩ = some (.int .i64 0):=HX4.out.cell 8;have hf0:=frozen_of_row w4 w.heap.size 0 _ _ HX4.out;have hf1:=frozen_of_row w4 w.heap.size 1 _ _ HX4.out;have hf2:=frozen_of_row w4 w.heap.size 2 _ _ HX4.out;have hf3:=frozen_of_row w4 w.heap.size 3 _ _ HX4.out;have hf4:=frozen_of_row w4 w.heap.size 4 _ _ HX4.out;have hf5:=frozen_of_row w4 w.heap.size 5 _ _ HX4.out;have hf6:=frozen_of_row w4 w.heap.size 6 _ _ HX4.out;have hf7:=frozen_of_row w4 w.heap.size 7 _ _ HX4.out;have hf8:=frozen_of_row w4 w.heap.size 8 _ _ HX4.out;have hz1:w.heap.size < w4.heap.size:=HX4.out.lt;have g0:w4.cell? ⟨w1.heap.size,0,none⟩ = some (.int .i64 m):=HH4.out.cell 0;have g1:w4.cell? ⟨w1.heap.size,1,none⟩ = some (.string S):=HH4.out.cell 1;have g2:w4.cell? ⟨w1.heap.size,2,none⟩ = some (.int .i64 sz):=HH4.out.cell 2;have g3:w4.cell? ⟨w1.heap.size,3,none⟩ = some (.int .i64 ar):=HH4.out.cell 3;have g4:w4.cell? ⟨w1.heap.size,4,none⟩ = some (.int .u32 su):=HH4.out.cell 4;have y0:w4.cell? ⟨W2.heap.size,0,none⟩ = some (.string S):=HM4.out.cell 0;have y1:w4.cell? ⟨W2.heap.size,1,none⟩ = some (.int .i64 p):=HM4.out.cell 1;have y2:w4.cell? ⟨W2.heap.size,2,none⟩ = some (.int .i64 K):=HM4.out.cell 2;have y3:w4.cell? ⟨W2.heap.size,3,none⟩ = some (.int .i64 ar):=HM4.out.cell 3;have y4:w4.cell? ⟨W2.heap.size,4,none⟩ = some (.int .i64 sz):=HM4.out.cell 4;have y5:w4.cell? ⟨W2.heap.size,5,none⟩ = some (.int .u32 su):=HM4.out.cell 5;have y6:w4.cell? ⟨W2.heap.size,6,none⟩ = some (.int .i64 m):=HM4.out.cell 6))
     refine bodyPost_ret (v:=.tuple #[.agg #[.int .i64 0,.string ⟨#[]⟩,.int .i64 0,.int .i64 0,.int .i64 0,.int .i64 0,.int .u32 0,.int .i64 0,.int .i64 0],.int .i64 2]) (by simp [results,Tryz.results16,hx0,hx1,hx2,hx3,hx4,hx5,hx6,hx7,hx8,go_sem]) rfl ⟨rfl,?_⟩
     iterate 9 (refine Below.setCell ?_ ?_ _;rotate_left;first | exact Nat.le_refl _ | exact Nat.le_succ _)
     exact HB4.out
    ·rw [recLc2_ok h2 (by rw [HL.out];exact h4)]
     exact recTake_plain tg A l c bs p w m S sz ar su K hT hW hl hm hlc p0 p1 hb hi he h2 h4
  ·rw [recLc2_bad hE]
   have v1:(E != 0) = true:=by simpa using hE
   clear hT hb hl hb0 hT0 he hi hW hE
   go_enter Tryz.func16,Tryz.ntmps16
   go_wp2_with (first
    | (go_at_call 44;refine HIS.out.mono ?_;rintro e w' ⟨rfl,rfl⟩)
    | (go_at_call 46;refine HLC.out.mono ?_;rintro e w1 ⟨rfl,hbw⟩;have HX1:=Lib.hid (HX0.out.below hbw HX0.out.lt);have HB1:=Lib.hid (HB0.out.trans (hbw.mono HB0.out.size));clear hbw;obtain ⟨W2,hW2⟩:∃ W2,w1.alloc (.cells #[.int .i64 m,.string S,.int .i64 sz,.int .i64 ar,.int .u32 su] 71) = W2:=⟨_,rfl⟩;have HX2:Hid (Box W2 w.heap.size #[.int .i64 0,.string ⟨#[]⟩,.int .i64 0,.int .i64 0,.int .i64 0,.int .i64 0,.int .u32 0,.int .i64 0,.int .i64 0] 41):=(by show Box _ _ _ _;rw [← hW2];exact HX1.out.alloc _);have HH2:Hid (Box W2 w1.heap.size #[.int .i64 m,.string S,.int .i64 sz,.int .i64 ar,.int .u32 su] 71):=(by show Box _ _ _ _;rw [← hW2];exact heap_alloc_new w1 _);have HB2:Hid (Below w.heap.size w W2):=(by show Below _ _ _;rw [← hW2];exact HB1.out.alloc HB1.out.size _);have hx0:W2.cell? ⟨w.heap.size,0,none⟩ = some (.int .i64 0):=HX2.out.cell 0;have hx1:W2.cell? ⟨w.heap.size,1,none⟩ = some (.string ⟨#[]⟩):=HX2.out.cell 1;have hx2:W2.cell? ⟨w.heap.size,2,none⟩ = some (.int .i64 0):=HX2.out.cell 2;have hx3:W2.cell? ⟨w.heap.size,3,none⟩ = some (.int .i64 0):=HX2.out.cell 3;have hx4:W2.cell? ⟨w.heap.size,4,none⟩ = some (.int .i64 0):=HX2.out.cell 4;have hx5:W2.cell? ⟨w.heap.size,5,none⟩ = some (.int .i64 0):=HX2.out.cell 5;have hx6:W2.cell? ⟨w.heap.size,6,none⟩ = some (.int .u32 0):=HX2.out.cell 6;have hx7:W2.cell? ⟨w.heap.size,7,none⟩ = some (.int .i64 0):=HX2.out.cell 7;have hx8:W2.cell? ⟨w.heap.size,8,none⟩ = some (.int .i64 0):=HX2.out.cell 8;have hf0:=frozen_of_row W2 w.heap.size 0 _ _ HX2.out;have hf1:=frozen_of_row W2 w.heap.size 1 _ _ HX2.out;have hf2:=frozen_of_row W2 w.heap.size 2 _ _ HX2.out;have hf3:=frozen_of_row W2 w.heap.size 3 _ _ HX2.out;have hf4:=frozen_of_row W2 w.heap.size 4 _ _ HX2.out;have hf5:=frozen_of_row W2 w.heap.size 5 _ _ HX2.out;have hf6:=frozen_of_row W2 w.heap.size 6 _ _ HX2.out;have hf7:=frozen_of_row W2 w.heap.size 7 _ _ HX2.out;have hf8:=frozen_of_row W2 w.heap.size 8 _ _ HX2.out;have hz1:w.heap.size < W2.heap.size:=HX2.out.lt;have g0:W2.cell? ⟨w1.heap.size,0,none⟩ = some (.int .i64 m):=HH2.out.cell 0;have g1:W2.cell? ⟨w1.heap.size,1,none⟩ = some (.string S):=HH2.out.cell 1;have g2:W2.cell? ⟨w1.heap.size,2,none⟩ = some (.int .i64 sz):=HH2.out.cell 2;have g3:W2.cell? ⟨w1.heap.size,3,none⟩ = some (.int .i64 ar):=HH2.out.cell 3;have g4:W2.cell? ⟨w1.heap.size,4,none⟩ = some (.int .u32 su):=HH2.out.cell 4))
   refine bodyPost_ret (v:=.tuple #[.agg #[.int .i64 0,.string ⟨#[]⟩,.int .i64 0,.int .i64 0,.int .i64 0,.int .i64 0,.int .u32 0,.int .i64 0,.int .i64 0],.int .i64 E]) (by simp [results,Tryz.results16,hx0,hx1,hx2,hx3,hx4,hx5,hx6,hx7,hx8,go_sem]) rfl ⟨rfl,?_⟩
   iterate 9 (refine Below.setCell ?_ ?_ _;rotate_left;first | exact Nat.le_refl _ | exact Nat.le_succ _)
   exact HB2.out
def arP (ls:List PcV):List UInt8:=pcsB ls++[0,0]
def strB (s:ByteArray) (ls:List PcV):List UInt8:=headB 2 s.data.toList 0 0 0++arP ls++descB (sumP ls:Nat) ((arP ls).length:Nat) (CrcP.sumN (arP ls):Nat)
theorem descB_len (a b s:Nat):(descB a b s).length = 20:=by
 unfold descB threeB
 rw [sealed_length]
 simp [putN_length,descBytes]
theorem strB_len (s:ByteArray) (ls:List PcV):(strB s ls).length = 22 + s.size + (arP ls).length + 20:=by
 unfold strB
 rw [List.length_append,List.length_append,headB_length,descB_len]
 rfl
theorem hdB_str {s:ByteArray} (hr:rightB s.data.toList = true):hdB ((2:Nat):Int) s.data.toList ((0:Nat):Int) ((0:Nat):Int) ((0:Nat):Int) = true:=by
 unfold hdB
 rw [hr]
 decide
set_option maxRecDepth 100000 in
set_option maxHeartbeats 1000000 in
theorem recStr_no (tg:Nat) (v:Value) (s:ByteArray) (w:World) (hs:s.size ≤ maxLen) (hr:rightB s.data.toList = false) :
  Calls Tryz.prog 14 #[.pointer (some ⟨tg,0,none⟩),.string s,v] w fun e w' => e = .returned (.tuple #[.slice none 0 0,.int .i64 6])∧Below w.heap.size w w':=by
 have HR:=Lib.hid (rightM_any s w hs)
 rw [hr] at HR
 clear hs hr
 go_enter Tryz.func14,Tryz.ntmps14
 go_wp2_with (go_at_call 30;refine HR.out.mono ?_;rintro e w1 ⟨rfl,hb1⟩;have HB1:=Lib.hid hb1;clear hb1)
 exact bodyPost_ret (results_tmp2 rfl _ _ _) rfl ⟨rfl,HB1.out⟩
set_option maxRecDepth 100000 in
set_option maxHeartbeats 2000000 in
theorem recStr_yes (tg:Nat) (A:Option Addr) (l c:Nat) (ls:List PcV) (s:ByteArray) (w:World) (hT:Table w tg) (hW:Wid w) (hs:s.size ≤ maxLen) (hr:rightB s.data.toList = true) (hl:ls.length = l) (hm:l ≤ 1000) (hrw:RowsIn w A ls) (hall:∀ x ∈ ls,x.1.length ≤ 65535) (hsum:sumP ls ≤ 65535) :
  Calls Tryz.prog 14 #[.pointer (some ⟨tg,0,none⟩),.string s,.slice A l c] w fun e w' => ∃ A' c',e = .returned (.tuple #[.slice A' (strB s ls).length c',.int .i64 0])∧OwnY w' w.heap.size (.slice A' (strB s ls).length c') (strB s ls).length (strB s ls)∧Below w.heap.size w w':=by
 have HR:=Lib.hid (rightM_any s w hs)
 rw [hr] at HR
 have htl:=hT.lt
 have hw0:=hW.1
 have h64:=rightB_len' hr
 have hss:s.data.toList.length = s.size:=by rw [Array.length_toList];rfl
 rw [hss] at h64
 have HST:Hid (∀ W,Below w.heap.size w W→_):=fun W hV => stream_any A l c ls W hl hm (hrw.belowS hV) hsum
 obtain ⟨hov,hdb⟩:=ofV_stream hall hsum (by omega)
 have hpl:=pcsB_len ls
 rw [strB_len]
 have hSB:strB s ls = headB 2 s.data.toList 0 0 0++arP ls++descB (sumP ls:Nat) ((arP ls).length:Nat) (CrcP.sumN (arP ls):Nat):=rfl
 rw [hSB]
 change ofV (arP ls) = _ at hov
 change dcB _ ((arP ls).length:Nat) = true at hdb
 have hal:(arP ls).length ≤ sumP ls + 2 * l + 2:=by unfold arP;rw [List.length_append];simp;omega
 have HST':Hid (∀ W,Below w.heap.size w W→Calls Tryz.prog 38 #[.slice A l c] W fun e w' => ∃ A' n c',e = .returned (.tuple #[.slice A' n c',.int .i64 0])∧OwnY w' W.heap.size (.slice A' n c') n (arP ls)∧Below W.heap.size W w'):=HST.out
 obtain ⟨ar,har⟩:∃ ar,arP ls = ar:=⟨_,rfl⟩
 rw [har] at hov hdb hal HST' ⊢
 obtain ⟨sm,hsm⟩:∃ sm,sumP ls = sm:=⟨_,rfl⟩
 rw [hsm] at hov hdb hal hsum ⊢
 obtain ⟨la,hla⟩:∃ la,ar.length = la:=⟨_,rfl⟩
 have hov2:ofV ar = (sm,la,CrcP.sumN ar,0):=by rw [← hla];rw [← har];rw [← har] at hov;exact hov
 rw [hla] at hdb hal ⊢
 have hsl:=sumN_lt ar
 have HOF:Hid (∀ (W:World) (A2:Option Addr) (c2:Nat),la ≤ c2→Bytes W W.heap.size A2 ar→Below w.heap.size w W→_):=fun W A2 c2 hc hbb hV => dcOf_any tg A2 la c2 W.heap.size ar W (hT.below hV htl) hla (by omega) hc hbb (Nat.le_refl _)
 rw [hov2] at HOF
 dsimp only at HOF
 obtain ⟨su,hsu⟩:∃ su,CrcP.sumN ar = su:=⟨_,rfl⟩
 rw [hsu] at HOF hsl ⊢
 have HLP:Hid (∀ W,Below w.heap.size w W→_):=fun W hW' => lcPut_yes tg 2 s 0 0 0 W (hW.below hW' hw0 (by have:=hW'.size;omega)) (by omega) (hdB_str hr) (hT.below hW' htl)
 have HDP:Hid (∀ W,Below w.heap.size w W→_):=fun W hW' => dcPut_yes tg sm la su W hdb (by omega) (by omega) (hT.below hW' htl)
 obtain ⟨HD,hHD⟩:∃ HD,headB 2 s.data.toList 0 0 0 = HD:=⟨_,rfl⟩
 rw [hHD] at HLP ⊢
 obtain ⟨DB,hDB⟩:∃ DB,descB (sm:Nat) (la:Nat) (su:Nat) = DB:=⟨_,rfl⟩
 rw [hDB] at HDP ⊢
 have hla2:la ≤ 67537:=by omega
 have HLA:=Lib.hid hla
 have hdl:DB.length = 20:=by rw [← hDB];exact descB_len _ _ _
 have HDL:=Lib.hid hdl
 clear hT hW hs hr hl hrw hall hsum hov hov2 hdb hal hpl hsm har hla hsu hHD hDB hss hSB HST hdl
 go_enter Tryz.func14,Tryz.ntmps14
 go_wp2_with (first
  | (go_at_call 30;refine HR.out.mono ?_;rintro e w1 ⟨rfl,hb1⟩;have HB1:=Lib.hid hb1;clear hb1)
  | (go_at_call 38;refine (HST'.out w1 HB1.out).mono ?_;rintro e w2 ⟨A2,la',c2,rfl,ho2,hb2⟩;obtain rfl:la' = la:=(by have h1:=ho2.1;rw [byteCells_length,HLA.out] at h1;exact h1.symm);have HCP:=Lib.hid (capS ho2);have HC2:=Lib.hid ho2.cells;have HB2:=Lib.hid (HB1.out.trans (hb2.mono HB1.out.size));clear ho2 hb2)
  | (go_at_call 39;refine (HOF.out w2 A2 c2 HCP.out HC2.out HB2.out).mono ?_;rintro e w3 ⟨rfl,hb3⟩;have HC3:=Lib.hid (HC2.out.below hb3 (Nat.le_refl _));have HB3:=Lib.hid (HB2.out.trans (hb3.mono HB2.out.size));have HS3:=Lib.hid hb3.size;clear hb3;obtain ⟨W4,hW4⟩:∃ W4,w3.alloc (.cells #[.int .i64 (sm:Int),.int .i64 (la':Int),.int .u32 (su:Int)] 78) = W4:=⟨_,rfl⟩;have HD4:Hid (Box W4 w3.heap.size #[.int .i64 (sm:Int),.int .i64 (la':Int),.int .u32 (su:Int)] 78):=(by show Box _ _ _ _;rw [← hW4];exact heap_alloc_new w3 _);have HB4:Hid (Below w.heap.size w W4):=(by show Below _ _ _;rw [← hW4];exact HB3.out.alloc HB3.out.size _);have HC4:Hid (Cells W4 w2.heap.size A2 (byteCells ar)):=(by show Cells _ _ _ _;rw [← hW4];exact HC3.out.below ((Below.refl _ w3).alloc (Nat.le_refl _) _) HS3.out);have HS4:Hid (w2.heap.size ≤ W4.heap.size):=(by show _ ≤ _;have h1:=HD4.out.lt;have h2:=HS3.out;omega))
  | (go_at_call 32;refine (HLP.out W4 HB4.out).mono ?_;rintro e w5 ⟨A5,c5,rfl,ho5,hb5⟩;have HO5:=Lib.hid (ho5.le HB4.out.size);have HD5:=Lib.hid (HD4.out.below hb5 HD4.out.lt);have HC5:=Lib.hid (HC4.out.below hb5 HS4.out);have HB5:=Lib.hid (HB4.out.trans (hb5.mono HB4.out.size));have HS5:Hid (w2.heap.size ≤ w5.heap.size):=Nat.le_trans HS4.out hb5.size;clear ho5 hb5;have d0:w5.cell? ⟨w3.heap.size,0,none⟩ = some (.int .i64 (sm:Int)):=HD5.out.cell 0;have d1:w5.cell? ⟨w3.heap.size,1,none⟩ = some (.int .i64 (la':Int)):=HD5.out.cell 1;have d2:w5.cell? ⟨w3.heap.size,2,none⟩ = some (.int .u32 (su:Int)):=HD5.out.cell 2)
  | (go_at_call 40;refine (HDP.out w5 HB5.out).mono ?_;rintro e w6 ⟨A6,c6,rfl,ho6,hb6⟩;have HO6:=Lib.hid ho6;have HO56:=Lib.hid (HO5.out.keep (Mod.of_below hb6) (fun _ _ h => h));have HC6:=Lib.hid (HC5.out.below hb6 HS5.out);have HB6:=Lib.hid (HB5.out.trans (hb6.mono HB5.out.size));have HS6:Hid (∀ k,ownS (.slice A5 (22 + s.size) c5) k→k < w5.heap.size):=(fun k hk => (HO5.out.lt k hk).2);clear ho6 hb6)
  | (at_builtin;refine wpList_appT w6 byteElem rfl (.tmp 47) (.tmp 48) rfl w.heap.size (.slice A5 (22 + s.size) c5) (22 + s.size) (byteCells HD) rfl HO56.out w2.heap.size A2 la' c2 (byteCells ar) rfl (by rw [byteCells_length,HLA.out]) HC6.out (byteCells_one _) (by unfold maxLen;omega) (by omega) HB6.out.size ?_;intro A7 c7 w7 hap;have HAP7:=Lib.hid hap;have HO67:=Lib.hid (HO6.out.keep hap.mod (fun k hk hk2 => by have h1:=(HO6.out.lt k hk).1;have h2:=HS6.out k hk2;omega));have HB7:=Lib.hid (hap.below HB6.out HB6.out.size (fun k hk => (HO5.out.lt k hk).1));clear hap)
  | (at_builtin;refine wpList_appT w7 byteElem rfl (.tmp 49) (.tmp 50) rfl w.heap.size (.slice A7 (22 + s.size + la') c7) (22 + s.size + la') (byteCells HD++byteCells ar) rfl HAP7.out.own w7.heap.size A6 20 c6 (byteCells DB) rfl (by rw [byteCells_length,HDL.out]) HO67.out.cells (byteCells_one _) (by unfold maxLen;omega) (by omega) HB7.out.size ?_;intro A8 c8 w8 hap;have HAP8:=Lib.hid hap;have HB8:=Lib.hid (hap.below HB7.out HB7.out.size (fun k hk => (HAP7.out.own.lt k hk).1));clear hap))
 refine bodyPost_ret (results_tmp2 rfl _ _ _) rfl ?_
 refine ⟨A8,c8,rfl,?_,HB8.out⟩
 have h:=HAP8.out.own
 unfold OwnY
 rw [byteCells_append,byteCells_append]
 exact h
end Go.Proofs.YtaknladkodibaaaGreatDoor
