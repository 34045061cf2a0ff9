/- Layer 22, plainly: what stands at a place. -/
import Derived.Test.YtaknladkodibaaaGreatDoorMgQ19335
import Derived.Test.YtaknladkodibaaaGreatDoorMgQ19340
import Derived.Test.YtaknladkodibaaaGreatDoorMgQ193SDcEn
import Derived.Test.YtaknladkodibaaaGreatDoorMgQ19342
import Derived.Test.YtaknladkodibaaaGreatDoorMgQ19315
namespace Go.Proofs.YtaknladkodibaaaGreatDoor
open Go.RowKit CrcP FieldP
def recOk (k : Int) (S : ByteArray) (p fr ar sz su me nx : Int) : Value := .tuple #[.agg #[.int .i64 k,.string S,.int .i64 p,.int .i64 fr,.int .i64 ar,.int .i64 sz,.int .u32 su,.int .i64 me,.int .i64 nx],.int .i64 0]
theorem lcAns_ok {bs : List UInt8} {p m : Int} {S : ByteArray} {sz ar su K : Int} (h : lcAns bs p = .tuple #[.agg #[.int .i64 m,.string S,.int .i64 sz,.int .i64 ar,.int .u32 su],.int .i64 K,.int .i64 0]) :
  hdB m S.data.toList sz ar su = true ∧ 0 ≤ K ∧ K ≤ bs.length ∧ 0 ≤ su ∧ su < 4294967296 := by
 unfold lcAns at h
 split at h
 ·simp at h
 ·rename_i h1
  split at h
  ·simp at h
  ·by_cases hr : lcR bs p.toNat = 0
   ·rw [lcV_good hr] at h
    simp only [Value.tuple.injEq,Value.agg.injEq,Array.mk.injEq,List.cons.injEq,Value.int.injEq,Value.string.injEq,true_and,and_true] at h
    obtain ⟨⟨rfl,rfl,rfl,rfl,rfl⟩,rfl⟩ := h
    have hle : p.toNat ≤ bs.length := by omega
    have hk : ((lcX bs p.toNat).2.num bs 4).2.p ≤ bs.length := num_le (row_le (lcS_le (openS_le hle) 5))
    have hd : lcHd bs p.toNat = true := by
     unfold lcR at hr
     split at hr
     ·split at hr
      ·assumption
      ·cases hr
     ·rename_i h0
      exact absurd hr h0
    have hsl := lcN_lt bs (openS bs p.toNat) 4
    refine ⟨hd,by omega,by omega,by omega,by omega⟩
   ·rw [lcV_bad hr] at h
    simp only [Value.tuple.injEq,Array.mk.injEq,List.cons.injEq,Value.int.injEq,true_and,and_true] at h
    omega
theorem hdB_three {m : Int} {l : List UInt8} {sz ar su : Int} (h : hdB m l sz ar su = true) : (m = 0 ∨ m = 1 ∨ m = 2) ∧ 0 ≤ ar ∧ ar ≤ 65536 ∧ 0 ≤ sz ∧ sz ≤ 65536 ∧ (m = 2 → sz = 0 ∧ ar = 0 ∧ su = 0) := by
 unfold hdB at h
 simp only [Bool.and_eq_true,decide_eq_true_eq] at h
 obtain ⟨⟨⟨_,h1⟩,h2⟩,h3⟩ := h
 split at h3
 ·rename_i hm
  have := eq_of_beq h3
  exact ⟨.inl hm,by omega,by omega,h1,h2,fun e => by omega⟩
 ·split at h3
  ·rename_i hm
   simp only [Bool.and_eq_true,decide_eq_true_eq] at h3
   exact ⟨.inr (.inl hm),by omega,by omega,h1,h2,fun e => by omega⟩
  ·split at h3
   ·rename_i hm
    simp only [Bool.and_eq_true,beq_iff_eq] at h3
    exact ⟨.inr (.inr hm),by omega,by omega,h1,h2,fun _ => ⟨h3.1.1,h3.1.2,h3.2⟩⟩
   ·cases h3
end Go.Proofs.YtaknladkodibaaaGreatDoor
namespace Go.Proofs.YtaknladkodibaaaGreatDoor
open Go.RowKit CrcP FieldP
attribute [local go_sem ↓] Go.wp_at_zero Go.wp_at_succ
set_option maxRecDepth 100000 in
set_option maxHeartbeats 2000000 in
theorem recTake_plain (tg : Nat) (A : Option Addr) (l c : Nat) (bs : List UInt8) (p : Int) (w : World) (m : Int) (S : ByteArray) (sz ar su K : Int) (hT : Table w tg) (hW : Wid w) (hl : bs.length = l) (hm : l ≤ 1000000) (hlc : l ≤ c) (p0 : -9223372036854775808 ≤ p) (p1 : p ≤ 9223372036854775807) (hb : Bytes w w.heap.size A bs) (hi : isB tombBytes bs p = false) (he : lcAns bs p = .tuple #[.agg #[.int .i64 m,.string S,.int .i64 sz,.int .i64 ar,.int .u32 su],.int .i64 K,.int .i64 0]) (h2 : m ≠ 2) (h4 : ¬ (l : Int) < K + ar) :
  Calls Tryz.prog 16 #[.pointer (some ⟨tg,0,none⟩),.slice A l c,.int .i64 p] w fun e w' => e = .returned (recOk 1 S p K ar sz su m (K + ar)) ∧ Below w.heap.size w w' := by
 have HX0 : Hid (Box (w.alloc (.cells #[.int .i64 0,.string ⟨#[]⟩,.int .i64 0,.int .i64 0,.int .i64 0,.int .i64 0,.int .u32 0,.int .i64 0,.int .i64 0] 41)) w.heap.size #[.int .i64 0,.string ⟨#[]⟩,.int .i64 0,.int .i64 0,.int .i64 0,.int .i64 0,.int .u32 0,.int .i64 0,.int .i64 0] 41) := heap_alloc_new w _
 have HB0 := Lib.hid ((Below.refl w.heap.size w).alloc (Nat.le_refl _) (.cells #[.int .i64 0,.string ⟨#[]⟩,.int .i64 0,.int .i64 0,.int .i64 0,.int .i64 0,.int .u32 0,.int .i64 0,.int .i64 0] 41))
 have HZ0 : Hid ((w.alloc (.cells #[.int .i64 0,.string ⟨#[]⟩,.int .i64 0,.int .i64 0,.int .i64 0,.int .i64 0,.int .u32 0,.int .i64 0,.int .i64 0] 41)).heap.size = w.heap.size + 1) := by show _ = _;simp
 have htl := hT.lt
 have hw0 := hW.1
 have HL := Lib.hid hl
 have hb0 := hb.below HB0.out (Nat.le_refl _)
 have hT0 := hT.alloc (.cells #[.int .i64 0,.string ⟨#[]⟩,.int .i64 0,.int .i64 0,.int .i64 0,.int .i64 0,.int .u32 0,.int .i64 0,.int .i64 0] 41)
 have HIS := Lib.hid (stIs_any A l c bs w.heap.size p (w.alloc (.cells #[.int .i64 0,.string ⟨#[]⟩,.int .i64 0,.int .i64 0,.int .i64 0,.int .i64 0,.int .u32 0,.int .i64 0,.int .i64 0] 41)) hl hm hlc p0 p1 hb0)
 rw [hi] at HIS
 have HLC := Lib.hid (lcTake_all tg A l c bs w.heap.size p (w.alloc (.cells #[.int .i64 0,.string ⟨#[]⟩,.int .i64 0,.int .i64 0,.int .i64 0,.int .i64 0,.int .u32 0,.int .i64 0,.int .i64 0] 41)) hT0 (hW.below HB0.out hw0 (by have := HB0.out.size;omega)) hl (by omega) hlc hb0 HB0.out.size)
 rw [he] at HLC
 obtain ⟨hd,k0,k1,u0,u1⟩ := lcAns_ok he
 obtain ⟨h3,r0,r1,s0,s1,-⟩ := hdB_three hd
 rw [HL.out] at k1
 have v2 : (m == 2) = false := by simpa using h2
 have HWI := Lib.hid (fun W => rcWithin_any A l c S p K ar sz su m W (by omega) k0 (by omega))
 rw [show decide (ar ≤ (l : Int) - K) = true from decide_eq_true (by omega)] at HWI
 clear hT hb hl hb0 hT0 he hi hW hd h3 h2 h4
 go_enter Tryz.func16,Tryz.ntmps16
 go_wp2_with (first
  | (go_at_call 44;refine HIS.out.mono ?_;rintro e w' ⟨rfl,rfl⟩)
  | (go_at_call 46;refine HLC.out.mono ?_;rintro e w1 ⟨rfl,hbw⟩;have HX1 := Lib.hid (HX0.out.below hbw HX0.out.lt);have HB1 := Lib.hid (HB0.out.trans (hbw.mono HB0.out.size));clear hbw;obtain ⟨W2,hW2⟩ : ∃ W2,w1.alloc (.cells #[.int .i64 m,.string S,.int .i64 sz,.int .i64 ar,.int .u32 su] 71) = W2 := ⟨_,rfl⟩;have HX2 : Hid (Box W2 w.heap.size #[.int .i64 0,.string ⟨#[]⟩,.int .i64 0,.int .i64 0,.int .i64 0,.int .i64 0,.int .u32 0,.int .i64 0,.int .i64 0] 41) := (by show Box _ _ _ _;rw [← hW2];exact HX1.out.alloc _);have HH2 : Hid (Box W2 w1.heap.size #[.int .i64 m,.string S,.int .i64 sz,.int .i64 ar,.int .u32 su] 71) := (by show Box _ _ _ _;rw [← hW2];exact heap_alloc_new w1 _);have HB2 : Hid (Below w.heap.size w W2) := (by show Below _ _ _;rw [← hW2];exact HB1.out.alloc HB1.out.size _);have hx0 : W2.cell? ⟨w.heap.size,0,none⟩ = some (.int .i64 0) := HX2.out.cell 0;have hx1 : W2.cell? ⟨w.heap.size,1,none⟩ = some (.string ⟨#[]⟩) := HX2.out.cell 1;have hx2 : W2.cell? ⟨w.heap.size,2,none⟩ = some (.int .i64 0) := HX2.out.cell 2;have hx3 : W2.cell? ⟨w.heap.size,3,none⟩ = some (.int .i64 0) := HX2.out.cell 3;have hx4 : W2.cell? ⟨w.heap.size,4,none⟩ = some (.int .i64 0) := HX2.out.cell 4;have hx5 : W2.cell? ⟨w.heap.size,5,none⟩ = some (.int .i64 0) := HX2.out.cell 5;have hx6 : W2.cell? ⟨w.heap.size,6,none⟩ = some (.int .u32 0) := HX2.out.cell 6;have hx7 : W2.cell? ⟨w.heap.size,7,none⟩ = some (.int .i64 0) := HX2.out.cell 7;have hx8 : W2.cell? ⟨w.heap.size,8,none⟩ = some (.int .i64 0) := HX2.out.cell 8;have hf0 := frozen_of_row W2 w.heap.size 0 _ _ HX2.out;have hf1 := frozen_of_row W2 w.heap.size 1 _ _ HX2.out;have hf2 := frozen_of_row W2 w.heap.size 2 _ _ HX2.out;have hf3 := frozen_of_row W2 w.heap.size 3 _ _ HX2.out;have hf4 := frozen_of_row W2 w.heap.size 4 _ _ HX2.out;have hf5 := frozen_of_row W2 w.heap.size 5 _ _ HX2.out;have hf6 := frozen_of_row W2 w.heap.size 6 _ _ HX2.out;have hf7 := frozen_of_row W2 w.heap.size 7 _ _ HX2.out;have hf8 := frozen_of_row W2 w.heap.size 8 _ _ HX2.out;have hz1 : w.heap.size < W2.heap.size := HX2.out.lt;have g0 : W2.cell? ⟨w1.heap.size,0,none⟩ = some (.int .i64 m) := HH2.out.cell 0;have g1 : W2.cell? ⟨w1.heap.size,1,none⟩ = some (.string S) := HH2.out.cell 1;have g2 : W2.cell? ⟨w1.heap.size,2,none⟩ = some (.int .i64 sz) := HH2.out.cell 2;have g3 : W2.cell? ⟨w1.heap.size,3,none⟩ = some (.int .i64 ar) := HH2.out.cell 3;have g4 : W2.cell? ⟨w1.heap.size,4,none⟩ = some (.int .u32 su) := HH2.out.cell 4;obtain ⟨W3,hW3⟩ : ∃ W3,W2.alloc (.cells #[.string S,.int .i64 p,.int .i64 K,.int .i64 ar,.int .i64 sz,.int .u32 su,.int .i64 m] 39) = W3 := ⟨_,rfl⟩;have HX3 : Hid (Box W3 w.heap.size #[.int .i64 0,.string ⟨#[]⟩,.int .i64 0,.int .i64 0,.int .i64 0,.int .i64 0,.int .u32 0,.int .i64 0,.int .i64 0] 41) := (by show Box _ _ _ _;rw [← hW3];exact HX2.out.alloc _);have HH3 : Hid (Box W3 w1.heap.size #[.int .i64 m,.string S,.int .i64 sz,.int .i64 ar,.int .u32 su] 71) := (by show Box _ _ _ _;rw [← hW3];exact HH2.out.alloc _);have HM3 : Hid (Box W3 W2.heap.size #[.string S,.int .i64 p,.int .i64 K,.int .i64 ar,.int .i64 sz,.int .u32 su,.int .i64 m] 39) := (by show Box _ _ _ _;rw [← hW3];exact heap_alloc_new W2 _);have HB3 : Hid (Below w.heap.size w W3) := (by show Below _ _ _;rw [← hW3];exact HB2.out.alloc HB2.out.size _);have hx0 : W3.cell? ⟨w.heap.size,0,none⟩ = some (.int .i64 0) := HX3.out.cell 0;have hx1 : W3.cell? ⟨w.heap.size,1,none⟩ = some (.string ⟨#[]⟩) := HX3.out.cell 1;have hx2 : W3.cell? ⟨w.heap.size,2,none⟩ = some (.int .i64 0) := HX3.out.cell 2;have hx3 : W3.cell? ⟨w.heap.size,3,none⟩ = some (.int .i64 0) := HX3.out.cell 3;have hx4 : W3.cell? ⟨w.heap.size,4,none⟩ = some (.int .i64 0) := HX3.out.cell 4;have hx5 : W3.cell? ⟨w.heap.size,5,none⟩ = some (.int .i64 0) := HX3.out.cell 5;have hx6 : W3.cell? ⟨w.heap.size,6,none⟩ = some (.int .u32 0) := HX3.out.cell 6;have hx7 : W3.cell? ⟨w.heap.size,7,none⟩ = some (.int .i64 0) := HX3.out.cell 7;have hx8 : W3.cell? ⟨w.heap.size,8,none⟩ = some (.int .i64 0) := HX3.out.cell 8;have hf0 := frozen_of_row W3 w.heap.size 0 _ _ HX3.out;have hf1 := frozen_of_row W3 w.heap.size 1 _ _ HX3.out;have hf2 := frozen_of_row W3 w.heap.size 2 _ _ HX3.out;have hf3 := frozen_of_row W3 w.heap.size 3 _ _ HX3.out;have hf4 := frozen_of_row W3 w.heap.size 4 _ _ HX3.out;have hf5 := frozen_of_row W3 w.heap.size 5 _ _ HX3.out;have hf6 := frozen_of_row W3 w.heap.size 6 _ _ HX3.out;have hf7 := frozen_of_row W3 w.heap.size 7 _ _ HX3.out;have hf8 := frozen_of_row W3 w.heap.size 8 _ _ HX3.out;have hz1 : w.heap.size < W3.heap.size := HX3.out.lt;have g0 : W3.cell? ⟨w1.heap.size,0,none⟩ = some (.int .i64 m) := HH3.out.cell 0;have g1 : W3.cell? ⟨w1.heap.size,1,none⟩ = some (.string S) := HH3.out.cell 1;have g2 : W3.cell? ⟨w1.heap.size,2,none⟩ = some (.int .i64 sz) := HH3.out.cell 2;have g3 : W3.cell? ⟨w1.heap.size,3,none⟩ = some (.int .i64 ar) := HH3.out.cell 3;have g4 : W3.cell? ⟨w1.heap.size,4,none⟩ = some (.int .u32 su) := HH3.out.cell 4;have y0 : W3.cell? ⟨W2.heap.size,0,none⟩ = some (.string S) := HM3.out.cell 0;have y1 : W3.cell? ⟨W2.heap.size,1,none⟩ = some (.int .i64 p) := HM3.out.cell 1;have y2 : W3.cell? ⟨W2.heap.size,2,none⟩ = some (.int .i64 K) := HM3.out.cell 2;have y3 : W3.cell? ⟨W2.heap.size,3,none⟩ = some (.int .i64 ar) := HM3.out.cell 3;have y4 : W3.cell? ⟨W2.heap.size,4,none⟩ = some (.int .i64 sz) := HM3.out.cell 4;have y5 : W3.cell? ⟨W2.heap.size,5,none⟩ = some (.int .u32 su) := HM3.out.cell 5;have y6 : W3.cell? ⟨W2.heap.size,6,none⟩ = some (.int .i64 m) := HM3.out.cell 6)
  | (go_at_call 48;refine (HWI.out W3).mono ?_;rintro e w4 ⟨rfl,hbw⟩;have HX4 := Lib.hid (HX3.out.below hbw HX3.out.lt);have HH4 := Lib.hid (HH3.out.below hbw HH3.out.lt);have HM4 := Lib.hid (HM3.out.below hbw HM3.out.lt);have HB4 := Lib.hid (HB3.out.trans (hbw.mono HB3.out.size));clear hbw;have hx0 : w4.cell? ⟨w.heap.size,0,none⟩ = some (.int .i64 0) := HX4.out.cell 0;have hx1 : w4.cell? ⟨w.heap.size,1,none⟩ = some (.string ⟨#[]⟩) := HX4.out.cell 1;have hx2 : w4.cell? ⟨w.heap.size,2,none⟩ = some (.int .i64 0) := HX4.out.cell 2;have hx3 : w4.cell? ⟨w.heap.size,3,none⟩ = some (.int .i64 0) := HX4.out.cell 3;have hx4 : w4.cell? ⟨w.heap.size,4,none⟩ = some (.int .i64 0) := HX4.out.cell 4;have hx5 : w4.cell? ⟨w.heap.size,5,none⟩ = some (.int .i64 0) := HX4.out.cell 5;have hx6 : w4.cell? ⟨w.heap.size,6,none⟩ = some (.int .u32 0) := HX4.out.cell 6;have hx7 : w4.cell? ⟨w.heap.size,7,none⟩ = some (.int .i64 0) := HX4.out.cell 7;have hx8 : w4.cell? ⟨w.heap.size,8,none⟩ = some (.int .i64 0) := HX4.out.cell 8;have hf0 := frozen_of_row w4 w.heap.size 0 _ _ HX4.out;have hf1 := frozen_of_row w4 w.heap.size 1 _ _ HX4.out;have hf2 := frozen_of_row w4 w.heap.size 2 _ _ HX4.out;have hf3 := frozen_of_row w4 w.heap.size 3 _ _ HX4.out;have hf4 := frozen_of_row w4 w.heap.size 4 _ _ HX4.out;have hf5 := frozen_of_row w4 w.heap.size 5 _ _ HX4.out;have hf6 := frozen_of_row w4 w.heap.size 6 _ _ HX4.out;have hf7 := frozen_of_row w4 w.heap.size 7 _ _ HX4.out;have hf8 := frozen_of_row w4 w.heap.size 8 _ _ HX4.out;have hz1 : w.heap.size < w4.heap.size := HX4.out.lt;have g0 : w4.cell? ⟨w1.heap.size,0,none⟩ = some (.int .i64 m) := HH4.out.cell 0;have g1 : w4.cell? ⟨w1.heap.size,1,none⟩ = some (.string S) := HH4.out.cell 1;have g2 : w4.cell? ⟨w1.heap.size,2,none⟩ = some (.int .i64 sz) := HH4.out.cell 2;have g3 : w4.cell? ⟨w1.heap.size,3,none⟩ = some (.int .i64 ar) := HH4.out.cell 3;have g4 : w4.cell? ⟨w1.heap.size,4,none⟩ = some (.int .u32 su) := HH4.out.cell 4;have y0 : w4.cell? ⟨W2.heap.size,0,none⟩ = some (.string S) := HM4.out.cell 0;have y1 : w4.cell? ⟨W2.heap.size,1,none⟩ = some (.int .i64 p) := HM4.out.cell 1;have y2 : w4.cell? ⟨W2.heap.size,2,none⟩ = some (.int .i64 K) := HM4.out.cell 2;have y3 : w4.cell? ⟨W2.heap.size,3,none⟩ = some (.int .i64 ar) := HM4.out.cell 3;have y4 : w4.cell? ⟨W2.heap.size,4,none⟩ = some (.int .i64 sz) := HM4.out.cell 4;have y5 : w4.cell? ⟨W2.heap.size,5,none⟩ = some (.int .u32 su) := HM4.out.cell 5;have y6 : w4.cell? ⟨W2.heap.size,6,none⟩ = some (.int .i64 m) := HM4.out.cell 6))
 refine bodyPost_ret (v := .tuple #[.agg #[.int .i64 1,.string S,.int .i64 p,.int .i64 K,.int .i64 ar,.int .i64 sz,.int .u32 su,.int .i64 m,.int .i64 (K + ar)],.int .i64 0]) (by simp [results,Tryz.results16,hx0,hx1,hx2,hx3,hx4,hx5,hx6,hx7,hx8,go_sem]) rfl ⟨rfl,?_⟩
 iterate 9 (refine Below.setCell ?_ ?_ _;rotate_left;first | exact Nat.le_refl _ | exact Nat.le_succ _)
 exact HB4.out
end Go.Proofs.YtaknladkodibaaaGreatDoor
