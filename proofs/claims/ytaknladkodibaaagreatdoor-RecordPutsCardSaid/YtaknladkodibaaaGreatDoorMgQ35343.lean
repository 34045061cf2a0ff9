/- Layer 22, plainly: what stands at a place. -/
import Derived.Test.YtaknladkodibaaaGreatDoorMgQ35334
import Derived.Test.YtaknladkodibaaaGreatDoorMgQ35337
import Derived.Test.YtaknladkodibaaaGreatDoorMgQ353SDcEn
import Derived.Test.YtaknladkodibaaaGreatDoorMgQ35342
import Derived.Test.YtaknladkodibaaaGreatDoorMgQ35314
import Derived.Test.YtaknladkodibaaaGreatDoorMgQ35323
import Derived.Test.YtaknladkodibaaaGreatDoorMgQ353SCdRe
import Derived.Deep.LoopGhost
namespace Go.Proofs.YtaknladkodibaaaGreatDoor
open Go.RowKit CrcP FieldP

def recOk (k : Int) (S : ByteArray) (p fr ar sz su me nx : Int) : Value := .tuple #[.agg #[.int .i64 k, .string S, .int .i64 p, .int .i64 fr, .int .i64 ar, .int .i64 sz, .int .u32 su, .int .i64 me, .int .i64 nx], .int .i64 0]
/-- What is taken may be a head, and stands in the bytes. -/
theorem lcAns_ok {bs : List UInt8} {p m : Int} {S : ByteArray} {sz ar su K : Int} (h : lcAns bs p = .tuple #[.agg #[.int .i64 m, .string S, .int .i64 sz, .int .i64 ar, .int .u32 su], .int .i64 K, .int .i64 0]) :
    hdB m S.data.toList sz ar su = true ∧ 0 ≤ K ∧ K ≤ bs.length ∧ 0 ≤ su ∧ su < 4294967296 := by
  unfold lcAns at h
  split at h
  · simp at h
  · rename_i h1
    split at h
    · simp at h
    · by_cases hr : lcR bs p.toNat = 0
      · rw [lcV_good hr] at h
        simp only [Value.tuple.injEq, Value.agg.injEq, Array.mk.injEq, List.cons.injEq, Value.int.injEq, Value.string.injEq, true_and, and_true] at h
        obtain ⟨⟨rfl, rfl, rfl, rfl, rfl⟩, rfl⟩ := h
        have hle : p.toNat ≤ bs.length := by omega
        have hk : ((lcX bs p.toNat).2.num bs 4).2.p ≤ bs.length := num_le (row_le (lcS_le (openS_le hle) 5))
        have hd : lcHd bs p.toNat = true := by
          unfold lcR at hr
          split at hr
          · split at hr
            · assumption
            · cases hr
          · rename_i h0
            exact absurd hr h0
        have hsl := lcN_lt bs (openS bs p.toNat) 4
        refine ⟨hd, by omega, by omega, by omega, by omega⟩
      · rw [lcV_bad hr] at h
        simp only [Value.tuple.injEq, Array.mk.injEq, List.cons.injEq, Value.int.injEq, true_and, and_true] at h
        omega
theorem hdB_three {m : Int} {l : List UInt8} {sz ar su : Int} (h : hdB m l sz ar su = true) : (m = 0 ∨ m = 1 ∨ m = 2) ∧ 0 ≤ ar ∧ ar ≤ 65536 ∧ 0 ≤ sz ∧ sz ≤ 65536 ∧ (m = 2 → sz = 0 ∧ ar = 0 ∧ su = 0) := by
  unfold hdB at h
  simp only [Bool.and_eq_true, decide_eq_true_eq] at h
  obtain ⟨⟨⟨_, h1⟩, h2⟩, h3⟩ := h
  split at h3
  · rename_i hm
    have := eq_of_beq h3
    exact ⟨.inl hm, by omega, by omega, h1, h2, fun e => by omega⟩
  · split at h3
    · rename_i hm
      simp only [Bool.and_eq_true, decide_eq_true_eq] at h3
      exact ⟨.inr (.inl hm), by omega, by omega, h1, h2, fun e => by omega⟩
    · split at h3
      · rename_i hm
        simp only [Bool.and_eq_true, beq_iff_eq] at h3
        exact ⟨.inr (.inr hm), by omega, by omega, h1, h2, fun _ => ⟨h3.1.1, h3.1.2, h3.2⟩⟩
      · cases h3
end Go.Proofs.YtaknladkodibaaaGreatDoor
/- Layer 22: a record that isn't streamed is taken. -/
namespace Go.Proofs.YtaknladkodibaaaGreatDoor
open Go.RowKit CrcP FieldP
attribute [local go_sem ↓] Go.wp_at_zero Go.wp_at_succ

set_option maxRecDepth 100000 in
set_option maxHeartbeats 2000000 in
theorem recTake_plain (tg : Nat) (A : Option Addr) (l c : Nat) (bs : List UInt8) (p : Int) (w : World) (m : Int) (S : ByteArray) (sz ar su K : Int) (hT : Table w tg) (hW : Wid w) (hl : bs.length = l) (hm : l ≤ 1000000) (hlc : l ≤ c) (p0 : -9223372036854775808 ≤ p) (p1 : p ≤ 9223372036854775807) (hb : Bytes w w.heap.size A bs) (hi : isB tombBytes bs p = false) (he : lcAns bs p = .tuple #[.agg #[.int .i64 m, .string S, .int .i64 sz, .int .i64 ar, .int .u32 su], .int .i64 K, .int .i64 0]) (h2 : m ≠ 2) (h4 : ¬ (l : Int) < K + ar) :
    Calls Tryz.prog 16 #[.pointer (some ⟨tg, 0, none⟩), .slice A l c, .int .i64 p] w fun e w' => e = .returned (recOk 1 S p K ar sz su m (K + ar)) ∧ Below w.heap.size w w' := by
  have HX0 : Hid (Box (w.alloc (.cells #[.int .i64 0, .string ⟨#[]⟩, .int .i64 0, .int .i64 0, .int .i64 0, .int .i64 0, .int .u32 0, .int .i64 0, .int .i64 0] 41)) w.heap.size #[.int .i64 0, .string ⟨#[]⟩, .int .i64 0, .int .i64 0, .int .i64 0, .int .i64 0, .int .u32 0, .int .i64 0, .int .i64 0] 41) := heap_alloc_new w _
  have HB0 := Lib.hid ((Below.refl w.heap.size w).alloc (Nat.le_refl _) (.cells #[.int .i64 0, .string ⟨#[]⟩, .int .i64 0, .int .i64 0, .int .i64 0, .int .i64 0, .int .u32 0, .int .i64 0, .int .i64 0] 41))
  have HZ0 : Hid ((w.alloc (.cells #[.int .i64 0, .string ⟨#[]⟩, .int .i64 0, .int .i64 0, .int .i64 0, .int .i64 0, .int .u32 0, .int .i64 0, .int .i64 0] 41)).heap.size = w.heap.size + 1) := by show _ = _; simp
  have htl := hT.lt
  have hw0 := hW.1
  have HL := Lib.hid hl
  have hb0 := hb.below HB0.out (Nat.le_refl _)
  have hT0 := hT.alloc (.cells #[.int .i64 0, .string ⟨#[]⟩, .int .i64 0, .int .i64 0, .int .i64 0, .int .i64 0, .int .u32 0, .int .i64 0, .int .i64 0] 41)
  have HIS := Lib.hid (stIs_any A l c bs w.heap.size p (w.alloc (.cells #[.int .i64 0, .string ⟨#[]⟩, .int .i64 0, .int .i64 0, .int .i64 0, .int .i64 0, .int .u32 0, .int .i64 0, .int .i64 0] 41)) hl hm hlc p0 p1 hb0)
  rw [hi] at HIS
  have HLC := Lib.hid (lcTake_all tg A l c bs w.heap.size p (w.alloc (.cells #[.int .i64 0, .string ⟨#[]⟩, .int .i64 0, .int .i64 0, .int .i64 0, .int .i64 0, .int .u32 0, .int .i64 0, .int .i64 0] 41)) hT0 (hW.below HB0.out hw0 (by have := HB0.out.size; omega)) hl (by omega) hlc hb0 HB0.out.size)
  rw [he] at HLC
  obtain ⟨hd, k0, k1, u0, u1⟩ := lcAns_ok he
  obtain ⟨h3, r0, r1, s0, s1, -⟩ := hdB_three hd
  rw [HL.out] at k1
  have v2 : (m == 2) = false := by simpa using h2
  have HWI := Lib.hid (fun W => rcWithin_any A l c S p K ar sz su m W (by omega) k0 (by omega))
  rw [show decide (ar ≤ (l : Int) - K) = true from decide_eq_true (by omega)] at HWI
  clear hT hb hl hb0 hT0 he hi hW hd h3 h2 h4
  go_enter Tryz.func16, Tryz.ntmps16
  go_wp2_with (first
    | (go_at_call 44; refine HIS.out.mono ?_; rintro e w' ⟨rfl, rfl⟩)
    | (go_at_call 46; refine HLC.out.mono ?_; rintro e w1 ⟨rfl, hbw⟩; have HX1 := Lib.hid (HX0.out.below hbw HX0.out.lt); have HB1 := Lib.hid (HB0.out.trans (hbw.mono HB0.out.size)); clear hbw; obtain ⟨W2, hW2⟩ : ∃ W2, w1.alloc (.cells #[.int .i64 m, .string S, .int .i64 sz, .int .i64 ar, .int .u32 su] 71) = W2 := ⟨_, rfl⟩; have HX2 : Hid (Box W2 w.heap.size #[.int .i64 0, .string ⟨#[]⟩, .int .i64 0, .int .i64 0, .int .i64 0, .int .i64 0, .int .u32 0, .int .i64 0, .int .i64 0] 41) := (by show Box _ _ _ _; rw [← hW2]; exact HX1.out.alloc _); have HH2 : Hid (Box W2 w1.heap.size #[.int .i64 m, .string S, .int .i64 sz, .int .i64 ar, .int .u32 su] 71) := (by show Box _ _ _ _; rw [← hW2]; exact heap_alloc_new w1 _); have HB2 : Hid (Below w.heap.size w W2) := (by show Below _ _ _; rw [← hW2]; exact HB1.out.alloc HB1.out.size _); have hx0 : W2.cell? ⟨w.heap.size, 0, none⟩ = some (.int .i64 0) := HX2.out.cell 0; have hx1 : W2.cell? ⟨w.heap.size, 1, none⟩ = some (.string ⟨#[]⟩) := HX2.out.cell 1; have hx2 : W2.cell? ⟨w.heap.size, 2, none⟩ = some (.int .i64 0) := HX2.out.cell 2; have hx3 : W2.cell? ⟨w.heap.size, 3, none⟩ = some (.int .i64 0) := HX2.out.cell 3; have hx4 : W2.cell? ⟨w.heap.size, 4, none⟩ = some (.int .i64 0) := HX2.out.cell 4; have hx5 : W2.cell? ⟨w.heap.size, 5, none⟩ = some (.int .i64 0) := HX2.out.cell 5; have hx6 : W2.cell? ⟨w.heap.size, 6, none⟩ = some (.int .u32 0) := HX2.out.cell 6; have hx7 : W2.cell? ⟨w.heap.size, 7, none⟩ = some (.int .i64 0) := HX2.out.cell 7; have hx8 : W2.cell? ⟨w.heap.size, 8, none⟩ = some (.int .i64 0) := HX2.out.cell 8; have hf0 := frozen_of_row W2 w.heap.size 0 _ _ HX2.out; have hf1 := frozen_of_row W2 w.heap.size 1 _ _ HX2.out; have hf2 := frozen_of_row W2 w.heap.size 2 _ _ HX2.out; have hf3 := frozen_of_row W2 w.heap.size 3 _ _ HX2.out; have hf4 := frozen_of_row W2 w.heap.size 4 _ _ HX2.out; have hf5 := frozen_of_row W2 w.heap.size 5 _ _ HX2.out; have hf6 := frozen_of_row W2 w.heap.size 6 _ _ HX2.out; have hf7 := frozen_of_row W2 w.heap.size 7 _ _ HX2.out; have hf8 := frozen_of_row W2 w.heap.size 8 _ _ HX2.out; have hz1 : w.heap.size < W2.heap.size := HX2.out.lt; have g0 : W2.cell? ⟨w1.heap.size, 0, none⟩ = some (.int .i64 m) := HH2.out.cell 0; have g1 : W2.cell? ⟨w1.heap.size, 1, none⟩ = some (.string S) := HH2.out.cell 1; have g2 : W2.cell? ⟨w1.heap.size, 2, none⟩ = some (.int .i64 sz) := HH2.out.cell 2; have g3 : W2.cell? ⟨w1.heap.size, 3, none⟩ = some (.int .i64 ar) := HH2.out.cell 3; have g4 : W2.cell? ⟨w1.heap.size, 4, none⟩ = some (.int .u32 su) := HH2.out.cell 4; obtain ⟨W3, hW3⟩ : ∃ W3, W2.alloc (.cells #[.string S, .int .i64 p, .int .i64 K, .int .i64 ar, .int .i64 sz, .int .u32 su, .int .i64 m] 39) = W3 := ⟨_, rfl⟩; have HX3 : Hid (Box W3 w.heap.size #[.int .i64 0, .string ⟨#[]⟩, .int .i64 0, .int .i64 0, .int .i64 0, .int .i64 0, .int .u32 0, .int .i64 0, .int .i64 0] 41) := (by show Box _ _ _ _; rw [← hW3]; exact HX2.out.alloc _); have HH3 : Hid (Box W3 w1.heap.size #[.int .i64 m, .string S, .int .i64 sz, .int .i64 ar, .int .u32 su] 71) := (by show Box _ _ _ _; rw [← hW3]; exact HH2.out.alloc _); have HM3 : Hid (Box W3 W2.heap.size #[.string S, .int .i64 p, .int .i64 K, .int .i64 ar, .int .i64 sz, .int .u32 su, .int .i64 m] 39) := (by show Box _ _ _ _; rw [← hW3]; exact heap_alloc_new W2 _); have HB3 : Hid (Below w.heap.size w W3) := (by show Below _ _ _; rw [← hW3]; exact HB2.out.alloc HB2.out.size _); have hx0 : W3.cell? ⟨w.heap.size, 0, none⟩ = some (.int .i64 0) := HX3.out.cell 0; have hx1 : W3.cell? ⟨w.heap.size, 1, none⟩ = some (.string ⟨#[]⟩) := HX3.out.cell 1; have hx2 : W3.cell? ⟨w.heap.size, 2, none⟩ = some (.int .i64 0) := HX3.out.cell 2; have hx3 : W3.cell? ⟨w.heap.size, 3, none⟩ = some (.int .i64 0) := HX3.out.cell 3; have hx4 : W3.cell? ⟨w.heap.size, 4, none⟩ = some (.int .i64 0) := HX3.out.cell 4; have hx5 : W3.cell? ⟨w.heap.size, 5, none⟩ = some (.int .i64 0) := HX3.out.cell 5; have hx6 : W3.cell? ⟨w.heap.size, 6, none⟩ = some (.int .u32 0) := HX3.out.cell 6; have hx7 : W3.cell? ⟨w.heap.size, 7, none⟩ = some (.int .i64 0) := HX3.out.cell 7; have hx8 : W3.cell? ⟨w.heap.size, 8, none⟩ = some (.int .i64 0) := HX3.out.cell 8; have hf0 := frozen_of_row W3 w.heap.size 0 _ _ HX3.out; have hf1 := frozen_of_row W3 w.heap.size 1 _ _ HX3.out; have hf2 := frozen_of_row W3 w.heap.size 2 _ _ HX3.out; have hf3 := frozen_of_row W3 w.heap.size 3 _ _ HX3.out; have hf4 := frozen_of_row W3 w.heap.size 4 _ _ HX3.out; have hf5 := frozen_of_row W3 w.heap.size 5 _ _ HX3.out; have hf6 := frozen_of_row W3 w.heap.size 6 _ _ HX3.out; have hf7 := frozen_of_row W3 w.heap.size 7 _ _ HX3.out; have hf8 := frozen_of_row W3 w.heap.size 8 _ _ HX3.out; have hz1 : w.heap.size < W3.heap.size := HX3.out.lt; have g0 : W3.cell? ⟨w1.heap.size, 0, none⟩ = some (.int .i64 m) := HH3.out.cell 0; have g1 : W3.cell? ⟨w1.heap.size, 1, none⟩ = some (.string S) := HH3.out.cell 1; have g2 : W3.cell? ⟨w1.heap.size, 2, none⟩ = some (.int .i64 sz) := HH3.out.cell 2; have g3 : W3.cell? ⟨w1.heap.size, 3, none⟩ = some (.int .i64 ar) := HH3.out.cell 3; have g4 : W3.cell? ⟨w1.heap.size, 4, none⟩ = some (.int .u32 su) := HH3.out.cell 4; have y0 : W3.cell? ⟨W2.heap.size, 0, none⟩ = some (.string S) := HM3.out.cell 0; have y1 : W3.cell? ⟨W2.heap.size, 1, none⟩ = some (.int .i64 p) := HM3.out.cell 1; have y2 : W3.cell? ⟨W2.heap.size, 2, none⟩ = some (.int .i64 K) := HM3.out.cell 2; have y3 : W3.cell? ⟨W2.heap.size, 3, none⟩ = some (.int .i64 ar) := HM3.out.cell 3; have y4 : W3.cell? ⟨W2.heap.size, 4, none⟩ = some (.int .i64 sz) := HM3.out.cell 4; have y5 : W3.cell? ⟨W2.heap.size, 5, none⟩ = some (.int .u32 su) := HM3.out.cell 5; have y6 : W3.cell? ⟨W2.heap.size, 6, none⟩ = some (.int .i64 m) := HM3.out.cell 6)
    | (go_at_call 48; refine (HWI.out W3).mono ?_; rintro e w4 ⟨rfl, hbw⟩; have HX4 := Lib.hid (HX3.out.below hbw HX3.out.lt); have HH4 := Lib.hid (HH3.out.below hbw HH3.out.lt); have HM4 := Lib.hid (HM3.out.below hbw HM3.out.lt); have HB4 := Lib.hid (HB3.out.trans (hbw.mono HB3.out.size)); clear hbw; have hx0 : w4.cell? ⟨w.heap.size, 0, none⟩ = some (.int .i64 0) := HX4.out.cell 0; have hx1 : w4.cell? ⟨w.heap.size, 1, none⟩ = some (.string ⟨#[]⟩) := HX4.out.cell 1; have hx2 : w4.cell? ⟨w.heap.size, 2, none⟩ = some (.int .i64 0) := HX4.out.cell 2; have hx3 : w4.cell? ⟨w.heap.size, 3, none⟩ = some (.int .i64 0) := HX4.out.cell 3; have hx4 : w4.cell? ⟨w.heap.size, 4, none⟩ = some (.int .i64 0) := HX4.out.cell 4; have hx5 : w4.cell? ⟨w.heap.size, 5, none⟩ = some (.int .i64 0) := HX4.out.cell 5; have hx6 : w4.cell? ⟨w.heap.size, 6, none⟩ = some (.int .u32 0) := HX4.out.cell 6; have hx7 : w4.cell? ⟨w.heap.size, 7, none⟩ = some (.int .i64 0) := HX4.out.cell 7; have hx8 : w4.cell? ⟨w.heap.size, 8, none⟩ = some (.int .i64 0) := HX4.out.cell 8; have hf0 := frozen_of_row w4 w.heap.size 0 _ _ HX4.out; have hf1 := frozen_of_row w4 w.heap.size 1 _ _ HX4.out; have hf2 := frozen_of_row w4 w.heap.size 2 _ _ HX4.out; have hf3 := frozen_of_row w4 w.heap.size 3 _ _ HX4.out; have hf4 := frozen_of_row w4 w.heap.size 4 _ _ HX4.out; have hf5 := frozen_of_row w4 w.heap.size 5 _ _ HX4.out; have hf6 := frozen_of_row w4 w.heap.size 6 _ _ HX4.out; have hf7 := frozen_of_row w4 w.heap.size 7 _ _ HX4.out; have hf8 := frozen_of_row w4 w.heap.size 8 _ _ HX4.out; have hz1 : w.heap.size < w4.heap.size := HX4.out.lt; have g0 : w4.cell? ⟨w1.heap.size, 0, none⟩ = some (.int .i64 m) := HH4.out.cell 0; have g1 : w4.cell? ⟨w1.heap.size, 1, none⟩ = some (.string S) := HH4.out.cell 1; have g2 : w4.cell? ⟨w1.heap.size, 2, none⟩ = some (.int .i64 sz) := HH4.out.cell 2; have g3 : w4.cell? ⟨w1.heap.size, 3, none⟩ = some (.int .i64 ar) := HH4.out.cell 3; have g4 : w4.cell? ⟨w1.heap.size, 4, none⟩ = some (.int .u32 su) := HH4.out.cell 4; have y0 : w4.cell? ⟨W2.heap.size, 0, none⟩ = some (.string S) := HM4.out.cell 0; have y1 : w4.cell? ⟨W2.heap.size, 1, none⟩ = some (.int .i64 p) := HM4.out.cell 1; have y2 : w4.cell? ⟨W2.heap.size, 2, none⟩ = some (.int .i64 K) := HM4.out.cell 2; have y3 : w4.cell? ⟨W2.heap.size, 3, none⟩ = some (.int .i64 ar) := HM4.out.cell 3; have y4 : w4.cell? ⟨W2.heap.size, 4, none⟩ = some (.int .i64 sz) := HM4.out.cell 4; have y5 : w4.cell? ⟨W2.heap.size, 5, none⟩ = some (.int .u32 su) := HM4.out.cell 5; have y6 : w4.cell? ⟨W2.heap.size, 6, none⟩ = some (.int .i64 m) := HM4.out.cell 6))
  refine bodyPost_ret (v := .tuple #[.agg #[.int .i64 1, .string S, .int .i64 p, .int .i64 K, .int .i64 ar, .int .i64 sz, .int .u32 su, .int .i64 m, .int .i64 (K + ar)], .int .i64 0]) (by simp [results, Tryz.results16, hx0, hx1, hx2, hx3, hx4, hx5, hx6, hx7, hx8, go_sem]) rfl ⟨rfl, ?_⟩
  iterate 9 (refine Below.setCell ?_ ?_ _; rotate_left; first | exact Nat.le_refl _ | exact Nat.le_succ _)
  exact HB4.out
end Go.Proofs.YtaknladkodibaaaGreatDoor
/- Layer 22: a streamed member's record: record.Stream. -/
namespace Go.Proofs.YtaknladkodibaaaGreatDoor
open Go.RowKit CrcP FieldP
attribute [local go_sem ↓] Go.wp_at_zero Go.wp_at_succ

/-- A streamed payload. -/
def arP (ls : List PcV) : List UInt8 := pcsB ls ++ [0, 0]
/-- A streamed record's bytes. -/
def strB (s : ByteArray) (ls : List PcV) : List UInt8 := headB 2 s.data.toList 0 0 0 ++ arP ls ++ descB (sumP ls : Nat) ((arP ls).length : Nat) (CrcP.sumN (arP ls) : Nat)
theorem descB_len (a b s : Nat) : (descB a b s).length = 20 := by
  unfold descB threeB
  rw [sealed_length]
  simp [putN_length, descBytes]
theorem strB_len (s : ByteArray) (ls : List PcV) : (strB s ls).length = 22 + s.size + (arP ls).length + 20 := by
  unfold strB
  rw [List.length_append, List.length_append, headB_length, descB_len]
  rfl
theorem hdB_str {s : ByteArray} (hr : rightB s.data.toList = true) : hdB ((2 : Nat) : Int) s.data.toList ((0 : Nat) : Int) ((0 : Nat) : Int) ((0 : Nat) : Int) = true := by
  unfold hdB
  rw [hr]
  decide
set_option maxRecDepth 100000 in
set_option maxHeartbeats 1000000 in
theorem recStr_no (tg : Nat) (v : Value) (s : ByteArray) (w : World) (hs : s.size ≤ maxLen) (hr : rightB s.data.toList = false) :
    Calls Tryz.prog 14 #[.pointer (some ⟨tg, 0, none⟩), .string s, v] w fun e w' => e = .returned (.tuple #[.slice none 0 0, .int .i64 6]) ∧ Below w.heap.size w w' := by
  have HR := Lib.hid (rightM_any s w hs)
  rw [hr] at HR
  clear hs hr
  go_enter Tryz.func14, Tryz.ntmps14
  go_wp2_with (go_at_call 30; refine HR.out.mono ?_; rintro e w1 ⟨rfl, hb1⟩; have HB1 := Lib.hid hb1; clear hb1)
  exact bodyPost_ret (results_tmp2 rfl _ _ _) rfl ⟨rfl, HB1.out⟩
set_option maxRecDepth 100000 in
set_option maxHeartbeats 2000000 in
theorem recStr_yes (tg : Nat) (A : Option Addr) (l c : Nat) (ls : List PcV) (s : ByteArray) (w : World) (hT : Table w tg) (hW : Wid w) (hs : s.size ≤ maxLen) (hr : rightB s.data.toList = true) (hl : ls.length = l) (hm : l ≤ 1000) (hrw : RowsIn w A ls) (hall : ∀ x ∈ ls, x.1.length ≤ 65535) (hsum : sumP ls ≤ 65535) :
    Calls Tryz.prog 14 #[.pointer (some ⟨tg, 0, none⟩), .string s, .slice A l c] w fun e w' => ∃ A' c', e = .returned (.tuple #[.slice A' (strB s ls).length c', .int .i64 0]) ∧ OwnY w' w.heap.size (.slice A' (strB s ls).length c') (strB s ls).length (strB s ls) ∧ Below w.heap.size w w' := by
  have HR := Lib.hid (rightM_any s w hs)
  rw [hr] at HR
  have htl := hT.lt
  have hw0 := hW.1
  have h64 := rightB_len' hr
  have hss : s.data.toList.length = s.size := by rw [Array.length_toList]; rfl
  rw [hss] at h64
  have HST : Hid (∀ W, Below w.heap.size w W → _) := fun W hV => stream_any A l c ls W hl hm (hrw.belowS hV) hsum
  obtain ⟨hov, hdb⟩ := ofV_stream hall hsum (by omega)
  have hpl := pcsB_len ls
  rw [strB_len]
  have hSB : strB s ls = headB 2 s.data.toList 0 0 0 ++ arP ls ++ descB (sumP ls : Nat) ((arP ls).length : Nat) (CrcP.sumN (arP ls) : Nat) := rfl
  rw [hSB]
  change ofV (arP ls) = _ at hov
  change dcB _ ((arP ls).length : Nat) = true at hdb
  have hal : (arP ls).length ≤ sumP ls + 2 * l + 2 := by unfold arP; rw [List.length_append]; simp; omega
  have HST' : Hid (∀ W, Below w.heap.size w W → Calls Tryz.prog 38 #[.slice A l c] W fun e w' => ∃ A' n c', e = .returned (.tuple #[.slice A' n c', .int .i64 0]) ∧ OwnY w' W.heap.size (.slice A' n c') n (arP ls) ∧ Below W.heap.size W w') := HST.out
  obtain ⟨ar, har⟩ : ∃ ar, arP ls = ar := ⟨_, rfl⟩
  rw [har] at hov hdb hal HST' ⊢
  obtain ⟨sm, hsm⟩ : ∃ sm, sumP ls = sm := ⟨_, rfl⟩
  rw [hsm] at hov hdb hal hsum ⊢
  obtain ⟨la, hla⟩ : ∃ la, ar.length = la := ⟨_, rfl⟩
  have hov2 : ofV ar = (sm, la, CrcP.sumN ar, 0) := by rw [← hla]; rw [← har]; rw [← har] at hov; exact hov
  rw [hla] at hdb hal ⊢
  have hsl := sumN_lt ar
  have HOF : Hid (∀ (W : World) (A2 : Option Addr) (c2 : Nat), la ≤ c2 → Bytes W W.heap.size A2 ar → Below w.heap.size w W → _) := fun W A2 c2 hc hbb hV => dcOf_any tg A2 la c2 W.heap.size ar W (hT.below hV htl) hla (by omega) hc hbb (Nat.le_refl _)
  rw [hov2] at HOF
  dsimp only at HOF
  obtain ⟨su, hsu⟩ : ∃ su, CrcP.sumN ar = su := ⟨_, rfl⟩
  rw [hsu] at HOF hsl ⊢
  have HLP : Hid (∀ W, Below w.heap.size w W → _) := fun W hW' => lcPut_yes tg 2 s 0 0 0 W (hW.below hW' hw0 (by have := hW'.size; omega)) (by omega) (hdB_str hr) (hT.below hW' htl)
  have HDP : Hid (∀ W, Below w.heap.size w W → _) := fun W hW' => dcPut_yes tg sm la su W hdb (by omega) (by omega) (hT.below hW' htl)
  obtain ⟨HD, hHD⟩ : ∃ HD, headB 2 s.data.toList 0 0 0 = HD := ⟨_, rfl⟩
  rw [hHD] at HLP ⊢
  obtain ⟨DB, hDB⟩ : ∃ DB, descB (sm : Nat) (la : Nat) (su : Nat) = DB := ⟨_, rfl⟩
  rw [hDB] at HDP ⊢
  have hla2 : la ≤ 67537 := by omega
  have HLA := Lib.hid hla
  have hdl : DB.length = 20 := by rw [← hDB]; exact descB_len _ _ _
  have HDL := Lib.hid hdl
  clear hT hW hs hr hl hrw hall hsum hov hov2 hdb hal hpl hsm har hla hsu hHD hDB hss hSB HST hdl
  go_enter Tryz.func14, Tryz.ntmps14
  go_wp2_with (first
    | (go_at_call 30; refine HR.out.mono ?_; rintro e w1 ⟨rfl, hb1⟩; have HB1 := Lib.hid hb1; clear hb1)
    | (go_at_call 38; refine (HST'.out w1 HB1.out).mono ?_; rintro e w2 ⟨A2, la', c2, rfl, ho2, hb2⟩; obtain rfl : la' = la := (by have h1 := ho2.1; rw [byteCells_length, HLA.out] at h1; exact h1.symm); have HCP := Lib.hid (capS ho2); have HC2 := Lib.hid ho2.cells; have HB2 := Lib.hid (HB1.out.trans (hb2.mono HB1.out.size)); clear ho2 hb2)
    | (go_at_call 39; refine (HOF.out w2 A2 c2 HCP.out HC2.out HB2.out).mono ?_; rintro e w3 ⟨rfl, hb3⟩; have HC3 := Lib.hid (HC2.out.below hb3 (Nat.le_refl _)); have HB3 := Lib.hid (HB2.out.trans (hb3.mono HB2.out.size)); have HS3 := Lib.hid hb3.size; clear hb3; obtain ⟨W4, hW4⟩ : ∃ W4, w3.alloc (.cells #[.int .i64 (sm : Int), .int .i64 (la' : Int), .int .u32 (su : Int)] 78) = W4 := ⟨_, rfl⟩; have HD4 : Hid (Box W4 w3.heap.size #[.int .i64 (sm : Int), .int .i64 (la' : Int), .int .u32 (su : Int)] 78) := (by show Box _ _ _ _; rw [← hW4]; exact heap_alloc_new w3 _); have HB4 : Hid (Below w.heap.size w W4) := (by show Below _ _ _; rw [← hW4]; exact HB3.out.alloc HB3.out.size _); have HC4 : Hid (Cells W4 w2.heap.size A2 (byteCells ar)) := (by show Cells _ _ _ _; rw [← hW4]; exact HC3.out.below ((Below.refl _ w3).alloc (Nat.le_refl _) _) HS3.out); have HS4 : Hid (w2.heap.size ≤ W4.heap.size) := (by show _ ≤ _; have h1 := HD4.out.lt; have h2 := HS3.out; omega))
    | (go_at_call 32; refine (HLP.out W4 HB4.out).mono ?_; rintro e w5 ⟨A5, c5, rfl, ho5, hb5⟩; have HO5 := Lib.hid (ho5.le HB4.out.size); have HD5 := Lib.hid (HD4.out.below hb5 HD4.out.lt); have HC5 := Lib.hid (HC4.out.below hb5 HS4.out); have HB5 := Lib.hid (HB4.out.trans (hb5.mono HB4.out.size)); have HS5 : Hid (w2.heap.size ≤ w5.heap.size) := Nat.le_trans HS4.out hb5.size; clear ho5 hb5; have d0 : w5.cell? ⟨w3.heap.size, 0, none⟩ = some (.int .i64 (sm : Int)) := HD5.out.cell 0; have d1 : w5.cell? ⟨w3.heap.size, 1, none⟩ = some (.int .i64 (la' : Int)) := HD5.out.cell 1; have d2 : w5.cell? ⟨w3.heap.size, 2, none⟩ = some (.int .u32 (su : Int)) := HD5.out.cell 2)
    | (go_at_call 40; refine (HDP.out w5 HB5.out).mono ?_; rintro e w6 ⟨A6, c6, rfl, ho6, hb6⟩; have HO6 := Lib.hid ho6; have HO56 := Lib.hid (HO5.out.keep (Mod.of_below hb6) (fun _ _ h => h)); have HC6 := Lib.hid (HC5.out.below hb6 HS5.out); have HB6 := Lib.hid (HB5.out.trans (hb6.mono HB5.out.size)); have HS6 : Hid (∀ k, ownS (.slice A5 (22 + s.size) c5) k → k < w5.heap.size) := (fun k hk => (HO5.out.lt k hk).2); clear ho6 hb6)
    | (at_builtin; refine wpList_appT w6 byteElem rfl (.tmp 47) (.tmp 48) rfl w.heap.size (.slice A5 (22 + s.size) c5) (22 + s.size) (byteCells HD) rfl HO56.out w2.heap.size A2 la' c2 (byteCells ar) rfl (by rw [byteCells_length, HLA.out]) HC6.out (byteCells_one _) (by unfold maxLen; omega) (by omega) HB6.out.size ?_; intro A7 c7 w7 hap; have HAP7 := Lib.hid hap; have HO67 := Lib.hid (HO6.out.keep hap.mod (fun k hk hk2 => by have h1 := (HO6.out.lt k hk).1; have h2 := HS6.out k hk2; omega)); have HB7 := Lib.hid (hap.below HB6.out HB6.out.size (fun k hk => (HO5.out.lt k hk).1)); clear hap)
    | (at_builtin; refine wpList_appT w7 byteElem rfl (.tmp 49) (.tmp 50) rfl w.heap.size (.slice A7 (22 + s.size + la') c7) (22 + s.size + la') (byteCells HD ++ byteCells ar) rfl HAP7.out.own w7.heap.size A6 20 c6 (byteCells DB) rfl (by rw [byteCells_length, HDL.out]) HO67.out.cells (byteCells_one _) (by unfold maxLen; omega) (by omega) HB7.out.size ?_; intro A8 c8 w8 hap; have HAP8 := Lib.hid hap; have HB8 := Lib.hid (hap.below HB7.out HB7.out.size (fun k hk => (HAP7.out.own.lt k hk).1)); clear hap))
  refine bodyPost_ret (results_tmp2 rfl _ _ _) rfl ?_
  refine ⟨A8, c8, rfl, ?_, HB8.out⟩
  have h := HAP8.out.own
  unfold OwnY
  rw [byteCells_append, byteCells_append]
  exact h
end Go.Proofs.YtaknladkodibaaaGreatDoor
/- Layer 22: a streamed member's record: the document's answer. -/
namespace Go.Proofs.YtaknladkodibaaaGreatDoor
open Go.RowKit CrcP FieldP
attribute [local go_sem ↓] Go.wp_at_zero Go.wp_at_succ

set_option maxRecDepth 100000 in
set_option maxHeartbeats 1000000 in
theorem refStr_no (v : Value) (s : ByteArray) (w : World) (hs : s.size ≤ maxLen) (hr : rightB s.data.toList = false) :
    Calls Tryz.prog 15 #[.string s, v] w fun e w' => e = .returned (.tuple #[.slice none 0 0, .int .i64 6]) ∧ Below w.heap.size w w' := by
  have HR := Lib.hid (refRight_any s w hs)
  rw [hr] at HR
  clear hs hr
  go_enter Tryz.func15, Tryz.ntmps15
  go_wp2_with (go_at_call 34; refine HR.out.mono ?_; rintro e w1 ⟨rfl, hb1⟩; have HB1 := Lib.hid hb1; clear hb1)
  exact bodyPost_ret (results_tmp2 rfl _ _ _) rfl ⟨rfl, HB1.out⟩
set_option maxRecDepth 100000 in
set_option maxHeartbeats 2000000 in
theorem refStr_yes (A : Option Addr) (l c : Nat) (ls : List PcV) (s : ByteArray) (w : World) (hs : s.size ≤ maxLen) (hr : rightB s.data.toList = true) (hl : ls.length = l) (hm : l ≤ 1000) (hrw : RowsIn w A ls) (hall : ∀ x ∈ ls, x.1.length ≤ 3000) (hsum : sumP ls ≤ 65535) :
    Calls Tryz.prog 15 #[.string s, .slice A l c] w fun e w' => ∃ A' c', e = .returned (.tuple #[.slice A' (strB s ls).length c', .int .i64 0]) ∧ OwnY w' w.heap.size (.slice A' (strB s ls).length c') (strB s ls).length (strB s ls) ∧ Below w.heap.size w w' := by
  have HR := Lib.hid (refRight_any s w hs)
  rw [hr] at HR
  have h64 := rightB_len' hr
  have hss : s.data.toList.length = s.size := by rw [Array.length_toList]; rfl
  rw [hss] at h64
  have HL := Lib.hid hl
  have HRW := Lib.hid hrw
  have HALL := Lib.hid hall
  have HS := Lib.hid (fun i => sumP_le ls i)
  have HPL := Lib.hid (fun i => pcsB_len (ls.take i))
  have HRR := Lib.hid hr
  clear hs hr hl hrw hall hss
  go_enter Tryz.func15, Tryz.ntmps15
  go_wp2_with (go_at_call 34; refine HR.out.mono ?_; rintro e w1 ⟨rfl, hb1⟩; have HB1 := Lib.hid hb1; clear hb1)
  go_loopg [6, 7, 8] l (fun gk sa sn si wr => ∃ (i n m c' : Nat) (A' : Option Addr), i + gk = l ∧ si = .int .i64 (i : Int) ∧ sn = .int .i64 (n : Int) ∧ sa = .slice A' m c' ∧ n = sumP (ls.take i) ∧ OwnB wr w.heap.size 5 (.slice A' m c') m (pcsB (ls.take i)) ∧ Below w.heap.size w wr)
  case atStart => exact ⟨0, 0, 0, 0, none, by omega, rfl, rfl, rfl, by simp [sumP], World.ownsRow_nil _ _ _ _, HB1.out⟩
  case round =>
    obtain ⟨i, n, m, c', A', hi, rfl, rfl, rfl, hn, hown, hbel⟩ := hrel
    have HO := Lib.hid hown
    have HB := Lib.hid hbel
    have HN := Lib.hid hn
    have hn2 : n ≤ 65535 := by have := HS.out i; omega
    have hm2 : m ≤ 70000 := by
      have h1 := hown.1
      rw [byteCells_length] at h1
      have h2 := HPL.out i
      have h3 := HS.out i
      have h4 : (ls.take i).length ≤ 1000 := by rw [List.length_take]; have := HL.out; omega
      omega
    clear hown hbel hn
    by_cases hil : i < l
    · obtain ⟨x, hx⟩ : ∃ x, ls[i]? = some x := ⟨_, List.getElem?_eq_getElem (by rw [HL.out]; exact hil)⟩
      obtain ⟨b, o, rfl, hbB, hcc⟩ := HRW.out.row (by rw [List.length_map, HL.out]; omega)
      have ci : wr.cell? ⟨b, o + i, none⟩ = some (pcC x) := (HB.out.cell (p := ⟨b, o + i, none⟩) (by show b < _; omega)).trans (hcc i _ (by rw [List.getElem?_map, hx]; rfl))
      have hex := HRW.out.each x (List.mem_of_getElem? hx)
      have hx3 := HALL.out x (List.mem_of_getElem? hx)
      have HU := Lib.hid (sumP_up hx)
      have HPU := Lib.hid (pcsB_up hx)
      have HS1 := HS.out (i + 1)
      obtain ⟨r, A2, k2⟩ := x
      have hrl : n + r.length ≤ 65535 := by
        have h1 := HU.out
        have h2 := HN.out
        dsimp only at h1
        omega
      have HPC := Lib.hid (rpiece_any A2 r.length k2 w.heap.size r wr rfl hx3 hex.2 (hex.1.below HB.out (Nat.le_refl _)) HB.out.size)
      have ci2 : wr.cell? ⟨b, o + i, none⟩ = some (.slice A2 r.length k2) := ci
      have u1 : ¬ 65536 - (n : Int) < (r.length : Int) := by omega
      obtain ⟨rl, hrl2⟩ : ∃ rl, r.length = rl := ⟨_, rfl⟩
      have HN2 : Hid (n + rl = sumP (ls.take (i + 1))) := by show _ = _; rw [HU.out, HN.out, ← hrl2]
      rw [hrl2] at ci2 u1 hrl HPC
      have hpl := pieceB_len r
      clear hcc ci hx hex HS1 hx3
      go_wp2_with (first
        | (go_at_call 41; refine HPC.out.mono ?_; rintro e w2 ⟨A3, n3, c3, rfl, ho3, hb3⟩; have HO3 := Lib.hid ho3; have HB3 := Lib.hid (HB.out.trans (hb3.mono HB.out.size)); have HO2 : Hid (OwnB w2 w.heap.size 5 (.slice A' m c') m (pcsB (ls.take i))) := own_keep HO.out (Mod.of_below hb3) (fun _ _ h => h); have hn3 : n3 ≤ 65600 := (by have h1 := ho3.1; rw [byteCells_length, Nat.mul_one] at h1; omega); have hl3 : (byteCells (pieceB r)).length = n3 * 1 := ho3.1; have HL3 := Lib.hid hl3; clear ho3 hb3 hl3)
        | (at_builtin; refine wpList_app _ byteElem rfl (.tmp 36) (.tmp 41) rfl w.heap.size (.slice A' m c') m (byteCells (pcsB (ls.take i))) rfl HO2.out w2.heap.size A3 n3 c3 (byteCells (pieceB r)) rfl HL3.out (Cells.of_own HO3.out) (byteCells_one _) (by unfold maxLen; omega) (by omega) HB3.out.size ?_; intro A6 c6 w6 hA; have HA := Lib.hid hA; clear hA))
      go_roundg (gk - 1)
      case measure => omega
      case rel =>
        refine ⟨i + 1, n + rl, m + n3, c6, A6, by omega, by go_num, by go_num, rfl, HN2.out, ?_, HA.out.below HB3.out HB3.out.size (own_base HO2.out)⟩
        rw [HPU.out]
        have := HA.out.own
        show World.ownsRow _ _ _ _ _ _ _
        rw [byteCells_append]
        exact this
    · obtain rfl : i = l := by omega
      have hall : ls.take i = ls := by rw [← HL.out, List.take_length]
      have hnil : (pcsB (ls.take i)).length = m := by have h1 := HO.out.1; rw [byteCells_length, Nat.mul_one] at h1; exact h1
      obtain ⟨hov, hdb⟩ := ofV_stream (ls := ls) (fun x hx => Nat.le_trans (HALL.out x hx) (by omega)) hsum (by have := HL.out; omega)
      have hSB : strB s ls = headB 2 s.data.toList 0 0 0 ++ arP ls ++ descB (sumP ls : Nat) ((arP ls).length : Nat) (CrcP.sumN (arP ls) : Nat) := rfl
      change ofV (arP ls) = _ at hov
      change dcB _ ((arP ls).length : Nat) = true at hdb
      have hla : (arP ls).length = m + 2 := by unfold arP; rw [List.length_append, ← hall, hnil]; rfl
      have HSL : Hid ((strB s ls).length = 22 + s.size + (m + 2) + 20) := by show _ = _; rw [strB_len, hla]
      have hov2 : ofV (arP ls) = (sumP ls, (arP ls).length, CrcP.sumN (arP ls), 0) := hov
      have hac : byteCells (arP ls) = byteCells (pcsB (ls.take i)) ++ [.int .u8 0, .int .u8 0] := by unfold arP; rw [byteCells_append, hall]; rfl
      obtain ⟨ar, har⟩ : ∃ ar, arP ls = ar := ⟨_, rfl⟩
      rw [har] at hov2 hdb hla hac hSB
      have hsm2 : sumP ls ≤ 65535 := hsum
      obtain ⟨sm, hsm⟩ : ∃ sm, sumP ls = sm := ⟨_, rfl⟩
      rw [hsm] at hov2 hdb hsm2 hSB
      rw [hla] at hov2 hdb hSB
      have hsl := sumN_lt ar
      have HOF : Hid (∀ (W : World) (A2 : Option Addr) (c2 : Nat), m + 2 ≤ c2 → Bytes W W.heap.size A2 ar → _) := fun W A2 c2 hc hbb => refOf_any A2 (m + 2) c2 W.heap.size ar W hla (by omega) hc hbb (Nat.le_refl _)
      rw [hov2] at HOF
      dsimp only at HOF
      obtain ⟨su, hsu⟩ : ∃ su, CrcP.sumN ar = su := ⟨_, rfl⟩
      rw [hsu] at HOF hsl hSB
      have HLP : Hid (∀ W : World, _) := fun W => lcRefPut_any 2 s 0 0 0 W (hdB_str HRR.out) (by omega)
      have HDP : Hid (∀ W : World, _) := fun W => dcRefPut_any (sm : Int) ((m + 2 : Nat) : Int) (su : Int) W hdb (by omega) (by omega)
      obtain ⟨HD, hHD⟩ : ∃ HD, headB 2 s.data.toList 0 0 0 = HD := ⟨_, rfl⟩
      rw [hHD] at HLP hSB
      obtain ⟨DB, hDB⟩ : ∃ DB, descB (sm : Nat) ((m + 2 : Nat) : Int) (su : Nat) = DB := ⟨_, rfl⟩
      rw [hDB] at HDP hSB
      have HSB := Lib.hid hSB
      have HLA := Lib.hid hla
      have HAC := Lib.hid hac
      have hdl : DB.length = 20 := by rw [← hDB]; exact descB_len _ _ _
      have HDL := Lib.hid hdl
      have hcast : ((m + 2 : Nat) : Int) = (m : Int) + 2 := by omega
      rw [hcast] at HOF HDP
      clear hov hov2 hdb hsm har hla hsu hHD hDB hSB hall hnil hac hdl hcast
      go_wp2_with (first
        | (at_builtin; refine wpList_app (wr.alloc (.cells #[.int .u8 0, .int .u8 0] 5)) byteElem rfl (.tmp 43) (.tmp 44) rfl w.heap.size (.slice A' m c') m (byteCells (pcsB (ls.take i))) rfl (HO.out.alloc _) _ _ 2 2 _ rfl rfl (cells_two wr _ _ _) (by simp [Value.oneCell']) (by unfold maxLen; omega) (by omega) (by have := HB.out.size; simp; omega) ?_; intro A1 c1 w1 hA; rw [← HAC.out] at hA; have HC1 : Hid (Bytes w1 w1.heap.size A1 ar) := Cells.of_own hA.own; have HCP1 : Hid (m + 2 ≤ c1) := capS (OwnT.of hA.own); have HB1' := Lib.hid (hA.below (HB.out.alloc HB.out.size _) (by have := HB.out.size; simp; omega) (own_base HO.out)); clear hA)
        | (go_at_call 42; refine (HOF.out w1 A1 c1 HCP1.out HC1.out).mono ?_; rintro e w3 ⟨rfl, hb3⟩; have HC3 := Lib.hid (HC1.out.below hb3 (Nat.le_refl _)); have HB3 := Lib.hid (HB1'.out.trans (hb3.mono HB1'.out.size)); have HS3 := Lib.hid hb3.size; clear hb3; obtain ⟨W4, hW4⟩ : ∃ W4, w3.alloc (.cells #[.int .i64 (sm : Int), .int .i64 ((m : Int) + 2), .int .u32 (su : Int)] 83) = W4 := ⟨_, rfl⟩; have HD4 : Hid (Box W4 w3.heap.size #[.int .i64 (sm : Int), .int .i64 ((m : Int) + 2), .int .u32 (su : Int)] 83) := (by show Box _ _ _ _; rw [← hW4]; exact heap_alloc_new w3 _); have HB4 : Hid (Below w.heap.size w W4) := (by show Below _ _ _; rw [← hW4]; exact HB3.out.alloc HB3.out.size _); have HC4 : Hid (Cells W4 w1.heap.size A1 (byteCells ar)) := (by show Cells _ _ _ _; rw [← hW4]; exact HC3.out.below ((Below.refl _ w3).alloc (Nat.le_refl _) _) HS3.out); have HS4 : Hid (w1.heap.size ≤ W4.heap.size) := (by show _ ≤ _; have h1 := HD4.out.lt; have h2 := HS3.out; omega))
        | (go_at_call 37; refine (HLP.out W4).mono ?_; rintro e w5 ⟨A5, c5, rfl, ho5, hb5⟩; have HO5 := Lib.hid (ho5.le HB4.out.size); have HD5 := Lib.hid (HD4.out.below hb5 HD4.out.lt); have HO5W : Hid (∀ k, ownS (.slice A5 (22 + s.size) c5) k → W4.heap.size ≤ k) := (fun k hk => (ho5.lt k hk).1); have HC5 := Lib.hid (HC4.out.below hb5 HS4.out); have HB5 := Lib.hid (HB4.out.trans (hb5.mono HB4.out.size)); clear ho5 hb5)
        | (at_builtin; refine wpList_appT w5 byteElem rfl (.tmp 55) (.tmp 56) rfl w.heap.size (.slice A5 (22 + s.size) c5) (22 + s.size) (byteCells HD) rfl HO5.out w1.heap.size A1 (m + 2) c1 (byteCells ar) rfl (by rw [byteCells_length, HLA.out]) HC5.out (byteCells_one _) (by unfold maxLen; omega) (by omega) HB5.out.size ?_; intro A7 c7 w7 hap; have HAP7 := Lib.hid hap; have HB7 := Lib.hid (hap.below HB5.out HB5.out.size (fun k hk => (HO5.out.lt k hk).1)); have HD7 := Lib.hid (HD5.out.mod hap.mod (fun hk => by have h1 := HO5W.out _ hk; have h2 := HD4.out.lt; omega)); clear hap; have d0 : w7.cell? ⟨w3.heap.size, 0, none⟩ = some (.int .i64 (sm : Int)) := HD7.out.cell 0; have d1 : w7.cell? ⟨w3.heap.size, 1, none⟩ = some (.int .i64 ((m : Int) + 2)) := HD7.out.cell 1; have d2 : w7.cell? ⟨w3.heap.size, 2, none⟩ = some (.int .u32 (su : Int)) := HD7.out.cell 2)
        | (go_at_call 43; refine (HDP.out w7).mono ?_; rintro e w8 ⟨A8, c8, rfl, ho8, hb8⟩; have HO8 := Lib.hid ho8; have HO78 := Lib.hid (HAP7.out.own.keep (Mod.of_below hb8) (fun _ _ h => h)); have HB8 := Lib.hid (HB7.out.trans (hb8.mono HB7.out.size)); clear ho8 hb8)
        | (at_builtin; refine wpList_appT w8 byteElem rfl (.tmp 58) (.tmp 60) rfl w.heap.size (.slice A7 (22 + s.size + (m + 2)) c7) (22 + s.size + (m + 2)) (byteCells HD ++ byteCells ar) rfl HO78.out w8.heap.size A8 20 c8 (byteCells DB) rfl (by rw [byteCells_length, HDL.out]) HO8.out.cells (byteCells_one _) (by unfold maxLen; omega) (by omega) HB8.out.size ?_; intro A9 c9 w9 hap; have HAP9 := Lib.hid hap; have HB9 := Lib.hid (hap.below HB8.out HB8.out.size (fun k hk => (HO78.out.lt k hk).1)); clear hap))
      refine bodyPost_ret (results_tmp2 rfl _ _ _) rfl ?_
      rw [HSL.out, HSB.out]
      refine ⟨A9, c9, rfl, ?_, HB9.out⟩
      have h := HAP9.out.own
      unfold OwnY
      rw [byteCells_append, byteCells_append]
      exact h
end Go.Proofs.YtaknladkodibaaaGreatDoor
