/- Layer 18: the reference's Take of a descriptor: whose sum is right. -/
import Derived.Test.YtnccbnadfgilaaaDcRT
namespace Go.Proofs.Ytnccbnadfgilaaa
open Go.RowKit CrcP FieldP
attribute [local go_sem ↓] Go.wp_at_zero Go.wp_at_succ

set_option maxRecDepth 100000 in
set_option maxHeartbeats 200000 in
theorem refDc_wrong (A : Option Addr) (l c : Nat) (bs : List UInt8) (B : Nat) (p x y z : Nat) (w : World) (hl : bs.length = l) (hlc : l ≤ c) (hm : l ≤ 1000000)
    (hb : Bytes w B A bs) (hB : B ≤ w.heap.size) (hp : p + 20 ≤ l) (hi : isB descBytes bs p = true) (h3 : threeR bs p = 0) (h40 : vaK bs (openS bs p) 0 = x) (h41 : vaK bs (openS bs p) 1 = y) (h42 : vaK bs (openS bs p) 2 = z) (hf : dcB x y = false) :
    Calls Try.prog 10 #[.slice A l c, .int .i64 (p : Int)] w fun e w' => e = .returned (.tuple #[.agg #[.int .i64 0, .int .i64 0, .int .u32 0], .int .i64 3]) ∧ Below w.heap.size w w' := by
  obtain ⟨W1, hW1⟩ : ∃ W1, w.alloc (.cells #[.int .i64 0, .int .i64 0, .int .u32 0] 34) = W1 := ⟨_, rfl⟩
  have hb1 : Bytes W1 B A bs := by rw [← hW1]; exact hb.alloc hB _
  have HX1 : Hid (Box W1 w.heap.size #[.int .i64 0, .int .i64 0, .int .u32 0] 34) := by show Box _ _ _ _; rw [← hW1]; exact heap_alloc_new w _
  have HB1 : Hid (Below w.heap.size w W1) := by show Below _ _ _; rw [← hW1]; exact (Below.refl _ w).alloc (Nat.le_refl _) _
  have hx0 : W1.cell? ⟨w.heap.size, 0, none⟩ = some (.int .i64 0) := HX1.out.cell 0
  have hx1 : W1.cell? ⟨w.heap.size, 1, none⟩ = some (.int .i64 0) := HX1.out.cell 1
  have hx2 : W1.cell? ⟨w.heap.size, 2, none⟩ = some (.int .u32 0) := HX1.out.cell 2
  have hf0 := frozen_of_row W1 w.heap.size 0 _ _ HX1.out
  have hf1 := frozen_of_row W1 w.heap.size 1 _ _ HX1.out
  have hf2 := frozen_of_row W1 w.heap.size 2 _ _ HX1.out
  obtain ⟨b, o, rfl, hbB, hcell⟩ := hb1 (by rw [byteCells_length, hl]; omega)
  have hcv := run_string_of (P := Try.prog) (c := c - p) 22 9 5 Try.underlying22 Try.underlying5 Try.underlying9 (bytes_part hbB hcell p 4) (l := 4) (by rw [List.length_take, List.length_drop, hl]; omega)
  rw [isB_in (by show p + 4 ≤ bs.length; omega)] at hi
  obtain ⟨S, hS⟩ : ∃ S : ByteArray, (⟨((bs.drop p).take 4).toArray⟩ : ByteArray) = S := ⟨_, rfl⟩
  rw [hS] at hcv
  have h1 : ¬ (l : Int) < (p : Int) := by omega
  have h2 : decide (((l - p : Nat) : Int) < (20 : Int)) = false := by simp; omega
  have hpc : p ≤ c := by omega
  have hcp : ¬ c = p := by omega
  have h4c : 4 ≤ c - p := by omega
  have h4l : 4 ≤ l - p := by omega
  have hne : (bs.drop p).take 4 = descBytes := of_decide_eq_true hi
  have hTT : (S.toList == [68, 69, 83, 67]) = true := by
    rw [ByteArray.toList_eq, ← hS]
    exact beq_iff_eq.2 hne
  have HLD : Hid ((bs.drop p).length = l - p) := by show _ = _; rw [List.length_drop, hl]
  have HNU : Hid (∀ (k : Nat) (W : World), k + 4 ≤ l - p → Bytes W B (some ⟨b, o + p, none⟩) (bs.drop p) → Calls Try.prog 24 #[.slice (some ⟨b, o + p, none⟩) (l - p) (c - p), .int .i64 (k : Int), .int .i64 4] W fun e w' => e = .returned (.int .i64 ((val ((bs.drop (p + k)).take 4) : Nat) : Int)) ∧ W = w') := fun k W hk h => by
    have := refNumber_any (some ⟨b, o + p, none⟩) (l - p) (c - p) (bs.drop p) B k W HLD.out (by omega) (by omega) h
    rwa [List.drop_drop] at this
  have HSU : Hid (∀ W, Bytes W B (some ⟨b, o + p, none⟩) ((bs.drop p).take 16) → Calls Try.prog 25 #[.slice (some ⟨b, o + p, none⟩) 16 (c - p)] W fun e w' => e = .returned (.int .u32 (sumN ((bs.drop p).take 16) : Nat)) ∧ W = w') := fun W h =>
    refSum_any (some ⟨b, o + p, none⟩) 16 (c - p) _ B W (by rw [List.length_take, HLD.out]; omega) (by omega) h
  have HYR := Lib.hid (bytes_rest hbB hcell p)
  have HYP := Lib.hid (bytes_part hbB hcell p 16)
  have hslt := sumN_lt ((bs.drop p).take 16)
  have hvlt : val ((bs.drop (p + 16)).take 4) < 4294967296 := val_lt4 (by rw [List.length_take]; omega)
  have h16c : 16 ≤ c - p := by omega
  have h16l : 16 ≤ l - p := by omega
  have HN16 := Lib.hid (fun W h => HNU.out 16 W (by omega) h)
  have hvs : val ((bs.drop (p + 16)).take 4) = sumN ((bs.drop p).take 16) := by
    by_cases e : val ((bs.drop (p + 16)).take 4) = sumN ((bs.drop p).take 16)
    · exact e
    · rw [three_there (by omega), if_neg e] at h3
      exact absurd h3 (by decide)
  rw [three_va (by omega) (by omega)] at h40 h41 h42
  have hx32 : x < 4294967296 := by rw [← h40]; exact val_lt4 (by rw [List.length_take]; omega)
  have hy32 : y < 4294967296 := by rw [← h41]; exact val_lt4 (by rw [List.length_take]; omega)
  have hz32 : z < 4294967296 := by rw [← h42]; exact val_lt4 (by rw [List.length_take]; omega)
  have HN4 := Lib.hid (fun W h => HNU.out 4 W (by omega) h)
  have HN8 := Lib.hid (fun W h => HNU.out 8 W (by omega) h)
  have HN12 := Lib.hid (fun W h => HNU.out 12 W (by omega) h)
  rw [show p + 4 + 4 * 0 = p + 4 by omega] at h40
  rw [show p + 4 + 4 * 1 = p + 8 by omega] at h41
  rw [show p + 4 + 4 * 2 = p + 12 by omega] at h42
  rw [h40] at HN4
  rw [h41] at HN8
  rw [h42] at HN12
  have HFR := Lib.hid (fun W => dcRefRight_any x y z W)
  rw [hf] at HFR
  obtain ⟨v, hv⟩ : ∃ v, sumN ((bs.drop p).take 16) = v := ⟨_, rfl⟩
  rw [hvs] at HN16 hvlt
  rw [hv] at HSU hslt HN16 hvlt
  clear hi hne hS hb hl hcell hv h3 HNU h40 h41 h42 hf hvs hslt
  go_enter Try.func10, Try.ntmps10
  go_wp2_with fail
  go_quiet (first | (go_at_call 24; exact quiet_left (HN16.out _ HYR.out)) | (go_at_call 25; exact quiet_left (HSU.out _ HYP.out)))
  have K4 := Lib.hid (HN4.out (W1.drewN nq) (HYR.out.drewN nq))
  have K8 := Lib.hid (HN8.out (W1.drewN nq) (HYR.out.drewN nq))
  have K12 := Lib.hid (HN12.out (W1.drewN nq) (HYR.out.drewN nq))
  have c0 : (W1.drewN nq).cell? ⟨w.heap.size, 0, none⟩ = some (.int .i64 0) := hx0
  have c1 : (W1.drewN nq).cell? ⟨w.heap.size, 1, none⟩ = some (.int .i64 0) := hx1
  have c2 : (W1.drewN nq).cell? ⟨w.heap.size, 2, none⟩ = some (.int .u32 0) := hx2
  have HX2 : Hid (Box (W1.drewN nq) w.heap.size #[.int .i64 0, .int .i64 0, .int .u32 0] 34) := HX1.out
  have HB2 : Hid (Below w.heap.size w (W1.drewN nq)) := ⟨HB1.out.os, HB1.out.tape, HB1.out.output, HB1.out.size, HB1.out.block⟩
  have HZ2 : Hid (w.heap.size < (W1.drewN nq).heap.size) := HX1.out.lt
  clear HN4 HN8 HN12 HN16 HSU hcv hTT hx0 hx1 hx2 hf0 hf1 hf2 HYR HYP HX1 HB1 hW1
  generalize W1.drewN nq = W2 at *
  go_wp2_with fail
  refine K4.out.mono ?_
  rintro e w' ⟨rfl, rfl⟩
  go_wp2_with fail
  refine K8.out.mono ?_
  rintro e w' ⟨rfl, rfl⟩
  go_wp2_with fail
  refine K12.out.mono ?_
  rintro e w' ⟨rfl, rfl⟩
  go_wp2_with fail
  refine (HFR.out _).mono ?_
  rintro e w2 ⟨rfl, hw2⟩
  have HX3 : Hid (Box w2 w.heap.size #[.int .i64 0, .int .i64 0, .int .u32 0] 34) := by (rw [← hw2]; exact (HX2.out.alloc _).alloc _)
  have HB3 : Hid (Below w.heap.size w w2) := by (rw [← hw2]; exact (HB2.out.alloc HB2.out.size _).alloc (by simp; have := HB2.out.size; omega) _)
  clear hw2 c0 c1 c2
  have hx0 : w2.cell? ⟨w.heap.size, 0, none⟩ = some (.int .i64 0) := HX3.out.cell 0
  have hx1 : w2.cell? ⟨w.heap.size, 1, none⟩ = some (.int .i64 0) := HX3.out.cell 1
  have hx2 : w2.cell? ⟨w.heap.size, 2, none⟩ = some (.int .u32 0) := HX3.out.cell 2
  have hf0 := frozen_of_row w2 w.heap.size 0 _ _ HX3.out
  have hf1 := frozen_of_row w2 w.heap.size 1 _ _ HX3.out
  have hf2 := frozen_of_row w2 w.heap.size 2 _ _ HX3.out
  go_wp2
  refine bodyPost_ret (v := .tuple #[.agg #[.int .i64 0, .int .i64 0, .int .u32 0], .int .i64 3]) (by simp [results, Try.results10, hx0, hx1, hx2, go_sem]) rfl ⟨rfl, ?_⟩
  exact (((HB3.out.setCell (p := ⟨w.heap.size, 0, none⟩) (Nat.le_refl _) _).setCell (p := ⟨w.heap.size, 1, none⟩) (Nat.le_refl _) _).setCell (p := ⟨w.heap.size, 2, none⟩) (Nat.le_refl _) _)
set_option maxRecDepth 100000 in
set_option maxHeartbeats 200000 in
theorem refDc_good (A : Option Addr) (l c : Nat) (bs : List UInt8) (B : Nat) (p x y z : Nat) (w : World) (hl : bs.length = l) (hlc : l ≤ c) (hm : l ≤ 1000000)
    (hb : Bytes w B A bs) (hB : B ≤ w.heap.size) (hp : p + 20 ≤ l) (hi : isB descBytes bs p = true) (h3 : threeR bs p = 0) (h40 : vaK bs (openS bs p) 0 = x) (h41 : vaK bs (openS bs p) 1 = y) (h42 : vaK bs (openS bs p) 2 = z) (hf : dcB x y = true) :
    Calls Try.prog 10 #[.slice A l c, .int .i64 (p : Int)] w fun e w' => e = .returned (.tuple #[.agg #[.int .i64 (x : Int), .int .i64 (y : Int), .int .u32 (z : Int)], .int .i64 0]) ∧ Below w.heap.size w w' := by
  obtain ⟨W1, hW1⟩ : ∃ W1, w.alloc (.cells #[.int .i64 0, .int .i64 0, .int .u32 0] 34) = W1 := ⟨_, rfl⟩
  have hb1 : Bytes W1 B A bs := by rw [← hW1]; exact hb.alloc hB _
  have HX1 : Hid (Box W1 w.heap.size #[.int .i64 0, .int .i64 0, .int .u32 0] 34) := by show Box _ _ _ _; rw [← hW1]; exact heap_alloc_new w _
  have HB1 : Hid (Below w.heap.size w W1) := by show Below _ _ _; rw [← hW1]; exact (Below.refl _ w).alloc (Nat.le_refl _) _
  have hx0 : W1.cell? ⟨w.heap.size, 0, none⟩ = some (.int .i64 0) := HX1.out.cell 0
  have hx1 : W1.cell? ⟨w.heap.size, 1, none⟩ = some (.int .i64 0) := HX1.out.cell 1
  have hx2 : W1.cell? ⟨w.heap.size, 2, none⟩ = some (.int .u32 0) := HX1.out.cell 2
  have hf0 := frozen_of_row W1 w.heap.size 0 _ _ HX1.out
  have hf1 := frozen_of_row W1 w.heap.size 1 _ _ HX1.out
  have hf2 := frozen_of_row W1 w.heap.size 2 _ _ HX1.out
  obtain ⟨b, o, rfl, hbB, hcell⟩ := hb1 (by rw [byteCells_length, hl]; omega)
  have hcv := run_string_of (P := Try.prog) (c := c - p) 22 9 5 Try.underlying22 Try.underlying5 Try.underlying9 (bytes_part hbB hcell p 4) (l := 4) (by rw [List.length_take, List.length_drop, hl]; omega)
  rw [isB_in (by show p + 4 ≤ bs.length; omega)] at hi
  obtain ⟨S, hS⟩ : ∃ S : ByteArray, (⟨((bs.drop p).take 4).toArray⟩ : ByteArray) = S := ⟨_, rfl⟩
  rw [hS] at hcv
  have h1 : ¬ (l : Int) < (p : Int) := by omega
  have h2 : decide (((l - p : Nat) : Int) < (20 : Int)) = false := by simp; omega
  have hpc : p ≤ c := by omega
  have hcp : ¬ c = p := by omega
  have h4c : 4 ≤ c - p := by omega
  have h4l : 4 ≤ l - p := by omega
  have hne : (bs.drop p).take 4 = descBytes := of_decide_eq_true hi
  have hTT : (S.toList == [68, 69, 83, 67]) = true := by
    rw [ByteArray.toList_eq, ← hS]
    exact beq_iff_eq.2 hne
  have HLD : Hid ((bs.drop p).length = l - p) := by show _ = _; rw [List.length_drop, hl]
  have HNU : Hid (∀ (k : Nat) (W : World), k + 4 ≤ l - p → Bytes W B (some ⟨b, o + p, none⟩) (bs.drop p) → Calls Try.prog 24 #[.slice (some ⟨b, o + p, none⟩) (l - p) (c - p), .int .i64 (k : Int), .int .i64 4] W fun e w' => e = .returned (.int .i64 ((val ((bs.drop (p + k)).take 4) : Nat) : Int)) ∧ W = w') := fun k W hk h => by
    have := refNumber_any (some ⟨b, o + p, none⟩) (l - p) (c - p) (bs.drop p) B k W HLD.out (by omega) (by omega) h
    rwa [List.drop_drop] at this
  have HSU : Hid (∀ W, Bytes W B (some ⟨b, o + p, none⟩) ((bs.drop p).take 16) → Calls Try.prog 25 #[.slice (some ⟨b, o + p, none⟩) 16 (c - p)] W fun e w' => e = .returned (.int .u32 (sumN ((bs.drop p).take 16) : Nat)) ∧ W = w') := fun W h =>
    refSum_any (some ⟨b, o + p, none⟩) 16 (c - p) _ B W (by rw [List.length_take, HLD.out]; omega) (by omega) h
  have HYR := Lib.hid (bytes_rest hbB hcell p)
  have HYP := Lib.hid (bytes_part hbB hcell p 16)
  have hslt := sumN_lt ((bs.drop p).take 16)
  have hvlt : val ((bs.drop (p + 16)).take 4) < 4294967296 := val_lt4 (by rw [List.length_take]; omega)
  have h16c : 16 ≤ c - p := by omega
  have h16l : 16 ≤ l - p := by omega
  have HN16 := Lib.hid (fun W h => HNU.out 16 W (by omega) h)
  have hvs : val ((bs.drop (p + 16)).take 4) = sumN ((bs.drop p).take 16) := by
    by_cases e : val ((bs.drop (p + 16)).take 4) = sumN ((bs.drop p).take 16)
    · exact e
    · rw [three_there (by omega), if_neg e] at h3
      exact absurd h3 (by decide)
  rw [three_va (by omega) (by omega)] at h40 h41 h42
  have hx32 : x < 4294967296 := by rw [← h40]; exact val_lt4 (by rw [List.length_take]; omega)
  have hy32 : y < 4294967296 := by rw [← h41]; exact val_lt4 (by rw [List.length_take]; omega)
  have hz32 : z < 4294967296 := by rw [← h42]; exact val_lt4 (by rw [List.length_take]; omega)
  have HN4 := Lib.hid (fun W h => HNU.out 4 W (by omega) h)
  have HN8 := Lib.hid (fun W h => HNU.out 8 W (by omega) h)
  have HN12 := Lib.hid (fun W h => HNU.out 12 W (by omega) h)
  rw [show p + 4 + 4 * 0 = p + 4 by omega] at h40
  rw [show p + 4 + 4 * 1 = p + 8 by omega] at h41
  rw [show p + 4 + 4 * 2 = p + 12 by omega] at h42
  rw [h40] at HN4
  rw [h41] at HN8
  rw [h42] at HN12
  have HFR := Lib.hid (fun W => dcRefRight_any x y z W)
  rw [hf] at HFR
  obtain ⟨v, hv⟩ : ∃ v, sumN ((bs.drop p).take 16) = v := ⟨_, rfl⟩
  rw [hvs] at HN16 hvlt
  rw [hv] at HSU hslt HN16 hvlt
  clear hi hne hS hb hl hcell hv h3 HNU h40 h41 h42 hf hvs hslt
  go_enter Try.func10, Try.ntmps10
  go_wp2_with fail
  go_quiet (first | (go_at_call 24; exact quiet_left (HN16.out _ HYR.out)) | (go_at_call 25; exact quiet_left (HSU.out _ HYP.out)))
  have K4 := Lib.hid (HN4.out (W1.drewN nq) (HYR.out.drewN nq))
  have K8 := Lib.hid (HN8.out (W1.drewN nq) (HYR.out.drewN nq))
  have K12 := Lib.hid (HN12.out (W1.drewN nq) (HYR.out.drewN nq))
  have c0 : (W1.drewN nq).cell? ⟨w.heap.size, 0, none⟩ = some (.int .i64 0) := hx0
  have c1 : (W1.drewN nq).cell? ⟨w.heap.size, 1, none⟩ = some (.int .i64 0) := hx1
  have c2 : (W1.drewN nq).cell? ⟨w.heap.size, 2, none⟩ = some (.int .u32 0) := hx2
  have HX2 : Hid (Box (W1.drewN nq) w.heap.size #[.int .i64 0, .int .i64 0, .int .u32 0] 34) := HX1.out
  have HB2 : Hid (Below w.heap.size w (W1.drewN nq)) := ⟨HB1.out.os, HB1.out.tape, HB1.out.output, HB1.out.size, HB1.out.block⟩
  have HZ2 : Hid (w.heap.size < (W1.drewN nq).heap.size) := HX1.out.lt
  clear HN4 HN8 HN12 HN16 HSU hcv hTT hx0 hx1 hx2 hf0 hf1 hf2 HYR HYP HX1 HB1 hW1
  generalize W1.drewN nq = W2 at *
  go_wp2_with fail
  refine K4.out.mono ?_
  rintro e w' ⟨rfl, rfl⟩
  go_wp2_with fail
  refine K8.out.mono ?_
  rintro e w' ⟨rfl, rfl⟩
  go_wp2_with fail
  refine K12.out.mono ?_
  rintro e w' ⟨rfl, rfl⟩
  go_wp2_with fail
  refine (HFR.out _).mono ?_
  rintro e w2 ⟨rfl, hw2⟩
  have HX3 : Hid (Box w2 w.heap.size #[.int .i64 0, .int .i64 0, .int .u32 0] 34) := by (rw [← hw2]; exact (HX2.out.alloc _).alloc _)
  have HY3 : Hid (Box w2 W2.heap.size #[.int .i64 (x : Int), .int .i64 (y : Int), .int .u32 (z : Int)] 34) := by (rw [← hw2]; exact Box.alloc (heap_alloc_new _ _) _)
  have HB3 : Hid (Below w.heap.size w w2) := by (rw [← hw2]; exact (HB2.out.alloc HB2.out.size _).alloc (by simp; have := HB2.out.size; omega) _)
  clear hw2 c0 c1 c2
  have hx0 : w2.cell? ⟨w.heap.size, 0, none⟩ = some (.int .i64 0) := HX3.out.cell 0
  have hx1 : w2.cell? ⟨w.heap.size, 1, none⟩ = some (.int .i64 0) := HX3.out.cell 1
  have hx2 : w2.cell? ⟨w.heap.size, 2, none⟩ = some (.int .u32 0) := HX3.out.cell 2
  have hf0 := frozen_of_row w2 w.heap.size 0 _ _ HX3.out
  have hf1 := frozen_of_row w2 w.heap.size 1 _ _ HX3.out
  have hf2 := frozen_of_row w2 w.heap.size 2 _ _ HX3.out
  have hy0 : w2.cell? ⟨W2.heap.size, 0, none⟩ = some (.int .i64 (x : Int)) := HY3.out.cell 0
  have hy1 : w2.cell? ⟨W2.heap.size, 1, none⟩ = some (.int .i64 (y : Int)) := HY3.out.cell 1
  have hy2 : w2.cell? ⟨W2.heap.size, 2, none⟩ = some (.int .u32 (z : Int)) := HY3.out.cell 2
  go_wp2
  refine bodyPost_ret (v := .tuple #[.agg #[.int .i64 (x : Int), .int .i64 (y : Int), .int .u32 (z : Int)], .int .i64 0]) (by simp [results, Try.results10, hx0, hx1, hx2, go_sem]) rfl ⟨rfl, ?_⟩
  exact (((HB3.out.setCell (p := ⟨w.heap.size, 0, none⟩) (Nat.le_refl _) _).setCell (p := ⟨w.heap.size, 1, none⟩) (Nat.le_refl _) _).setCell (p := ⟨w.heap.size, 2, none⟩) (Nat.le_refl _) _)
/-- The reference's Take over any bytes, at any place. -/
theorem refDc_any (A : Option Addr) (l c : Nat) (bs : List UInt8) (B : Nat) (p : Int) (w : World) (hl : bs.length = l) (hm : l ≤ 1000000) (hlc : l ≤ c) (hb : Bytes w B A bs) (hB : B ≤ w.heap.size) :
    Calls Try.prog 10 #[.slice A l c, .int .i64 p] w fun e w' => e = .returned (.tuple #[dcA bs p, .int .i64 (dcR bs p : Nat)]) ∧ Below w.heap.size w w' := by
  have bad : ∀ r : Nat, r ≠ 0 → dcR bs p = r → Value.tuple #[.agg #[.int .i64 0, .int .i64 0, .int .u32 0], .int .i64 (r : Nat)] = .tuple #[dcA bs p, .int .i64 (dcR bs p : Nat)] := fun r hr e => by
    unfold dcA
    rw [e, if_neg hr]
  by_cases h0 : p < 0 ∨ (l : Int) < p
  · rw [← bad 1 (by decide) (by unfold dcR; rw [if_pos (by rw [hl]; exact h0)])]
    exact refDc_arg A l c p w h0
  obtain ⟨q, rfl⟩ := Int.eq_ofNat_of_zero_le (show 0 ≤ p by omega)
  have hR : dcR bs (q : Int) = if bs.length < q + 20 then 2 else if isB descBytes bs q = false then 3 else if threeR bs q ≠ 0 then threeR bs q else if dcB (vaK bs (openS bs q) 0 : Nat) (vaK bs (openS bs q) 1 : Nat) = false then 3 else 0 := by
    unfold dcR
    rw [if_neg (by rw [hl]; exact h0), Int.toNat_natCast]
  by_cases h20 : l < q + 20
  · rw [← bad 2 (by decide) (by rw [hR, if_pos (by omega)])]
    exact refDc_less A l c q w hlc (by omega) h20
  rw [if_neg (by omega)] at hR
  cases hi : isB descBytes bs q with
  | false =>
    rw [← bad 3 (by decide) (by rw [hR, if_pos hi])]
    exact refDc_form A l c bs B q w hl hlc hb hB (by omega) hi
  | true =>
  rw [hi, if_neg (by decide)] at hR
  by_cases h3 : threeR bs q = 0
  · rw [if_neg (by simpa using h3)] at hR
    cases hf : dcB (vaK bs (openS bs q) 0 : Nat) (vaK bs (openS bs q) 1 : Nat) with
    | false =>
      rw [← bad 3 (by decide) (by rw [hR, if_pos hf])]
      exact refDc_wrong A l c bs B q _ _ _ w hl hlc hm hb hB (by omega) hi h3 rfl rfl rfl hf
    | true =>
      have e : dcR bs (q : Int) = 0 := by rw [hR, hf]; rfl
      have := refDc_good A l c bs B q _ _ _ w hl hlc hm hb hB (by omega) hi h3 rfl rfl rfl hf
      unfold dcA
      rw [e, if_pos rfl, Int.toNat_natCast]
      exact this
  · have e : dcR bs (q : Int) = threeR bs q := by rw [hR, if_pos h3]
    have e4 : threeR bs q = 4 := by
      rw [three_there (by omega)] at h3 ⊢
      split
      · rename_i h; rw [if_pos h] at h3; exact absurd rfl h3
      · rfl
    rw [← bad 4 (by decide) (by rw [e, e4])]
    exact refDc_sum A l c bs B q w hl hlc hm hb hB (by omega) hi h3
end Go.Proofs.Ytnccbnadfgilaaa
