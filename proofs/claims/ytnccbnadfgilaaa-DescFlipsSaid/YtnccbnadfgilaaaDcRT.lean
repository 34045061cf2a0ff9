/- Layer 18: the reference's Take of a descriptor. -/
import Derived.Test.YtnccbnadfgilaaaDcTk
import Derived.Test.YtnccbnadfgilaaaKNum
import Derived.Test.YtnccbnadfgilaaaKSts
namespace Go.Proofs.Ytnccbnadfgilaaa
open Go.RowKit CrcP FieldP
attribute [local go_sem ↓] Go.wp_at_zero Go.wp_at_succ

theorem bytes_part {w : World} {B b o : Nat} {bs : List UInt8} (hbB : b < B) (h : ∀ j u, (byteCells bs)[j]? = some u → w.cell? ⟨b, o + j, none⟩ = some u) (p n : Nat) : Bytes w B (some ⟨b, o + p, none⟩) ((bs.drop p).take n) := fun _ => ⟨b, o + p, rfl, hbB, fun j u hu => by
  have h2 : (byteCells bs)[p + j]? = some u := by
    unfold byteCells at hu ⊢
    rw [List.getElem?_map, List.getElem?_take] at hu
    split at hu
    · rw [List.getElem?_drop] at hu
      rw [List.getElem?_map, hu]
    · simp at hu
  have := h (p + j) u h2
  rw [← Nat.add_assoc] at this
  exact this⟩
theorem bytes_rest {w : World} {B b o : Nat} {bs : List UInt8} (hbB : b < B) (h : ∀ j u, (byteCells bs)[j]? = some u → w.cell? ⟨b, o + j, none⟩ = some u) (p : Nat) : Bytes w B (some ⟨b, o + p, none⟩) (bs.drop p) := by
  have := bytes_part hbB h p (bs.drop p).length
  rwa [List.take_length] at this
set_option maxHeartbeats 400000 in
theorem refDc_arg (A : Option Addr) (l c : Nat) (p : Int) (w : World) (h : p < 0 ∨ (l : Int) < p) :
    Calls Try.prog 10 #[.slice A l c, .int .i64 p] w fun e w' => e = .returned (.tuple #[.agg #[.int .i64 0, .int .i64 0, .int .u32 0], .int .i64 1]) ∧ Below w.heap.size w w' := by
  by_cases h0 : p < 0
  · clear h
    go_enter Try.func10, Try.ntmps10
    go_wp2
    exact bodyPost_ret (v := .tuple #[.agg #[.int .i64 0, .int .i64 0, .int .u32 0], .int .i64 1]) (by simp [results, Try.results10, go_sem]) rfl ⟨rfl, (Below.refl _ _).alloc (Nat.le_refl _) _⟩
  · have h1 : (l : Int) < p := by omega
    clear h
    go_enter Try.func10, Try.ntmps10
    go_wp2
    exact bodyPost_ret (v := .tuple #[.agg #[.int .i64 0, .int .i64 0, .int .u32 0], .int .i64 1]) (by simp [results, Try.results10, go_sem]) rfl ⟨rfl, (Below.refl _ _).alloc (Nat.le_refl _) _⟩
set_option maxHeartbeats 400000 in
theorem refDc_less (A : Option Addr) (l c : Nat) (p : Nat) (w : World) (hlc : l ≤ c) (hp : p ≤ l) (h : l < p + 20) :
    Calls Try.prog 10 #[.slice A l c, .int .i64 (p : Int)] w fun e w' => e = .returned (.tuple #[.agg #[.int .i64 0, .int .i64 0, .int .u32 0], .int .i64 2]) ∧ Below w.heap.size w w' := by
  have h1 : ¬ (l : Int) < (p : Int) := by omega
  have h2 : decide (((l - p : Nat) : Int) < (20 : Int)) = true := by simp; omega
  have hpc : p ≤ c := by omega
  clear h
  by_cases hl0 : p = c
  · cases A with
    | none =>
      go_enter Try.func10, Try.ntmps10
      go_wp2
      exact bodyPost_ret (v := .tuple #[.agg #[.int .i64 0, .int .i64 0, .int .u32 0], .int .i64 2]) (by simp [results, Try.results10, go_sem]) rfl ⟨rfl, (Below.refl _ _).alloc (Nat.le_refl _) _⟩
    | some ad =>
      go_enter Try.func10, Try.ntmps10
      go_wp2
      exact bodyPost_ret (v := .tuple #[.agg #[.int .i64 0, .int .i64 0, .int .u32 0], .int .i64 2]) (by simp [results, Try.results10, go_sem]) rfl ⟨rfl, (Below.refl _ _).alloc (Nat.le_refl _) _⟩
  · cases A with
    | none =>
      go_enter Try.func10, Try.ntmps10
      go_wp2
      exact bodyPost_ret (v := .tuple #[.agg #[.int .i64 0, .int .i64 0, .int .u32 0], .int .i64 2]) (by simp [results, Try.results10, go_sem]) rfl ⟨rfl, (Below.refl _ _).alloc (Nat.le_refl _) _⟩
    | some ad =>
      go_enter Try.func10, Try.ntmps10
      go_wp2
      exact bodyPost_ret (v := .tuple #[.agg #[.int .i64 0, .int .i64 0, .int .u32 0], .int .i64 2]) (by simp [results, Try.results10, go_sem]) rfl ⟨rfl, (Below.refl _ _).alloc (Nat.le_refl _) _⟩
set_option maxRecDepth 100000 in
set_option maxHeartbeats 1000000 in
theorem refDc_form (A : Option Addr) (l c : Nat) (bs : List UInt8) (B : Nat) (p : Nat) (w : World) (hl : bs.length = l) (hlc : l ≤ c)
    (hb : Bytes w B A bs) (hB : B ≤ w.heap.size) (hp : p + 20 ≤ l) (hi : isB descBytes bs p = false) :
    Calls Try.prog 10 #[.slice A l c, .int .i64 (p : Int)] w fun e w' => e = .returned (.tuple #[.agg #[.int .i64 0, .int .i64 0, .int .u32 0], .int .i64 3]) ∧ Below w.heap.size w w' := by
  obtain ⟨W1, hW1⟩ : ∃ W1, w.alloc (.cells #[.int .i64 0, .int .i64 0, .int .u32 0] 34) = W1 := ⟨_, rfl⟩
  have hb1 : Bytes W1 B A bs := by rw [← hW1]; exact hb.alloc hB _
  have HX1 : Hid (Box W1 w.heap.size #[.int .i64 0, .int .i64 0, .int .u32 0] 34) := by show Box _ _ _ _; rw [← hW1]; exact heap_alloc_new w _
  have HB1 : Hid (Below w.heap.size w W1) := by show Below _ _ _; rw [← hW1]; exact (Below.refl _ w).alloc (Nat.le_refl _) _
  have hx0 : W1.cell? ⟨w.heap.size, 0, none⟩ = some (.int .i64 0) := HX1.out.cell 0
  have hx1 : W1.cell? ⟨w.heap.size, 1, none⟩ = some (.int .i64 0) := HX1.out.cell 1
  have hx2 : W1.cell? ⟨w.heap.size, 2, none⟩ = some (.int .u32 0) := HX1.out.cell 2
  have hf0 := frozen_of_row W1 w.heap.size 0 _ _ HX1.out
  have hf1 := frozen_of_row W1 w.heap.size 1 _ _ HX1.out
  have hf2 := frozen_of_row W1 w.heap.size 2 _ _ HX1.out
  obtain ⟨b, o, rfl, hbB, hcell⟩ := hb1 (by rw [byteCells_length, hl]; omega)
  have hcv := run_string_of (P := Try.prog) (c := c - p) 22 9 5 Try.underlying22 Try.underlying5 Try.underlying9 (bytes_part hbB hcell p 4) (l := 4) (by rw [List.length_take, List.length_drop, hl]; omega)
  rw [isB_in (by show p + 4 ≤ bs.length; omega)] at hi
  obtain ⟨S, hS⟩ : ∃ S : ByteArray, (⟨((bs.drop p).take 4).toArray⟩ : ByteArray) = S := ⟨_, rfl⟩
  rw [hS] at hcv
  have h1 : ¬ (l : Int) < (p : Int) := by omega
  have h2 : decide (((l - p : Nat) : Int) < (20 : Int)) = false := by simp; omega
  have hpc : p ≤ c := by omega
  have hcp : ¬ c = p := by omega
  have h4c : 4 ≤ c - p := by omega
  have h4l : 4 ≤ l - p := by omega
  have hne : (bs.drop p).take 4 ≠ descBytes := of_decide_eq_false hi
  have hTT : (S.toList == [68, 69, 83, 67]) = false := by
    rw [ByteArray.toList_eq, ← hS]
    exact beq_eq_false_iff_ne.2 hne
  clear hi hne hS hb hl hcell
  go_enter Try.func10, Try.ntmps10
  go_wp2
  exact bodyPost_ret (v := .tuple #[.agg #[.int .i64 0, .int .i64 0, .int .u32 0], .int .i64 3]) (by simp [results, Try.results10, hx0, hx1, hx2, go_sem]) rfl ⟨rfl, (((HB1.out.setCell (p := ⟨w.heap.size, 0, none⟩) (Nat.le_refl _) _).setCell (p := ⟨w.heap.size, 1, none⟩) (Nat.le_refl _) _).setCell (p := ⟨w.heap.size, 2, none⟩) (Nat.le_refl _) _)⟩
set_option maxRecDepth 100000 in
set_option maxHeartbeats 1000000 in
theorem refDc_sum (A : Option Addr) (l c : Nat) (bs : List UInt8) (B : Nat) (p : Nat) (w : World) (hl : bs.length = l) (hlc : l ≤ c) (hm : l ≤ 1000000)
    (hb : Bytes w B A bs) (hB : B ≤ w.heap.size) (hp : p + 20 ≤ l) (hi : isB descBytes bs p = true) (h3 : threeR bs p ≠ 0) :
    Calls Try.prog 10 #[.slice A l c, .int .i64 (p : Int)] w fun e w' => e = .returned (.tuple #[.agg #[.int .i64 0, .int .i64 0, .int .u32 0], .int .i64 4]) ∧ Below w.heap.size w w' := by
  obtain ⟨W1, hW1⟩ : ∃ W1, w.alloc (.cells #[.int .i64 0, .int .i64 0, .int .u32 0] 34) = W1 := ⟨_, rfl⟩
  have hb1 : Bytes W1 B A bs := by rw [← hW1]; exact hb.alloc hB _
  have HX1 : Hid (Box W1 w.heap.size #[.int .i64 0, .int .i64 0, .int .u32 0] 34) := by show Box _ _ _ _; rw [← hW1]; exact heap_alloc_new w _
  have HB1 : Hid (Below w.heap.size w W1) := by show Below _ _ _; rw [← hW1]; exact (Below.refl _ w).alloc (Nat.le_refl _) _
  have hx0 : W1.cell? ⟨w.heap.size, 0, none⟩ = some (.int .i64 0) := HX1.out.cell 0
  have hx1 : W1.cell? ⟨w.heap.size, 1, none⟩ = some (.int .i64 0) := HX1.out.cell 1
  have hx2 : W1.cell? ⟨w.heap.size, 2, none⟩ = some (.int .u32 0) := HX1.out.cell 2
  have hf0 := frozen_of_row W1 w.heap.size 0 _ _ HX1.out
  have hf1 := frozen_of_row W1 w.heap.size 1 _ _ HX1.out
  have hf2 := frozen_of_row W1 w.heap.size 2 _ _ HX1.out
  obtain ⟨b, o, rfl, hbB, hcell⟩ := hb1 (by rw [byteCells_length, hl]; omega)
  have hcv := run_string_of (P := Try.prog) (c := c - p) 22 9 5 Try.underlying22 Try.underlying5 Try.underlying9 (bytes_part hbB hcell p 4) (l := 4) (by rw [List.length_take, List.length_drop, hl]; omega)
  rw [isB_in (by show p + 4 ≤ bs.length; omega)] at hi
  obtain ⟨S, hS⟩ : ∃ S : ByteArray, (⟨((bs.drop p).take 4).toArray⟩ : ByteArray) = S := ⟨_, rfl⟩
  rw [hS] at hcv
  have h1 : ¬ (l : Int) < (p : Int) := by omega
  have h2 : decide (((l - p : Nat) : Int) < (20 : Int)) = false := by simp; omega
  have hpc : p ≤ c := by omega
  have hcp : ¬ c = p := by omega
  have h4c : 4 ≤ c - p := by omega
  have h4l : 4 ≤ l - p := by omega
  have hne : (bs.drop p).take 4 = descBytes := of_decide_eq_true hi
  have hTT : (S.toList == [68, 69, 83, 67]) = true := by
    rw [ByteArray.toList_eq, ← hS]
    exact beq_iff_eq.2 hne
  have HLD : Hid ((bs.drop p).length = l - p) := by show _ = _; rw [List.length_drop, hl]
  have HNU : Hid (∀ (k : Nat) (W : World), k + 4 ≤ l - p → Bytes W B (some ⟨b, o + p, none⟩) (bs.drop p) → Calls Try.prog 24 #[.slice (some ⟨b, o + p, none⟩) (l - p) (c - p), .int .i64 (k : Int), .int .i64 4] W fun e w' => e = .returned (.int .i64 ((val ((bs.drop (p + k)).take 4) : Nat) : Int)) ∧ W = w') := fun k W hk h => by
    have := refNumber_any (some ⟨b, o + p, none⟩) (l - p) (c - p) (bs.drop p) B k W HLD.out (by omega) (by omega) h
    rwa [List.drop_drop] at this
  have HSU : Hid (∀ W, Bytes W B (some ⟨b, o + p, none⟩) ((bs.drop p).take 16) → Calls Try.prog 25 #[.slice (some ⟨b, o + p, none⟩) 16 (c - p)] W fun e w' => e = .returned (.int .u32 (sumN ((bs.drop p).take 16) : Nat)) ∧ W = w') := fun W h =>
    refSum_any (some ⟨b, o + p, none⟩) 16 (c - p) _ B W (by rw [List.length_take, HLD.out]; omega) (by omega) h
  have HYR := Lib.hid (bytes_rest hbB hcell p)
  have HYP := Lib.hid (bytes_part hbB hcell p 16)
  have hslt := sumN_lt ((bs.drop p).take 16)
  have hvlt : val ((bs.drop (p + 16)).take 4) < 4294967296 := val_lt4 (by rw [List.length_take]; omega)
  have h16c : 16 ≤ c - p := by omega
  have h16l : 16 ≤ l - p := by omega
  have HN16 := Lib.hid (fun W h => HNU.out 16 W (by omega) h)
  have hvs : val ((bs.drop (p + 16)).take 4) ≠ sumN ((bs.drop p).take 16) := fun e => h3 (by rw [three_there (by omega), if_pos e])
  obtain ⟨v, hv⟩ : ∃ v, val ((bs.drop (p + 16)).take 4) = v := ⟨_, rfl⟩
  obtain ⟨y, hy⟩ : ∃ y, sumN ((bs.drop p).take 16) = y := ⟨_, rfl⟩
  rw [hv] at HN16 hvlt hvs
  rw [hy] at HSU hslt hvs
  clear hi hne hS hb hl hcell hv hy h3 HNU
  go_enter Try.func10, Try.ntmps10
  go_wp2_with fail
  go_quiet (first | (go_at_call 24; exact quiet_left (HN16.out _ HYR.out)) | (go_at_call 25; exact quiet_left (HSU.out _ HYP.out)))
  go_wp2
  exact bodyPost_ret (v := .tuple #[.agg #[.int .i64 0, .int .i64 0, .int .u32 0], .int .i64 4]) (by simp [results, Try.results10, hx0, hx1, hx2, go_sem]) rfl ⟨rfl, (((Below.setCell (⟨HB1.out.os, HB1.out.tape, HB1.out.output, HB1.out.size, HB1.out.block⟩ : Below w.heap.size w (W1.drewN nq)) (p := ⟨w.heap.size, 0, none⟩) (Nat.le_refl _) _).setCell (p := ⟨w.heap.size, 1, none⟩) (Nat.le_refl _) _).setCell (p := ⟨w.heap.size, 2, none⟩) (Nat.le_refl _) _)⟩
end Go.Proofs.Ytnccbnadfgilaaa
