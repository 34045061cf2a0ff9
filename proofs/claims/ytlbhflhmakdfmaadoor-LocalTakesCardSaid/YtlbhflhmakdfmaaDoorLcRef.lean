/- Layer 16: the reference's Take. -/
import Derived.Test.YtlbhflhmakdfmaaDoorLcPl3
import Derived.Test.YtlbhflhmakdfmaaDoorLcRR
import Derived.Test.YtlbhflhmakdfmaaDoorKNum
namespace Go.Proofs.YtlbhflhmakdfmaaDoor
open Go.RowKit CrcP FieldP
attribute [local go_sem ↓] Go.wp_at_zero Go.wp_at_succ

theorem bytes_part {w : World} {B b o : Nat} {bs : List UInt8} (hbB : b < B) (h : ∀ j u, (byteCells bs)[j]? = some u → w.cell? ⟨b, o + j, none⟩ = some u) (p n : Nat) : Bytes w B (some ⟨b, o + p, none⟩) ((bs.drop p).take n) := fun _ => ⟨b, o + p, rfl, hbB, fun j u hu => by
  have h2 : (byteCells bs)[p + j]? = some u := by
    unfold byteCells at hu ⊢
    rw [List.getElem?_map, List.getElem?_take] at hu
    split at hu
    · rw [List.getElem?_drop] at hu
      rw [List.getElem?_map, hu]
    · simp at hu
  have := h (p + j) u h2
  rw [← Nat.add_assoc] at this
  exact this⟩
theorem bytes_rest {w : World} {B b o : Nat} {bs : List UInt8} (hbB : b < B) (h : ∀ j u, (byteCells bs)[j]? = some u → w.cell? ⟨b, o + j, none⟩ = some u) (p : Nat) : Bytes w B (some ⟨b, o + p, none⟩) (bs.drop p) := by
  have := bytes_part hbB h p (bs.drop p).length
  rwa [List.take_length] at this

set_option maxHeartbeats 400000 in
theorem refLc_arg (A : Option Addr) (l c : Nat) (p : Int) (w : World) (h : p < 0 ∨ (l : Int) < p) :
    Calls Tryd.prog 7 #[.slice A l c, .int .i64 p] w fun e w' => e = .returned (.tuple #[.agg #[.int .i64 0, .string ⟨#[]⟩, .int .i64 0, .int .i64 0, .int .u32 0], .int .i64 0, .int .i64 1]) ∧ Below w.heap.size w w' := by
  by_cases h0 : p < 0
  · clear h
    go_enter Tryd.func7, Tryd.ntmps7
    go_wp2
    exact bodyPost_ret (v := .tuple #[.agg #[.int .i64 0, .string ⟨#[]⟩, .int .i64 0, .int .i64 0, .int .u32 0], .int .i64 0, .int .i64 1]) (by simp [results, Tryd.results7, go_sem]) rfl ⟨rfl, (Below.refl w.heap.size w).alloc (Nat.le_refl _) _⟩
  · have h1 : (l : Int) < p := by omega
    clear h
    go_enter Tryd.func7, Tryd.ntmps7
    go_wp2
    exact bodyPost_ret (v := .tuple #[.agg #[.int .i64 0, .string ⟨#[]⟩, .int .i64 0, .int .i64 0, .int .u32 0], .int .i64 0, .int .i64 1]) (by simp [results, Tryd.results7, go_sem]) rfl ⟨rfl, (Below.refl w.heap.size w).alloc (Nat.le_refl _) _⟩

set_option maxHeartbeats 400000 in
theorem refLc_less (A : Option Addr) (l c : Nat) (p : Nat) (w : World) (hlc : l ≤ c) (hp : p ≤ l) (h : l < p + 4) :
    Calls Tryd.prog 7 #[.slice A l c, .int .i64 (p : Int)] w fun e w' => e = .returned (.tuple #[.agg #[.int .i64 0, .string ⟨#[]⟩, .int .i64 0, .int .i64 0, .int .u32 0], .int .i64 0, .int .i64 2]) ∧ Below w.heap.size w w' := by
  have h1 : ¬ (l : Int) < (p : Int) := by omega
  have h2 : decide ((4 : Int) ≤ ((l - p : Nat) : Int)) = false := by simp; omega
  have h3 : decide (((l - p : Nat) : Int) < (18 : Int)) = true := by simp; omega
  have hpc : p ≤ c := by omega
  clear h
  by_cases hl0 : p = c
  · cases A with
    | none =>
      go_enter Tryd.func7, Tryd.ntmps7
      go_wp2
      exact bodyPost_ret (v := .tuple #[.agg #[.int .i64 0, .string ⟨#[]⟩, .int .i64 0, .int .i64 0, .int .u32 0], .int .i64 0, .int .i64 2]) (by simp [results, Tryd.results7, go_sem]) rfl ⟨rfl, (Below.refl w.heap.size w).alloc (Nat.le_refl _) _⟩
    | some ad =>
      go_enter Tryd.func7, Tryd.ntmps7
      go_wp2
      exact bodyPost_ret (v := .tuple #[.agg #[.int .i64 0, .string ⟨#[]⟩, .int .i64 0, .int .i64 0, .int .u32 0], .int .i64 0, .int .i64 2]) (by simp [results, Tryd.results7, go_sem]) rfl ⟨rfl, (Below.refl w.heap.size w).alloc (Nat.le_refl _) _⟩
  · cases A with
    | none =>
      go_enter Tryd.func7, Tryd.ntmps7
      go_wp2
      exact bodyPost_ret (v := .tuple #[.agg #[.int .i64 0, .string ⟨#[]⟩, .int .i64 0, .int .i64 0, .int .u32 0], .int .i64 0, .int .i64 2]) (by simp [results, Tryd.results7, go_sem]) rfl ⟨rfl, (Below.refl w.heap.size w).alloc (Nat.le_refl _) _⟩
    | some ad =>
      go_enter Tryd.func7, Tryd.ntmps7
      go_wp2
      exact bodyPost_ret (v := .tuple #[.agg #[.int .i64 0, .string ⟨#[]⟩, .int .i64 0, .int .i64 0, .int .u32 0], .int .i64 0, .int .i64 2]) (by simp [results, Tryd.results7, go_sem]) rfl ⟨rfl, (Below.refl w.heap.size w).alloc (Nat.le_refl _) _⟩

set_option maxRecDepth 100000 in
set_option maxHeartbeats 1000000 in
theorem refLc_form (A : Option Addr) (l c : Nat) (bs : List UInt8) (B : Nat) (p : Nat) (w : World) (hl : bs.length = l) (hlc : l ≤ c) (hm : l ≤ 1000)
    (hb : Bytes w B A bs) (hB : B ≤ w.heap.size) (hp : p + 4 ≤ l) (hi : isB headBytes bs p = false) :
    Calls Tryd.prog 7 #[.slice A l c, .int .i64 (p : Int)] w fun e w' => e = .returned (.tuple #[.agg #[.int .i64 0, .string ⟨#[]⟩, .int .i64 0, .int .i64 0, .int .u32 0], .int .i64 0, .int .i64 3]) ∧ Below w.heap.size w w' := by
  obtain ⟨b, o, rfl, hbB, hcell⟩ := hb (by rw [byteCells_length, hl]; omega)
  have hcv := run_string_of (P := Tryd.prog) (w := w.alloc (.cells #[.int .i64 0, .string ⟨#[]⟩, .int .i64 0, .int .i64 0, .int .u32 0] 34)) (c := c - p) 22 9 5 Tryd.underlying22 Tryd.underlying5 Tryd.underlying9 ((bytes_part hbB hcell p 4).alloc hB _) (l := 4) (by rw [List.length_take, List.length_drop, hl]; omega)
  rw [isB_in (by show p + 4 ≤ bs.length; omega)] at hi
  have hne : (bs.drop p).take 4 ≠ headBytes := of_decide_eq_false hi
  obtain ⟨T, hT⟩ : ∃ T : ByteArray, (⟨((bs.drop p).take 4).toArray⟩ : ByteArray) = T := ⟨_, rfl⟩
  have hTT : (T.toList == [76, 77, 66, 82]) = false := by
    rw [ByteArray.toList_eq, ← hT]
    exact beq_eq_false_iff_ne.2 hne
  rw [hT] at hcv
  have h1 : ¬ (l : Int) < (p : Int) := by omega
  have h2 : decide ((4 : Int) ≤ ((l - p : Nat) : Int)) = true := by simp; omega
  have hpc : p ≤ c := by omega
  have hcp : ¬ c = p := by omega
  have h4c : 4 ≤ c - p := by omega
  have h4l : 4 ≤ l - p := by omega
  clear hi hne hT hb hl hcell
  go_enter Tryd.func7, Tryd.ntmps7
  go_wp2
  exact bodyPost_ret (v := .tuple #[.agg #[.int .i64 0, .string ⟨#[]⟩, .int .i64 0, .int .i64 0, .int .u32 0], .int .i64 0, .int .i64 3]) (by simp [results, Tryd.results7, go_sem]) rfl ⟨rfl, (Below.refl w.heap.size w).alloc (Nat.le_refl _) _⟩

set_option maxRecDepth 100000 in
set_option maxHeartbeats 1000000 in
theorem refLc_mid (A : Option Addr) (l c : Nat) (bs : List UInt8) (B : Nat) (p : Nat) (w : World) (hl : bs.length = l) (hlc : l ≤ c) (hm : l ≤ 1000)
    (hb : Bytes w B A bs) (hB : B ≤ w.heap.size) (hp : p + 4 ≤ l) (hi : isB headBytes bs p = true) (hs : l < p + 18 ∨ ∃ x : UInt8, p + 18 ≤ l ∧ bs[p + 5]? = some x ∧ l < p + 22 + x.toNat) :
    Calls Tryd.prog 7 #[.slice A l c, .int .i64 (p : Int)] w fun e w' => e = .returned (.tuple #[.agg #[.int .i64 0, .string ⟨#[]⟩, .int .i64 0, .int .i64 0, .int .u32 0], .int .i64 0, .int .i64 2]) ∧ Below w.heap.size w w' := by
  obtain ⟨b, o, rfl, hbB, hcell⟩ := hb (by rw [byteCells_length, hl]; omega)
  have hcv := run_string_of (P := Tryd.prog) (w := w.alloc (.cells #[.int .i64 0, .string ⟨#[]⟩, .int .i64 0, .int .i64 0, .int .u32 0] 34)) (c := c - p) 22 9 5 Tryd.underlying22 Tryd.underlying5 Tryd.underlying9 ((bytes_part hbB hcell p 4).alloc hB _) (l := 4) (by rw [List.length_take, List.length_drop, hl]; omega)
  rw [isB_in (by show p + 4 ≤ bs.length; omega)] at hi
  have hne : (bs.drop p).take 4 = headBytes := of_decide_eq_true hi
  obtain ⟨T, hT⟩ : ∃ T : ByteArray, (⟨((bs.drop p).take 4).toArray⟩ : ByteArray) = T := ⟨_, rfl⟩
  have hTT : (T.toList == [76, 77, 66, 82]) = true := by
    rw [ByteArray.toList_eq, ← hT]
    exact beq_iff_eq.2 hne
  rw [hT] at hcv
  have h1 : ¬ (l : Int) < (p : Int) := by omega
  have h2 : decide ((4 : Int) ≤ ((l - p : Nat) : Int)) = true := by simp; omega
  have hpc : p ≤ c := by omega
  have hcp : ¬ c = p := by omega
  have h4c : 4 ≤ c - p := by omega
  have h4l : 4 ≤ l - p := by omega
  rcases hs with hs | ⟨x, h18, hx, hs⟩
  · have h3 : decide (((l - p : Nat) : Int) < (18 : Int)) = true := by simp; omega
    clear hi hne hT hb hl hcell hs
    go_enter Tryd.func7, Tryd.ntmps7
    go_wp2
    exact bodyPost_ret (v := .tuple #[.agg #[.int .i64 0, .string ⟨#[]⟩, .int .i64 0, .int .i64 0, .int .u32 0], .int .i64 0, .int .i64 2]) (by simp [results, Tryd.results7, go_sem]) rfl ⟨rfl, (Below.refl w.heap.size w).alloc (Nat.le_refl _) _⟩
  · have h3 : decide (((l - p : Nat) : Int) < (18 : Int)) = false := by simp; omega
    have hc5 : (w.alloc (.cells #[.int .i64 0, .string ⟨#[]⟩, .int .i64 0, .int .i64 0, .int .u32 0] 34)).cell? ⟨b, o + p + 5, none⟩ = some (.int .u8 (x.toNat : Int)) := by
      have := hcell (p + 5) (.int .u8 (x.toNat : Int)) (by unfold byteCells; rw [List.getElem?_map, hx]; rfl)
      rw [← Nat.add_assoc] at this
      exact (((Below.refl w.heap.size w).alloc (Nat.le_refl _) _).cell (p := ⟨b, o + p + 5, none⟩) (by show b < _; omega)).trans this
    have hx256 := UInt8.toNat_lt x
    have h5l : 5 < l - p := by omega
    obtain ⟨n, hn⟩ : ∃ n, x.toNat = n := ⟨_, rfl⟩
    rw [hn] at hc5 hs hx256
    have h9 : decide (((l - p : Nat) : Int) < 22 + (n : Int)) = true := by simp; omega
    have hx' : n < 256 := hx256
    clear hi hne hT hb hl hcell hs hx hn hx256
    go_enter Tryd.func7, Tryd.ntmps7
    go_wp2
    exact bodyPost_ret (v := .tuple #[.agg #[.int .i64 0, .string ⟨#[]⟩, .int .i64 0, .int .i64 0, .int .u32 0], .int .i64 0, .int .i64 2]) (by simp [results, Tryd.results7, go_sem]) rfl ⟨rfl, (Below.refl w.heap.size w).alloc (Nat.le_refl _) _⟩
end Go.Proofs.YtlbhflhmakdfmaaDoor
