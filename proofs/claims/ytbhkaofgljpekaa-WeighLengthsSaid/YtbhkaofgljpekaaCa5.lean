/- Layer 8: all codes: the program's and the reference's. -/
import Derived.Test.YtbhkaofgljpekaaCa4
import Derived.MakeChecks
import Derived.RegionTactic
namespace Go.Proofs.Ytbhkaofgljpekaa
open Go.RowKit

def vstep (zs : List Int) (st : Nat × Nat × List Int) (s : Nat) : Nat × Nat × List Int :=
  (st.1 * 2 ^ ((zs.getD s 0).toNat - st.2.1) + 1, (zs.getD s 0).toNat, st.2.2.set s ((st.1 * 2 ^ ((zs.getD s 0).toNat - st.2.1) : Nat) : Int))
/-- Behind the symbols of a list: the next code, the last length, the codes. -/
def vst (zs : List Int) (os : List Nat) : Nat × Nat × List Int := os.foldl (vstep zs) (0, 0, List.replicate zs.length 0)
def caV (zs : List Int) : List Int := (vst zs (ordL zs)).2.2
theorem vst_snoc (zs : List Int) (os : List Nat) (s : Nat) : vst zs (os ++ [s]) = vstep zs (vst zs os) s := by simp [vst]
def osum (zs : List Int) (os : List Nat) : Nat := (os.map fun s => wt (zs.getD s 0)).sum
theorem osum_snoc (zs : List Int) (os : List Nat) (s : Nat) : osum zs (os ++ [s]) = osum zs os + wt (zs.getD s 0) := by simp [osum]
theorem osum_le (zs : List Int) : ∀ os : List Nat, osum zs os ≤ os.length * 32768
  | [] => Nat.zero_le _
  | s :: os => by
    have := osum_le zs os
    have := wt_le (zs.getD s 0)
    unfold osum at *
    rw [List.map_cons, List.sum_cons, List.length_cons, Nat.succ_mul]
    omega
structure VI (zs : List Int) (os : List Nat) (st : Nat × Nat × List Int) : Prop where
  sum : st.1 * 2 ^ (15 - st.2.1) = osum zs os
  le : st.2.1 ≤ 15
  z : st.2.1 = 0 → st.1 = 0
  len : st.2.2.length = zs.length
theorem VI.start (zs : List Int) : VI zs [] (vst zs []) := ⟨by simp [vst, osum], Nat.zero_le _, fun _ => rfl, by simp [vst]⟩
theorem VI.val {zs : List Int} {os : List Nat} {x a n : Nat} {vs : List Int} (h : VI zs os (x, a, vs)) (h15 : n ≤ 15) (ha : a ≤ n) : x * 2 ^ (n - a) * 2 ^ (15 - n) = osum zs os := by
  rw [← h.sum, Nat.mul_assoc, ← Nat.pow_add, show n - a + (15 - n) = 15 - a by omega]
theorem VI.snoc {zs : List Int} {os : List Nat} {st : Nat × Nat × List Int} {s n : Nat} (h : VI zs os st) (hs : zs[s]? = some (n : Int)) (h1 : 1 ≤ n) (h15 : n ≤ 15) (ha : st.2.1 ≤ n) : VI zs (os ++ [s]) (vstep zs st s) := by
  obtain ⟨x, a, vs⟩ := st
  have hg := getD_of hs
  have hwt : wt (n : Int) = 2 ^ (15 - n) := by unfold wt; rw [if_pos (by omega), Int.toNat_natCast]
  refine ⟨?_, ?_, ?_, ?_⟩
  · rw [osum_snoc, hg, hwt, ← h.val h15 ha]
    simp only [vstep, hg, Int.toNat_natCast]
    rw [Nat.add_mul, Nat.one_mul]
  · simp only [vstep, hg, Int.toNat_natCast]; exact h15
  · simp only [vstep, hg, Int.toNat_natCast]; omega
  · simp only [vstep, List.length_set]; exact h.len
theorem VI.small {zs : List Int} {os : List Nat} {x a n : Nat} {vs : List Int} (h : VI zs os (x, a, vs)) (h15 : n ≤ 15) (ha : a ≤ n) : x * 2 ^ (n - a) ≤ os.length * 32768 := by
  have h1 := h.val h15 ha
  have h2 := osum_le zs os
  have h3 : x * 2 ^ (n - a) * 1 ≤ x * 2 ^ (n - a) * 2 ^ (15 - n) := Nat.mul_le_mul_left _ (Nat.one_le_two_pow)
  omega
theorem VI.small0 {zs : List Int} {os : List Nat} {x a : Nat} {vs : List Int} (h : VI zs os (x, a, vs)) : x ≤ os.length * 32768 := by
  have h1 := h.small h.le (Nat.le_refl a)
  rwa [Nat.sub_self, Nat.pow_zero, Nat.mul_one] at h1
theorem mem_get {α : Type} {l : List α} {k : Nat} {x : α} (h : l[k]? = some x) : x ∈ l := List.mem_of_getElem? h
theorem vi_take (zs : List Int) : ∀ k, k ≤ (ordL zs).length → VI zs ((ordL zs).take k) (vst zs ((ordL zs).take k)) ∧ (∀ s n : Nat, (ordL zs)[k]? = some s → zs[s]? = some (n : Int) → (vst zs ((ordL zs).take k)).2.1 ≤ n)
  | 0, _ => ⟨VI.start zs, fun s n _ _ => Nat.zero_le _⟩
  | k + 1, hk => by
    obtain ⟨h1, h2⟩ := vi_take zs k (by omega)
    obtain ⟨s, hs⟩ : ∃ s, (ordL zs)[k]? = some s := ⟨_, List.getElem?_eq_getElem (by omega)⟩
    obtain ⟨n, hn, hn1, hn15⟩ := whole_mem (mem_get hs)
    rw [take_snoc' hs, vst_snoc]
    refine ⟨h1.snoc hn hn1 hn15 (h2 s n hs hn), fun t m ht hm => ?_⟩
    have hp := List.pairwise_iff_getElem.1 (show (ordL zs).Pairwise (ltx zs) from whole_sorted zs 15) k (k + 1) (List.getElem?_eq_some_iff.1 hs).1 (List.getElem?_eq_some_iff.1 ht).1 (by omega)
    have e1 := (List.getElem?_eq_some_iff.1 hs).2
    have e2 := (List.getElem?_eq_some_iff.1 ht).2
    rw [e1, e2] at hp
    unfold ltx at hp
    rw [getD_of hn, getD_of hm] at hp
    simp only [vstep, getD_of hn, Int.toNat_natCast]
    omega

def IntBlock (w : World) (g : Nat) (vs : List Int) : Prop := w.heap[g]? = some (.cells (vs.map ic).toArray 3 (0, 0))
theorem ib_cell {w : World} {g : Nat} {vs : List Int} {i : Nat} {x : Int} (h : IntBlock w g vs) (hx : vs[i]? = some x) : w.cell? ⟨g, i, none⟩ = some (.int .i64 x) := by
  rw [cell_of_row w g i _ _ _ h]
  simp [hx, ic]
theorem ib_free {w : World} {g : Nat} {vs : List Int} (h : IntBlock w g vs) (i : Nat) : w.frozen? ⟨g, i, none⟩ = false := frozen_of_row w g i _ _ h
theorem ib_set {w : World} {g : Nat} {vs : List Int} (h : IntBlock w g vs) (i : Nat) (y : Int) : IntBlock (w.setCell ⟨g, i, none⟩ (.int .i64 y)) g (vs.set i y) := by
  unfold IntBlock
  rw [heap_setCell_same w g i _ _ _ h]
  rw [List.setIfInBounds_toArray, List.map_set]
  rfl
theorem ib_cells {w : World} {g B : Nat} {vs : List Int} (h : IntBlock w g vs) (hB : g < B) : Cells w B (some ⟨g, 0, none⟩) (vs.map ic) := fun _ =>
  ⟨g, 0, rfl, hB, fun j u hu => by
    rw [Nat.zero_add, cell_of_row w g j _ _ _ h]
    simpa using hu⟩
theorem ib_lt {w : World} {g : Nat} {vs : List Int} (h : IntBlock w g vs) : g < w.heap.size := (Array.getElem?_eq_some_iff.1 h).1
theorem intInfo : (Try.prog.info? 3).map (fun i => (i.zero, i.size, i.bytes)) = some (some (.int .i64 0), 1, 8) := by kernel_rfl
theorem make_ints (n : Nat) (hn : n ≤ 1000000) (W : World) :
    (Instr.makeSlice 22 (.int .i64 (n : Int)) (.int .i64 (n : Int))).run Try.prog W = .ok (.slice (some ⟨W.heap.size, 0, none⟩) n n) (W.alloc (.cells (madeCells #[.int .i64 0] n) 3)) := by
  obtain ⟨i0, hi, hz0, hz1, hz2⟩ := info_parts intInfo
  have h := run_make (P := Try.prog) W 22 3 i0 (.int .i64 0) Try.underlying22 hi hz0 .i64 .i64 n n (by omega) (Int.le_refl _) (by rw [hz2]; omega) (by omega)
  simp only [Int.toNat_natCast, hz1, Nat.mul_one] at h
  exact h
theorem made_ints (w : World) (n : Nat) : IntBlock (w.alloc (.cells (madeCells #[Value.int .i64 0] n) 3)) w.heap.size (List.replicate n 0) := by
  have e : madeCells #[Value.int .i64 0] n = ((List.replicate n (0 : Int)).map ic).toArray := by
    apply Array.toList_inj.1
    rw [toList_madeCells_one]
    simp [ic]
  unfold IntBlock
  rw [e]
  exact heap_alloc_new w _

theorem pow_snoc (a j : Nat) (h : a ≤ j) : 2 ^ (j + 1 - a) = 2 ^ (j - a) * 2 := by rw [show j + 1 - a = (j - a) + 1 by omega, Nat.pow_succ]
end Go.Proofs.Ytbhkaofgljpekaa
