/- Layer 33: a summary in memory; a step and its answer are counted. -/
import Derived.Test.YtkgkefifcpneiaaDoorRePi
import Derived.Deep.Cut
namespace Go.Proofs.YtkgkefifcpneiaaDoor
open Go.RowKit

def n33 (n : Nat) : Value := .int .i64 (n : Int)
/-- What was counted: refused, poisoned, the longest data, Kinds, errors. -/
structure Sm where
  rf : Nat
  po : Nat
  mo : Nat
  ks : List Nat
  es : List Nat
def kix (k : Int) : Nat := if 0 ≤ k ∧ k < 19 then k.toNat else 0
theorem kix_def (k : Int) : kix k = if 0 ≤ k ∧ k < 19 then k.toNat else 0 := rfl
theorem kix_lt (k : Int) : kix k < 19 := by unfold kix; split <;> omega
def inc (l : List Nat) (i : Nat) : List Nat := l.set i (l.getD i 0 + 1)
def incE (l : List Nat) (e : Int) : List Nat := if 0 ≤ e ∧ e < 17 then inc l e.toNat else l
def Sm.step (s : Sm) (p : Pr) : Sm := ⟨if p.rf then s.rf + 1 else s.rf, if p.po then s.po + 1 else s.po, max s.mo p.dl, inc s.ks (kix p.kind), incE s.es p.e⟩
def smZ : Sm := ⟨0, 0, 0, List.replicate 19 0, List.replicate 17 0⟩
def sumS (l : List Pr) : Sm := l.foldl Sm.step smZ
theorem sumS_snoc (l : List Pr) (x : Pr) : sumS (l ++ [x]) = (sumS l).step x := by unfold sumS; rw [List.foldl_append]; rfl
theorem inc_length (l : List Nat) (i : Nat) : (inc l i).length = l.length := List.length_set ..
theorem incE_length (l : List Nat) (e : Int) : (incE l e).length = l.length := by unfold incE; split; exact inc_length _ _; rfl
theorem inc_le {l : List Nat} {n : Nat} (h : ∀ x ∈ l, x ≤ n) (i : Nat) : ∀ x ∈ inc l i, x ≤ n + 1 := fun x hx => by
  rcases List.mem_or_eq_of_mem_set hx with h1 | rfl
  · have := h x h1; omega
  · by_cases hi : i < l.length
    · have := h (l.getD i 0) (by rw [List.getD_eq_getElem?_getD, List.getElem?_eq_getElem hi]; exact List.getElem_mem hi)
      omega
    · rw [List.getD_eq_getElem?_getD, List.getElem?_eq_none (by omega)]; show 0 + 1 ≤ _; omega
theorem incE_le {l : List Nat} {n : Nat} (h : ∀ x ∈ l, x ≤ n) (e : Int) : ∀ x ∈ incE l e, x ≤ n + 1 := fun x hx => by
  unfold incE at hx
  split at hx
  · exact inc_le h _ x hx
  · have := h x hx; omega
/-- What holds of what was counted of n steps. -/
structure Sm.Ok (s : Sm) (n : Nat) : Prop where
  kl : s.ks.length = 19
  el : s.es.length = 17
  rf : s.rf ≤ n
  po : s.po ≤ n
  ks : ∀ x ∈ s.ks, x ≤ n
  es : ∀ x ∈ s.es, x ≤ n
theorem smZ_ok : smZ.Ok 0 := ⟨rfl, rfl, Nat.le_refl _, Nat.le_refl _, fun x hx => by rw [(List.mem_replicate.1 hx).2]; exact Nat.le_refl _, fun x hx => by rw [(List.mem_replicate.1 hx).2]; exact Nat.le_refl _⟩
theorem Sm.Ok.step {s : Sm} {n : Nat} (h : s.Ok n) (p : Pr) : (s.step p).Ok (n + 1) :=
  ⟨(inc_length _ _).trans h.kl, (incE_length _ _).trans h.el, by show (if p.rf then _ else _) ≤ _; have := h.rf; split <;> omega, by show (if p.po then _ else _) ≤ _; have := h.po; split <;> omega, inc_le h.ks _, incE_le h.es _⟩
theorem sumS_ok (l : List Pr) (k : Nat) (hk : k ≤ l.length) : (sumS (l.take k)).Ok k := by
  induction k with
  | zero => exact smZ_ok
  | succ k ih =>
    obtain ⟨x, hx⟩ : ∃ x, l[k]? = some x := ⟨_, List.getElem?_eq_getElem (by omega)⟩
    rw [takeP_snoc hx, sumS_snoc]
    exact (ih (by omega)).step x
def smCells (n : Nat) (s : Sm) : List Value := [n33 n, n33 s.rf, n33 s.po, n33 s.mo] ++ (s.ks.map n33 ++ s.es.map n33)
/-- A summary's block. -/
def SmB (w : World) (g n : Nat) (s : Sm) : Prop := w.heap[g]? = some (.cells (smCells n s).toArray 55 (0, 0))
theorem sm_free {w : World} {g n : Nat} {s : Sm} (h : SmB w g n s) (i : Nat) : w.frozen? ⟨g, i, none⟩ = false := frozen_of_row w g i _ _ h
theorem sm_pre {w : World} {g n : Nat} {s : Sm} (h : SmB w g n s) :
    w.cell? ⟨g, 0, none⟩ = some (n33 n) ∧ w.cell? ⟨g, 1, none⟩ = some (n33 s.rf) ∧ w.cell? ⟨g, 2, none⟩ = some (n33 s.po) ∧ w.cell? ⟨g, 3, none⟩ = some (n33 s.mo) := by
  refine ⟨?_, ?_, ?_, ?_⟩ <;> rw [cell_of_row w g _ _ _ _ h] <;> rfl
theorem sm_ks {w : World} {g n : Nat} {s : Sm} (h : SmB w g n s) {i : Nat} (hi : i < s.ks.length) : w.cell? ⟨g, 4 + i, none⟩ = some (n33 (s.ks.getD i 0)) := by
  rw [cell_of_row w g (4 + i) _ _ _ h, List.getElem?_toArray]
  unfold smCells
  rw [List.getElem?_append_right (by simp), List.getElem?_append_left (by simpa using hi)]
  simp [hi, List.getD_eq_getElem?_getD]
theorem sm_es {w : World} {g n : Nat} {s : Sm} (h : SmB w g n s) (hk : s.ks.length = 19) {i : Nat} (hi : i < s.es.length) : w.cell? ⟨g, 23 + i, none⟩ = some (n33 (s.es.getD i 0)) := by
  rw [cell_of_row w g (23 + i) _ _ _ h, List.getElem?_toArray]
  unfold smCells
  rw [List.getElem?_append_right (by simp; omega), List.getElem?_append_right (by simp [hk]; omega)]
  have : 23 + i - [n33 n, n33 s.rf, n33 s.po, n33 s.mo].length - (s.ks.map n33).length = i := by simp [hk]; omega
  rw [this]
  simp [hi, List.getD_eq_getElem?_getD]
theorem sm_set1 {w : World} {g n : Nat} {s : Sm} (h : SmB w g n s) (x : Nat) : SmB (w.setCell ⟨g, 1, none⟩ (n33 x)) g n { s with rf := x } := heap_setCell_same w g 1 _ _ _ h
theorem sm_set2 {w : World} {g n : Nat} {s : Sm} (h : SmB w g n s) (x : Nat) : SmB (w.setCell ⟨g, 2, none⟩ (n33 x)) g n { s with po := x } := heap_setCell_same w g 2 _ _ _ h
theorem sm_set3 {w : World} {g n : Nat} {s : Sm} (h : SmB w g n s) (x : Nat) : SmB (w.setCell ⟨g, 3, none⟩ (n33 x)) g n { s with mo := x } := heap_setCell_same w g 3 _ _ _ h
theorem sm_setK {w : World} {g n : Nat} {s : Sm} (h : SmB w g n s) {i : Nat} (hi : i < s.ks.length) (x : Nat) : SmB (w.setCell ⟨g, 4 + i, none⟩ (n33 x)) g n { s with ks := s.ks.set i x } := by
  unfold SmB
  rw [heap_setCell_same w g (4 + i) _ _ _ h, List.setIfInBounds_toArray]
  congr 3
  unfold smCells
  rw [List.set_append_right _ _ (by simp), List.set_append_left _ _ (by simpa using hi), List.map_set]
  simp
theorem sm_setE {w : World} {g n : Nat} {s : Sm} (h : SmB w g n s) (hk : s.ks.length = 19) {i : Nat} (x : Nat) : SmB (w.setCell ⟨g, 23 + i, none⟩ (n33 x)) g n { s with es := s.es.set i x } := by
  unfold SmB
  rw [heap_setCell_same w g (23 + i) _ _ _ h, List.setIfInBounds_toArray]
  congr 3
  unfold smCells
  rw [List.set_append_right _ _ (by simp; omega), List.set_append_right _ _ (by simp [hk]; omega), List.map_set]
  have : 23 + i - [n33 n, n33 s.rf, n33 s.po, n33 s.mo].length - (s.ks.map n33).length = i := by simp [hk]; omega
  rw [this]
end Go.Proofs.YtkgkefifcpneiaaDoor
