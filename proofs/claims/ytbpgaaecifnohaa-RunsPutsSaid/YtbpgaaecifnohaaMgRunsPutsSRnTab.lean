/- Layer 9, plainly: a table's bits. -/
import Derived.Test.YtbpgaaecifnohaaMgRunsPuts03
import Derived.Test.YtbpgaaecifnohaaMgRunsPuts38
import Derived.Test.YtbpgaaecifnohaaMgRunsPuts26
namespace Go.Proofs.Ytbpgaaecifnohaa
open BitsP

/-- How often each number stands. -/
def oftP (ps : List (Nat × Nat)) : List Nat := incW (List.replicate 19 0) (ps.map (·.1))
theorem oftP_len (ps : List (Nat × Nat)) : (oftP ps).length = 19 := by rw [oftP, incW_len, List.length_replicate]
theorem oftP_snoc (ps : List (Nat × Nat)) (t : Nat × Nat) : oftP (ps ++ [t]) = (oftP ps).set t.1 ((oftP ps).getD t.1 0 + 1) := by
  unfold oftP
  rw [List.map_append, incW_append]
  rfl
theorem oftP_getD (ps : List (Nat × Nat)) {s : Nat} (h : s < 19) : (oftP ps).getD s 0 = (ps.map (·.1)).count s := by
  rw [oftP, incW_getD _ _ _ (by rw [List.length_replicate]; exact h)]
  have h0 : (List.replicate 19 0).getD s 0 = 0 := by rw [List.getD, List.getElem?_replicate, if_pos h]; rfl
  omega
theorem oftP_le (ps : List (Nat × Nat)) : ∀ n ∈ oftP ps, n ≤ ps.length := fun n hn => by
  obtain ⟨s, hs⟩ := List.mem_iff_getElem?.1 hn
  have h19 : s < 19 := by have := (List.getElem?_eq_some_iff.1 hs).1; rw [oftP_len] at this; exact this
  have h1 := oftP_getD ps h19
  rw [List.getD, hs] at h1
  have h2 := List.count_le_length (a := s) (l := ps.map (·.1))
  rw [List.length_map] at h2
  show n ≤ _
  have : n = (ps.map (·.1)).count s := h1
  omega
theorem oftP_pos {ps : List (Nat × Nat)} {t : Nat × Nat} (h : t ∈ ps) (h19 : t.1 < 19) : ∃ x, (oftP ps)[t.1]? = some x ∧ 0 < x := by
  have hs : t.1 < (oftP ps).length := by rw [oftP_len]; exact h19
  refine ⟨_, List.getElem?_eq_getElem hs, ?_⟩
  have h1 := oftP_getD ps h19
  have h2 : 0 < (ps.map (·.1)).count t.1 := List.count_pos_iff.2 (List.mem_map_of_mem h)
  rw [List.getD, List.getElem?_eq_getElem hs] at h1
  have h3 : (oftP ps)[t.1] = (ps.map (·.1)).count t.1 := h1
  omega
/-- The lengths of the numbers' codes. -/
def lnP (ps : List (Nat × Nat)) : List Nat := lensW (oftP ps)
theorem lnP_len (ps : List (Nat × Nat)) : (lnP ps).length = 19 := by rw [lnP, lensW_len, oftP_len]
theorem zN_sum (ns : List Nat) : (zN ns).sum = ((ns.sum : Nat) : Int) := by
  induction ns with
  | nil => rfl
  | cons n ns ih =>
    rw [zN] at ih ⊢
    rw [List.map_cons, List.sum_cons, List.sum_cons, ih]
    push_cast
    rfl
theorem sum_set_one : ∀ (n s : Nat), s < n → ((List.replicate n 0).set s 1).sum = 1
  | 0, s, h => by omega
  | n + 1, 0, _ => by simp [List.replicate_succ]
  | n + 1, s + 1, h => by
    rw [List.replicate_succ, List.set_cons_succ, List.sum_cons, sum_set_one n s (by omega)]
theorem lnP_right {ps : List (Nat × Nat)} {t : Nat × Nat} (h : t ∈ ps) (h19 : t.1 < 19) : caR (zN (lnP ps)) = true := by
  obtain ⟨x, hx, h0⟩ := oftP_pos h h19
  have hl : (oftP ps).length ≤ 16384 := by rw [oftP_len]; omega
  have h1 : (zN (lnP ps)).all lenB = true := List.all_eq_true.2 (lensW_right hl)
  rw [caR, zN_len, lnP_len, h1]
  simp only [Bool.and_true, Bool.and_eq_true, decide_eq_true_eq, Bool.or_eq_true]
  refine ⟨by omega, ?_⟩
  rcases items_cases (oftP ps) with hi | ⟨x0, s0, hi⟩ | hi
  · have := itemsW_has hx h0
    rw [hi] at this
    cases this
  · refine .inr ?_
    rw [zN_sum, lnP, lensW_one hi, sum_set_one _ _ ?_]
    · rfl
    · obtain ⟨h2, _, _⟩ := itemsW_mem (ns := oftP ps) (x := (x0, s0)) (by rw [hi]; simp)
      exact (List.getElem?_eq_some_iff.1 h2).1
  · exact .inl ((lensW_kraft hl).2 hi)
theorem lnP_pos {ps : List (Nat × Nat)} {t : Nat × Nat} (h : t ∈ ps) (h19 : t.1 < 19) : ∃ n, (lnP ps)[t.1]? = some n ∧ 1 ≤ n ∧ n ≤ 15 := by
  obtain ⟨x, hx, h0⟩ := oftP_pos h h19
  have hl : (oftP ps).length ≤ 16384 := by rw [oftP_len]; omega
  obtain ⟨h1, h2⟩ := lensW_pos hl hx
  have h3 := h1.2 h0
  have hs : t.1 < (lnP ps).length := by rw [lnP_len]; exact h19
  have e : (lnP ps).getD t.1 0 = (lnP ps)[t.1] := by rw [List.getD, List.getElem?_eq_getElem hs]; rfl
  have e2 : (lnP ps)[t.1] = (lensW (oftP ps)).getD t.1 0 := e.symm
  exact ⟨_, List.getElem?_eq_getElem hs, by omega, by omega⟩
/-- The bits of the codes' lengths; of one part; of parts; of a table. -/
def lensB (ns : List Nat) : List Bool := ns.flatMap fun n => bitsOf n 4
def partB (zs : List Int) (t : Nat × Nat) : List Bool := symB zs (t.1 : Int) ++ bitsOf (t.2 - (spanP t.1).1) (spanP t.1).2
def partsB (zs : List Int) (ps : List (Nat × Nat)) : List Bool := ps.flatMap (partB zs)
def tabP (ls : List Nat) : List Bool := bitsOf ls.length 9 ++ lensB (lnP (partsP ls 0)) ++ partsB (zN (lnP (partsP ls 0))) (partsP ls 0)
theorem lensB_up {ns : List Nat} {k n : Nat} (h : ns[k]? = some n) : lensB (ns.take (k + 1)) = lensB (ns.take k) ++ bitsOf n 4 := by
  rw [List.take_add_one, h]
  simp [lensB]
theorem lensB_len (ns : List Nat) : (lensB ns).length = 4 * ns.length := by
  induction ns with
  | nil => rfl
  | cons n ns ih =>
    show (bitsOf n 4 ++ lensB ns).length = _
    rw [List.length_append, ih, bitsOf_length, List.length_cons]
    omega
theorem partsB_snoc (zs : List Int) (ps : List (Nat × Nat)) (t : Nat × Nat) : partsB zs (ps ++ [t]) = partsB zs ps ++ partB zs t := by simp [partsB]
theorem symB_len {zs : List Int} (hr : caR zs = true) (s : Int) : (symB zs s).length ≤ 15 := by
  rcases lenAt_cases hr s with ⟨_, _, h⟩ | ⟨t, n, v, k, _, hy, _, _, h, _⟩
  · rw [h]; exact Nat.zero_le _
  · rw [h, codeB_len]; exact hy.few
theorem partB_len {zs : List Int} (hr : caR zs = true) (t : Nat × Nat) : (partB zs t).length ≤ 22 := by
  have h1 := symB_len hr (t.1 : Int)
  have h2 := (spanP_le t.1).2.2
  unfold partB
  rw [List.length_append, bitsOf_length]
  omega
theorem partsB_len {zs : List Int} (hr : caR zs = true) (ps : List (Nat × Nat)) : (partsB zs ps).length ≤ 22 * ps.length := by
  induction ps with
  | nil => exact Nat.zero_le _
  | cons t ps ih =>
    have h1 := partB_len hr t
    show (partB zs t ++ partsB zs ps).length ≤ _
    rw [List.length_append, List.length_cons]
    omega
theorem partsP_num (ls : List Nat) (hv : ∀ x ∈ ls, x ≤ 15) : ∀ k p, ls.length - p ≤ k → ∀ t ∈ partsP ls p, t.1 < 19
  | 0, p, h, t, ht => by rw [partsP_end (by omega)] at ht; cases ht
  | k + 1, p, h, t, ht => by
    by_cases hp : p < ls.length
    · have h1 := manyP_pos hp
      have h2 := numP_le hv p
      rw [partsP_step hp] at ht
      rcases List.mem_cons.1 ht with rfl | ht
      · show numP ls p < 19
        omega
      · exact partsP_num ls hv k _ (by omega) t ht
    · rw [partsP_end hp] at ht
      cases ht
theorem partsP_all {ls : List Nat} (hv : ∀ x ∈ ls, x ≤ 15) : ∀ t ∈ partsP ls 0, t.1 < 19 := partsP_num ls hv ls.length 0 (by omega)
theorem partsP_ne {ls : List Nat} (h : 0 < ls.length) : ∃ t, t ∈ partsP ls 0 := by
  rw [partsP_step h]
  exact ⟨_, List.mem_cons_self⟩
end Go.Proofs.Ytbpgaaecifnohaa
