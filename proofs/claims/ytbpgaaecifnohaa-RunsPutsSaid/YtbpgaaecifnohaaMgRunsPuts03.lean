/- Layer 9, plainly: parts of lengths. -/
import Derived.Test.YtbpgaaecifnohaaRows
import Derived.WalkKit
namespace Go.Proofs.Ytbpgaaecifnohaa

/-- How often the least part of a number stands, and in how many bits it is told how much more often one does. -/
def spanP (n : Nat) : Nat × Nat := if n = 16 then (3, 2) else if n = 17 then (3, 3) else if n = 18 then (11, 7) else (1, 0)
def mostP (n : Nat) : Nat := if n = 16 then 6 else if n = 17 then 10 else if n = 18 then 138 else 1
theorem mostP_span (n : Nat) : mostP n + 1 = (spanP n).1 + 2 ^ (spanP n).2 := by
  unfold mostP spanP
  by_cases h : n = 16
  · simp [h]
  · by_cases h2 : n = 17
    · simp [h2]
    · by_cases h3 : n = 18
      · simp [h3]
      · simp [h, h2, h3]
theorem spanP_le (n : Nat) : 1 ≤ (spanP n).1 ∧ (spanP n).1 ≤ 11 ∧ (spanP n).2 ≤ 7 := by
  unfold spanP
  split
  · decide
  split
  · decide
  split
  · decide
  · decide
theorem mostP_le (n : Nat) : 1 ≤ mostP n ∧ mostP n ≤ 138 := by
  have h1 := mostP_span n
  have h2 := spanP_le n
  have h3 : 2 ^ (spanP n).2 ≤ 2 ^ 7 := Nat.pow_le_pow_right (by omega) h2.2.2
  have h4 := Nat.two_pow_pos (spanP n).2
  omega
/-- How many lengths from a place on are alike. -/
def runL (ls : List Nat) (p : Nat) : Nat := ((ls.drop p).takeWhile fun x => x == ls.getD p 0).length
theorem runL_le (ls : List Nat) (p : Nat) : p + runL ls p ≤ max ls.length p := by
  have h1 := (List.takeWhile_prefix (fun x => x == ls.getD p 0) (l := ls.drop p)).length_le
  rw [List.length_drop] at h1
  unfold runL
  omega
theorem runL_pos {ls : List Nat} {p : Nat} (h : p < ls.length) : 1 ≤ runL ls p := by
  unfold runL
  rw [List.drop_eq_getElem_cons h, List.takeWhile_cons]
  have : ls.getD p 0 = ls[p] := by simp [List.getD, h]
  rw [this]
  simp
theorem tw_all {α : Type} (q : α → Bool) (l : List α) (j : Nat) (x : α) (h : (l.takeWhile q)[j]? = some x) : l[j]? = some x ∧ q x = true := by
  induction l generalizing j with
  | nil => simp at h
  | cons a l ih =>
    rw [List.takeWhile_cons] at h
    split at h
    · rename_i ha
      cases j with
      | zero =>
        have : a = x := by simpa using h
        subst this
        exact ⟨rfl, ha⟩
      | succ j => exact ih j (by simpa using h)
    · simp at h
theorem tw_stop {α : Type} (q : α → Bool) (l : List α) (x : α) (h : l[(l.takeWhile q).length]? = some x) : q x = false := by
  induction l with
  | nil => simp at h
  | cons a l ih =>
    rw [List.takeWhile_cons] at h
    split at h
    · exact ih (by simpa using h)
    · rename_i ha
      have : a = x := by simpa using h
      subst this
      simpa using ha
/-- In the run all are alike; behind it stands another one. -/
theorem runL_in {ls : List Nat} {p j : Nat} (h : j < runL ls p) : ls[p + j]? = some (ls.getD p 0) := by
  unfold runL at h
  obtain ⟨h1, h2⟩ := tw_all _ _ j _ (List.getElem?_eq_getElem h)
  rw [List.getElem?_drop] at h1
  rw [h1]
  simpa using h2
theorem runL_out {ls : List Nat} {p x : Nat} (h : ls[p + runL ls p]? = some x) : x ≠ ls.getD p 0 := by
  have := tw_stop (fun x => x == ls.getD p 0) (ls.drop p) x (by rw [List.getElem?_drop]; exact h)
  simpa using this
/-- The number of the part at a place, and how often it stands. -/
def numP (ls : List Nat) (p : Nat) : Nat :=
  if ls.getD p 0 = 0 ∧ 11 ≤ runL ls p then 18 else if ls.getD p 0 = 0 ∧ 3 ≤ runL ls p then 17 else if 0 < p ∧ ls.getD p 0 = ls.getD (p - 1) 0 ∧ 3 ≤ runL ls p then 16 else ls.getD p 0
def manyP (ls : List Nat) (p : Nat) : Nat := min (runL ls p) (mostP (numP ls p))
theorem manyP_le (ls : List Nat) (p : Nat) : manyP ls p ≤ runL ls p ∧ manyP ls p ≤ mostP (numP ls p) := ⟨Nat.min_le_left _ _, Nat.min_le_right _ _⟩
theorem manyP_pos {ls : List Nat} {p : Nat} (h : p < ls.length) : 1 ≤ manyP ls p := by
  have h1 := runL_pos h
  have h2 := (mostP_le (numP ls p)).1
  unfold manyP
  omega
def partsP (ls : List Nat) (p : Nat) : List (Nat × Nat) :=
  if _h : p < ls.length then (numP ls p, manyP ls p) :: partsP ls (p + manyP ls p) else []
termination_by ls.length - p
decreasing_by have := manyP_pos ‹p < ls.length›; omega
theorem partsP_step {ls : List Nat} {p : Nat} (h : p < ls.length) : partsP ls p = (numP ls p, manyP ls p) :: partsP ls (p + manyP ls p) := by rw [partsP, dif_pos h]
theorem partsP_end {ls : List Nat} {p : Nat} (h : ¬ p < ls.length) : partsP ls p = [] := by rw [partsP, dif_neg h]
theorem getD_le {ls : List Nat} {m : Nat} (h : ∀ x ∈ ls, x ≤ m) (p : Nat) : ls.getD p 0 ≤ m := by
  rw [List.getD]
  cases hp : ls[p]? with
  | none => exact Nat.zero_le _
  | some x => exact h x (List.mem_of_getElem? hp)
theorem numP_le {ls : List Nat} (hv : ∀ x ∈ ls, x ≤ 15) (p : Nat) : numP ls p ≤ 18 := by
  have := getD_le hv p
  unfold numP
  split
  · omega
  split
  · omega
  split <;> omega
theorem span_le_many {ls : List Nat} {p : Nat} (hv : ∀ x ∈ ls, x ≤ 15) (h : p < ls.length) : (spanP (numP ls p)).1 ≤ manyP ls p := by
  have h1 := runL_pos h
  have h4 : (spanP (numP ls p)).1 ≤ mostP (numP ls p) := by
    have h2 := mostP_span (numP ls p)
    have h3 := Nat.two_pow_pos (spanP (numP ls p)).2
    omega
  have key : (spanP (numP ls p)).1 ≤ runL ls p := by
    unfold numP
    by_cases c1 : ls.getD p 0 = 0 ∧ 11 ≤ runL ls p
    · rw [if_pos c1]; exact c1.2
    rw [if_neg c1]
    by_cases c2 : ls.getD p 0 = 0 ∧ 3 ≤ runL ls p
    · rw [if_pos c2]; exact c2.2
    rw [if_neg c2]
    by_cases c3 : 0 < p ∧ ls.getD p 0 = ls.getD (p - 1) 0 ∧ 3 ≤ runL ls p
    · rw [if_pos c3]; exact c3.2.2
    rw [if_neg c3]
    have h5 := getD_le hv p
    unfold spanP
    rw [if_neg (by omega), if_neg (by omega), if_neg (by omega)]
    exact h1
  unfold manyP
  omega
/-- What is behind the number. -/
theorem more_lt {ls : List Nat} {p : Nat} (hv : ∀ x ∈ ls, x ≤ 15) (h : p < ls.length) : manyP ls p - (spanP (numP ls p)).1 < 2 ^ (spanP (numP ls p)).2 := by
  have h1 := (manyP_le ls p).2
  have h2 := mostP_span (numP ls p)
  have h3 := span_le_many hv h
  omega
/-- What a part says, behind these lengths. -/
def saysP (l : List Nat) (num : Nat) : Nat := if num = 16 then l.getLastD 0 else if num = 17 ∨ num = 18 then 0 else num
theorem says_here {ls : List Nat} {p : Nat} (hv : ∀ x ∈ ls, x ≤ 15) (h : p < ls.length) : saysP (ls.take p) (numP ls p) = ls.getD p 0 ∧ (numP ls p = 16 → 0 < p) := by
  have h5 := getD_le hv p
  unfold numP
  by_cases c1 : ls.getD p 0 = 0 ∧ 11 ≤ runL ls p
  · rw [if_pos c1, c1.1]
    exact ⟨rfl, fun h => by omega⟩
  rw [if_neg c1]
  by_cases c2 : ls.getD p 0 = 0 ∧ 3 ≤ runL ls p
  · rw [if_pos c2, c2.1]
    exact ⟨rfl, fun h => by omega⟩
  rw [if_neg c2]
  by_cases c3 : 0 < p ∧ ls.getD p 0 = ls.getD (p - 1) 0 ∧ 3 ≤ runL ls p
  · rw [if_pos c3, c3.2.1]
    refine ⟨?_, fun _ => c3.1⟩
    unfold saysP
    rw [if_pos rfl, List.getLastD_eq_getLast?, List.getLast?_eq_getElem?, List.length_take, Nat.min_eq_left (by omega), List.getElem?_take_of_lt (by omega)]
    rfl
  rw [if_neg c3]
  refine ⟨?_, fun h => by omega⟩
  unfold saysP
  rw [if_neg (by omega), if_neg (by omega)]
theorem take_many (ls : List Nat) (p : Nat) : ls.take (p + manyP ls p) = ls.take p ++ List.replicate (manyP ls p) (ls.getD p 0) := by
  rw [List.take_add]
  congr 1
  apply List.ext_getElem?
  intro j
  by_cases hj : j < manyP ls p
  · rw [List.getElem?_take_of_lt hj, List.getElem?_drop, runL_in (Nat.lt_of_lt_of_le hj (manyP_le ls p).1), List.getElem?_replicate, if_pos hj]
  · rw [List.getElem?_eq_none (by rw [List.length_take]; omega), List.getElem?_eq_none (by rw [List.length_replicate]; omega)]
theorem many_le {ls : List Nat} {p : Nat} (h : p < ls.length) : p + manyP ls p ≤ ls.length := by
  have h1 := runL_le ls p
  have h2 := (manyP_le ls p).1
  omega
end Go.Proofs.Ytbpgaaecifnohaa
/- Layer 7, plainly: rows of elements, and the lengths. -/
namespace Go.Proofs.Ytbpgaaecifnohaa

/-- An element: its weight, and its symbols. -/
abbrev WE := Nat × List Nat
/-- Two neighbours of a row each, together. -/
def prW : List WE → List WE
  | a :: b :: r => (a.1 + b.1, a.2 ++ b.2) :: prW r
  | _ => []
/-- Both, by rising weight. -/
def mgW : List WE → List WE → List WE
  | its, [] => its
  | its, p :: ps => its.takeWhile (fun x => decide (x.1 ≤ p.1)) ++ p :: mgW (its.dropWhile (fun x => decide (x.1 ≤ p.1))) ps
/-- The rows, of which each is made of the one ahead. -/
def rowW (first : List WE) : Nat → List WE
  | 0 => first
  | k + 1 => mgW first (prW (rowW first k))
theorem prW_len : ∀ l : List WE, (prW l).length = l.length / 2
  | [] => rfl
  | [_] => by simp [prW]
  | a :: b :: r => by
    rw [prW, List.length_cons, prW_len r, List.length_cons, List.length_cons]
    omega
theorem mgW_len : ∀ (ps its : List WE), (mgW its ps).length = its.length + ps.length
  | [], its => by simp [mgW]
  | p :: ps, its => by
    have h := congrArg List.length (List.takeWhile_append_dropWhile (p := fun x : WE => decide (x.1 ≤ p.1)) (l := its))
    rw [List.length_append] at h
    rw [mgW, List.length_append, List.length_cons, mgW_len ps, List.length_cons]
    omega
theorem rowW_len (first : List WE) : ∀ k, (rowW first k).length ≤ 2 * first.length
  | 0 => by show first.length ≤ _; omega
  | k + 1 => by
    have ih := rowW_len first k
    rw [rowW, mgW_len, prW_len]
    omega
theorem rowW_ge (first : List WE) : ∀ k, first.length ≤ (rowW first k).length
  | 0 => Nat.le_refl _
  | k + 1 => by rw [rowW, mgW_len]; omega
/-- All weights of a row are at most so much. -/
theorem prW_bd {m : Nat} : ∀ l : List WE, (∀ x ∈ l, x.1 ≤ m) → ∀ x ∈ prW l, x.1 ≤ 2 * m
  | [], _, x, h => by simp [prW] at h
  | [_], _, x, h => by simp [prW] at h
  | a :: b :: r, hl, x, h => by
    rw [prW] at h
    rcases List.mem_cons.1 h with rfl | h
    · have h1 := hl a (by simp)
      have h2 := hl b (by simp)
      show a.1 + b.1 ≤ _
      omega
    · exact prW_bd r (fun y hy => hl y (by simp [hy])) x h
theorem mgW_mem : ∀ (ps its : List WE) (x : WE), x ∈ mgW its ps → x ∈ its ∨ x ∈ ps
  | [], its, x, h => .inl h
  | p :: ps, its, x, h => by
    rw [mgW, List.mem_append, List.mem_cons] at h
    rcases h with h | rfl | h
    · exact .inl ((List.takeWhile_prefix _).subset h)
    · exact .inr (by simp)
    · rcases mgW_mem ps _ x h with h | h
      · exact .inl ((List.dropWhile_suffix _).subset h)
      · exact .inr (by simp [h])
theorem rowW_bd {first : List WE} {m : Nat} (h : ∀ x ∈ first, x.1 ≤ m) : ∀ k, ∀ x ∈ rowW first k, x.1 ≤ 2 ^ k * m
  | 0, x, hx => by have := h x hx; omega
  | k + 1, x, hx => by
    rw [rowW] at hx
    rcases mgW_mem _ _ x hx with hx | hx
    · have h1 := h x hx
      have h2 := Nat.le_mul_of_pos_left m (Nat.two_pow_pos (k + 1))
      omega
    · have := prW_bd _ (rowW_bd h k) x hx
      rw [Nat.pow_succ, Nat.mul_comm (2 ^ k) 2, Nat.mul_assoc]
      exact this
/-- Each symbol is made longer by one. -/
def incW (l : List Nat) (ss : List Nat) : List Nat := ss.foldl (fun l s => l.set s (l.getD s 0 + 1)) l
theorem incW_append (l a b : List Nat) : incW l (a ++ b) = incW (incW l a) b := List.foldl_append ..
theorem incW_length (l : List Nat) : ∀ ss : List Nat, (incW l ss).length = l.length := by
  intro ss
  induction ss generalizing l with
  | nil => rfl
  | cons s ss ih =>
    show (incW _ ss).length = _
    rw [ih, List.length_set]
end Go.Proofs.Ytbpgaaecifnohaa
