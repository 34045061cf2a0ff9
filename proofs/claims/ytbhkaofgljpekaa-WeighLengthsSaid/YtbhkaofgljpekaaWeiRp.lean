/- Layer 7, plainly: rows by places, and by symbols. -/
import Derived.Test.YtbhkaofgljpekaaWeiRr
import Derived.Test.YtbhkaofgljpekaaWeiGd
namespace Go.Proofs.Ytbhkaofgljpekaa

/-- The reference's rows, none ahead of the first. -/
def rrP (first : List WE) : Nat → List WE
  | 0 => []
  | j + 1 => mgW first (prW (rrP first j))
theorem rrP_row (first : List WE) : ∀ j, rrP first (j + 1) = rowW first j
  | 0 => by show mgW first [] = first; rw [mgW]
  | j + 1 => by rw [rrP, rrP_row first j, rowW]
def mpE (g : Nat → Nat) (x : WE) : WE := (x.1, x.2.map g)
theorem prW_map (g : Nat → Nat) : ∀ l : List WE, prW (l.map (mpE g)) = (prW l).map (mpE g)
  | [] => rfl
  | [_] => rfl
  | a :: b :: r => by
    rw [List.map_cons, List.map_cons, prW, prW, List.map_cons, prW_map g r]
    simp [mpE]
theorem mgW_map (g : Nat → Nat) : ∀ (ps its : List WE), mgW (its.map (mpE g)) (ps.map (mpE g)) = (mgW its ps).map (mpE g)
  | [], its => rfl
  | p :: ps, its => by
    rw [List.map_cons, mgW, mgW, List.map_append, List.map_cons]
    have e1 : (its.map (mpE g)).takeWhile (fun x => decide (x.1 ≤ (mpE g p).1)) = (its.takeWhile (fun x => decide (x.1 ≤ p.1))).map (mpE g) := by
      rw [List.takeWhile_map]
      rfl
    have e2 : (its.map (mpE g)).dropWhile (fun x => decide (x.1 ≤ (mpE g p).1)) = (its.dropWhile (fun x => decide (x.1 ≤ p.1))).map (mpE g) := by
      rw [List.dropWhile_map]
      rfl
    rw [e1, e2, mgW_map g ps]
theorem rowW_map (g : Nat → Nat) (first : List WE) : ∀ k, rowW (first.map (mpE g)) k = (rowW first k).map (mpE g)
  | 0 => rfl
  | k + 1 => by rw [rowW, rowW, rowW_map g first k, prW_map, mgW_map]
/-- The symbol at a place. -/
def symAt (its : List (Nat × Nat)) (p : Nat) : Nat := (its.getD p (0, 0)).2
theorem firstP_map (its : List (Nat × Nat)) : (firstP its).map (mpE (symAt its)) = firstW its := by
  apply List.ext_getElem?
  intro i
  rw [List.getElem?_map]
  cases h : its[i]? with
  | none =>
    rw [List.getElem?_eq_none (by rw [firstP_len]; exact List.getElem?_eq_none_iff.1 h), List.getElem?_eq_none (by rw [firstW_len]; exact List.getElem?_eq_none_iff.1 h)]
    rfl
  | some x =>
    rw [firstP_at h, firstW, List.getElem?_map, h]
    simp [mpE, symAt, h]
theorem symsP (its : List (Nat × Nat)) (m : Nat) : (((rowW (firstP its) 14).take m).flatMap (·.2)).map (symAt its) = ((rowW (firstW its) 14).take m).flatMap (·.2) := by
  rw [← firstP_map, rowW_map, List.map_flatMap, ← List.map_take, List.flatMap_map]
  rfl
theorem prW_slen {m : Nat} : ∀ l : List WE, (∀ x ∈ l, x.2.length ≤ m) → ∀ x ∈ prW l, x.2.length ≤ 2 * m
  | [], _, x, h => by simp [prW] at h
  | [_], _, x, h => by simp [prW] at h
  | a :: b :: r, hl, x, h => by
    rw [prW] at h
    rcases List.mem_cons.1 h with rfl | h
    · have h1 := hl a (by simp)
      have h2 := hl b (by simp)
      show (a.2 ++ b.2).length ≤ _
      rw [List.length_append]
      omega
    · exact prW_slen r (fun y hy => hl y (by simp [hy])) x h
theorem rowW_slen {first : List WE} (h : ∀ x ∈ first, x.2.length ≤ 1) : ∀ k, ∀ x ∈ rowW first k, x.2.length ≤ 2 ^ k
  | 0, x, hx => h x hx
  | k + 1, x, hx => by
    rw [rowW] at hx
    rcases mgW_mem _ _ x hx with hx | hx
    · exact Nat.le_trans (h x hx) (Nat.two_pow_pos _)
    · have := prW_slen _ (rowW_slen h k) x hx
      rw [Nat.pow_succ, Nat.mul_comm]
      exact this
theorem firstP_mem {its : List (Nat × Nat)} {x : WE} (h : x ∈ firstP its) : ∃ i y, its[i]? = some y ∧ x = (y.1, [i]) := by
  obtain ⟨⟨y, i⟩, hy, rfl⟩ := List.mem_map.1 h
  exact ⟨i, y, (List.mem_zipIdx_iff_getElem?.1 hy), rfl⟩
/-- What a row of the reference's is bound by. -/
theorem rrP_bd {its : List (Nat × Nat)} (hw : ∀ x ∈ its, x.1 ≤ 1073741824) {j : Nat} (hj : j ≤ 15) : (rrP (firstP its) j).length ≤ 2 * its.length ∧ ∀ x ∈ rrP (firstP its) j, x.1 ≤ 1125899906842624 ∧ x.2.length ≤ 1000000 ∧ ∀ p ∈ x.2, p < its.length := by
  cases j with
  | zero => exact ⟨Nat.zero_le _, fun x h => by simp [rrP] at h⟩
  | succ j =>
    rw [rrP_row]
    refine ⟨by have := rowW_len (firstP its) j; rwa [firstP_len] at this, fun x hx => ⟨?_, ?_, ?_⟩⟩
    · have h1 := rowW_bd (m := 1073741824) (first := firstP its) (fun y hy => by
        obtain ⟨i, z, hz, rfl⟩ := firstP_mem hy
        exact hw z (List.mem_of_getElem? hz)) j x hx
      have h2 : 2 ^ j ≤ 2 ^ 14 := Nat.pow_le_pow_right (by omega) (by omega)
      have h3 := Nat.mul_le_mul_right 1073741824 h2
      omega
    · have h1 := rowW_slen (first := firstP its) (fun y hy => by
        obtain ⟨i, z, hz, rfl⟩ := firstP_mem hy
        exact Nat.le_refl _) j x hx
      have h2 : 2 ^ j ≤ 2 ^ 14 := Nat.pow_le_pow_right (by omega) (by omega)
      omega
    · exact rowW_all (fun y hy s hs => by
        obtain ⟨i, z, hz, rfl⟩ := firstP_mem hy
        have : s = i := by simpa using hs
        rw [this]
        exact (List.getElem?_eq_some_iff.1 hz).1) j x hx
end Go.Proofs.Ytbhkaofgljpekaa
