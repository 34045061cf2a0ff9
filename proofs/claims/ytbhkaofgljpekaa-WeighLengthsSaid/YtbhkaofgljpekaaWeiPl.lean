/- Layer 7, plainly: rows of elements, and the lengths. -/
import Derived.Test.YtbhkaofgljpekaaRows
import Derived.WalkKit
namespace Go.Proofs.Ytbhkaofgljpekaa

/-- An element: its weight, and its symbols. -/
abbrev WE := Nat × List Nat
/-- Two neighbours of a row each, together. -/
def prW : List WE → List WE
  | a :: b :: r => (a.1 + b.1, a.2 ++ b.2) :: prW r
  | _ => []
/-- Both, by rising weight. -/
def mgW : List WE → List WE → List WE
  | its, [] => its
  | its, p :: ps => its.takeWhile (fun x => decide (x.1 ≤ p.1)) ++ p :: mgW (its.dropWhile (fun x => decide (x.1 ≤ p.1))) ps
/-- The rows, of which each is made of the one ahead. -/
def rowW (first : List WE) : Nat → List WE
  | 0 => first
  | k + 1 => mgW first (prW (rowW first k))
theorem prW_len : ∀ l : List WE, (prW l).length = l.length / 2
  | [] => rfl
  | [_] => by simp [prW]
  | a :: b :: r => by
    rw [prW, List.length_cons, prW_len r, List.length_cons, List.length_cons]
    omega
theorem mgW_len : ∀ (ps its : List WE), (mgW its ps).length = its.length + ps.length
  | [], its => by simp [mgW]
  | p :: ps, its => by
    have h := congrArg List.length (List.takeWhile_append_dropWhile (p := fun x : WE => decide (x.1 ≤ p.1)) (l := its))
    rw [List.length_append] at h
    rw [mgW, List.length_append, List.length_cons, mgW_len ps, List.length_cons]
    omega
theorem rowW_len (first : List WE) : ∀ k, (rowW first k).length ≤ 2 * first.length
  | 0 => by show first.length ≤ _; omega
  | k + 1 => by
    have ih := rowW_len first k
    rw [rowW, mgW_len, prW_len]
    omega
theorem rowW_ge (first : List WE) : ∀ k, first.length ≤ (rowW first k).length
  | 0 => Nat.le_refl _
  | k + 1 => by rw [rowW, mgW_len]; omega
/-- All weights of a row are at most so much. -/
theorem prW_bd {m : Nat} : ∀ l : List WE, (∀ x ∈ l, x.1 ≤ m) → ∀ x ∈ prW l, x.1 ≤ 2 * m
  | [], _, x, h => by simp [prW] at h
  | [_], _, x, h => by simp [prW] at h
  | a :: b :: r, hl, x, h => by
    rw [prW] at h
    rcases List.mem_cons.1 h with rfl | h
    · have h1 := hl a (by simp)
      have h2 := hl b (by simp)
      show a.1 + b.1 ≤ _
      omega
    · exact prW_bd r (fun y hy => hl y (by simp [hy])) x h
theorem mgW_mem : ∀ (ps its : List WE) (x : WE), x ∈ mgW its ps → x ∈ its ∨ x ∈ ps
  | [], its, x, h => .inl h
  | p :: ps, its, x, h => by
    rw [mgW, List.mem_append, List.mem_cons] at h
    rcases h with h | rfl | h
    · exact .inl ((List.takeWhile_prefix _).subset h)
    · exact .inr (by simp)
    · rcases mgW_mem ps _ x h with h | h
      · exact .inl ((List.dropWhile_suffix _).subset h)
      · exact .inr (by simp [h])
theorem rowW_bd {first : List WE} {m : Nat} (h : ∀ x ∈ first, x.1 ≤ m) : ∀ k, ∀ x ∈ rowW first k, x.1 ≤ 2 ^ k * m
  | 0, x, hx => by have := h x hx; omega
  | k + 1, x, hx => by
    rw [rowW] at hx
    rcases mgW_mem _ _ x hx with hx | hx
    · have h1 := h x hx
      have h2 := Nat.le_mul_of_pos_left m (Nat.two_pow_pos (k + 1))
      omega
    · have := prW_bd _ (rowW_bd h k) x hx
      rw [Nat.pow_succ, Nat.mul_comm (2 ^ k) 2, Nat.mul_assoc]
      exact this
/-- Each symbol is made longer by one. -/
def incW (l : List Nat) (ss : List Nat) : List Nat := ss.foldl (fun l s => l.set s (l.getD s 0 + 1)) l
theorem incW_append (l a b : List Nat) : incW l (a ++ b) = incW (incW l a) b := List.foldl_append ..
theorem incW_length (l : List Nat) : ∀ ss : List Nat, (incW l ss).length = l.length := by
  intro ss
  induction ss generalizing l with
  | nil => rfl
  | cons s ss ih =>
    show (incW _ ss).length = _
    rw [ih, List.length_set]
end Go.Proofs.Ytbhkaofgljpekaa
