/- Layer 8: the order of the symbols; the reference's Right. -/
import Derived.Test.YtbhkaofgljpekaaCa3
namespace Go.Proofs.Ytbhkaofgljpekaa
open Go.RowKit

theorem intElem : Elem Try.prog 22 3 (.int .i64 0) 1 8 := Elem.of Try.underlying22 (by kernel_rfl) rfl (by omega)
def nc (s : Nat) : Value := ic (s : Int)
/-- The symbols of a length, ahead of a place. -/
def ixs (zs : List Int) (n s : Nat) : List Nat := (List.range s).filter fun t => decide (zs[t]? = some (n : Int))
/-- .. of all lengths up to one. -/
def whole (zs : List Int) : Nat → List Nat
  | 0 => []
  | m + 1 => whole zs m ++ ixs zs (m + 1) zs.length
def ordN (zs : List Int) (n s : Nat) : List Nat := whole zs (n - 1) ++ ixs zs n s
theorem ordN_zero (zs : List Int) (n : Nat) : ordN zs n 0 = whole zs (n - 1) := by simp [ordN, ixs]
theorem ordN_all (zs : List Int) (n : Nat) (h : 1 ≤ n) : ordN zs n zs.length = whole zs n := by
  obtain ⟨m, rfl⟩ : ∃ m, n = m + 1 := ⟨n - 1, by omega⟩
  rfl
theorem ordN_yes {zs : List Int} {n s : Nat} (h : zs[s]? = some (n : Int)) : ordN zs n (s + 1) = ordN zs n s ++ [s] := by
  unfold ordN ixs
  rw [List.range_succ, List.filter_append, List.append_assoc]
  congr 1
  simp [h]
theorem ordN_no {zs : List Int} {n s : Nat} {x : Int} (h : zs[s]? = some x) (hx : x ≠ n) : ordN zs n (s + 1) = ordN zs n s := by
  unfold ordN ixs
  rw [List.range_succ, List.filter_append]
  congr 1
  simp [h, hx]
theorem ixs_len (zs : List Int) (n s : Nat) : (ixs zs n s).length ≤ s := Nat.le_trans (List.length_filter_le _ _) (by simp)
theorem whole_len (zs : List Int) : ∀ m, (whole zs m).length ≤ m * zs.length
  | 0 => by simp [whole]
  | m + 1 => by
    have h1 := whole_len zs m
    have h2 := ixs_len zs (m + 1) zs.length
    rw [whole, List.length_append, Nat.succ_mul]
    omega
theorem ordN_len (zs : List Int) (n s : Nat) (h1 : 1 ≤ n) (h2 : n ≤ 15) (hs : s ≤ zs.length) : (ordN zs n s).length ≤ 15 * zs.length := by
  have h3 := whole_len zs (n - 1)
  have h4 := ixs_len zs n s
  have h5 : (n - 1) * zs.length + zs.length ≤ 15 * zs.length := by
    rw [← Nat.succ_mul]; exact Nat.mul_le_mul_right _ (by omega)
  rw [ordN, List.length_append]
  omega
theorem whole_mem {zs : List Int} : ∀ {m s : Nat}, s ∈ whole zs m → ∃ n : Nat, zs[s]? = some (n : Int) ∧ 1 ≤ n ∧ n ≤ m
  | 0, _, h => by simp [whole] at h
  | m + 1, s, h => by
    rw [whole, List.mem_append] at h
    rcases h with h | h
    · obtain ⟨n, h1, h2, h3⟩ := whole_mem h
      exact ⟨n, h1, h2, by omega⟩
    · simp only [ixs, List.mem_filter, decide_eq_true_eq] at h
      exact ⟨m + 1, h.2, by omega, Nat.le_refl _⟩
theorem whole_has {zs : List Int} {s n : Nat} (h : zs[s]? = some (n : Int)) (h1 : 1 ≤ n) : ∀ {m : Nat}, n ≤ m → s ∈ whole zs m
  | 0, h2 => by omega
  | m + 1, h2 => by
    rw [whole, List.mem_append]
    by_cases e : n = m + 1
    · right
      subst e
      simp only [ixs, List.mem_filter, decide_eq_true_eq, List.mem_range]
      exact ⟨(List.getElem?_eq_some_iff.1 h).1, h⟩
    · exact .inl (whole_has h h1 (by omega))
def ltx (zs : List Int) (s t : Nat) : Prop := zs.getD s 0 < zs.getD t 0 ∨ (zs.getD s 0 = zs.getD t 0 ∧ s < t)
theorem getD_of {zs : List Int} {s : Nat} {n : Int} (h : zs[s]? = some n) : zs.getD s 0 = n := by simp [List.getD, h]
theorem whole_sorted (zs : List Int) : ∀ m, (whole zs m).Pairwise (ltx zs)
  | 0 => by simp [whole]
  | m + 1 => by
    rw [whole, List.pairwise_append]
    refine ⟨whole_sorted zs m, ?_, fun a ha b hb => ?_⟩
    · have : (ixs zs (m + 1) zs.length).Pairwise (· < ·) := List.Pairwise.filter _ List.pairwise_lt_range
      refine this.imp_of_mem fun {a b} ha hb hab => .inr ⟨?_, hab⟩
      simp only [ixs, List.mem_filter, decide_eq_true_eq] at ha hb
      rw [getD_of ha.2, getD_of hb.2]
    · obtain ⟨n, h1, h2, h3⟩ := whole_mem ha
      simp only [ixs, List.mem_filter, decide_eq_true_eq] at hb
      left
      rw [getD_of h1, getD_of hb.2]
      omega
/-- The symbols in their order. -/
def ordL (zs : List Int) : List Nat := whole zs 15
theorem nc_one (os : List Nat) : ∀ u ∈ os.map nc, u.oneCell' = true := fun u hu => by
  obtain ⟨s, _, rfl⟩ := List.mem_map.1 hu
  rfl

theorem caR_empty : caR [] = false := by decide
theorem caR_r7 (zs : List Int) : caR zs = (r7B zs && (decide (zs.sum = 1) || decide (wsum zs = 32768))) := by
  unfold caR r7B
  rw [Bool.or_comm (decide (wsum zs = 32768))]
end Go.Proofs.Ytbhkaofgljpekaa
