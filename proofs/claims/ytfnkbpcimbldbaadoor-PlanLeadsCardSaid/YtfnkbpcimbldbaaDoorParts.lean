/- A text's parts between bytes 47, plainly. -/
import Derived.Lib.Bytealg
namespace Go.Proofs.YtfnkbpcimbldbaaDoor

/-- The parts. -/
def partsS : List UInt8 → List (List UInt8)
  | [] => [[]]
  | x :: l => if x = 47 then [] :: partsS l else match partsS l with
    | p :: ps => (x :: p) :: ps
    | [] => [[x]]
theorem partsL_ne (l : List UInt8) : partsS l ≠ [] := by
  cases l with
  | nil => simp [partsS]
  | cons x l =>
    unfold partsS
    split
    · simp
    · split <;> simp
theorem partsL_length (l : List UInt8) : (partsS l).length ≤ l.length + 1 := by
  induction l with
  | nil => exact Nat.le_refl _
  | cons x l ih =>
    unfold partsS
    split
    · simp; omega
    · split
      · rename_i h; rw [h] at ih; simp at ih ⊢; omega
      · simp
theorem parts_none : ∀ {l : List UInt8}, Lib.indexByte l 47 < 0 → partsS l = [l]
  | [], _ => rfl
  | x :: l, h => by
    unfold Lib.indexByte at h
    by_cases hx : x = 47
    · subst hx
      simp at h
    · have hb : (x == 47) = false := by simpa using hx
      rw [hb] at h
      simp only [Bool.false_eq_true, if_false] at h
      have hge := Lib.indexByte_ge l 47
      have h1 : Lib.indexByte l 47 = -1 := by
        by_cases h2 : Lib.indexByte l 47 = -1
        · exact h2
        · have : (Lib.indexByte l 47 == -1) = false := by simpa using h2
          rw [this] at h
          simp only [Bool.false_eq_true, if_false] at h
          omega
      have ih := parts_none (l := l) (by omega)
      unfold partsS
      rw [if_neg hx, ih]
theorem parts_some : ∀ {l : List UInt8} {i : Nat}, Lib.indexByte l 47 = (i : Int) → i < l.length ∧ partsS l = l.take i :: partsS (l.drop (i + 1))
  | [], i, h => by simp [Lib.indexByte] at h
  | x :: l, i, h => by
    unfold Lib.indexByte at h
    by_cases hx : x = 47
    · subst hx
      simp at h
      obtain rfl : i = 0 := by omega
      refine ⟨by simp, ?_⟩
      simp [partsS]
    · have hb : (x == 47) = false := by simpa using hx
      rw [hb] at h
      simp only [Bool.false_eq_true, if_false] at h
      have hge := Lib.indexByte_ge l 47
      by_cases h2 : Lib.indexByte l 47 = -1
      · rw [h2] at h
        simp at h
      · have h3 : (Lib.indexByte l 47 == -1) = false := by simpa using h2
        rw [h3] at h
        simp only [Bool.false_eq_true, if_false] at h
        obtain ⟨j, hj⟩ := Int.eq_ofNat_of_zero_le (show 0 ≤ Lib.indexByte l 47 by omega)
        obtain ⟨h4, ih⟩ := parts_some (l := l) (i := j) hj
        obtain rfl : i = j + 1 := by omega
        refine ⟨by simp; omega, ?_⟩
        rw [partsS, if_neg hx, ih]
        rfl
end Go.Proofs.YtfnkbpcimbldbaaDoor
