/- A name's parts put together; its folder. Plain. -/
import Derived.Test.YtmcblagpindncaaDoorMbT
import Derived.Lib.LastIndexByte
namespace Go.Proofs.YtmcblagpindncaaDoor

/-- Parts with bytes 47 between. -/
def jn : List (List UInt8) → List UInt8
  | [] => []
  | [p] => p
  | p :: q :: r => p ++ 47 :: jn (q :: r)
theorem jn_cons (p : List UInt8) {ps : List (List UInt8)} (h : ps ≠ []) : jn (p :: ps) = p ++ 47 :: jn ps := by
  cases ps with
  | nil => exact absurd rfl h
  | cons q r => rfl
theorem jn_snoc (pre : List (List UInt8)) (p : List UInt8) (h : pre ≠ []) : jn (pre ++ [p]) = jn pre ++ 47 :: p := by
  induction pre with
  | nil => exact absurd rfl h
  | cons a t ih =>
    cases t with
    | nil => rfl
    | cons b r =>
      have := ih (by simp)
      rw [List.cons_append, jn_cons a (by simp), this, jn_cons a (by simp)]
      simp
theorem jn_push (x : UInt8) (p : List UInt8) (ps : List (List UInt8)) : jn ((x :: p) :: ps) = x :: jn (p :: ps) := by
  cases ps with
  | nil => rfl
  | cons q r => rfl
theorem jn_parts : ∀ l : List UInt8, jn (partsS l) = l
  | [] => rfl
  | x :: l => by
    have ih := jn_parts l
    unfold partsS
    by_cases hx : x = 47
    · subst hx
      rw [if_pos rfl, jn_cons _ (partsL_ne l), ih]
      rfl
    · rw [if_neg hx]
      split
      · rename_i p ps h; rw [jn_push, ← h, ih]
      · rename_i h; exact (partsL_ne l h).elim
theorem parts_free : ∀ l : List UInt8, ∀ p ∈ partsS l, ∀ x ∈ p, x ≠ 47
  | [] => by intro p hp; simp [partsS] at hp; subst hp; intro x hx; cases hx
  | y :: l => by
    have ih := parts_free l
    intro p hp
    unfold partsS at hp
    by_cases hy : y = 47
    · rw [if_pos hy] at hp
      rcases List.mem_cons.1 hp with rfl | hp
      · intro x hx; cases hx
      · exact ih p hp
    · rw [if_neg hy] at hp
      split at hp
      · rename_i q ps h
        rcases List.mem_cons.1 hp with rfl | hp
        · intro x hx
          rcases List.mem_cons.1 hx with rfl | hx
          · exact hy
          · exact ih q (by rw [h]; exact List.mem_cons_self ..) x hx
        · exact ih p (by rw [h]; exact List.mem_cons_of_mem _ hp)
      · rename_i h; exact (partsL_ne l h).elim
/-- A name's folder. -/
def folderL (l : List UInt8) : List UInt8 := jn (partsS l).dropLast
theorem folder_split (l : List UInt8) : ∃ last, (∀ x ∈ last, x ≠ 47) ∧ ((folderL l = [] ∧ (partsS l).dropLast = [] ∧ l = last) ∨ l = folderL l ++ 47 :: last) := by
  have hne := partsL_ne l
  refine ⟨(partsS l).getLast hne, parts_free l _ (List.getLast_mem hne), ?_⟩
  have h1 := List.dropLast_concat_getLast hne
  have h2 := jn_parts l
  by_cases hp : (partsS l).dropLast = []
  · left
    rw [hp, List.nil_append] at h1
    refine ⟨by unfold folderL; rw [hp]; rfl, hp, ?_⟩
    rw [← h1] at h2
    exact h2.symm
  · right
    rw [← h1, jn_snoc _ _ hp] at h2
    exact h2.symm
theorem last_index (s : ByteArray) : (Lib.lastIndexByte s 47 = -1 ∧ folderL s.data.toList = []) ∨ ∃ i : Nat, Lib.lastIndexByte s 47 = (i : Int) ∧ i < s.size ∧ folderL s.data.toList = s.data.toList.take i := by
  obtain ⟨last, hl, h⟩ := folder_split s.data.toList
  have hsz : s.data.toList.length = s.size := rfl
  have hget : ∀ j x, s.data.toList[j]? = some x → s.data[j]! = x := fun j x hx => by
    rw [Array.getElem?_toList] at hx
    rw [getElem!_def, hx]
  rcases Lib.lastIndexByte_spec s 47 with ⟨h1, h2⟩ | ⟨i, hi, h1, h2, h3⟩
  · rcases h with ⟨h0, _, _⟩ | h
    · exact .inl ⟨h1, h0⟩
    · exfalso
      have hg : s.data.toList[(folderL s.data.toList).length]? = some 47 := by
        conv => lhs; arg 1; rw [h]
        rw [List.getElem?_append_right (Nat.le_refl _), Nat.sub_self]; rfl
      have hlt := (List.getElem?_eq_some_iff.1 hg).1
      exact h2 _ (by rw [← hsz]; exact hlt) (by rw [hget _ _ hg]; rfl)
  · obtain ⟨y, hgi⟩ : ∃ y, s.data.toList[i]? = some y := ⟨_, List.getElem?_eq_getElem (by omega)⟩
    have h47 : s.data.toList[i]? = some 47 := by
      have e := hget _ _ hgi
      rw [e] at h2
      rw [hgi]
      congr 1
      apply UInt8.toNat_inj.1
      show y.toNat = 47
      omega
    right
    rcases h with ⟨_, _, hll⟩ | h
    · exfalso
      rw [hll] at h47
      exact hl 47 (List.mem_of_getElem? h47) rfl
    · have hii : i = (folderL s.data.toList).length := by
        have hg : s.data.toList[(folderL s.data.toList).length]? = some 47 := by
          conv => lhs; arg 1; rw [h]
          rw [List.getElem?_append_right (Nat.le_refl _), Nat.sub_self]; rfl
        have hlt := (List.getElem?_eq_some_iff.1 hg).1
        rcases Nat.lt_trichotomy i (folderL s.data.toList).length with hc | hc | hc
        · exact absurd (by rw [hget _ _ hg]; rfl) (h3 _ hc (by omega))
        · exact hc
        · exfalso
          rw [h, List.getElem?_append_right (by omega)] at h47
          obtain ⟨d, hd⟩ : ∃ d, i - (folderL s.data.toList).length = d + 1 := ⟨i - (folderL s.data.toList).length - 1, by omega⟩
          rw [hd, List.getElem?_cons_succ] at h47
          exact hl 47 (List.mem_of_getElem? h47) rfl
      refine ⟨i, h1, hi, ?_⟩
      rw [hii]
      conv => rhs; arg 2; rw [h]
      rw [List.take_left]
end Go.Proofs.YtmcblagpindncaaDoor
