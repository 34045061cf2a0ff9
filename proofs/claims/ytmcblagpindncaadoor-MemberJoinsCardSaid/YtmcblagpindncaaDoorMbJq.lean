/- Names put together: plain facts for MemberJoins. -/
import Derived.Test.YtmcblagpindncaaDoorMbRi
namespace Go.Proofs.YtmcblagpindncaaDoor

theorem parts_47 (l : List UInt8) : partsS (47 :: l) = [] :: partsS l := rfl
theorem parts_ne {x : UInt8} (hx : x ≠ 47) {l p : List UInt8} {ps : List (List UInt8)} (h : partsS l = p :: ps) : partsS (x :: l) = (x :: p) :: ps := by
  show (if x = 47 then [] :: partsS l else match partsS l with | p :: ps => (x :: p) :: ps | [] => [[x]]) = _
  rw [if_neg hx, h]
theorem parts_app : ∀ a b : List UInt8, partsS (a ++ 47 :: b) = partsS a ++ partsS b
  | [], b => rfl
  | x :: a, b => by
    have ih := parts_app a b
    rw [List.cons_append]
    by_cases hx : x = 47
    · subst hx
      rw [parts_47, parts_47, ih]
      rfl
    · cases h : partsS a with
      | nil => exact (partsL_ne a h).elim
      | cons p ps =>
        rw [h] at ih
        rw [parts_ne hx ih, parts_ne hx h]
        rfl
theorem right_len {l : List UInt8} (h : rightB l = true) : 1 ≤ l.length ∧ l.length ≤ 64 ∧ (∀ x ∈ l, signB x = true) ∧ ∀ p ∈ partsS l, partM p = true := by
  unfold rightB at h
  simp only [Bool.and_eq_true, decide_eq_true_eq, List.all_eq_true] at h
  exact ⟨h.1.1.1, h.1.1.2, h.1.2, h.2⟩
theorem right_mk {l : List UInt8} (h1 : 1 ≤ l.length) (h2 : l.length ≤ 64) (h3 : ∀ x ∈ l, signB x = true) (h4 : ∀ p ∈ partsS l, partM p = true) : rightB l = true := by
  unfold rightB
  simp only [Bool.and_eq_true, decide_eq_true_eq, List.all_eq_true]
  exact ⟨⟨⟨h1, h2⟩, h3⟩, h4⟩
theorem right_app {a b : List UInt8} (ha : rightB a = true) (hb : rightB b = true) (hl : a.length + b.length < 64) : rightB (a ++ 47 :: b) = true := by
  obtain ⟨a1, a2, a3, a4⟩ := right_len ha
  obtain ⟨b1, b2, b3, b4⟩ := right_len hb
  refine right_mk (by rw [List.length_append]; omega) (by rw [List.length_append, List.length_cons]; omega) (fun x hx => ?_) (fun p hp => ?_)
  · rcases List.mem_append.1 hx with h | h
    · exact a3 x h
    · rcases List.mem_cons.1 h with rfl | h
      · decide
      · exact b3 x h
  · rw [parts_app] at hp
    rcases List.mem_append.1 hp with h | h
    · exact a4 p h
    · exact b4 p h
theorem mem_jn : ∀ (ps : List (List UInt8)) (p : List UInt8), p ∈ ps → ∀ x ∈ p, x ∈ jn ps
  | p :: ps, q, hq, x, hx => by
    by_cases h : ps = []
    · subst h
      simp at hq
      subst hq
      exact hx
    · rw [jn_cons p h]
      rcases List.mem_cons.1 hq with rfl | hq
      · exact List.mem_append_left _ hx
      · exact List.mem_append_right _ (List.mem_cons_of_mem _ (mem_jn ps q hq x hx))
theorem part_right {l p : List UInt8} (h : rightB l = true) (hp : p ∈ partsS l) : rightB p = true ∧ partsS p = [p] := by
  obtain ⟨_, h2, h3, h4⟩ := right_len h
  have hno := parts_free l p hp
  have hpp : partsS p = [p] := parts_no hno
  have hpm := h4 p hp
  refine ⟨right_mk ?_ ?_ (fun x hx => ?_) (fun q hq => ?_), hpp⟩
  · cases p with
    | nil => simp [partM] at hpm
    | cons x t => simp
  · have := jn_mem_len _ _ hp
    rw [jn_parts] at this
    omega
  · have := mem_jn _ _ hp x hx
    rw [jn_parts] at this
    exact h3 x this
  · rw [hpp, List.mem_singleton] at hq
    subst hq
    exact hpm
theorem parts_jn : ∀ ps : List (List UInt8), ps ≠ [] → (∀ p ∈ ps, ∀ x ∈ p, x ≠ 47) → partsS (jn ps) = ps
  | [], h, _ => absurd rfl h
  | p :: ps, _, h => by
    by_cases h2 : ps = []
    · subst h2
      exact parts_no (h p (List.mem_cons_self ..))
    · rw [jn_cons p h2, parts_app, parts_no (h p (List.mem_cons_self ..)), parts_jn ps h2 (fun q hq => h q (List.mem_cons_of_mem _ hq))]
      rfl
/-- A name's folder has it. -/
theorem in_folder {s : ByteArray} (h : rightB s.data.toList = true) : inF ⟨(folderL s.data.toList).toArray⟩ s = true := by
  obtain ⟨h1, h2, h3, h4⟩ := right_len h
  unfold inF
  simp only [Bool.and_eq_true, Bool.or_eq_true, decide_eq_true_eq]
  refine ⟨h, ?_⟩
  obtain ⟨last, hl, hs⟩ := folder_split s.data.toList
  rcases hs with ⟨h0, _, _⟩ | hs
  · left; rw [txt_size, h0]; rfl
  · by_cases hf : folderL s.data.toList = []
    · left; rw [txt_size, hf]; rfl
    · right
      have hpre : (partsS s.data.toList).dropLast ≠ [] := fun e => hf (by unfold folderL; rw [e]; rfl)
      have hsub : ∀ p ∈ (partsS s.data.toList).dropLast, p ∈ partsS s.data.toList := fun p hp => List.dropLast_subset _ hp
      have hlen : (folderL s.data.toList).length ≤ s.data.toList.length := by
        conv => rhs; rw [hs]
        rw [List.length_append]; omega
      refine ⟨right_mk ?_ (by omega) (fun x hx => ?_) (fun p hp => ?_), ?_⟩
      · exact List.length_pos_iff.2 hf
      · exact h3 x (by rw [hs]; exact List.mem_append_left _ hx)
      · rw [show folderL s.data.toList = jn (partsS s.data.toList).dropLast from rfl, parts_jn _ hpre (fun p hp => parts_free _ p (hsub p hp))] at hp
        exact h4 p (hsub p hp)
      · rw [List.isPrefixOf_iff_prefix]
        exact ⟨last, by conv => rhs; rw [hs]
                        simp⟩
theorem in_longer {f s : ByteArray} (h : s.size ≤ f.size) (hf : ¬ f.size = 0) : inF f s = false := by
  unfold inF
  have h1 : (f.data.toList ++ [47]).isPrefixOf s.data.toList = false := not_prefix (by rw [List.length_append, size_toL, size_toL]; simp; omega)
  rw [h1]
  simp [hf]
theorem in_nil {s : ByteArray} (h : rightB s.data.toList = true) : inF ⟨#[]⟩ s = true := by
  unfold inF
  rw [h]
  rfl
theorem in_app {s t : ByteArray} (hs : rightB s.data.toList = true) (hst : rightB (s.data.toList ++ 47 :: t.data.toList) = true) {st : ByteArray} (e : st.data.toList = s.data.toList ++ 47 :: t.data.toList) : inF s st = true := by
  unfold inF
  rw [e, hst, hs]
  have : (s.data.toList ++ [47]).isPrefixOf (s.data.toList ++ 47 :: t.data.toList) = true := by
    rw [List.isPrefixOf_iff_prefix]
    exact ⟨t.data.toList, by simp⟩
  rw [this]
  simp
theorem folder_app_len (a b : List UInt8) : a.length ≤ (folderL (a ++ 47 :: b)).length := by
  unfold folderL
  rw [parts_app]
  have h := jn_take_len (partsS a ++ partsS b).dropLast (partsS a).length
  rw [List.dropLast_append_of_ne_nil (partsL_ne b)] at h ⊢
  rw [List.take_left, jn_parts] at h
  exact h
end Go.Proofs.YtmcblagpindncaaDoor
