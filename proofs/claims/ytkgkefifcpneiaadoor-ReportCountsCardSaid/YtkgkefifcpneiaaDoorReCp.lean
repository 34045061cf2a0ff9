/- Layer 33: what is plain of words, sums and lines. -/
import Derived.Test.YtkgkefifcpneiaaDoorReTx
namespace Go.Proofs.YtkgkefifcpneiaaDoor
open Go.RowKit

theorem wordS_in {j : Int} (h1 : 1 ≤ j) (h2 : j ≤ 18) : ∃ x, kindL[(j - 1).toNat]? = some x ∧ wordS j = x := by
  obtain ⟨x, hx⟩ : ∃ x, kindL[(j - 1).toNat]? = some x := ⟨_, List.getElem?_eq_getElem (by show (j - 1).toNat < 18; omega)⟩
  refine ⟨x, hx, ?_⟩
  unfold wordS
  have := pickS_in noneS hx
  rwa [show (((j - 1).toNat : Nat) : Int) = j - 1 by omega] at this
theorem wordS_out9 {j : Int} (h : j < 1 ∨ 18 < j) : wordS j = noneS := pickS_out noneS (by show j - 1 < 0 ∨ (18 : Int) ≤ j - 1; omega)
theorem codeS_in {j : Int} (h1 : 0 ≤ j) (h2 : j ≤ 16) : codeL[j.toNat]? = some (codeS j) := by
  obtain ⟨x, hx⟩ : ∃ x, codeL[j.toNat]? = some x := ⟨_, List.getElem?_eq_getElem (by show j.toNat < 17; omega)⟩
  have := pickS_in otherS hx
  rw [show ((j.toNat : Nat) : Int) = j by omega] at this
  unfold codeS
  rw [this, hx]
theorem nodup_at {α : Type} {l : List α} (h : l.Nodup) {i j : Nat} {x : α} (hi : l[i]? = some x) (hj : l[j]? = some x) : i = j := by
  obtain ⟨h1, e1⟩ := List.getElem?_eq_some_iff.1 hi
  obtain ⟨h2, e2⟩ := List.getElem?_eq_some_iff.1 hj
  exact (List.getElem_inj h).1 (e1.trans e2.symm)
theorem kind_word {j : Int} (h1 : 1 ≤ j) (h2 : j ≤ 18) {k : Int} {b : Bool} (hp : Placed kindL (wordS j) k b) : (if b then k + 1 else 0) = j := by
  obtain ⟨x, hx, hw⟩ := wordS_in h1 h2
  rw [hw] at hp
  rcases hp with ⟨_, _, h⟩ | ⟨rfl, i, rfl, hi⟩
  · exact absurd hx (h _)
  · have := nodup_at kindL_nodup hi hx
    show (i : Int) + 1 = j
    omega
theorem err_code {j : Int} (h1 : 0 ≤ j) (h2 : j ≤ 16) {k : Int} {b : Bool} (hp : Placed codeL (codeS j) k b) : b = true ∧ k = j := by
  have hx := codeS_in h1 h2
  rcases hp with ⟨_, _, h⟩ | ⟨rfl, i, rfl, hi⟩
  · exact absurd hx (h _)
  · have := nodup_at codeL_nodup hi hx
    exact ⟨rfl, by omega⟩
theorem none_notin : ∀ i : Nat, kindL[i]? ≠ some noneS := fun i h => by
  exact (by decide : ∀ s ∈ kindL, s ≠ noneS) _ (List.mem_of_getElem? h) rfl
theorem word_apart {j k : Int} (hjk : j ≠ k) (he : wordS j = wordS k) : wordS j = wordS 0 := by
  rw [wordS_out9 (j := 0) (by omega)]
  by_cases hj : 1 ≤ j ∧ j ≤ 18
  · obtain ⟨x, hx, hw⟩ := wordS_in hj.1 hj.2
    by_cases hk : 1 ≤ k ∧ k ≤ 18
    · obtain ⟨y, hy, hv⟩ := wordS_in hk.1 hk.2
      have hxy : x = y := by rw [← hw, ← hv, he]
      subst hxy
      have := nodup_at kindL_nodup hx hy
      omega
    · rw [he, wordS_out9 (by omega)]
  · exact wordS_out9 (by omega)
theorem sum_set (l : List Nat) (i x : Nat) (hi : i < l.length) : (l.set i x).sum + l.getD i 0 = l.sum + x := by
  induction l generalizing i with
  | nil => cases hi
  | cons a l ih =>
    cases i with
    | zero => simp; omega
    | succ i =>
      have := ih i (by simpa using hi)
      simp only [List.set_cons_succ, List.sum_cons, List.getD_cons_succ]
      omega
theorem ks_sum (l : List Pr) (k : Nat) (hk : k ≤ l.length) : (sumS (l.take k)).ks.sum = k := by
  induction k with
  | zero => rfl
  | succ k ih =>
    obtain ⟨x, hx⟩ : ∃ x, l[k]? = some x := ⟨_, List.getElem?_eq_getElem (by omega)⟩
    have hok := sumS_ok l k (by omega)
    rw [takeP_snoc hx, sumS_snoc]
    show (inc _ _).sum = _
    have := sum_set (sumS (l.take k)).ks (kix x.kind) ((sumS (l.take k)).ks.getD (kix x.kind) 0 + 1) (by rw [hok.kl]; exact kix_lt _)
    have := ih (by omega)
    unfold inc
    omega
/-- How many line ends. -/
def ends (l : List UInt8) : Nat := (l.filter (· == 10)).length
theorem ends_append (a b : List UInt8) : ends (a ++ b) = ends a + ends b := by unfold ends; rw [List.filter_append, List.length_append]
theorem ends_none {l : List UInt8} (h : ∀ x ∈ l, x ≠ 10) : ends l = 0 := by
  unfold ends
  rw [List.length_eq_zero_iff, List.filter_eq_nil_iff]
  intro x hx
  simpa using h x hx
theorem dec_no10 (n : Nat) : ∀ x ∈ Lib.decDigits n, x ≠ 10 := fun x hx => by
  have key : ∀ k, k < 10 → UInt8.ofNat (48 + k) ≠ 10 := by decide
  induction n using Nat.strongRecOn with
  | ind n ih =>
    rw [Lib.decDigits] at hx
    split at hx
    · simp only [List.mem_cons, List.not_mem_nil, or_false] at hx
      subst hx
      exact key _ (by omega)
    · simp only [List.mem_append, List.mem_cons, List.not_mem_nil, or_false] at hx
      rcases hx with hx | hx
      · exact ih _ (by omega) hx
      · subst hx
        exact key _ (by omega)
theorem itoa_no10 (n : Int) : ∀ x ∈ Lib.itoa n, x ≠ 10 := fun x hx => by
  unfold Lib.itoa at hx
  split at hx
  · rcases List.mem_cons.1 hx with rfl | hx
    · decide
    · exact dec_no10 _ x hx
  · exact dec_no10 _ x hx
def No10 (s : ByteArray) : Prop := ∀ x ∈ s.data.toList, x ≠ 10
theorem no10_append {a b : ByteArray} (ha : No10 a) (hb : No10 b) : No10 (a ++ b) := fun x hx => by
  have e : (a ++ b).data.toList = a.data.toList ++ b.data.toList := by rw [ByteArray.data_append, Array.toList_append]
  rw [e, List.mem_append] at hx
  rcases hx with hx | hx
  · exact ha x hx
  · exact hb x hx
theorem pick_no10 {l : List ByteArray} {o : ByteArray} (hl : ∀ s ∈ l, ∀ x ∈ s.data.toList, x ≠ 10) (ho : ∀ x ∈ o.data.toList, x ≠ 10) (i : Int) : No10 (pickS l i o) := by
  unfold pickS
  split
  · exact ho
  · cases hx : l[i.toNat]? with
    | none => exact ho
    | some x => exact hl x (List.mem_of_getElem? hx)
theorem word_no10 (k : Int) : No10 (wordS k) := pick_no10 (by decide) (by decide) _
theorem code_no10 (k : Int) : No10 (codeS k) := pick_no10 (by decide) (by decide) _
theorem right_no10 {s : ByteArray} (h : rightB s.data.toList = true) : No10 s := fun x hx => by
  intro e
  subst e
  obtain ⟨k, hk⟩ := List.mem_iff_getElem?.1 hx
  rw [rightB_sign hk (by decide)] at h
  cases h
theorem cnt_no10 (p : Pr) : No10 (cntS p) := by
  unfold cntS
  cases hc : cntN p with
  | none => intro x hx; cases hx
  | some q =>
    obtain ⟨n, x⟩ := q
    have hx : x = 98 ∨ x = 120 := by
      unfold cntN at hc
      split at hc
      · cases hc
      · split at hc
        · cases hc; exact .inl rfl
        · split at hc
          · cases hc; exact .inl rfl
          · split at hc
            · cases hc; exact .inr rfl
            · split at hc
              · cases hc; exact .inr rfl
              · cases hc
    refine no10_append (fun y hy => itoa_no10 n y hy) (fun y hy => ?_)
    have : y = x := by simpa using hy
    subst this
    rcases hx with rfl | rfl <;> decide
theorem lineW_no10 (p : Pr) : ∀ s ∈ lineW p, No10 s := fun s hs => by
  have hcol : No10 ⟨#[58]⟩ := by unfold No10; decide
  unfold lineW front2 at hs
  simp only [List.mem_append] at hs
  rcases hs with (((hx | hx) | hx) | hx) | hx
  · split at hx
    · rename_i hr
      simp only [List.mem_cons, List.not_mem_nil, or_false] at hx
      rcases hx with rfl | rfl
      · exact word_no10 _
      · exact no10_append (right_no10 hr) hcol
    · simp only [List.mem_cons, List.not_mem_nil, or_false] at hx
      subst hx
      exact no10_append (word_no10 _) hcol
  · simp only [List.mem_cons, List.not_mem_nil, or_false] at hx
    subst hx; exact code_no10 _
  · split at hx
    · cases hx
    · simp only [List.mem_cons, List.not_mem_nil, or_false] at hx
      subst hx; exact cnt_no10 _
  · split at hx
    · simp only [List.mem_cons, List.not_mem_nil, or_false] at hx
      subst hx; unfold No10; decide
    · cases hx
  · split at hx
    · simp only [List.mem_cons, List.not_mem_nil, or_false] at hx
      subst hx; unfold No10; decide
    · cases hx
theorem join_no10 {ls : List (List UInt8)} (h : ∀ l ∈ ls, ∀ x ∈ l, x ≠ 10) : ∀ x ∈ Lib.join ls [32], x ≠ 10 := fun x hx => by
  unfold Lib.join at hx
  rw [List.intercalate] at hx
  obtain ⟨l, hl, hxl⟩ := List.mem_flatten.1 hx
  have key : ∀ ls : List (List UInt8), (∀ l ∈ ls, ∀ x ∈ l, x ≠ 10) → ∀ l ∈ ls.intersperse [32], ∀ x ∈ l, x ≠ 10 := by
    intro ls
    induction ls with
    | nil => intro _ l hl; cases hl
    | cons a r ih =>
      intro h l hl
      cases r with
      | nil =>
        rw [List.intersperse_singleton] at hl
        exact h l hl
      | cons b r =>
        rw [List.intersperse_cons_cons] at hl
        rcases List.mem_cons.1 hl with rfl | hl
        · exact h _ (by simp)
        · rcases List.mem_cons.1 hl with rfl | hl
          · decide
          · exact ih (fun l hl => h l (by simp [hl])) l hl
  exact key ls h l hl x hxl
theorem line_ends (p : Pr) : ends (lineL p) = 1 := by
  unfold lineL
  rw [ends_append, ends_none]
  · rfl
  · show ∀ x ∈ Lib.join ((lineW p).map (·.data.toList)) [32], x ≠ 10
    refine join_no10 (fun l hl x hx => ?_)
    obtain ⟨s, hs, rfl⟩ := List.mem_map.1 hl
    exact lineW_no10 p s hs x hx
theorem text_ends (l : List Pr) : ends (textL l) = l.length := by
  unfold textL
  induction l with
  | nil => rfl
  | cons x l ih => rw [List.map_cons, List.flatten_cons, ends_append, ih, line_ends, List.length_cons]; omega
theorem ends_take {l : List UInt8} {k : Nat} {x : UInt8} (h : l[k]? = some x) : ends (l.take (k + 1)) = ends (l.take k) + (if x = 10 then 1 else 0) := by
  rw [List.take_add_one, h, ends_append]
  unfold ends
  by_cases hx : x = 10 <;> simp [hx]
end Go.Proofs.YtkgkefifcpneiaaDoor
