/- Layer 5, plainly: a name stands for a number just if it does in the reference. -/
import Derived.Test.YtbfaefnlhcdnhaaNlL
namespace Go.Proofs.Ytbfaefnlhcdnhaa
open Go.RowKit Go.Maps

def LinkP (s : Nst) : Prop := ∀ i, (hasId s.safe i || madeId s.ws i) = (s.past.any (fun p => hasId p i) || hasId s.now i)
theorem hasId_iff {l : List Nt} {i : Int} : hasId l i = true ↔ ∃ e ∈ l, e.id = i := by
  unfold hasId
  rw [List.any_eq_true]
  constructor
  · rintro ⟨e, he, h⟩; exact ⟨e, he, by simpa using h⟩
  · rintro ⟨e, he, h⟩; exact ⟨e, he, by simpa using h⟩
theorem link_more {s : Nst} (h : LinkP s) {c : Ch} {L : List Nt} {x : Int → Bool} (hL : (s.more c).now = L) (hm : ∀ i, madeId [c] i = x i) (hx : ∀ i, hasId L i = true → x i = true ∨ hasId s.now i = true) (hx2 : ∀ i, x i = true → hasId L i = true) : LinkP (s.more c) := fun i => by
  show (hasId s.safe i || madeId (s.ws ++ [c]) i) = ((s.past ++ [s.now]).any (fun p => hasId p i) || hasId (s.more c).now i)
  rw [hL]
  have e1 : madeId (s.ws ++ [c]) i = (madeId s.ws i || madeId [c] i) := by unfold madeId; rw [List.any_append]
  have e2 : (s.past ++ [s.now]).any (fun p => hasId p i) = (s.past.any (fun p => hasId p i) || hasId s.now i) := by rw [List.any_append]; simp
  rw [e1, e2, hm, ← Bool.or_assoc, h i]
  cases hxi : x i with
  | true => rw [hx2 i hxi]
  | false =>
    cases hl : hasId L i with
    | false => rfl
    | true =>
      rcases hx i hl with h' | h'
      · rw [hxi] at h'; cases h'
      · rw [h']; simp
theorem link_opN {s : Nst} (ho : s.Ok) (h : LinkP s) (kind : Int) (a b : ByteArray) (n : Int) : LinkP (opN s kind a b n) := by
  have noM : ∀ (c : Ch), c.fr ≠ noN → ∀ i, madeId [c] i = false := fun c hc i => by
    unfold madeId
    simp [hc]
  unfold opN
  split
  · unfold pickS
    split
    · rename_i h0
      refine link_more h (L := withK Nt.nm s.now ⟨a, n⟩) (ho.create h0).symm (x := fun i => n == i) (fun i => by unfold madeId; simp) (fun i hi => ?_) (fun i hi => hasId_iff.2 ⟨⟨a, n⟩, mem_with.2 (.inl rfl), by simpa using hi⟩)
      obtain ⟨e, he, hid⟩ := hasId_iff.1 hi
      rcases mem_with.1 he with rfl | ⟨he, _⟩
      · exact .inl (by simpa using hid)
      · exact .inr (hasId_iff.2 ⟨e, he, hid⟩)
    · exact h
  · split
    · unfold pickS
      split
      · rename_i h0
        obtain ⟨h1, h2⟩ := rnE_zero h0
        refine link_more h (L := withK Nt.nm (outK Nt.nm s.now a) ⟨b, idAt s.now a⟩) (ho.rename h0).symm (x := fun _ => false) (noM _ (has_ne ho.now_none h2)) (fun i hi => .inr ?_) (fun i hi => by cases hi)
        obtain ⟨e, he, hid⟩ := hasId_iff.1 hi
        rcases mem_with.1 he with rfl | ⟨he, _⟩
        · exact hasId_iff.2 ⟨_, idAt_mem h2, hid⟩
        · exact hasId_iff.2 ⟨e, (mem_out.1 he).1, hid⟩
      · exact h
    · split
      · unfold pickS
        split
        · rename_i h0
          refine link_more h (L := outK Nt.nm s.now a) (ho.remove h0).symm (x := fun _ => false) (noM _ (has_ne ho.now_none (rmE_zero h0))) (fun i hi => .inr ?_) (fun i hi => by cases hi)
          obtain ⟨e, he, hid⟩ := hasId_iff.1 hi
          exact hasId_iff.2 ⟨e, (mem_out.1 he).1, hid⟩
        · exact h
      · split
        · intro i
          show (hasId s.now i || false) = (false || hasId s.now i)
          simp
        · intro i
          show (hasId (s.crash n).safe i || false) = (false || hasId (s.crash n).now i)
          rw [Bool.or_false, Bool.false_or]
          rfl
theorem link_new : LinkP s00 := fun _ => rfl
theorem Nst.Ok.past_len {s : Nst} (h : s.Ok) (hp : s.pre = 0) : ∀ p ∈ s.past, p.length ≤ s.many := fun p hpp => by
  obtain ⟨i, hi⟩ := List.mem_iff_getElem?.1 hpp
  have hlt := (List.getElem?_eq_some_iff.1 hi).1
  have hl := h.len
  rw [hp, Nat.zero_add] at hl
  have hg := h.get i (by omega)
  rw [hp, Nat.zero_add, hi] at hg
  injection hg with hg
  have h1 := doN_len h.ris (s.ws.take i)
  rw [← hg, List.length_take] at h1
  have h2 : s.many = s.safe.length + s.ws.length + s.pre := rfl
  omega
end Go.Proofs.Ytbfaefnlhcdnhaa
