/- Layer 5, plainly: a directory as a list of names and numbers that rises; changes of it; what a map of it reads as. -/
import Derived.Test.YtcfkepahilioaaaNmP
import Derived.Maps.Ext
import Derived.Maps.Own
import Derived.Lib.SlMapMerge
namespace Go.Proofs.Ytcfkepahilioaaa
open Go.RowKit Go.Maps

/-- A name, and what it stands for. -/
structure Nt where
  nm : ByteArray
  id : Int
/-- A change: it is made, if 'fr' is empty; it is taken away, if 'to' is. -/
structure Ch where
  fr : ByteArray
  to : ByteArray
  id : Int
def noN : ByteArray := ⟨#[]⟩
/-- What a name stands for; 0, if it isn't there. -/
def idAt (l : List Nt) (s : ByteArray) : Int := match findK Nt.nm l s with
  | some e => e.id
  | none => 0
def mid1 (l : List Nt) (c : Ch) : List Nt := if c.fr = noN then withK Nt.nm l ⟨c.to, c.id⟩ else if c.to = noN then l else withK Nt.nm l ⟨c.to, idAt l c.fr⟩
def step1 (l : List Nt) (c : Ch) : List Nt := if c.fr = c.to then l else outK Nt.nm (mid1 l c) c.fr
def doN (l : List Nt) (cs : List Ch) : List Nt := cs.foldl step1 l

theorem mid1_ris {l : List Nt} (h : Ris Nt.nm l) (c : Ch) : Ris Nt.nm (mid1 l c) := by
  unfold mid1
  split
  · exact h.withK _
  · split
    · exact h
    · exact h.withK _
theorem step1_ris {l : List Nt} (h : Ris Nt.nm l) (c : Ch) : Ris Nt.nm (step1 l c) := by
  unfold step1
  split
  · exact h
  · exact (mid1_ris h c).outK _
theorem doN_ris {l : List Nt} (h : Ris Nt.nm l) (cs : List Ch) : Ris Nt.nm (doN l cs) := by
  induction cs generalizing l with
  | nil => exact h
  | cons c cs ih => exact ih (step1_ris h c)
theorem doN_snoc (l : List Nt) (cs : List Ch) (c : Ch) : doN l (cs ++ [c]) = step1 (doN l cs) c := by simp [doN, List.foldl_append]

/-- Lists that rise are one, if they have the same. -/
theorem nt_ext : ∀ {a b : List Nt}, Ris Nt.nm a → Ris Nt.nm b → (∀ x, x ∈ a ↔ x ∈ b) → a = b
  | [], [], _, _, _ => rfl
  | [], y :: b, _, _, h => by have := (h y).2 (List.mem_cons_self ..); cases this
  | x :: a, [], _, _, h => by have := (h x).1 (List.mem_cons_self ..); cases this
  | x :: a, y :: b, ha, hb, h => by
    have hxy : x = y := by
      rcases List.mem_cons.1 ((h x).1 (List.mem_cons_self ..)) with e | e
      · exact e
      · rcases List.mem_cons.1 ((h y).2 (List.mem_cons_self ..)) with e' | e'
        · exact e'.symm
        · have h1 := hb.head x e
          have h2 := ha.head y e'
          rw [ltN_asymm h1] at h2; cases h2
    subst hxy
    have : a = b := nt_ext ha.tail hb.tail (fun z => by
      constructor
      · intro hz
        rcases List.mem_cons.1 ((h z).1 (List.mem_cons_of_mem _ hz)) with e | e
        · subst e; have := ha.head z hz; rw [ltN_irrefl] at this; cases this
        · exact e
      · intro hz
        rcases List.mem_cons.1 ((h z).2 (List.mem_cons_of_mem _ hz)) with e | e
        · subst e; have := hb.head z hz; rw [ltN_irrefl] at this; cases this
        · exact e)
    rw [this]
theorem mem_ris_eq {l : List Nt} (h : Ris Nt.nm l) {x y : Nt} (hx : x ∈ l) (hy : y ∈ l) (e : x.nm = y.nm) : x = y := by
  obtain ⟨i, hi⟩ := List.mem_iff_getElem?.1 hx
  obtain ⟨j, hj⟩ := List.mem_iff_getElem?.1 hy
  have h1 := hasK_at h hi e
  have h2 := hasK_at h hj rfl
  have : i = j := h1.trans h2.symm
  subst this
  rw [hi] at hj
  injection hj
theorem find_mem {l : List Nt} (h : Ris Nt.nm l) {x : Nt} (hx : x ∈ l) : findK Nt.nm l x.nm = some x := by
  cases e : findK Nt.nm l x.nm with
  | none =>
    have h2 : hasK Nt.nm l x.nm = true := hasK_iff.2 ⟨x, hx, rfl⟩
    rw [← findK_some, e] at h2
    cases h2
  | some y =>
    have := findK_at e
    rw [mem_ris_eq h this.2 hx this.1]
theorem mem_with {l : List Nt} {m x : Nt} : x ∈ withK Nt.nm l m ↔ x = m ∨ (x ∈ l ∧ x.nm ≠ m.nm) := by
  unfold withK
  simp only [List.mem_append, List.mem_filter, List.mem_cons]
  constructor
  · rintro (⟨h, k⟩ | e | ⟨h, k⟩)
    · exact .inr ⟨h, ltN_ne k⟩
    · exact .inl e
    · exact .inr ⟨h, fun e => ltN_ne k e.symm⟩
  · rintro (e | ⟨h, k⟩)
    · exact .inr (.inl e)
    · cases hl : ltN x.nm m.nm with
      | true => exact .inl ⟨h, rfl⟩
      | false => exact .inr (.inr ⟨h, ltN_gt hl k⟩)
theorem mem_out {l : List Nt} {s : ByteArray} {x : Nt} : x ∈ outK Nt.nm l s ↔ x ∈ l ∧ x.nm ≠ s := by
  unfold outK
  simp [List.mem_filter]
/-- As the document has it. -/
theorem with_out {l : List Nt} (h : Ris Nt.nm l) (m : Nt) : withK Nt.nm (outK Nt.nm l m.nm) m = withK Nt.nm l m := nt_ext ((h.outK _).withK _) (h.withK _) (fun x => by
  rw [mem_with, mem_with, mem_out]
  constructor
  · rintro (e | ⟨⟨a, b⟩, _⟩)
    · exact .inl e
    · exact .inr ⟨a, b⟩
  · rintro (e | ⟨a, b⟩)
    · exact .inl e
    · exact .inr ⟨⟨a, b⟩, b⟩)
theorem with_there {l : List Nt} (h : Ris Nt.nm l) {m : Nt} (hm : m ∈ l) : withK Nt.nm l m = l := nt_ext (h.withK _) h (fun x => by
  rw [mem_with]
  constructor
  · rintro (rfl | ⟨a, _⟩)
    · exact hm
    · exact a
  · intro hx
    by_cases e : x.nm = m.nm
    · exact .inl (mem_ris_eq h hx hm e)
    · exact .inr ⟨hx, e⟩)
theorem out_with_swap {l : List Nt} (h : Ris Nt.nm l) (m : Nt) {s : ByteArray} (hs : s ≠ m.nm) : outK Nt.nm (withK Nt.nm l m) s = withK Nt.nm (outK Nt.nm l s) m := nt_ext ((h.withK _).outK _) ((h.outK _).withK _) (fun x => by
  rw [mem_out, mem_with, mem_with, mem_out]
  constructor
  · rintro ⟨e | ⟨a, b⟩, c⟩
    · exact .inl e
    · exact .inr ⟨⟨a, c⟩, b⟩
  · rintro (e | ⟨⟨a, c⟩, b⟩)
    · subst e; exact ⟨.inl rfl, fun e => hs e.symm⟩
    · exact ⟨.inr ⟨a, b⟩, c⟩)
theorem step_create {l : List Nt} {s : ByteArray} {i : Int} (hs : s ≠ noN) (hn : hasK Nt.nm l noN = false) : step1 l ⟨noN, s, i⟩ = withK Nt.nm l ⟨s, i⟩ := by
  unfold step1
  rw [if_neg (show ¬ noN = s from fun e => hs e.symm)]
  unfold mid1
  rw [if_pos rfl]
  show outK Nt.nm _ noN = _
  exact out_not (hasK_not.2 (fun x hx => by
    rcases mem_with.1 hx with rfl | ⟨a, _⟩
    · exact hs
    · exact hasK_not.1 hn x a))
theorem step_remove {l : List Nt} {s : ByteArray} {i : Int} (hs : s ≠ noN) : step1 l ⟨s, noN, i⟩ = outK Nt.nm l s := by
  unfold step1
  rw [if_neg hs]
  unfold mid1
  rw [if_neg hs, if_pos rfl]
theorem step_rename {l : List Nt} (h : Ris Nt.nm l) {a b : ByteArray} {i j : Int} (ha : a ≠ noN) (hb : b ≠ noN) (hi : (⟨a, i⟩ : Nt) ∈ l) : step1 l ⟨a, b, j⟩ = withK Nt.nm (outK Nt.nm l a) ⟨b, i⟩ := by
  unfold step1
  by_cases e : a = b
  · subst e
    rw [if_pos rfl, with_out h ⟨a, i⟩, with_there h hi]
  · rw [if_neg e]
    unfold mid1
    rw [if_neg ha, if_neg hb]
    have hid : idAt l a = i := by
      unfold idAt
      rw [find_mem h hi]
    show outK Nt.nm (withK Nt.nm l ⟨b, idAt l a⟩) a = _
    rw [hid]
    exact out_with_swap h _ e
end Go.Proofs.Ytcfkepahilioaaa
