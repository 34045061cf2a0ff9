/- Texts by bytes, each once. Plain. -/
import Derived.Test.YtmcblagpindncaaDoorNmP
import Derived.Lib.SlicesCompact
import Derived.Sort.Walk0
namespace Go.Proofs.YtmcblagpindncaaDoor
open Go.Lib

/-- A text of bytes. -/
def kB (p : List UInt8) : ByteArray := ⟨p.toArray⟩
theorem kB_inj {a b : List UInt8} (h : kB a = kB b) : a = b := by
  have : (kB a).data.toList = (kB b).data.toList := by rw [h]
  simpa [kB] using this
theorem ltN_kB (a b : List UInt8) : ltN (kB a) (kB b) = Op.bytesLess a b := by
  unfold ltN
  rw [ByteArray.toList_eq, ByteArray.toList_eq]
  simp [kB]
/-- Texts by bytes, each once. -/
def sortB (l : List (List UInt8)) : List (List UInt8) := l.foldl (fun acc p => withK kB acc p) []
theorem mem_withB {l : List (List UInt8)} {m x : List UInt8} : x ∈ withK kB l m ↔ x = m ∨ x ∈ l := by
  unfold withK
  simp only [List.mem_append, List.mem_cons, List.mem_filter]
  constructor
  · rintro (⟨h, _⟩ | h | ⟨h, _⟩)
    · exact .inr h
    · exact .inl h
    · exact .inr h
  · rintro (h | h)
    · exact .inr (.inl h)
    · by_cases e : x = m
      · exact .inr (.inl e)
      · cases h1 : ltN (kB x) (kB m) with
        | true => exact .inl ⟨h, rfl⟩
        | false => exact .inr (.inr ⟨h, ltN_gt h1 (fun e' => e (kB_inj e'))⟩)
theorem sortB_go (l : List (List UInt8)) : ∀ acc, Ris kB acc → Ris kB (l.foldl (fun acc p => withK kB acc p) acc) ∧ ∀ x, x ∈ l.foldl (fun acc p => withK kB acc p) acc ↔ x ∈ l ∨ x ∈ acc := by
  induction l with
  | nil => intro acc h; exact ⟨h, fun x => by simp⟩
  | cons p l ih =>
    intro acc h
    obtain ⟨h1, h2⟩ := ih (withK kB acc p) (h.withK p)
    refine ⟨h1, fun x => ?_⟩
    rw [List.foldl_cons, h2, mem_withB, List.mem_cons]
    constructor
    · rintro (h | h | h)
      · exact .inl (.inr h)
      · exact .inl (.inl h)
      · exact .inr h
    · rintro ((h | h) | h)
      · exact .inr (.inl h)
      · exact .inl h
      · exact .inr (.inr h)
theorem sortB_ris (l : List (List UInt8)) : Ris kB (sortB l) := (sortB_go l [] List.Pairwise.nil).1
theorem sortB_mem {l : List (List UInt8)} {x : List UInt8} : x ∈ sortB l ↔ x ∈ l := by
  have := (sortB_go l [] List.Pairwise.nil).2 x
  unfold sortB
  simpa using this
theorem sortB_snoc (l : List (List UInt8)) (p : List UInt8) : sortB (l ++ [p]) = withK kB (sortB l) p := by unfold sortB; rw [List.foldl_append]; rfl
theorem two_filters {α : Type} (p q : α → Bool) (h : ∀ x, p x = true → q x = false) : ∀ l : List α, (l.filter p).length + (l.filter q).length ≤ l.length
  | [] => Nat.le_refl _
  | x :: l => by
    have ih := two_filters p q h l
    cases hp : p x with
    | true => rw [List.filter_cons_of_pos hp, List.filter_cons_of_neg (by rw [h x hp]; decide), List.length_cons, List.length_cons]; omega
    | false =>
      rw [List.filter_cons_of_neg (by rw [hp]; decide), List.length_cons]
      cases hq : q x with
      | true => rw [List.filter_cons_of_pos hq, List.length_cons]; omega
      | false => rw [List.filter_cons_of_neg (by rw [hq]; decide)]; omega
theorem withB_len (l : List (List UInt8)) (m : List UInt8) : (withK kB l m).length ≤ l.length + 1 := by
  unfold withK
  rw [List.length_append, List.length_cons]
  have := two_filters (fun x => ltN (kB x) (kB m)) (fun x => ltN (kB m) (kB x)) (fun x h => ltN_asymm h) l
  omega
theorem sortB_len (l : List (List UInt8)) : (sortB l).length ≤ l.length := by
  have : ∀ (l : List (List UInt8)) acc, (l.foldl (fun acc p => withK kB acc p) acc).length ≤ acc.length + l.length := by
    intro l
    induction l with
    | nil => intro acc; exact Nat.le_refl _
    | cons p l ih =>
      intro acc
      have h1 := ih (withK kB acc p)
      have h2 := withB_len acc p
      rw [List.foldl_cons, List.length_cons]
      omega
  have h := this l []
  unfold sortB
  simpa using h
theorem ris_unique : ∀ {a b : List (List UInt8)}, Ris kB a → Ris kB b → (∀ x, x ∈ a ↔ x ∈ b) → a = b
  | [], [], _, _, _ => rfl
  | [], y :: b, _, _, h => by have := (h y).2 (List.mem_cons_self ..); cases this
  | x :: a, [], _, _, h => by have := (h x).1 (List.mem_cons_self ..); cases this
  | x :: a, y :: b, ha, hb, h => by
    have hxy : x = y := by
      rcases List.mem_cons.1 ((h x).1 (List.mem_cons_self ..)) with e | e
      · exact e
      · rcases List.mem_cons.1 ((h y).2 (List.mem_cons_self ..)) with e' | e'
        · exact e'.symm
        · have h1 := hb.head x e
          have h2 := ha.head y e'
          rw [ltN_asymm h1] at h2; cases h2
    subst hxy
    have : a = b := ris_unique ha.tail hb.tail (fun z => by
      constructor
      · intro hz
        rcases List.mem_cons.1 ((h z).1 (List.mem_cons_of_mem _ hz)) with e | e
        · subst e; have := ha.head z hz; rw [ltN_irrefl] at this; cases this
        · exact e
      · intro hz
        rcases List.mem_cons.1 ((h z).2 (List.mem_cons_of_mem _ hz)) with e | e
        · subst e; have := hb.head z hz; rw [ltN_irrefl] at this; cases this
        · exact e)
    rw [this]
theorem sortB_of {a l : List (List UInt8)} (h : Ris kB a) (hm : ∀ x, x ∈ a ↔ x ∈ l) : a = sortB l := ris_unique h (sortB_ris l) (fun x => by rw [hm, sortB_mem])

/-- Not behind: the order of bytes. -/
def leL (a b : List UInt8) : Bool := !Op.bytesLess b a
theorem leL_trans {a b c : List UInt8} (h : leL a b = true) (k : leL b c = true) : leL a c = true := by
  unfold leL at *
  simp only [Bool.not_eq_true'] at *
  cases e : Op.bytesLess c a with
  | false => rfl
  | true =>
    cases e2 : Op.bytesLess a b with
    | true => rw [bl_trans _ _ _ e e2] at k; cases k
    | false =>
      have := bl_total a b e2 h
      subst this
      rw [e] at k; cases k
theorem leL_lt {a b c : List UInt8} (h : leL a b = true) (k : Op.bytesLess b c = true) : Op.bytesLess a c = true := by
  unfold leL at h
  simp only [Bool.not_eq_true'] at h
  cases e2 : Op.bytesLess a b with
  | true => exact bl_trans _ _ _ e2 k
  | false =>
    have := bl_total a b e2 h
    subst this
    exact k
theorem leL_refl (a : List UInt8) : leL a a = true := by unfold leL; rw [bl_irrefl]; rfl
theorem leL_ne {a b : List UInt8} (h : leL a b = true) (k : a ≠ b) : Op.bytesLess a b = true := by
  unfold leL at h
  simp only [Bool.not_eq_true'] at h
  cases e2 : Op.bytesLess a b with
  | true => rfl
  | false => exact absurd (bl_total a b e2 h) k
theorem compact_sorted (d : Array (List UInt8)) (hs : ∀ i j, i ≤ j → j < d.size → leL d[i]! d[j]! = true) : ∀ m, m ≤ d.size → Ris kB (compactUpTo d m) ∧ ∀ x, x ∈ compactUpTo d m ↔ ∃ j, j < m ∧ d[j]! = x
  | 0, _ => ⟨List.Pairwise.nil, fun x => by simp [compactUpTo]⟩
  | m + 1, hm => by
    obtain ⟨h1, h2⟩ := compact_sorted d hs m (by omega)
    rw [compactUpTo_succ]
    by_cases hk : m = 0 ∨ d[m]! ≠ d[m - 1]!
    · have : keeps d m = true := by unfold keeps; exact decide_eq_true hk
      rw [this, if_pos rfl]
      refine ⟨?_, fun x => ?_⟩
      · unfold Ris
        rw [List.pairwise_append]
        refine ⟨h1, List.pairwise_singleton _ _, fun a ha b hb => ?_⟩
        rw [List.mem_singleton] at hb
        subst hb
        obtain ⟨j, hj, rfl⟩ := (h2 a).1 ha
        rw [ltN_kB]
        rcases hk with hk | hk
        · omega
        · exact leL_lt (hs j (m - 1) (by omega) (by omega)) (leL_ne (hs (m - 1) m (by omega) (by omega)) (fun e => hk e.symm))
      · rw [List.mem_append, h2, List.mem_singleton]
        constructor
        · rintro (⟨j, hj, e⟩ | e)
          · exact ⟨j, by omega, e⟩
          · exact ⟨m, by omega, e.symm⟩
        · rintro ⟨j, hj, e⟩
          by_cases hjm : j = m
          · subst hjm; exact .inr e.symm
          · exact .inl ⟨j, by omega, e⟩
    · have : keeps d m = false := by unfold keeps; exact decide_eq_false hk
      rw [this, if_neg (by decide), List.append_nil]
      refine ⟨h1, fun x => ?_⟩
      rw [h2]
      have hk' : m ≠ 0 ∧ d[m]! = d[m - 1]! := by
        refine ⟨fun e => hk (.inl e), ?_⟩
        by_cases e : d[m]! = d[m - 1]!
        · exact e
        · exact absurd (.inr e) hk
      constructor
      · rintro ⟨j, hj, e⟩; exact ⟨j, by omega, e⟩
      · rintro ⟨j, hj, e⟩
        by_cases hjm : j = m
        · subst hjm; exact ⟨j - 1, by omega, by rw [← hk'.2]; exact e⟩
        · exact ⟨j, by omega, e⟩
theorem arr_get (l : List (List UInt8)) (j : Nat) (hj : j < l.length) : l.toArray[j]! = l[j] := by simp [hj]
theorem le_leL (a b : List UInt8) : decide (a ≤ b) = leL a b := by
  unfold leL
  rw [bytesLess_eq]
  by_cases h : b < a
  · rw [decide_eq_true h, decide_eq_false (by intro h2; exact h2 h)]; rfl
  · rw [decide_eq_false h, decide_eq_true (show a ≤ b from h)]; rfl
/-- What is sorted, and then compacted, are the texts by bytes, each once. -/
theorem compact_sort (l : List (List UInt8)) : Lib.compact (l.mergeSort fun x y => decide (x ≤ y)) = sortB l := by
  have e : (fun x y : List UInt8 => decide (x ≤ y)) = leL := by funext a b; exact le_leL a b
  rw [e]
  have hp : (l.mergeSort leL).Pairwise (fun a b => leL a b = true) := List.pairwise_mergeSort (le := leL) (fun a b c h k => leL_trans h k) (fun a b => by
    cases h : leL a b with
    | true => rfl
    | false =>
      unfold leL at h ⊢
      simp only [Bool.not_eq_false'] at h
      rw [bl_asymm _ _ h]; rfl) l
  have hs : ∀ i j, i ≤ j → j < (l.mergeSort leL).toArray.size → leL (l.mergeSort leL).toArray[i]! (l.mergeSort leL).toArray[j]! = true := fun i j hij hj => by
    have hj' : j < (l.mergeSort leL).length := by simpa using hj
    rcases Nat.lt_or_eq_of_le hij with h | h
    · have := List.pairwise_iff_getElem.1 hp i j (by omega) hj' h
      rw [arr_get _ _ hj', arr_get _ _ (by omega)]
      exact this
    · subst h; exact leL_refl _
  obtain ⟨h1, h2⟩ := compact_sorted (l.mergeSort leL).toArray hs (l.mergeSort leL).length (by simp)
  refine sortB_of h1 (fun x => ?_)
  unfold Lib.compact
  rw [h2]
  constructor
  · rintro ⟨j, hj, e⟩
    rw [← List.mem_mergeSort (le := leL), ← e, arr_get _ _ hj]
    exact List.getElem_mem hj
  · intro hx
    rw [← List.mem_mergeSort (le := leL)] at hx
    obtain ⟨j, hj, e⟩ := List.mem_iff_getElem.1 hx
    exact ⟨j, hj, by rw [arr_get _ _ hj]; exact e⟩
end Go.Proofs.YtmcblagpindncaaDoor
