/- Names in order: lists that rise by a name that each has: where a name stands, what is put, and taken out. Plain. -/
import GoSem.Op.String
import Derived.Lib.Bytealg
namespace Go.Proofs.Ytfnkbpcimbldbaa

def ltN (a b : ByteArray) : Bool := Op.bytesLess a.toList b.toList
theorem bl_irrefl : ∀ x : List UInt8, Op.bytesLess x x = false
  | [] => rfl
  | a :: x => by
    have h : ¬ a < a := UInt8.lt_irrefl a
    simp [Op.bytesLess, bl_irrefl x, h]
theorem bl_trans : ∀ x y z : List UInt8, Op.bytesLess x y = true → Op.bytesLess y z = true → Op.bytesLess x z = true
  | _, _, [], _, h => by simp [Op.bytesLess] at h
  | [], _, _ :: _, _, _ => rfl
  | _ :: _, [], _ :: _, h, _ => by simp [Op.bytesLess] at h
  | a :: x, b :: y, c :: z, h1, h2 => by
    simp only [Op.bytesLess, Bool.or_eq_true, decide_eq_true_eq, Bool.and_eq_true, beq_iff_eq] at h1 h2 ⊢
    rcases h1 with h1 | ⟨rfl, h1⟩
    · rcases h2 with h2 | ⟨rfl, h2⟩
      · exact .inl (UInt8.lt_trans h1 h2)
      · exact .inl h1
    · rcases h2 with h2 | ⟨rfl, h2⟩
      · exact .inl h2
      · exact .inr ⟨rfl, bl_trans x y z h1 h2⟩
theorem bl_total : ∀ x y : List UInt8, Op.bytesLess x y = false → Op.bytesLess y x = false → x = y
  | [], [], _, _ => rfl
  | [], _ :: _, h, _ => by simp [Op.bytesLess] at h
  | _ :: _, [], _, h => by simp [Op.bytesLess] at h
  | a :: x, b :: y, h1, h2 => by
    simp only [Op.bytesLess, Bool.or_eq_false_iff, decide_eq_false_iff_not, Bool.and_eq_false_iff, beq_eq_false_iff_ne] at h1 h2
    have hab : a = b := by
      apply UInt8.toNat_inj.1
      have e1 := h1.1
      have e2 := h2.1
      rw [UInt8.lt_iff_toNat_lt] at e1 e2
      omega
    subst hab
    rw [bl_total x y (by rcases h1.2 with h | h; exact absurd rfl h; exact h) (by rcases h2.2 with h | h; exact absurd rfl h; exact h)]
theorem bl_asymm (x y : List UInt8) (h : Op.bytesLess x y = true) : Op.bytesLess y x = false := by
  cases e : Op.bytesLess y x with
  | false => rfl
  | true => have := bl_trans x y x h e; rw [bl_irrefl] at this; cases this
theorem ltN_irrefl (a : ByteArray) : ltN a a = false := bl_irrefl _
theorem ltN_trans {a b c : ByteArray} (h : ltN a b = true) (k : ltN b c = true) : ltN a c = true := bl_trans _ _ _ h k
theorem ltN_asymm {a b : ByteArray} (h : ltN a b = true) : ltN b a = false := bl_asymm _ _ h
theorem nm_eq {a b : ByteArray} (h : a.toList = b.toList) : a = b := by
  rw [ByteArray.toList_eq, ByteArray.toList_eq, Array.toList_inj] at h
  exact ByteArray.ext h
theorem ltN_total {a b : ByteArray} (h : ltN a b = false) (k : ltN b a = false) : a = b := nm_eq (bl_total _ _ h k)
theorem ltN_ne {a b : ByteArray} (h : ltN a b = true) : a ≠ b := fun e => by subst e; rw [ltN_irrefl] at h; cases h
theorem nmEq_dec (a b : ByteArray) : (a.toList == b.toList) = decide (a = b) := by
  rw [Bool.eq_iff_iff, beq_iff_eq, decide_eq_true_eq]
  exact ⟨nm_eq, fun h => by rw [h]⟩
theorem nmEq_of {a b : ByteArray} (h : (a.toList == b.toList) = true) : a = b := by rw [nmEq_dec] at h; exact of_decide_eq_true h
theorem nmEq_not {a b : ByteArray} (h : (a.toList == b.toList) = false) : a ≠ b := by rw [nmEq_dec] at h; exact of_decide_eq_false h
theorem ltN_gt {a b : ByteArray} (h : ltN a b = false) (k : a ≠ b) : ltN b a = true := by
  cases e : ltN b a with
  | true => rfl
  | false => exact absurd (ltN_total h e) k

section
variable {α : Type} (k : α → ByteArray)
/-- It rises. -/
def Ris (l : List α) : Prop := l.Pairwise fun a b => ltN (k a) (k b) = true
def posK (l : List α) (s : ByteArray) : Nat := (l.takeWhile fun x => ltN (k x) s).length
def hasK (l : List α) (s : ByteArray) : Bool := l.any fun x => decide (k x = s)
def findK (l : List α) (s : ByteArray) : Option α := l.find? fun x => decide (k x = s)
def withK (l : List α) (m : α) : List α := (l.filter fun x => ltN (k x) (k m)) ++ m :: (l.filter fun x => ltN (k m) (k x))
def outK (l : List α) (s : ByteArray) : List α := l.filter fun x => !decide (k x = s)
variable {k}
theorem posK_le (l : List α) (s : ByteArray) : posK k l s ≤ l.length := (List.takeWhile_sublist _).length_le
theorem posK_cons (a : α) (l : List α) (s : ByteArray) : posK k (a :: l) s = if ltN (k a) s then posK k l s + 1 else 0 := by
  unfold posK
  rw [List.takeWhile_cons]
  split <;> simp
theorem Ris.tail {a : α} {l : List α} (h : Ris k (a :: l)) : Ris k l := (List.pairwise_cons.1 h).2
theorem Ris.head {a : α} {l : List α} (h : Ris k (a :: l)) : ∀ b ∈ l, ltN (k a) (k b) = true := (List.pairwise_cons.1 h).1
/-- Which are less: those ahead of the place. -/
theorem posK_iff {l : List α} (h : Ris k l) (s : ByteArray) : ∀ (i : Nat) (x : α), l[i]? = some x → (ltN (k x) s = true ↔ i < posK k l s) := by
  induction l with
  | nil => intro i x hx; simp at hx
  | cons a l ih =>
    intro i x hx
    rw [posK_cons]
    cases i with
    | zero =>
      simp only [List.getElem?_cons_zero, Option.some.injEq] at hx
      subst hx
      split
      · rename_i hc; simp [hc]
      · rename_i hc; simp [hc]
    | succ i =>
      rw [List.getElem?_cons_succ] at hx
      split
      · rw [ih h.tail i x hx]; omega
      · rename_i hc
        have hc' : ltN (k a) s = false := by simpa using hc
        have := h.head x (List.mem_of_getElem? hx)
        constructor
        · intro hh
          have := ltN_trans this hh
          rw [hc'] at this; cases this
        · intro hh; omega
theorem hasK_iff {l : List α} {s : ByteArray} : hasK k l s = true ↔ ∃ x ∈ l, k x = s := by simp [hasK]
theorem hasK_not {l : List α} {s : ByteArray} : hasK k l s = false ↔ ∀ x ∈ l, k x ≠ s := by
  rw [← Bool.not_eq_true, hasK_iff]
  constructor
  · intro h x hx e; exact h ⟨x, hx, e⟩
  · rintro h ⟨x, hx, e⟩; exact h x hx e
/-- Where it is. -/
theorem hasK_at {l : List α} (h : Ris k l) {s : ByteArray} {i : Nat} {x : α} (hx : l[i]? = some x) (e : k x = s) : i = posK k l s := by
  have h1 := posK_iff h s i x hx
  rw [e, ltN_irrefl] at h1
  have h2 : ¬ i < posK k l s := fun hh => by have := h1.2 hh; cases this
  rcases Nat.lt_or_ge (posK k l s) i with h3 | h3
  · have hl := (List.getElem?_eq_some_iff.1 hx).1
    have hy : l[posK k l s]? = some l[posK k l s] := List.getElem?_eq_getElem (by omega)
    have h4 := posK_iff h s _ _ hy
    have h5 : ltN (k l[posK k l s]) (k x) = true := by
      have := List.pairwise_iff_getElem.1 h (posK k l s) i (by omega) hl h3
      rw [(List.getElem?_eq_some_iff.1 hx).2] at this
      exact this
    rw [e] at h5
    have := h4.1 h5
    omega
  · omega
theorem hasK_pos {l : List α} (h : Ris k l) (s : ByteArray) (x : α) (hx : l[posK k l s]? = some x) : hasK k l s = decide (k x = s) := by
  by_cases e : k x = s
  · rw [decide_eq_true e]; exact hasK_iff.2 ⟨x, List.mem_of_getElem? hx, e⟩
  · rw [decide_eq_false e, hasK_not]
    intro y hy ey
    obtain ⟨i, hi⟩ := List.mem_iff_getElem?.1 hy
    have := hasK_at h hi ey
    subst this
    rw [hx] at hi
    injection hi with hi
    subst hi
    exact e ey
theorem hasK_end {l : List α} (h : Ris k l) {s : ByteArray} (he : posK k l s = l.length) : hasK k l s = false := by
  rw [hasK_not]
  intro x hx e
  obtain ⟨i, hi⟩ := List.mem_iff_getElem?.1 hx
  have := hasK_at h hi e
  have := (List.getElem?_eq_some_iff.1 hi).1
  omega
theorem hasK_there {l : List α} (h : Ris k l) {s : ByteArray} (hh : hasK k l s = true) : ∃ x, l[posK k l s]? = some x ∧ k x = s := by
  obtain ⟨x, hx, e⟩ := hasK_iff.1 hh
  obtain ⟨i, hi⟩ := List.mem_iff_getElem?.1 hx
  have := hasK_at h hi e
  subst this
  exact ⟨x, hi, e⟩
theorem findK_there {l : List α} (h : Ris k l) {s : ByteArray} {x : α} (hx : l[posK k l s]? = some x) (e : k x = s) : findK k l s = some x := by
  induction l with
  | nil => simp at hx
  | cons a l ih =>
    unfold findK
    rw [posK_cons] at hx
    split at hx
    · rename_i hc
      rw [List.find?_cons_of_neg (by simpa using ltN_ne hc)]
      exact ih h.tail (by simpa using hx)
    · simp only [List.getElem?_cons_zero, Option.some.injEq] at hx
      subst hx
      rw [List.find?_cons_of_pos (by simpa using e)]
theorem findK_not {l : List α} {s : ByteArray} (hh : hasK k l s = false) : findK k l s = none := by
  unfold findK
  rw [List.find?_eq_none]
  intro x hx
  simpa using hasK_not.1 hh x hx
theorem findK_some {l : List α} {s : ByteArray} : (findK k l s).isSome = hasK k l s := by
  rw [Bool.eq_iff_iff, findK, List.find?_isSome, hasK_iff]
  simp
theorem findK_at {l : List α} {s : ByteArray} {x : α} (h : findK k l s = some x) : k x = s ∧ x ∈ l := by
  have := List.find?_some h
  exact ⟨by simpa using this, List.mem_of_find?_eq_some h⟩
theorem take_pos {l : List α} (h : Ris k l) (s : ByteArray) : l.take (posK k l s) = l.filter fun x => ltN (k x) s := by
  induction l with
  | nil => simp
  | cons a l ih =>
    rw [posK_cons]
    split
    · rename_i hc
      rw [List.take_succ_cons, List.filter_cons_of_pos (by simpa using hc), ih h.tail]
    · rename_i hc
      have hc' : ltN (k a) s = false := by simpa using hc
      rw [List.take_zero, eq_comm, List.filter_eq_nil_iff]
      intro x hx hl
      rcases List.mem_cons.1 hx with rfl | hx
      · rw [hc'] at hl; cases hl
      · have := ltN_trans (h.head x hx) hl; rw [hc'] at this; cases this
theorem drop_pos {l : List α} (h : Ris k l) (s : ByteArray) : l.drop (posK k l s) = l.filter fun x => !ltN (k x) s := by
  induction l with
  | nil => simp
  | cons a l ih =>
    rw [posK_cons]
    split
    · rename_i hc
      rw [List.drop_succ_cons, List.filter_cons_of_neg (by simpa using hc), ih h.tail]
    · rename_i hc
      have hc' : ltN (k a) s = false := by simpa using hc
      rw [List.drop_zero, eq_comm, List.filter_eq_self]
      intro x hx
      rcases List.mem_cons.1 hx with rfl | hx
      · simpa using hc'
      · cases e : ltN (k x) s with
        | false => rfl
        | true => have := ltN_trans (h.head x hx) e; rw [hc'] at this; cases this
theorem gt_not {l : List α} {s : ByteArray} (hh : hasK k l s = false) : (l.filter fun x => !ltN (k x) s) = l.filter fun x => ltN s (k x) := by
  apply List.filter_congr
  intro x hx
  have := hasK_not.1 hh x hx
  cases e : ltN (k x) s with
  | true => simp [ltN_asymm e]
  | false => simp [ltN_gt e this]
theorem drop_pos1 {l : List α} (h : Ris k l) {s : ByteArray} (hh : hasK k l s = true) : l.drop (posK k l s + 1) = l.filter fun x => ltN s (k x) := by
  induction l with
  | nil => simp
  | cons a l ih =>
    rw [posK_cons]
    split
    · rename_i hc
      have hne : hasK k l s = true := by
        obtain ⟨x, hx, e⟩ := hasK_iff.1 hh
        rcases List.mem_cons.1 hx with rfl | hx
        · exact absurd e (ltN_ne hc)
        · exact hasK_iff.2 ⟨x, hx, e⟩
      rw [List.drop_succ_cons, List.filter_cons_of_neg (by simpa using ltN_asymm hc), ih h.tail hne]
    · rename_i hc
      have hc' : ltN (k a) s = false := by simpa using hc
      have ha : k a = s := by
        obtain ⟨x, hx, e⟩ := hasK_iff.1 hh
        rcases List.mem_cons.1 hx with rfl | hx
        · exact e
        · have := h.head x hx; rw [e, hc'] at this; cases this
      rw [List.drop_succ_cons, List.drop_zero, List.filter_cons_of_neg (by rw [ha, ltN_irrefl]; simp), eq_comm, List.filter_eq_self]
      intro x hx
      rw [← ha]; exact h.head x hx
/-- What the code puts. -/
theorem put_there {l : List α} (h : Ris k l) (m : α) (hh : hasK k l (k m) = true) : l.set (posK k l (k m)) m = withK k l m := by
  obtain ⟨x, hx, _⟩ := hasK_there h hh
  have hl := (List.getElem?_eq_some_iff.1 hx).1
  rw [withK, ← take_pos h, ← drop_pos1 h hh, List.set_eq_take_append_cons_drop, if_pos hl]
theorem put_new {l : List α} (h : Ris k l) (m : α) (hh : hasK k l (k m) = false) : l.take (posK k l (k m)) ++ m :: l.drop (posK k l (k m)) = withK k l m := by
  rw [withK, ← gt_not hh, ← take_pos h, ← drop_pos h]
theorem out_there {l : List α} (h : Ris k l) {s : ByteArray} (hh : hasK k l s = true) : l.take (posK k l s) ++ l.drop (posK k l s + 1) = outK k l s := by
  induction l with
  | nil => simp [outK]
  | cons a l ih =>
    rw [posK_cons]
    split
    · rename_i hc
      have hne : hasK k l s = true := by
        obtain ⟨x, hx, e⟩ := hasK_iff.1 hh
        rcases List.mem_cons.1 hx with rfl | hx
        · exact absurd e (ltN_ne hc)
        · exact hasK_iff.2 ⟨x, hx, e⟩
      rw [List.take_succ_cons, List.drop_succ_cons, List.cons_append, ih h.tail hne, outK, outK, List.filter_cons_of_pos (by simpa using ltN_ne hc)]
    · rename_i hc
      have hc' : ltN (k a) s = false := by simpa using hc
      have ha : k a = s := by
        obtain ⟨x, hx, e⟩ := hasK_iff.1 hh
        rcases List.mem_cons.1 hx with rfl | hx
        · exact e
        · have := h.head x hx; rw [e, hc'] at this; cases this
      rw [List.take_zero, List.drop_succ_cons, List.drop_zero, List.nil_append, outK, List.filter_cons_of_neg (by simpa using ha), eq_comm, List.filter_eq_self]
      intro x hx
      have := ltN_ne (h.head x hx)
      rw [ha] at this
      simpa using fun e => this e.symm
theorem out_not {l : List α} {s : ByteArray} (hh : hasK k l s = false) : outK k l s = l := by
  rw [outK, List.filter_eq_self]
  intro x hx
  simpa using hasK_not.1 hh x hx
theorem Ris.filter {l : List α} (h : Ris k l) (p : α → Bool) : Ris k (l.filter p) := List.Pairwise.filter p h
theorem Ris.outK {l : List α} (h : Ris k l) (s : ByteArray) : Ris k (outK k l s) := h.filter _
theorem Ris.withK {l : List α} (h : Ris k l) (m : α) : Ris k (withK k l m) := by
  refine List.pairwise_append.2 ⟨h.filter _, List.pairwise_cons.2 ⟨fun b hb => (List.mem_filter.1 hb).2, h.filter _⟩, fun a ha b hb => ?_⟩
  have h1 := (List.mem_filter.1 ha).2
  rcases List.mem_cons.1 hb with rfl | hb
  · exact h1
  · exact ltN_trans h1 (List.mem_filter.1 hb).2
theorem mem_withK {l : List α} {m x : α} (h : x ∈ withK k l m) : x = m ∨ x ∈ l := by
  rcases List.mem_append.1 h with h | h
  · exact .inr (List.mem_filter.1 h).1
  · rcases List.mem_cons.1 h with rfl | h
    · exact .inl rfl
    · exact .inr (List.mem_filter.1 h).1
theorem mem_outK {l : List α} {s : ByteArray} {x : α} (h : x ∈ outK k l s) : x ∈ l := (List.mem_filter.1 h).1
theorem len_withK_there {l : List α} (h : Ris k l) (m : α) (hh : hasK k l (k m) = true) : (withK k l m).length = l.length := by
  rw [← put_there h m hh, List.length_set]
theorem len_withK_new {l : List α} (h : Ris k l) (m : α) (hh : hasK k l (k m) = false) : (withK k l m).length = l.length + 1 := by
  rw [← put_new h m hh, List.length_append, List.length_cons, List.length_take, List.length_drop]
  have := posK_le (k := k) l (k m)
  omega
theorem len_outK_there {l : List α} (h : Ris k l) {s : ByteArray} (hh : hasK k l s = true) : (outK k l s).length + 1 = l.length := by
  obtain ⟨x, hx, _⟩ := hasK_there h hh
  have hl := (List.getElem?_eq_some_iff.1 hx).1
  rw [← out_there h hh, List.length_append, List.length_take, List.length_drop]
  omega
theorem find_other {l : List α} (m : α) {s : ByteArray} (hne : s ≠ k m) (h : Ris k l) : findK k (withK k l m) s = findK k l s := by
  have key : ∀ l : List α, Ris k l → (∀ x, (findK k (withK k l m) s = some x ↔ findK k l s = some x)) := by
    intro l hl x
    constructor
    · intro hx
      obtain ⟨e, hm⟩ := findK_at hx
      rcases mem_withK hm with rfl | hm
      · exact absurd e.symm hne
      · obtain ⟨y, hy, ey⟩ := hasK_there hl (hasK_iff.2 ⟨x, hm, e⟩)
        obtain ⟨i, hi⟩ := List.mem_iff_getElem?.1 hm
        have := hasK_at hl hi e
        subst this
        exact findK_there hl hi e
    · intro hx
      obtain ⟨e, hm⟩ := findK_at hx
      have hm' : x ∈ withK k l m := by
        unfold withK
        cases e1 : ltN (k x) (k m) with
        | true => exact List.mem_append.2 (.inl (List.mem_filter.2 ⟨hm, e1⟩))
        | false => exact List.mem_append.2 (.inr (List.mem_cons.2 (.inr (List.mem_filter.2 ⟨hm, ltN_gt e1 (by rw [e]; exact hne)⟩))))
      obtain ⟨i, hi⟩ := List.mem_iff_getElem?.1 hm'
      have hr := hl.withK m
      have := hasK_at hr hi e
      subst this
      exact findK_there hr hi e
  cases h1 : findK k l s with
  | some x => exact (key l h x).2 h1
  | none =>
    cases h2 : findK k (withK k l m) s with
    | none => rfl
    | some y => have := (key l h y).1 h2; rw [h1] at this; cases this
theorem find_self {l : List α} (m : α) (h : Ris k l) : findK k (withK k l m) (k m) = some m := by
  have hr := h.withK m
  have hm : m ∈ withK k l m := List.mem_append.2 (.inr (List.mem_cons_self ..))
  obtain ⟨i, hi⟩ := List.mem_iff_getElem?.1 hm
  have := hasK_at hr hi rfl
  subst this
  exact findK_there hr hi rfl
theorem has_out {l : List α} (s : ByteArray) : hasK k (outK k l s) s = false := by
  rw [hasK_not]
  intro x hx
  simpa using (List.mem_filter.1 hx).2
theorem out_with {l : List α} (m : α) : outK k (withK k l m) (k m) = outK k l (k m) ∨ ¬ Ris k l := by
  by_cases h : Ris k l
  · left
    unfold outK withK
    rw [List.filter_append, List.filter_cons_of_neg (by simp), List.filter_filter, List.filter_filter]
    have h1 : (l.filter fun x => (!decide (k x = k m)) && ltN (k x) (k m)) = l.filter fun x => ltN (k x) (k m) := by
      apply List.filter_congr
      intro x _
      cases e : ltN (k x) (k m) with
      | false => simp
      | true => simp [ltN_ne e]
    have h2 : (l.filter fun x => (!decide (k x = k m)) && ltN (k m) (k x)) = l.filter fun x => ltN (k m) (k x) := by
      apply List.filter_congr
      intro x _
      cases e : ltN (k m) (k x) with
      | false => simp
      | true => simp [(ltN_ne e).symm]
    rw [h1, h2]
    cases hh : hasK k l (k m) with
    | true => rw [← take_pos h, ← drop_pos1 h hh, out_there h hh]; rfl
    | false =>
      rw [← take_pos h, ← gt_not hh, ← drop_pos h, List.take_append_drop]
      exact (out_not hh).symm
  · exact .inr h
/-- The reference's list with a member, member by member: what the first i come to. -/
theorem with_step_less {l : List α} (h : Ris k l) (m : α) {i : Nat} {x : α} (hx : l[i]? = some x) (hlt : ltN (k x) (k m) = true) : withK k (l.take i) m = l.take i ++ [m] ∧ l.take (i + 1) = l.take i ++ [x] := by
  refine ⟨?_, by rw [List.take_add_one, hx]; rfl⟩
  have hall : ∀ y ∈ l.take i, ltN (k y) (k m) = true := by
    intro y hy
    obtain ⟨j, hj⟩ := List.mem_iff_getElem?.1 hy
    have hlt2 := (List.getElem?_eq_some_iff.1 hj).1
    rw [List.length_take] at hlt2
    rw [List.getElem?_take_of_lt (by omega)] at hj
    have h1 := (posK_iff h (k m) i x hx).1 hlt
    exact (posK_iff h (k m) j y hj).2 (by omega)
  unfold withK
  rw [List.filter_eq_self.2 hall, List.filter_eq_nil_iff.2 (fun y hy => by simp [ltN_asymm (hall y hy)])]
end
end Go.Proofs.Ytfnkbpcimbldbaa
