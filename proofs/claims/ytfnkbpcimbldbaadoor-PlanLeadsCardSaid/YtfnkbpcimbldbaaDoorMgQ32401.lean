/- Names in order: lists that rise by a name that each has: where a name stands, what is put, and taken out. Plain. -/
import GoSem.Op.String
import Derived.Lib.Bytealg
namespace Go.Proofs.YtfnkbpcimbldbaaDoor

def ltN (a b : ByteArray) : Bool := Op.bytesLess a.toList b.toList
theorem bl_irrefl : ∀ x : List UInt8, Op.bytesLess x x = false
  | [] => rfl
  | a :: x => by
    have h : ¬ a < a := UInt8.lt_irrefl a
    simp [Op.bytesLess, bl_irrefl x, h]
theorem bl_trans : ∀ x y z : List UInt8, Op.bytesLess x y = true → Op.bytesLess y z = true → Op.bytesLess x z = true
  | _, _, [], _, h => by simp [Op.bytesLess] at h
  | [], _, _ :: _, _, _ => rfl
  | _ :: _, [], _ :: _, h, _ => by simp [Op.bytesLess] at h
  | a :: x, b :: y, c :: z, h1, h2 => by
    simp only [Op.bytesLess, Bool.or_eq_true, decide_eq_true_eq, Bool.and_eq_true, beq_iff_eq] at h1 h2 ⊢
    rcases h1 with h1 | ⟨rfl, h1⟩
    · rcases h2 with h2 | ⟨rfl, h2⟩
      · exact .inl (UInt8.lt_trans h1 h2)
      · exact .inl h1
    · rcases h2 with h2 | ⟨rfl, h2⟩
      · exact .inl h2
      · exact .inr ⟨rfl, bl_trans x y z h1 h2⟩
theorem bl_total : ∀ x y : List UInt8, Op.bytesLess x y = false → Op.bytesLess y x = false → x = y
  | [], [], _, _ => rfl
  | [], _ :: _, h, _ => by simp [Op.bytesLess] at h
  | _ :: _, [], _, h => by simp [Op.bytesLess] at h
  | a :: x, b :: y, h1, h2 => by
    simp only [Op.bytesLess, Bool.or_eq_false_iff, decide_eq_false_iff_not, Bool.and_eq_false_iff, beq_eq_false_iff_ne] at h1 h2
    have hab : a = b := by
      apply UInt8.toNat_inj.1
      have e1 := h1.1
      have e2 := h2.1
      rw [UInt8.lt_iff_toNat_lt] at e1 e2
      omega
    subst hab
    rw [bl_total x y (by rcases h1.2 with h | h; exact absurd rfl h; exact h) (by rcases h2.2 with h | h; exact absurd rfl h; exact h)]
theorem bl_asymm (x y : List UInt8) (h : Op.bytesLess x y = true) : Op.bytesLess y x = false := by
  cases e : Op.bytesLess y x with
  | false => rfl
  | true => have := bl_trans x y x h e; rw [bl_irrefl] at this; cases this
theorem ltN_irrefl (a : ByteArray) : ltN a a = false := bl_irrefl _
theorem ltN_trans {a b c : ByteArray} (h : ltN a b = true) (k : ltN b c = true) : ltN a c = true := bl_trans _ _ _ h k
theorem ltN_asymm {a b : ByteArray} (h : ltN a b = true) : ltN b a = false := bl_asymm _ _ h
theorem nm_eq {a b : ByteArray} (h : a.toList = b.toList) : a = b := by
  rw [ByteArray.toList_eq, ByteArray.toList_eq, Array.toList_inj] at h
  exact ByteArray.ext h
theorem ltN_total {a b : ByteArray} (h : ltN a b = false) (k : ltN b a = false) : a = b := nm_eq (bl_total _ _ h k)
theorem ltN_ne {a b : ByteArray} (h : ltN a b = true) : a ≠ b := fun e => by subst e; rw [ltN_irrefl] at h; cases h
theorem nmEq_dec (a b : ByteArray) : (a.toList == b.toList) = decide (a = b) := by
  rw [Bool.eq_iff_iff, beq_iff_eq, decide_eq_true_eq]
  exact ⟨nm_eq, fun h => by rw [h]⟩
theorem ltN_gt {a b : ByteArray} (h : ltN a b = false) (k : a ≠ b) : ltN b a = true := by
  cases e : ltN b a with
  | true => rfl
  | false => exact absurd (ltN_total h e) k

section
variable {α : Type} (k : α → ByteArray)
/-- It rises. -/
def Ris (l : List α) : Prop := l.Pairwise fun a b => ltN (k a) (k b) = true
def posK (l : List α) (s : ByteArray) : Nat := (l.takeWhile fun x => ltN (k x) s).length
def hasK (l : List α) (s : ByteArray) : Bool := l.any fun x => decide (k x = s)
def findK (l : List α) (s : ByteArray) : Option α := l.find? fun x => decide (k x = s)
def withK (l : List α) (m : α) : List α := (l.filter fun x => ltN (k x) (k m)) ++ m :: (l.filter fun x => ltN (k m) (k x))
def outK (l : List α) (s : ByteArray) : List α := l.filter fun x => !decide (k x = s)
variable {k}
theorem posK_le (l : List α) (s : ByteArray) : posK k l s ≤ l.length := (List.takeWhile_sublist _).length_le
theorem posK_cons (a : α) (l : List α) (s : ByteArray) : posK k (a :: l) s = if ltN (k a) s then posK k l s + 1 else 0 := by
  unfold posK
  rw [List.takeWhile_cons]
  split <;> simp
theorem Ris.tail {a : α} {l : List α} (h : Ris k (a :: l)) : Ris k l := (List.pairwise_cons.1 h).2
theorem Ris.head {a : α} {l : List α} (h : Ris k (a :: l)) : ∀ b ∈ l, ltN (k a) (k b) = true := (List.pairwise_cons.1 h).1
/-- Which are less: those ahead of the place. -/
theorem posK_iff {l : List α} (h : Ris k l) (s : ByteArray) : ∀ (i : Nat) (x : α), l[i]? = some x → (ltN (k x) s = true ↔ i < posK k l s) := by
  induction l with
  | nil => intro i x hx; simp at hx
  | cons a l ih =>
    intro i x hx
    rw [posK_cons]
    cases i with
    | zero =>
      simp only [List.getElem?_cons_zero, Option.some.injEq] at hx
      subst hx
      split
      · rename_i hc; simp [hc]
      · rename_i hc; simp [hc]
    | succ i =>
      rw [List.getElem?_cons_succ] at hx
      split
      · rw [ih h.tail i x hx]; omega
      · rename_i hc
        have hc' : ltN (k a) s = false := by simpa using hc
        have := h.head x (List.mem_of_getElem? hx)
        constructor
        · intro hh
          have := ltN_trans this hh
          rw [hc'] at this; cases this
        · intro hh; omega
theorem hasK_iff {l : List α} {s : ByteArray} : hasK k l s = true ↔ ∃ x ∈ l, k x = s := by simp [hasK]
theorem hasK_not {l : List α} {s : ByteArray} : hasK k l s = false ↔ ∀ x ∈ l, k x ≠ s := by
  rw [← Bool.not_eq_true, hasK_iff]
  constructor
  · intro h x hx e; exact h ⟨x, hx, e⟩
  · rintro h ⟨x, hx, e⟩; exact h x hx e
/-- Where it is. -/
theorem hasK_at {l : List α} (h : Ris k l) {s : ByteArray} {i : Nat} {x : α} (hx : l[i]? = some x) (e : k x = s) : i = posK k l s := by
  have h1 := posK_iff h s i x hx
  rw [e, ltN_irrefl] at h1
  have h2 : ¬ i < posK k l s := fun hh => by have := h1.2 hh; cases this
  rcases Nat.lt_or_ge (posK k l s) i with h3 | h3
  · have hl := (List.getElem?_eq_some_iff.1 hx).1
    have hy : l[posK k l s]? = some l[posK k l s] := List.getElem?_eq_getElem (by omega)
    have h4 := posK_iff h s _ _ hy
    have h5 : ltN (k l[posK k l s]) (k x) = true := by
      have := List.pairwise_iff_getElem.1 h (posK k l s) i (by omega) hl h3
      rw [(List.getElem?_eq_some_iff.1 hx).2] at this
      exact this
    rw [e] at h5
    have := h4.1 h5
    omega
  · omega
theorem hasK_there {l : List α} (h : Ris k l) {s : ByteArray} (hh : hasK k l s = true) : ∃ x, l[posK k l s]? = some x ∧ k x = s := by
  obtain ⟨x, hx, e⟩ := hasK_iff.1 hh
  obtain ⟨i, hi⟩ := List.mem_iff_getElem?.1 hx
  have := hasK_at h hi e
  subst this
  exact ⟨x, hi, e⟩
theorem findK_there {l : List α} (h : Ris k l) {s : ByteArray} {x : α} (hx : l[posK k l s]? = some x) (e : k x = s) : findK k l s = some x := by
  induction l with
  | nil => simp at hx
  | cons a l ih =>
    unfold findK
    rw [posK_cons] at hx
    split at hx
    · rename_i hc
      rw [List.find?_cons_of_neg (by simpa using ltN_ne hc)]
      exact ih h.tail (by simpa using hx)
    · simp only [List.getElem?_cons_zero, Option.some.injEq] at hx
      subst hx
      rw [List.find?_cons_of_pos (by simpa using e)]
theorem findK_some {l : List α} {s : ByteArray} : (findK k l s).isSome = hasK k l s := by
  rw [Bool.eq_iff_iff, findK, List.find?_isSome, hasK_iff]
  simp
theorem findK_at {l : List α} {s : ByteArray} {x : α} (h : findK k l s = some x) : k x = s ∧ x ∈ l := by
  have := List.find?_some h
  exact ⟨by simpa using this, List.mem_of_find?_eq_some h⟩
theorem take_pos {l : List α} (h : Ris k l) (s : ByteArray) : l.take (posK k l s) = l.filter fun x => ltN (k x) s := by
  induction l with
  | nil => simp
  | cons a l ih =>
    rw [posK_cons]
    split
    · rename_i hc
      rw [List.take_succ_cons, List.filter_cons_of_pos (by simpa using hc), ih h.tail]
    · rename_i hc
      have hc' : ltN (k a) s = false := by simpa using hc
      rw [List.take_zero, eq_comm, List.filter_eq_nil_iff]
      intro x hx hl
      rcases List.mem_cons.1 hx with rfl | hx
      · rw [hc'] at hl; cases hl
      · have := ltN_trans (h.head x hx) hl; rw [hc'] at this; cases this
theorem drop_pos {l : List α} (h : Ris k l) (s : ByteArray) : l.drop (posK k l s) = l.filter fun x => !ltN (k x) s := by
  induction l with
  | nil => simp
  | cons a l ih =>
    rw [posK_cons]
    split
    · rename_i hc
      rw [List.drop_succ_cons, List.filter_cons_of_neg (by simpa using hc), ih h.tail]
    · rename_i hc
      have hc' : ltN (k a) s = false := by simpa using hc
      rw [List.drop_zero, eq_comm, List.filter_eq_self]
      intro x hx
      rcases List.mem_cons.1 hx with rfl | hx
      · simpa using hc'
      · cases e : ltN (k x) s with
        | false => rfl
        | true => have := ltN_trans (h.head x hx) e; rw [hc'] at this; cases this
theorem gt_not {l : List α} {s : ByteArray} (hh : hasK k l s = false) : (l.filter fun x => !ltN (k x) s) = l.filter fun x => ltN s (k x) := by
  apply List.filter_congr
  intro x hx
  have := hasK_not.1 hh x hx
  cases e : ltN (k x) s with
  | true => simp [ltN_asymm e]
  | false => simp [ltN_gt e this]
theorem drop_pos1 {l : List α} (h : Ris k l) {s : ByteArray} (hh : hasK k l s = true) : l.drop (posK k l s + 1) = l.filter fun x => ltN s (k x) := by
  induction l with
  | nil => simp
  | cons a l ih =>
    rw [posK_cons]
    split
    · rename_i hc
      have hne : hasK k l s = true := by
        obtain ⟨x, hx, e⟩ := hasK_iff.1 hh
        rcases List.mem_cons.1 hx with rfl | hx
        · exact absurd e (ltN_ne hc)
        · exact hasK_iff.2 ⟨x, hx, e⟩
      rw [List.drop_succ_cons, List.filter_cons_of_neg (by simpa using ltN_asymm hc), ih h.tail hne]
    · rename_i hc
      have hc' : ltN (k a) s = false := by simpa using hc
      have ha : k a = s := by
        obtain ⟨x, hx, e⟩ := hasK_iff.1 hh
        rcases List.mem_cons.1 hx with rfl | hx
        · exact e
        · have := h.head x hx; rw [e, hc'] at this; cases this
      rw [List.drop_succ_cons, List.drop_zero, List.filter_cons_of_neg (by rw [ha, ltN_irrefl]; simp), eq_comm, List.filter_eq_self]
      intro x hx
      rw [← ha]; exact h.head x hx
/-- What the code puts. -/
theorem put_there {l : List α} (h : Ris k l) (m : α) (hh : hasK k l (k m) = true) : l.set (posK k l (k m)) m = withK k l m := by
  obtain ⟨x, hx, _⟩ := hasK_there h hh
  have hl := (List.getElem?_eq_some_iff.1 hx).1
  rw [withK, ← take_pos h, ← drop_pos1 h hh, List.set_eq_take_append_cons_drop, if_pos hl]
theorem put_new {l : List α} (h : Ris k l) (m : α) (hh : hasK k l (k m) = false) : l.take (posK k l (k m)) ++ m :: l.drop (posK k l (k m)) = withK k l m := by
  rw [withK, ← gt_not hh, ← take_pos h, ← drop_pos h]
theorem Ris.filter {l : List α} (h : Ris k l) (p : α → Bool) : Ris k (l.filter p) := List.Pairwise.filter p h
theorem Ris.outK {l : List α} (h : Ris k l) (s : ByteArray) : Ris k (outK k l s) := h.filter _
theorem Ris.withK {l : List α} (h : Ris k l) (m : α) : Ris k (withK k l m) := by
  refine List.pairwise_append.2 ⟨h.filter _, List.pairwise_cons.2 ⟨fun b hb => (List.mem_filter.1 hb).2, h.filter _⟩, fun a ha b hb => ?_⟩
  have h1 := (List.mem_filter.1 ha).2
  rcases List.mem_cons.1 hb with rfl | hb
  · exact h1
  · exact ltN_trans h1 (List.mem_filter.1 hb).2
theorem mem_withK {l : List α} {m x : α} (h : x ∈ withK k l m) : x = m ∨ x ∈ l := by
  rcases List.mem_append.1 h with h | h
  · exact .inr (List.mem_filter.1 h).1
  · rcases List.mem_cons.1 h with rfl | h
    · exact .inl rfl
    · exact .inr (List.mem_filter.1 h).1
theorem len_withK_there {l : List α} (h : Ris k l) (m : α) (hh : hasK k l (k m) = true) : (withK k l m).length = l.length := by
  rw [← put_there h m hh, List.length_set]
theorem len_withK_new {l : List α} (h : Ris k l) (m : α) (hh : hasK k l (k m) = false) : (withK k l m).length = l.length + 1 := by
  rw [← put_new h m hh, List.length_append, List.length_cons, List.length_take, List.length_drop]
  have := posK_le (k := k) l (k m)
  omega
theorem find_other {l : List α} (m : α) {s : ByteArray} (hne : s ≠ k m) (h : Ris k l) : findK k (withK k l m) s = findK k l s := by
  have key : ∀ l : List α, Ris k l → (∀ x, (findK k (withK k l m) s = some x ↔ findK k l s = some x)) := by
    intro l hl x
    constructor
    · intro hx
      obtain ⟨e, hm⟩ := findK_at hx
      rcases mem_withK hm with rfl | hm
      · exact absurd e.symm hne
      · obtain ⟨y, hy, ey⟩ := hasK_there hl (hasK_iff.2 ⟨x, hm, e⟩)
        obtain ⟨i, hi⟩ := List.mem_iff_getElem?.1 hm
        have := hasK_at hl hi e
        subst this
        exact findK_there hl hi e
    · intro hx
      obtain ⟨e, hm⟩ := findK_at hx
      have hm' : x ∈ withK k l m := by
        unfold withK
        cases e1 : ltN (k x) (k m) with
        | true => exact List.mem_append.2 (.inl (List.mem_filter.2 ⟨hm, e1⟩))
        | false => exact List.mem_append.2 (.inr (List.mem_cons.2 (.inr (List.mem_filter.2 ⟨hm, ltN_gt e1 (by rw [e]; exact hne)⟩))))
      obtain ⟨i, hi⟩ := List.mem_iff_getElem?.1 hm'
      have hr := hl.withK m
      have := hasK_at hr hi e
      subst this
      exact findK_there hr hi e
  cases h1 : findK k l s with
  | some x => exact (key l h x).2 h1
  | none =>
    cases h2 : findK k (withK k l m) s with
    | none => rfl
    | some y => have := (key l h y).1 h2; rw [h1] at this; cases this
theorem find_self {l : List α} (m : α) (h : Ris k l) : findK k (withK k l m) (k m) = some m := by
  have hr := h.withK m
  have hm : m ∈ withK k l m := List.mem_append.2 (.inr (List.mem_cons_self ..))
  obtain ⟨i, hi⟩ := List.mem_iff_getElem?.1 hm
  have := hasK_at hr hi rfl
  subst this
  exact findK_there hr hi rfl
theorem has_out {l : List α} (s : ByteArray) : hasK k (outK k l s) s = false := by
  rw [hasK_not]
  intro x hx
  simpa using (List.mem_filter.1 hx).2
end
end Go.Proofs.YtfnkbpcimbldbaaDoor
/- Layer 38, plainly: names of several lists that rise, one after another; differences; what is put together. -/
namespace Go.Proofs.YtfnkbpcimbldbaaDoor

section
variable {α : Type} {k : α → ByteArray}
theorem risK_ext : ∀ {a b : List α}, Ris k a → Ris k b → (∀ x, x ∈ a ↔ x ∈ b) → a = b
  | [], [], _, _, _ => rfl
  | [], y :: b, _, _, h => by have := (h y).2 (List.mem_cons_self ..); cases this
  | x :: a, [], _, _, h => by have := (h x).1 (List.mem_cons_self ..); cases this
  | x :: a, y :: b, ha, hb, h => by
    have hxy : x = y := by
      rcases List.mem_cons.1 ((h x).1 (List.mem_cons_self ..)) with e | e
      · exact e
      · rcases List.mem_cons.1 ((h y).2 (List.mem_cons_self ..)) with e' | e'
        · exact e'.symm
        · have h1 := hb.head x e
          have h2 := ha.head y e'
          rw [ltN_asymm h1] at h2; cases h2
    subst hxy
    have : a = b := risK_ext ha.tail hb.tail (fun z => by
      constructor
      · intro hz
        rcases List.mem_cons.1 ((h z).1 (List.mem_cons_of_mem _ hz)) with e | e
        · subst e; have := ha.head z hz; rw [ltN_irrefl] at this; cases this
        · exact e
      · intro hz
        rcases List.mem_cons.1 ((h z).2 (List.mem_cons_of_mem _ hz)) with e | e
        · subst e; have := hb.head z hz; rw [ltN_irrefl] at this; cases this
        · exact e)
    rw [this]
theorem ris_nil : Ris k ([] : List α) := List.Pairwise.nil
theorem mem_with {l : List α} {m x : α} : x ∈ withK k l m ↔ x = m ∨ (x ∈ l ∧ k x ≠ k m) := by
  unfold withK
  rw [List.mem_append, List.mem_cons, List.mem_filter, List.mem_filter]
  constructor
  · rintro (⟨h, e⟩ | rfl | ⟨h, e⟩)
    · exact .inr ⟨h, ltN_ne e⟩
    · exact .inl rfl
    · exact .inr ⟨h, (ltN_ne e).symm⟩
  · rintro (rfl | ⟨h, e⟩)
    · exact .inr (.inl rfl)
    · cases e1 : ltN (k x) (k m) with
      | true => exact .inl ⟨h, rfl⟩
      | false => exact .inr (.inr ⟨h, ltN_gt e1 e⟩)
theorem find_mem {l : List α} (h : Ris k l) {s : ByteArray} {x : α} : findK k l s = some x ↔ x ∈ l ∧ k x = s := by
  constructor
  · intro hx
    exact ⟨(findK_at hx).2, (findK_at hx).1⟩
  · rintro ⟨hm, e⟩
    obtain ⟨i, hi⟩ := List.mem_iff_getElem?.1 hm
    have := hasK_at h hi e
    subst this
    exact findK_there h hi e
theorem find_none {l : List α} {s : ByteArray} : findK k l s = none ↔ ∀ x ∈ l, k x ≠ s := by
  rw [← hasK_not, ← findK_some (k := k) (l := l) (s := s)]
  cases findK k l s <;> simp
theorem ris_map {β : Type} {j : β → ByteArray} {f : α → β} (hf : ∀ x, j (f x) = k x) {l : List α} (h : Ris k l) : Ris j (l.map f) := by
  unfold Ris
  rw [List.pairwise_map]
  refine List.Pairwise.imp ?_ h
  intro a b hab
  rw [hf, hf]
  exact hab
theorem ris_fmap {β : Type} {j : β → ByteArray} {f : α → Option β} (hf : ∀ x y, f x = some y → j y = k x) {l : List α} (h : Ris k l) : Ris j (l.filterMap f) := by
  unfold Ris
  rw [List.pairwise_filterMap]
  refine List.Pairwise.imp ?_ h
  intro a b hab y hy z hz
  rw [hf a y hy, hf b z hz]
  exact hab
end

/-- All names, each once, as they rise. -/
def uniN (ns : List ByteArray) : List ByteArray := ns.foldr (fun n u => withK id u n) []
theorem uni_ris : ∀ ns : List ByteArray, Ris id (uniN ns)
  | [] => ris_nil
  | n :: ns => (uni_ris ns).withK n
theorem uni_mem : ∀ (ns : List ByteArray) (s : ByteArray), s ∈ uniN ns ↔ s ∈ ns
  | [], s => by simp [uniN]
  | n :: ns, s => by
    show s ∈ withK id (uniN ns) n ↔ _
    rw [mem_with, uni_mem ns s, List.mem_cons]
    constructor
    · rintro (h | ⟨h, _⟩)
      · exact .inl h
      · exact .inr h
    · rintro (h | h)
      · exact .inl h
      · by_cases e : s = n
        · exact .inl e
        · exact .inr ⟨h, e⟩
theorem uni_len : ∀ ns : List ByteArray, (uniN ns).length ≤ ns.length
  | [] => Nat.le_refl _
  | n :: ns => by
    show (withK id (uniN ns) n).length ≤ _
    have h := uni_len ns
    cases hh : hasK id (uniN ns) n with
    | true => rw [len_withK_there (uni_ris ns) n hh, List.length_cons]; omega
    | false => rw [len_withK_new (uni_ris ns) n hh, List.length_cons]; omega
theorem ris_later {U : List ByteArray} (hU : Ris id U) {i : Nat} {n m : ByteArray} (hn : U[i]? = some n) (hm : m ∈ U) (hni : m ∉ U.take (i + 1)) : ltN n m = true := by
  obtain ⟨j, hj⟩ := List.mem_iff_getElem?.1 hm
  obtain ⟨hl, rfl⟩ := List.getElem?_eq_some_iff.1 hj
  obtain ⟨hi, rfl⟩ := List.getElem?_eq_some_iff.1 hn
  have hij : i < j := by
    rcases Nat.lt_or_ge i j with h | h
    · exact h
    · exact absurd (List.mem_iff_getElem?.2 ⟨j, by rw [List.getElem?_take_of_lt (by omega)]; exact hj⟩) hni
  exact List.pairwise_iff_getElem.1 hU i j hi hl hij
theorem ris_sooner {U : List ByteArray} (hU : Ris id U) {i : Nat} {n : ByteArray} (hn : U[i]? = some n) : n ∉ U.take i := fun h => by
  obtain ⟨j, hj⟩ := List.mem_iff_getElem?.1 h
  have hlt := (List.getElem?_eq_some_iff.1 hj).1
  rw [List.length_take] at hlt
  rw [List.getElem?_take_of_lt (by omega)] at hj
  obtain ⟨hl, rfl⟩ := List.getElem?_eq_some_iff.1 hj
  obtain ⟨hi, he⟩ := List.getElem?_eq_some_iff.1 hn
  have := List.pairwise_iff_getElem.1 hU j i hl hi (by omega)
  rw [he] at this
  exact ltN_ne this rfl

section
variable {α : Type} (k : α → ByteArray)
/-- What is left of a list behind the first i names. -/
def restK (U : List ByteArray) (i : Nat) (l : List α) : List α := l.filter fun x => !(U.take i).any fun s => decide (s = k x)
variable {k} {U : List ByteArray} {l : List α}
theorem rest_zero : restK k U 0 l = l := by
  unfold restK
  rw [List.filter_eq_self]
  intro x _
  simp
theorem rest_end (hs : ∀ x ∈ l, k x ∈ U) {i : Nat} (hi : U.length ≤ i) : restK k U i l = [] := by
  unfold restK
  rw [List.filter_eq_nil_iff]
  intro x hx
  rw [List.take_of_length_le hi]
  simpa using hs x hx
theorem mem_rest {i : Nat} {x : α} : x ∈ restK k U i l ↔ x ∈ l ∧ k x ∉ U.take i := by
  unfold restK
  rw [List.mem_filter, Bool.not_eq_true', ← Bool.not_eq_true, List.any_eq_true]
  constructor
  · rintro ⟨h1, h2⟩
    exact ⟨h1, fun h => h2 ⟨_, h, decide_eq_true rfl⟩⟩
  · rintro ⟨h1, h2⟩
    refine ⟨h1, ?_⟩
    rintro ⟨s, h3, h4⟩
    rw [of_decide_eq_true h4] at h3
    exact h2 h3
theorem take_mem {i : Nat} {n m : ByteArray} (hn : U[i]? = some n) : m ∈ U.take (i + 1) ↔ m ∈ U.take i ∨ m = n := by
  rw [List.take_add_one, hn, List.mem_append]
  simp
variable (hr : Ris k l) (hU : Ris id U) (hs : ∀ x ∈ l, k x ∈ U) {i : Nat} {n : ByteArray} (hn : U[i]? = some n)
include hr hU hs hn
theorem rest_hit {x : α} (hf : findK k l n = some x) : restK k U i l = x :: restK k U (i + 1) l := by
  obtain ⟨hx, he⟩ := (find_mem hr).1 hf
  refine risK_ext (hr.filter _) (List.pairwise_cons.2 ⟨fun y hy => ?_, hr.filter _⟩) (fun y => ?_)
  · obtain ⟨h1, h2⟩ := mem_rest.1 hy
    rw [he]
    exact ris_later hU hn (hs y h1) h2
  · rw [List.mem_cons, mem_rest, mem_rest]
    constructor
    · rintro ⟨h1, h2⟩
      by_cases e : k y = n
      · have := (find_mem hr).2 ⟨h1, e⟩
        rw [hf] at this
        injection this with this
        exact .inl this.symm
      · exact .inr ⟨h1, fun h => by rcases (take_mem hn).1 h with h | h; exact h2 h; exact e h⟩
    · rintro (rfl | ⟨h1, h2⟩)
      · exact ⟨hx, by rw [he]; exact ris_sooner hU hn⟩
      · exact ⟨h1, fun h => h2 ((take_mem hn).2 (.inl h))⟩
omit hU hs in
theorem rest_miss (hf : findK k l n = none) : restK k U i l = restK k U (i + 1) l := by
  refine risK_ext (hr.filter _) (hr.filter _) (fun x => ?_)
  rw [mem_rest, mem_rest, take_mem hn]
  constructor
  · rintro ⟨h1, h2⟩
    refine ⟨h1, fun h => ?_⟩
    rcases h with h | h
    · exact h2 h
    · exact find_none.1 hf x h1 h
  · rintro ⟨h1, h2⟩
    exact ⟨h1, fun h => h2 (.inl h)⟩
omit hr in
theorem rest_later {y : α} (hy : y ∈ restK k U (i + 1) l) : ltN n (k y) = true := by
  obtain ⟨h1, h2⟩ := mem_rest.1 hy
  exact ris_later hU hn (hs y h1) h2
end

/-- A map, plainly: names and bytes. -/
abbrev KL := List (ByteArray × List UInt8)
def getK (l : KL) (s : ByteArray) : Option (List UInt8) := (findK Prod.fst l s).map Prod.snd
theorem get_iff {l : KL} (h : Ris Prod.fst l) {s : ByteArray} {d : List UInt8} : getK l s = some d ↔ (s, d) ∈ l := by
  unfold getK
  rw [Option.map_eq_some_iff]
  constructor
  · rintro ⟨⟨a, b⟩, h1, rfl⟩
    obtain ⟨h2, h3⟩ := (find_mem h).1 h1
    rw [← h3]
    exact h2
  · intro h1
    exact ⟨(s, d), (find_mem h).2 ⟨h1, rfl⟩, rfl⟩
theorem get_none {l : KL} {s : ByteArray} : getK l s = none ↔ s ∉ l.map Prod.fst := by
  unfold getK
  rw [Option.map_eq_none_iff, find_none, List.mem_map]
  constructor
  · rintro h ⟨x, hx, e⟩
    exact h x hx e
  · rintro h x hx e
    exact h ⟨x, hx, e⟩
theorem get_has {l : KL} {s : ByteArray} : (getK l s).isSome = hasK Prod.fst l s := by
  unfold getK
  rw [Option.isSome_map, findK_some]
theorem get_ext {a b : KL} (ha : Ris Prod.fst a) (hb : Ris Prod.fst b) (h : ∀ s, getK a s = getK b s) : a = b := by
  refine risK_ext ha hb (fun x => ?_)
  obtain ⟨s, d⟩ := x
  rw [← get_iff ha, ← get_iff hb, h]
theorem get_with {l : KL} (h : Ris Prod.fst l) (m : ByteArray × List UInt8) (s : ByteArray) : getK (withK Prod.fst l m) s = if s = m.1 then some m.2 else getK l s := by
  unfold getK
  by_cases e : s = m.1
  · rw [if_pos e, e, find_self m h]; rfl
  · rw [if_neg e, find_other m e h]
theorem get_out {l : KL} (h : Ris Prod.fst l) (n s : ByteArray) : getK (outK Prod.fst l n) s = if s = n then none else getK l s := by
  by_cases e : s = n
  · rw [if_pos e, e]
    have := has_out (k := Prod.fst) (l := l) n
    rw [← get_has] at this
    cases hg : getK (outK Prod.fst l n) n with
    | none => rfl
    | some d => rw [hg] at this; cases this
  · rw [if_neg e]
    have key : ∀ d, getK (outK Prod.fst l n) s = some d ↔ getK l s = some d := fun d => by
      rw [get_iff (h.outK n), get_iff h]
      unfold outK
      rw [List.mem_filter]
      simp [e]
    cases hg : getK l s with
    | some d => exact (key d).2 hg
    | none =>
      cases hh : getK (outK Prod.fst l n) s with
      | none => rfl
      | some d => rw [(key d).1 hh] at hg; cases hg

/-- A step, plainly: its Kind, its name, its data. -/
abbrev PO := Int × ByteArray × List UInt8
/-- Which names go. -/
def goneN (a b : KL) : List ByteArray := (a.map Prod.fst).filter fun n => (getK b n).isNone
/-- What is put. -/
def putN (a b : KL) : KL := b.filter fun x => !decide (getK a x.1 = some x.2)
def diffL (a b : KL) : List PO := (goneN a b).map (fun n => (11, n, [])) ++ (putN a b).map (fun x => (3, x.1, x.2))
/-- What a name's step puts. -/
def putStep (a b : KL) (n : ByteArray) : Option (ByteArray × List UInt8) := match getK b n with
  | none => none
  | some d => if getK a n = some d then none else some (n, d)
theorem gone_uni {a b : KL} {U : List ByteArray} (ha : Ris Prod.fst a) (hU : Ris id U) (hm : ∀ s, s ∈ U ↔ s ∈ a.map Prod.fst ∨ s ∈ b.map Prod.fst) : U.filter (fun n => (getK b n).isNone) = goneN a b := by
  refine risK_ext (k := id) (hU.filter _) ((ris_map (f := Prod.fst) (fun _ => rfl) ha).filter _) (fun s => ?_)
  unfold goneN
  rw [List.mem_filter, List.mem_filter, hm]
  constructor
  · rintro ⟨h1 | h1, h2⟩
    · exact ⟨h1, h2⟩
    · rw [Option.isNone_iff_eq_none, get_none] at h2
      exact absurd h1 h2
  · rintro ⟨h1, h2⟩
    exact ⟨.inl h1, h2⟩
theorem putStep_some {a b : KL} {n : ByteArray} {y : ByteArray × List UInt8} : putStep a b n = some y ↔ y.1 = n ∧ getK b n = some y.2 ∧ getK a n ≠ some y.2 := by
  unfold putStep
  split
  · rename_i h
    rw [h]
    simp
  · rename_i d h
    rw [h]
    split
    · rename_i h2
      constructor
      · intro h3; cases h3
      · rintro ⟨_, h3, h4⟩
        injection h3 with h3
        subst h3
        exact absurd h2 h4
    · rename_i h2
      constructor
      · intro h3
        injection h3 with h3
        subst h3
        exact ⟨rfl, rfl, h2⟩
      · rintro ⟨h3, h4, _⟩
        injection h4 with h4
        subst h3 h4
        rfl
theorem put_uni {a b : KL} {U : List ByteArray} (hb : Ris Prod.fst b) (hU : Ris id U) (hm : ∀ s, s ∈ U ↔ s ∈ a.map Prod.fst ∨ s ∈ b.map Prod.fst) : U.filterMap (putStep a b) = putN a b := by
  refine risK_ext (k := Prod.fst) (ris_fmap (k := id) (fun x y h => (putStep_some.1 h).1) hU) (hb.filter _) (fun x => ?_)
  unfold putN
  rw [List.mem_filterMap, List.mem_filter]
  constructor
  · rintro ⟨n, _, h⟩
    obtain ⟨rfl, h1, h2⟩ := putStep_some.1 h
    exact ⟨(get_iff hb).1 h1, by simpa using h2⟩
  · rintro ⟨h1, h2⟩
    refine ⟨x.1, (hm _).2 (.inr (List.mem_map.2 ⟨x, h1, rfl⟩)), putStep_some.2 ⟨rfl, (get_iff hb).2 h1, by simpa using h2⟩⟩

def uni2 (a b : KL) : List ByteArray := uniN (a.map Prod.fst ++ b.map Prod.fst)
theorem uni2_mem (a b : KL) (s : ByteArray) : s ∈ uni2 a b ↔ s ∈ a.map Prod.fst ∨ s ∈ b.map Prod.fst := by
  unfold uni2
  rw [uni_mem, List.mem_append]
end Go.Proofs.YtfnkbpcimbldbaaDoor
