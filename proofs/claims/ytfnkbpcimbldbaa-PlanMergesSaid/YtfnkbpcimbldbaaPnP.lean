/- Layer 38, plainly: names of several lists that rise, one after another; differences; what is put together. -/
import Derived.Test.YtfnkbpcimbldbaaNmP
namespace Go.Proofs.Ytfnkbpcimbldbaa

section
variable {α : Type} {k : α → ByteArray}
theorem risK_ext : ∀ {a b : List α}, Ris k a → Ris k b → (∀ x, x ∈ a ↔ x ∈ b) → a = b
  | [], [], _, _, _ => rfl
  | [], y :: b, _, _, h => by have := (h y).2 (List.mem_cons_self ..); cases this
  | x :: a, [], _, _, h => by have := (h x).1 (List.mem_cons_self ..); cases this
  | x :: a, y :: b, ha, hb, h => by
    have hxy : x = y := by
      rcases List.mem_cons.1 ((h x).1 (List.mem_cons_self ..)) with e | e
      · exact e
      · rcases List.mem_cons.1 ((h y).2 (List.mem_cons_self ..)) with e' | e'
        · exact e'.symm
        · have h1 := hb.head x e
          have h2 := ha.head y e'
          rw [ltN_asymm h1] at h2; cases h2
    subst hxy
    have : a = b := risK_ext ha.tail hb.tail (fun z => by
      constructor
      · intro hz
        rcases List.mem_cons.1 ((h z).1 (List.mem_cons_of_mem _ hz)) with e | e
        · subst e; have := ha.head z hz; rw [ltN_irrefl] at this; cases this
        · exact e
      · intro hz
        rcases List.mem_cons.1 ((h z).2 (List.mem_cons_of_mem _ hz)) with e | e
        · subst e; have := hb.head z hz; rw [ltN_irrefl] at this; cases this
        · exact e)
    rw [this]
theorem ris_nil : Ris k ([] : List α) := List.Pairwise.nil
theorem mem_with {l : List α} {m x : α} : x ∈ withK k l m ↔ x = m ∨ (x ∈ l ∧ k x ≠ k m) := by
  unfold withK
  rw [List.mem_append, List.mem_cons, List.mem_filter, List.mem_filter]
  constructor
  · rintro (⟨h, e⟩ | rfl | ⟨h, e⟩)
    · exact .inr ⟨h, ltN_ne e⟩
    · exact .inl rfl
    · exact .inr ⟨h, (ltN_ne e).symm⟩
  · rintro (rfl | ⟨h, e⟩)
    · exact .inr (.inl rfl)
    · cases e1 : ltN (k x) (k m) with
      | true => exact .inl ⟨h, rfl⟩
      | false => exact .inr (.inr ⟨h, ltN_gt e1 e⟩)
theorem find_mem {l : List α} (h : Ris k l) {s : ByteArray} {x : α} : findK k l s = some x ↔ x ∈ l ∧ k x = s := by
  constructor
  · intro hx
    exact ⟨(findK_at hx).2, (findK_at hx).1⟩
  · rintro ⟨hm, e⟩
    obtain ⟨i, hi⟩ := List.mem_iff_getElem?.1 hm
    have := hasK_at h hi e
    subst this
    exact findK_there h hi e
theorem find_none {l : List α} {s : ByteArray} : findK k l s = none ↔ ∀ x ∈ l, k x ≠ s := by
  rw [← hasK_not, ← findK_some (k := k) (l := l) (s := s)]
  cases findK k l s <;> simp
theorem ris_map {β : Type} {j : β → ByteArray} {f : α → β} (hf : ∀ x, j (f x) = k x) {l : List α} (h : Ris k l) : Ris j (l.map f) := by
  unfold Ris
  rw [List.pairwise_map]
  refine List.Pairwise.imp ?_ h
  intro a b hab
  rw [hf, hf]
  exact hab
theorem ris_fmap {β : Type} {j : β → ByteArray} {f : α → Option β} (hf : ∀ x y, f x = some y → j y = k x) {l : List α} (h : Ris k l) : Ris j (l.filterMap f) := by
  unfold Ris
  rw [List.pairwise_filterMap]
  refine List.Pairwise.imp ?_ h
  intro a b hab y hy z hz
  rw [hf a y hy, hf b z hz]
  exact hab
end

/-- All names, each once, as they rise. -/
def uniN (ns : List ByteArray) : List ByteArray := ns.foldr (fun n u => withK id u n) []
theorem uni_ris : ∀ ns : List ByteArray, Ris id (uniN ns)
  | [] => ris_nil
  | n :: ns => (uni_ris ns).withK n
theorem uni_mem : ∀ (ns : List ByteArray) (s : ByteArray), s ∈ uniN ns ↔ s ∈ ns
  | [], s => by simp [uniN]
  | n :: ns, s => by
    show s ∈ withK id (uniN ns) n ↔ _
    rw [mem_with, uni_mem ns s, List.mem_cons]
    constructor
    · rintro (h | ⟨h, _⟩)
      · exact .inl h
      · exact .inr h
    · rintro (h | h)
      · exact .inl h
      · by_cases e : s = n
        · exact .inl e
        · exact .inr ⟨h, e⟩
theorem uni_len : ∀ ns : List ByteArray, (uniN ns).length ≤ ns.length
  | [] => Nat.le_refl _
  | n :: ns => by
    show (withK id (uniN ns) n).length ≤ _
    have h := uni_len ns
    cases hh : hasK id (uniN ns) n with
    | true => rw [len_withK_there (uni_ris ns) n hh, List.length_cons]; omega
    | false => rw [len_withK_new (uni_ris ns) n hh, List.length_cons]; omega
theorem ris_later {U : List ByteArray} (hU : Ris id U) {i : Nat} {n m : ByteArray} (hn : U[i]? = some n) (hm : m ∈ U) (hni : m ∉ U.take (i + 1)) : ltN n m = true := by
  obtain ⟨j, hj⟩ := List.mem_iff_getElem?.1 hm
  obtain ⟨hl, rfl⟩ := List.getElem?_eq_some_iff.1 hj
  obtain ⟨hi, rfl⟩ := List.getElem?_eq_some_iff.1 hn
  have hij : i < j := by
    rcases Nat.lt_or_ge i j with h | h
    · exact h
    · exact absurd (List.mem_iff_getElem?.2 ⟨j, by rw [List.getElem?_take_of_lt (by omega)]; exact hj⟩) hni
  exact List.pairwise_iff_getElem.1 hU i j hi hl hij
theorem ris_sooner {U : List ByteArray} (hU : Ris id U) {i : Nat} {n : ByteArray} (hn : U[i]? = some n) : n ∉ U.take i := fun h => by
  obtain ⟨j, hj⟩ := List.mem_iff_getElem?.1 h
  have hlt := (List.getElem?_eq_some_iff.1 hj).1
  rw [List.length_take] at hlt
  rw [List.getElem?_take_of_lt (by omega)] at hj
  obtain ⟨hl, rfl⟩ := List.getElem?_eq_some_iff.1 hj
  obtain ⟨hi, he⟩ := List.getElem?_eq_some_iff.1 hn
  have := List.pairwise_iff_getElem.1 hU j i hl hi (by omega)
  rw [he] at this
  exact ltN_ne this rfl

section
variable {α : Type} (k : α → ByteArray)
/-- What is left of a list behind the first i names. -/
def restK (U : List ByteArray) (i : Nat) (l : List α) : List α := l.filter fun x => !(U.take i).any fun s => decide (s = k x)
variable {k} {U : List ByteArray} {l : List α}
theorem rest_zero : restK k U 0 l = l := by
  unfold restK
  rw [List.filter_eq_self]
  intro x _
  simp
theorem rest_end (hs : ∀ x ∈ l, k x ∈ U) {i : Nat} (hi : U.length ≤ i) : restK k U i l = [] := by
  unfold restK
  rw [List.filter_eq_nil_iff]
  intro x hx
  rw [List.take_of_length_le hi]
  simpa using hs x hx
theorem mem_rest {i : Nat} {x : α} : x ∈ restK k U i l ↔ x ∈ l ∧ k x ∉ U.take i := by
  unfold restK
  rw [List.mem_filter, Bool.not_eq_true', ← Bool.not_eq_true, List.any_eq_true]
  constructor
  · rintro ⟨h1, h2⟩
    exact ⟨h1, fun h => h2 ⟨_, h, decide_eq_true rfl⟩⟩
  · rintro ⟨h1, h2⟩
    refine ⟨h1, ?_⟩
    rintro ⟨s, h3, h4⟩
    rw [of_decide_eq_true h4] at h3
    exact h2 h3
theorem take_mem {i : Nat} {n m : ByteArray} (hn : U[i]? = some n) : m ∈ U.take (i + 1) ↔ m ∈ U.take i ∨ m = n := by
  rw [List.take_add_one, hn, List.mem_append]
  simp
variable (hr : Ris k l) (hU : Ris id U) (hs : ∀ x ∈ l, k x ∈ U) {i : Nat} {n : ByteArray} (hn : U[i]? = some n)
include hr hU hs hn
theorem rest_hit {x : α} (hf : findK k l n = some x) : restK k U i l = x :: restK k U (i + 1) l := by
  obtain ⟨hx, he⟩ := (find_mem hr).1 hf
  refine risK_ext (hr.filter _) (List.pairwise_cons.2 ⟨fun y hy => ?_, hr.filter _⟩) (fun y => ?_)
  · obtain ⟨h1, h2⟩ := mem_rest.1 hy
    rw [he]
    exact ris_later hU hn (hs y h1) h2
  · rw [List.mem_cons, mem_rest, mem_rest]
    constructor
    · rintro ⟨h1, h2⟩
      by_cases e : k y = n
      · have := (find_mem hr).2 ⟨h1, e⟩
        rw [hf] at this
        injection this with this
        exact .inl this.symm
      · exact .inr ⟨h1, fun h => by rcases (take_mem hn).1 h with h | h; exact h2 h; exact e h⟩
    · rintro (rfl | ⟨h1, h2⟩)
      · exact ⟨hx, by rw [he]; exact ris_sooner hU hn⟩
      · exact ⟨h1, fun h => h2 ((take_mem hn).2 (.inl h))⟩
omit hU hs in
theorem rest_miss (hf : findK k l n = none) : restK k U i l = restK k U (i + 1) l := by
  refine risK_ext (hr.filter _) (hr.filter _) (fun x => ?_)
  rw [mem_rest, mem_rest, take_mem hn]
  constructor
  · rintro ⟨h1, h2⟩
    refine ⟨h1, fun h => ?_⟩
    rcases h with h | h
    · exact h2 h
    · exact find_none.1 hf x h1 h
  · rintro ⟨h1, h2⟩
    exact ⟨h1, fun h => h2 (.inl h)⟩
omit hr in
theorem rest_later {y : α} (hy : y ∈ restK k U (i + 1) l) : ltN n (k y) = true := by
  obtain ⟨h1, h2⟩ := mem_rest.1 hy
  exact ris_later hU hn (hs y h1) h2
end

/-- A map, plainly: names and bytes. -/
abbrev KL := List (ByteArray × List UInt8)
def getK (l : KL) (s : ByteArray) : Option (List UInt8) := (findK Prod.fst l s).map Prod.snd
theorem get_iff {l : KL} (h : Ris Prod.fst l) {s : ByteArray} {d : List UInt8} : getK l s = some d ↔ (s, d) ∈ l := by
  unfold getK
  rw [Option.map_eq_some_iff]
  constructor
  · rintro ⟨⟨a, b⟩, h1, rfl⟩
    obtain ⟨h2, h3⟩ := (find_mem h).1 h1
    rw [← h3]
    exact h2
  · intro h1
    exact ⟨(s, d), (find_mem h).2 ⟨h1, rfl⟩, rfl⟩
theorem get_none {l : KL} {s : ByteArray} : getK l s = none ↔ s ∉ l.map Prod.fst := by
  unfold getK
  rw [Option.map_eq_none_iff, find_none, List.mem_map]
  constructor
  · rintro h ⟨x, hx, e⟩
    exact h x hx e
  · rintro h x hx e
    exact h ⟨x, hx, e⟩
theorem get_has {l : KL} {s : ByteArray} : (getK l s).isSome = hasK Prod.fst l s := by
  unfold getK
  rw [Option.isSome_map, findK_some]
theorem get_ext {a b : KL} (ha : Ris Prod.fst a) (hb : Ris Prod.fst b) (h : ∀ s, getK a s = getK b s) : a = b := by
  refine risK_ext ha hb (fun x => ?_)
  obtain ⟨s, d⟩ := x
  rw [← get_iff ha, ← get_iff hb, h]
theorem get_with {l : KL} (h : Ris Prod.fst l) (m : ByteArray × List UInt8) (s : ByteArray) : getK (withK Prod.fst l m) s = if s = m.1 then some m.2 else getK l s := by
  unfold getK
  by_cases e : s = m.1
  · rw [if_pos e, e, find_self m h]; rfl
  · rw [if_neg e, find_other m e h]
theorem get_out {l : KL} (h : Ris Prod.fst l) (n s : ByteArray) : getK (outK Prod.fst l n) s = if s = n then none else getK l s := by
  by_cases e : s = n
  · rw [if_pos e, e]
    have := has_out (k := Prod.fst) (l := l) n
    rw [← get_has] at this
    cases hg : getK (outK Prod.fst l n) n with
    | none => rfl
    | some d => rw [hg] at this; cases this
  · rw [if_neg e]
    have key : ∀ d, getK (outK Prod.fst l n) s = some d ↔ getK l s = some d := fun d => by
      rw [get_iff (h.outK n), get_iff h]
      unfold outK
      rw [List.mem_filter]
      simp [e]
    cases hg : getK l s with
    | some d => exact (key d).2 hg
    | none =>
      cases hh : getK (outK Prod.fst l n) s with
      | none => rfl
      | some d => rw [(key d).1 hh] at hg; cases hg

/-- A step, plainly: its Kind, its name, its data. -/
abbrev PO := Int × ByteArray × List UInt8
/-- Which names go. -/
def goneN (a b : KL) : List ByteArray := (a.map Prod.fst).filter fun n => (getK b n).isNone
/-- What is put. -/
def putN (a b : KL) : KL := b.filter fun x => !decide (getK a x.1 = some x.2)
def diffL (a b : KL) : List PO := (goneN a b).map (fun n => (11, n, [])) ++ (putN a b).map (fun x => (3, x.1, x.2))
/-- What a name's step puts. -/
def putStep (a b : KL) (n : ByteArray) : Option (ByteArray × List UInt8) := match getK b n with
  | none => none
  | some d => if getK a n = some d then none else some (n, d)
theorem gone_uni {a b : KL} {U : List ByteArray} (ha : Ris Prod.fst a) (hU : Ris id U) (hm : ∀ s, s ∈ U ↔ s ∈ a.map Prod.fst ∨ s ∈ b.map Prod.fst) : U.filter (fun n => (getK b n).isNone) = goneN a b := by
  refine risK_ext (k := id) (hU.filter _) ((ris_map (f := Prod.fst) (fun _ => rfl) ha).filter _) (fun s => ?_)
  unfold goneN
  rw [List.mem_filter, List.mem_filter, hm]
  constructor
  · rintro ⟨h1 | h1, h2⟩
    · exact ⟨h1, h2⟩
    · rw [Option.isNone_iff_eq_none, get_none] at h2
      exact absurd h1 h2
  · rintro ⟨h1, h2⟩
    exact ⟨.inl h1, h2⟩
theorem putStep_some {a b : KL} {n : ByteArray} {y : ByteArray × List UInt8} : putStep a b n = some y ↔ y.1 = n ∧ getK b n = some y.2 ∧ getK a n ≠ some y.2 := by
  unfold putStep
  split
  · rename_i h
    rw [h]
    simp
  · rename_i d h
    rw [h]
    split
    · rename_i h2
      constructor
      · intro h3; cases h3
      · rintro ⟨_, h3, h4⟩
        injection h3 with h3
        subst h3
        exact absurd h2 h4
    · rename_i h2
      constructor
      · intro h3
        injection h3 with h3
        subst h3
        exact ⟨rfl, rfl, h2⟩
      · rintro ⟨h3, h4, _⟩
        injection h4 with h4
        subst h3 h4
        rfl
theorem put_uni {a b : KL} {U : List ByteArray} (hb : Ris Prod.fst b) (hU : Ris id U) (hm : ∀ s, s ∈ U ↔ s ∈ a.map Prod.fst ∨ s ∈ b.map Prod.fst) : U.filterMap (putStep a b) = putN a b := by
  refine risK_ext (k := Prod.fst) (ris_fmap (k := id) (fun x y h => (putStep_some.1 h).1) hU) (hb.filter _) (fun x => ?_)
  unfold putN
  rw [List.mem_filterMap, List.mem_filter]
  constructor
  · rintro ⟨n, _, h⟩
    obtain ⟨rfl, h1, h2⟩ := putStep_some.1 h
    exact ⟨(get_iff hb).1 h1, by simpa using h2⟩
  · rintro ⟨h1, h2⟩
    refine ⟨x.1, (hm _).2 (.inr (List.mem_map.2 ⟨x, h1, rfl⟩)), putStep_some.2 ⟨rfl, (get_iff hb).2 h1, by simpa using h2⟩⟩

/-- What is kept of a name. -/
def keptN (o a b : KL) (n : ByteArray) : Option (List UInt8) :=
  if getK a n = getK b n ∨ getK o n = getK b n then getK a n else if getK o n = getK a n then getK b n else getK o n
/-- Does it clash? -/
def clashN (o a b : KL) (n : ByteArray) : Bool := !decide (getK a n = getK b n ∨ getK o n = getK b n) && !decide (getK o n = getK a n)
def mergeL (o a b : KL) (U : List ByteArray) : KL := U.filterMap fun n => (keptN o a b n).map fun d => (n, d)
def clashL (o a b : KL) (U : List ByteArray) : List ByteArray := U.filter (clashN o a b)
def uni3 (o a b : KL) : List ByteArray := uniN (o.map Prod.fst ++ a.map Prod.fst ++ b.map Prod.fst)
def uni2 (a b : KL) : List ByteArray := uniN (a.map Prod.fst ++ b.map Prod.fst)
theorem uni2_mem (a b : KL) (s : ByteArray) : s ∈ uni2 a b ↔ s ∈ a.map Prod.fst ∨ s ∈ b.map Prod.fst := by
  unfold uni2
  rw [uni_mem, List.mem_append]
theorem uni3_mem (o a b : KL) (s : ByteArray) : s ∈ uni3 o a b ↔ s ∈ o.map Prod.fst ∨ s ∈ a.map Prod.fst ∨ s ∈ b.map Prod.fst := by
  unfold uni3
  rw [uni_mem, List.mem_append, List.mem_append, or_assoc]
end Go.Proofs.Ytfnkbpcimbldbaa
