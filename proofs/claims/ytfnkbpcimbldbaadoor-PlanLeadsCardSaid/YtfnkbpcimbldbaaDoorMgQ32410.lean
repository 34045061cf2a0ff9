/- Data that came in, of any shape of bools, numbers, texts, slices and structs: from the row's reading to what lies in memory. -/
import Derived.Test.YtfnkbpcimbldbaaDoorMgQ324SBytesIn
import Derived.Deep.Slices
import Derived.ChangeOld
import Derived.KernelRfl
namespace Go.Proofs.YtfnkbpcimbldbaaDoor
open Go.RowKit Go.ChangeShapes Go.WideShapes

/-- The shapes: a struct is its fields, one behind the other. -/
inductive Sh
  | bool
  | int (k : IntKind)
  | str
  | slice (e : Sh)
  | nil
  | cons (f r : Sh)
/-- How many cells a datum of the shape has. -/
def Sh.cells : Sh → Nat
  | .nil => 0
  | .cons f r => f.cells + r.cells
  | _ => 1
/-- Is the type of that shape? -/
def Sh.fit (P : Program) : Sh → TypeId ⊕ (Nat × List Field) → Bool
  | .bool, .inl t => match P.underlying t with | some .bool => true | _ => false
  | .int k, .inl t => match P.underlying t with | some (.int k') => decide (k' = k) | _ => false
  | .str, .inl t => match P.underlying t with | some .string => true | _ => false
  | .slice e, .inl t => match P.underlying t with | some (.slice u) => decide (P.cellsOf u = e.cells) && decide (0 < e.cells) && e.fit P (.inl u) | _ => false
  | .nil, .inr (_, []) => true
  | .cons f r, .inl t => match P.underlying t with
    | some (.struct fs) => match fs.toList with
      | fd :: l => decide (fd.offset = 0) && decide (P.cellsOf fd.type = f.cells) && decide (P.cellsOf t = f.cells + r.cells) && f.fit P (.inl fd.type) && r.fit P (.inr (f.cells, l))
      | [] => false
    | _ => false
  | .cons f r, .inr (off, fd :: l) => decide (fd.offset = off) && decide (P.cellsOf fd.type = f.cells) && f.fit P (.inl fd.type) && r.fit P (.inr (off + f.cells, l))
  | _, _ => false

/-- What lies in memory where a datum of the shape has these cells. -/
def Lies (w : World) : Sh → List Value → Prop
  | .bool, cs => ∃ b, cs = [.bool b]
  | .int k, cs => ∃ n, cs = [.int k n] ∧ (Lit.int k n).wf = true
  | .str, cs => ∃ s : ByteArray, cs = [.string s] ∧ s.size ≤ maxLen
  | .slice e, cs => ∃ (A : Option Addr) (len cap : Nat) (X : List (List Value)), cs = [.slice A len cap] ∧ len ≤ maxLen ∧ len ≤ cap ∧ X.length = len ∧ (∀ x ∈ X, x.length = e.cells ∧ Lies w e x) ∧ Cells w w.heap.size A X.flatten
  | .nil, cs => cs = []
  | .cons f r, cs => ∃ a b, cs = a ++ b ∧ a.length = f.cells ∧ b.length = r.cells ∧ Lies w f a ∧ Lies w r b

section
variable {H : Type} {enc : TypeId × Value → H} {P : Program} {w : World} {spare : Nat → Bool} {held : Bool}

theorem list_of {α : Type} {n : Nat} {p : Nat → α → Prop} (h : ∀ i, i < n → ∃ x, p i x) : ∃ X : List α, X.length = n ∧ ∀ i x, X[i]? = some x → p i x := by
  induction n with
  | zero => exact ⟨[], rfl, fun i x hx => by simp at hx⟩
  | succ n ih =>
    obtain ⟨X, hl, hX⟩ := ih (fun i hi => h i (by omega))
    obtain ⟨y, hy⟩ := h n (by omega)
    refine ⟨X ++ [y], by simp [hl], fun i x hx => ?_⟩
    by_cases hi : i < n
    · rw [List.getElem?_append_left (by omega)] at hx
      exact hX i x hx
    · have hlt := (List.getElem?_eq_some_iff.1 hx).1
      simp [hl] at hlt
      obtain rfl : i = n := by omega
      rw [← hl] at hx
      simp at hx
      subst hx
      exact hy

/-- A cell of rows of one length, one behind the other. -/
theorem flatten_get {X : List (List Value)} {s j : Nat} {u : Value} (hs : 0 < s) (hX : ∀ x ∈ X, x.length = s) (h : X.flatten[j]? = some u) : ∃ x, X[j / s]? = some x ∧ x[j % s]? = some u := by
  induction X generalizing j with
  | nil => simp at h
  | cons y l ih =>
    have hy : y.length = s := hX y (by simp)
    rw [List.flatten_cons] at h
    by_cases hj : j < s
    · rw [List.getElem?_append_left (by omega)] at h
      exact ⟨y, by rw [Nat.div_eq_of_lt hj]; rfl, by rw [Nat.mod_eq_of_lt hj]; exact h⟩
    · rw [List.getElem?_append_right (by omega), hy] at h
      obtain ⟨x, h1, h2⟩ := ih (fun x hx => hX x (by simp [hx])) h
      have e : j = (j - s) + s := by omega
      refine ⟨x, ?_, ?_⟩
      · rw [e, Nat.add_div_right _ hs]
        exact h1
      · rw [e, Nat.add_mod_right]
        exact h2
theorem flatten_at {X : List (List Value)} {s i r : Nat} {x : List Value} {u : Value} (hX : ∀ x ∈ X, x.length = s) (h : X[i]? = some x) (hu : x[r]? = some u) : X.flatten[i * s + r]? = some u := by
  induction X generalizing i with
  | nil => simp at h
  | cons y l ih =>
    have hy : y.length = s := hX y (by simp)
    have hr : r < s := by
      have := (List.getElem?_eq_some_iff.1 hu).1
      rwa [hX x (List.mem_of_getElem? h)] at this
    rw [List.flatten_cons]
    cases i with
    | zero =>
      simp at h
      subst h
      rw [Nat.zero_mul, Nat.zero_add, List.getElem?_append_left (by omega)]
      exact hu
    | succ i =>
      rw [Nat.add_mul, Nat.one_mul, List.getElem?_append_right (by omega), hy]
      have := ih (fun x hx => hX x (by simp [hx])) (by simpa using h)
      rw [← this]
      congr 1
      omega

theorem fit_split {a b : Bool} (h : (a && b) = true) : a = true ∧ b = true := by simpa using h


theorem trod_rd (sh : Sh) : (∀ (t : TypeId) (fuel : Nat) (cs : List Value) (x : DataW H × List MemPlace), sh.fit P (.inl t) = true → DataW.trod enc P w 0 spare held fuel t cs = some x → Lies w sh cs) ∧
    (∀ (off : Nat) (l : List Field) (n : Nat) (cs : List Value), sh.fit P (.inr (off, l)) = true → (∀ fd ∈ l, ∃ x, DataW.trod enc P w 0 spare held n fd.type ((cs.drop fd.offset).take (P.cellsOf fd.type)) = some x) → off + sh.cells = cs.length → Lies w sh (cs.drop off)) := by
  induction sh with
  | bool =>
    refine ⟨fun t fuel cs x hf h => ?_, fun off l n cs hf h hl => ?_⟩
    · simp only [Sh.fit] at hf
      split at hf
      · rename_i hu
        obtain ⟨b, rfl, _⟩ := DataW.trod_bool hu h
        exact ⟨b, rfl⟩
      · cases hf
    · simp [Sh.fit] at hf
  | int k =>
    refine ⟨fun t fuel cs x hf h => ?_, fun off l n cs hf h hl => ?_⟩
    · simp only [Sh.fit] at hf
      split at hf
      · rename_i k' hu
        obtain rfl : k' = k := by simpa using hf
        obtain ⟨n, rfl, _, hw⟩ := DataW.trod_int hu h
        exact ⟨n, rfl, hw⟩
      · cases hf
    · simp [Sh.fit] at hf
  | str =>
    refine ⟨fun t fuel cs x hf h => ?_, fun off l n cs hf h hl => ?_⟩
    · simp only [Sh.fit] at hf
      split at hf
      · rename_i hu
        obtain ⟨s, rfl, _, hw⟩ := DataW.trod_string hu h
        exact ⟨s, rfl, hw⟩
      · cases hf
    · simp [Sh.fit] at hf
  | slice e ih =>
    refine ⟨fun t fuel cs x hf h => ?_, fun off l n cs hf h hl => ?_⟩
    · simp only [Sh.fit] at hf
      split at hf
      · rename_i u hu
        obtain ⟨hf, he⟩ := fit_split hf
        obtain ⟨hc, hpos⟩ := fit_split hf
        have hc : P.cellsOf u = e.cells := by simpa using hc
        have hpos : 0 < e.cells := by simpa using hpos
        rcases Go.Deep.open_slice hu h with ⟨rfl, _⟩ | ⟨a, len, cap, m, n, D, Pl, rfl, _, hlc, hcm, hm, _, hel⟩
        · exact ⟨none, 0, 0, [], rfl, by omega, by omega, rfl, fun _ h => by simp at h, Cells.nil _ _ _⟩
        · have hlm : len ≤ m := by rw [hm]; split <;> omega
          rw [hc] at hel
          obtain ⟨X, hXl, hX⟩ := list_of (n := len) (p := fun i (cs' : List Value) => w.cells? 0 (a.add (i * e.cells)) e.cells = some cs' ∧ DataW.trod enc P w 0 spare held n u cs' = some (D i, Pl i)) (fun i hi => hel i (by omega))
          have hlen : ∀ x ∈ X, x.length = e.cells := fun x hx => by
            obtain ⟨i, hi⟩ := List.mem_iff_getElem?.1 hx
            exact (World.cells?_some (hX i x hi).1).2.1
          refine ⟨some a, len, cap, X, rfl, by omega, hlc, hXl, fun x hx => ⟨hlen x hx, ?_⟩, fun hp => ?_⟩
          · obtain ⟨i, hi⟩ := List.mem_iff_getElem?.1 hx
            exact ih.1 u n x _ he (hX i x hi).2
          · have key : ∀ (j : Nat) (v : Value), X.flatten[j]? = some v → w.cell? (a.add j) = some v := fun j v hv => by
              obtain ⟨x, h1, h2⟩ := flatten_get hpos hlen hv
              obtain ⟨_, _, hcell⟩ := World.cells?_some (hX _ x h1).1
              have := hcell (j % e.cells) (Nat.mod_lt _ hpos)
              rw [h2, Go.Deep.add_add, Nat.mul_comm, Nat.div_add_mod] at this
              exact this
            have h0 := key 0 _ (List.getElem?_eq_getElem hp)
            obtain ⟨b, o, rfl⟩ := addr_plain h0
            refine ⟨b, o, rfl, World.block_lt_of_cell? w _ h0 |> fun h => by simpa [Addr.add] using h, fun j v hv => ?_⟩
            have h1 := key j v hv
            have hadd : (⟨b, o, none⟩ : Addr).add j = ⟨b, o + j, none⟩ := by unfold Addr.add; split <;> simp_all
            rwa [hadd] at h1
      · cases hf
    · simp [Sh.fit] at hf
  | nil =>
    refine ⟨fun t fuel cs x hf h => ?_, fun off l n cs hf h hl => ?_⟩
    · simp [Sh.fit] at hf
    · cases l with
      | nil => simp only [Sh.cells] at hl; exact List.drop_of_length_le (by omega)
      | cons fd l => simp [Sh.fit] at hf
  | cons f r ihf ihr =>
    have step : ∀ (off : Nat) (fd : Field) (l : List Field) (n : Nat) (cs : List Value), fd.offset = off → P.cellsOf fd.type = f.cells → f.fit P (.inl fd.type) = true → r.fit P (.inr (off + f.cells, l)) = true →
        (∀ fd' ∈ fd :: l, ∃ x, DataW.trod enc P w 0 spare held n fd'.type ((cs.drop fd'.offset).take (P.cellsOf fd'.type)) = some x) → off + (f.cells + r.cells) = cs.length → Lies w (.cons f r) (cs.drop off) := by
      intro off fd l n cs ho hc hff hfr h hl
      obtain ⟨x, hx⟩ := h fd (by simp)
      rw [ho, hc] at hx
      refine ⟨(cs.drop off).take f.cells, cs.drop (off + f.cells), ?_, by rw [List.length_take, List.length_drop]; omega, by rw [List.length_drop]; omega, ihf.1 _ _ _ _ hff hx,
        ihr.2 _ l n cs hfr (fun fd' h' => h fd' (by simp [h'])) (by omega)⟩
      rw [← List.drop_drop, List.take_append_drop]
    refine ⟨fun t fuel cs x hf h => ?_, fun off l n cs hf h hl => ?_⟩
    · simp only [Sh.fit] at hf
      split at hf
      · rename_i fs hu
        split at hf
        · rename_i fd l hfs
          obtain ⟨hf, hfr⟩ := fit_split hf
          obtain ⟨hf, hff⟩ := fit_split hf
          obtain ⟨hf, hct⟩ := fit_split hf
          obtain ⟨ho, hc⟩ := fit_split hf
          have ho : fd.offset = 0 := by simpa using ho
          have hc : P.cellsOf fd.type = f.cells := by simpa using hc
          have hct : P.cellsOf t = f.cells + r.cells := by simpa using hct
          obtain ⟨xs, n, _, _, hcl, hxl, hfl⟩ := DataW.trod_struct hu h
          have := step 0 fd l n cs ho hc hff (by rw [Nat.zero_add]; exact hfr) (fun fd' h' => by
            rw [← hfs] at h'
            obtain ⟨i, hi⟩ := List.mem_iff_getElem?.1 h'
            have hi' : fs[i]? = some fd' := by rw [← Array.getElem?_toList]; exact hi
            have hlt : i < xs.length := by
              rw [hxl]
              exact (Array.getElem?_eq_some_iff.1 hi').1
            exact ⟨xs[i], by rw [hfl i fd' hi', List.getElem?_eq_getElem hlt]⟩) (by omega)
          simpa using this
        · cases hf
      · cases hf
    · cases l with
      | nil => simp [Sh.fit] at hf
      | cons fd l =>
        simp only [Sh.fit] at hf
        obtain ⟨hf, hfr⟩ := fit_split hf
        obtain ⟨hf, hff⟩ := fit_split hf
        obtain ⟨ho, hc⟩ := fit_split hf
        exact step off fd l n cs (by simpa using ho) (by simpa using hc) hff hfr h hl

theorem rd_of {t : TypeId} {v : Value} {d : DataW H} {p : List MemPlace} (sh : Sh) (hf : sh.fit P (.inl t) = true) (h : DataW.Trod enc P w 0 spare held t v d p) : Lies w sh v.cells.toList := by
  obtain ⟨fuel, h⟩ := h
  exact (trod_rd sh).1 t fuel _ _ hf h
end
end Go.Proofs.YtfnkbpcimbldbaaDoor
/- What came in, as lists: bytes, numbers, bools, records. -/
namespace Go.Proofs.YtfnkbpcimbldbaaDoor
open Go.RowKit

/-- A slice of anything as a list of records. -/
theorem rows_as {α : Type} {w : World} {sh : Sh} {a : Option Addr} {len cap : Nat} (code : α → List Value) (good : α → Prop) (h : Lies w (.slice sh) [.slice a len cap])
    (hx : ∀ x : List Value, x.length = sh.cells → Lies w sh x → ∃ r : α, x = code r ∧ good r) :
    ∃ rs : List α, rs.length = len ∧ len ≤ 9223372036854775807 ∧ (∀ r ∈ rs, good r) ∧ (∀ r ∈ rs, (code r).length = sh.cells) ∧ Cells w w.heap.size a (rs.map code).flatten := by
  obtain ⟨A, l, c, X, he, hl, _, hX, hall, hc⟩ := h
  simp only [List.cons.injEq, Value.slice.injEq, and_true] at he
  obtain ⟨rfl, rfl, rfl⟩ := he
  have key : ∀ X : List (List Value), (∀ x ∈ X, x.length = sh.cells ∧ Lies w sh x) → ∃ rs : List α, rs.map code = X ∧ ∀ r ∈ rs, good r := by
    intro X
    induction X with
    | nil => exact fun _ => ⟨[], rfl, fun _ h => by simp at h⟩
    | cons y X ih =>
      intro h
      obtain ⟨rs, h1, h2⟩ := ih (fun x hx => h x (by simp [hx]))
      obtain ⟨r, h3, h4⟩ := hx y (h y (by simp)).1 (h y (by simp)).2
      refine ⟨r :: rs, by simp [h1, h3], fun q hq => ?_⟩
      rcases List.mem_cons.1 hq with rfl | hq
      · exact h4
      · exact h2 q hq
  obtain ⟨rs, h1, h2⟩ := key X hall
  refine ⟨rs, by rw [← hX, ← h1, List.length_map], hl, h2, fun r hr => ?_, by rw [h1]; exact hc⟩
  exact (hall (code r) (by rw [← h1]; exact List.mem_map_of_mem hr)).1

theorem flatten_single {α : Type} (f : α → Value) (l : List α) : (l.map fun x => [f x]).flatten = l.map f := by
  induction l with
  | nil => rfl
  | cons x l ih => simp [ih]

theorem ints_of_lies {k : IntKind} {w : World} {a : Option Addr} {len cap : Nat} (h : Lies w (.slice (.int k)) [.slice a len cap]) :
    ∃ ns : List Int, ns.length = len ∧ len ≤ 9223372036854775807 ∧ Cells w w.heap.size a (ns.map (Value.int k)) ∧ ∀ n ∈ ns, (Lit.int k n).wf = true := by
  obtain ⟨rs, h1, h2, h3, _, h4⟩ := rows_as (fun n : Int => [Value.int k n]) (fun n => (Lit.int k n).wf = true) h (fun x _ hx => by obtain ⟨n, rfl, hn⟩ := hx; exact ⟨n, rfl, hn⟩)
  rw [flatten_single] at h4
  exact ⟨rs, h1, h2, h4, h3⟩
theorem bytes_of_lies {w : World} {a : Option Addr} {len cap : Nat} (h : Lies w (.slice (.int .u8)) [.slice a len cap]) :
    ∃ bs : List UInt8, bs.length = len ∧ len ≤ 9223372036854775807 ∧ Bytes w w.heap.size a bs := by
  obtain ⟨ns, h1, h2, h3, h4⟩ := ints_of_lies h
  refine ⟨ns.map fun n => UInt8.ofNat n.toNat, by simp [h1], h2, ?_⟩
  have e : byteCells (ns.map fun n => UInt8.ofNat n.toNat) = ns.map (Value.int .u8) := by
    unfold byteCells
    rw [List.map_map]
    apply List.map_congr_left
    intro n hn
    have := bounds_u8 (h4 n hn)
    show Value.int .u8 (((UInt8.ofNat n.toNat).toNat : Nat) : Int) = _
    congr 1
    simp
    omega
  unfold Bytes
  rw [e]
  exact h3
/-- A cell of a record in a row of records. -/
theorem code_at {α : Type} {rs : List α} {code : α → List Value} {s i j : Nat} {r : α} {u : Value} (hs : ∀ r ∈ rs, (code r).length = s) (h : rs[i]? = some r) (hu : (code r)[j]? = some u) : ((rs.map code).flatten)[i * s + j]? = some u :=
  flatten_at (X := rs.map code) (fun x hx => by obtain ⟨r, hr, rfl⟩ := List.mem_map.1 hx; exact hs r hr) (by rw [List.getElem?_map, h]; rfl) hu
end Go.Proofs.YtfnkbpcimbldbaaDoor
