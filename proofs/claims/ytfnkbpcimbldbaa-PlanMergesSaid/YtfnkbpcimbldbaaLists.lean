/- What came in, as lists: bytes, numbers, bools, records. -/
import Derived.Test.YtfnkbpcimbldbaaOpens
namespace Go.Proofs.Ytfnkbpcimbldbaa
open Go.RowKit

/-- A slice of anything as a list of records. -/
theorem rows_as {α : Type} {w : World} {sh : Sh} {a : Option Addr} {len cap : Nat} (code : α → List Value) (good : α → Prop) (h : Lies w (.slice sh) [.slice a len cap])
    (hx : ∀ x : List Value, x.length = sh.cells → Lies w sh x → ∃ r : α, x = code r ∧ good r) :
    ∃ rs : List α, rs.length = len ∧ len ≤ 9223372036854775807 ∧ (∀ r ∈ rs, good r) ∧ (∀ r ∈ rs, (code r).length = sh.cells) ∧ Cells w w.heap.size a (rs.map code).flatten := by
  obtain ⟨A, l, c, X, he, hl, _, hX, hall, hc⟩ := h
  simp only [List.cons.injEq, Value.slice.injEq, and_true] at he
  obtain ⟨rfl, rfl, rfl⟩ := he
  have key : ∀ X : List (List Value), (∀ x ∈ X, x.length = sh.cells ∧ Lies w sh x) → ∃ rs : List α, rs.map code = X ∧ ∀ r ∈ rs, good r := by
    intro X
    induction X with
    | nil => exact fun _ => ⟨[], rfl, fun _ h => by simp at h⟩
    | cons y X ih =>
      intro h
      obtain ⟨rs, h1, h2⟩ := ih (fun x hx => h x (by simp [hx]))
      obtain ⟨r, h3, h4⟩ := hx y (h y (by simp)).1 (h y (by simp)).2
      refine ⟨r :: rs, by simp [h1, h3], fun q hq => ?_⟩
      rcases List.mem_cons.1 hq with rfl | hq
      · exact h4
      · exact h2 q hq
  obtain ⟨rs, h1, h2⟩ := key X hall
  refine ⟨rs, by rw [← hX, ← h1, List.length_map], hl, h2, fun r hr => ?_, by rw [h1]; exact hc⟩
  exact (hall (code r) (by rw [← h1]; exact List.mem_map_of_mem hr)).1

theorem flatten_single {α : Type} (f : α → Value) (l : List α) : (l.map fun x => [f x]).flatten = l.map f := by
  induction l with
  | nil => rfl
  | cons x l ih => simp [ih]

theorem ints_of_lies {k : IntKind} {w : World} {a : Option Addr} {len cap : Nat} (h : Lies w (.slice (.int k)) [.slice a len cap]) :
    ∃ ns : List Int, ns.length = len ∧ len ≤ 9223372036854775807 ∧ Cells w w.heap.size a (ns.map (Value.int k)) ∧ ∀ n ∈ ns, (Lit.int k n).wf = true := by
  obtain ⟨rs, h1, h2, h3, _, h4⟩ := rows_as (fun n : Int => [Value.int k n]) (fun n => (Lit.int k n).wf = true) h (fun x _ hx => by obtain ⟨n, rfl, hn⟩ := hx; exact ⟨n, rfl, hn⟩)
  rw [flatten_single] at h4
  exact ⟨rs, h1, h2, h4, h3⟩
theorem bools_of_lies {w : World} {a : Option Addr} {len cap : Nat} (h : Lies w (.slice .bool) [.slice a len cap]) :
    ∃ ns : List Bool, ns.length = len ∧ len ≤ 9223372036854775807 ∧ Cells w w.heap.size a (ns.map Value.bool) := by
  obtain ⟨rs, h1, h2, _, _, h4⟩ := rows_as (fun n : Bool => [Value.bool n]) (fun _ => True) h (fun x _ hx => by obtain ⟨n, rfl⟩ := hx; exact ⟨n, rfl, trivial⟩)
  rw [flatten_single] at h4
  exact ⟨rs, h1, h2, h4⟩
theorem bytes_of_lies {w : World} {a : Option Addr} {len cap : Nat} (h : Lies w (.slice (.int .u8)) [.slice a len cap]) :
    ∃ bs : List UInt8, bs.length = len ∧ len ≤ 9223372036854775807 ∧ Bytes w w.heap.size a bs := by
  obtain ⟨ns, h1, h2, h3, h4⟩ := ints_of_lies h
  refine ⟨ns.map fun n => UInt8.ofNat n.toNat, by simp [h1], h2, ?_⟩
  have e : byteCells (ns.map fun n => UInt8.ofNat n.toNat) = ns.map (Value.int .u8) := by
    unfold byteCells
    rw [List.map_map]
    apply List.map_congr_left
    intro n hn
    have := bounds_u8 (h4 n hn)
    show Value.int .u8 (((UInt8.ofNat n.toNat).toNat : Nat) : Int) = _
    congr 1
    simp
    omega
  unfold Bytes
  rw [e]
  exact h3
/-- A cell of a record in a row of records. -/
theorem code_at {α : Type} {rs : List α} {code : α → List Value} {s i j : Nat} {r : α} {u : Value} (hs : ∀ r ∈ rs, (code r).length = s) (h : rs[i]? = some r) (hu : (code r)[j]? = some u) : ((rs.map code).flatten)[i * s + j]? = some u :=
  flatten_at (X := rs.map code) (fun x hx => by obtain ⟨r, hr, rfl⟩ := List.mem_map.1 hx; exact hs r hr) (by rw [List.getElem?_map, h]; rfl) hu
end Go.Proofs.Ytfnkbpcimbldbaa
