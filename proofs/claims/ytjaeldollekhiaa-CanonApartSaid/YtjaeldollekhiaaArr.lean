/- Arrays that came in: one datum behind the other. -/
import Derived.Test.YtjaeldollekhiaaOpens
import Derived.OpenShut
namespace Go.Proofs.Ytjaeldollekhiaa
open Go.RowKit Go.ChangeShapes Go.WideShapes

/-- The shape of an array: n data, one behind the other. -/
def arrSh : Nat → Sh → Sh
  | 0, _ => .nil
  | n + 1, e => .cons e (arrSh n e)
theorem arr_cells (e : Sh) : ∀ n, (arrSh n e).cells = n * e.cells
  | 0 => by simp [arrSh, Sh.cells]
  | n + 1 => by rw [arrSh, Sh.cells, arr_cells e n, Nat.add_mul, Nat.one_mul, Nat.add_comm]
theorem lies_arr {w : World} {e : Sh} : ∀ (n : Nat) (cs : List Value), cs.length = n * e.cells → (∀ i, i < n → Lies w e ((cs.drop (i * e.cells)).take e.cells)) → Lies w (arrSh n e) cs
  | 0, cs, h, _ => List.eq_nil_of_length_eq_zero (by omega)
  | n + 1, cs, h, hi => by
    rw [Nat.add_mul, Nat.one_mul] at h
    refine ⟨cs.take e.cells, cs.drop e.cells, (List.take_append_drop _ _).symm, by rw [List.length_take]; omega, by rw [arr_cells, List.length_drop]; omega, ?_, ?_⟩
    · have := hi 0 (by omega)
      simpa using this
    · refine lies_arr n _ (by rw [List.length_drop]; omega) fun i hin => ?_
      have := hi (i + 1) (by omega)
      rw [List.drop_drop]
      rw [Nat.add_mul, Nat.one_mul, Nat.add_comm] at this
      exact this
theorem rd_arr {H : Type} {enc : TypeId × Value → H} {P : Program} {w : World} {spare : Nat → Bool} {held : Bool} {t u : TypeId} {n : Nat} {v : Value} {d : DataW H} {p : List MemPlace} (e : Sh)
    (ht : P.underlying t = some (.array n u)) (hf : e.fit P (.inl u) = true) (hc : P.cellsOf u = e.cells) (hct : P.cellsOf t = n * e.cells) (h : DataW.Trod enc P w 0 spare held t v d p) : Lies w (arrSh n e) v.cells.toList := by
  obtain ⟨fuel, h⟩ := h
  obtain ⟨xs, m, _, _, hl, hx, hi⟩ := DataW.trod_array ht h
  refine lies_arr n _ (hl.trans hct) fun i hin => ?_
  have := hi i hin
  rw [hc, List.getElem?_eq_getElem (by omega)] at this
  exact (trod_rd e).1 u m _ _ hf this
theorem okWide_arr {P : Program} {w : World} {r : Reach} {base : Nat} {t u : TypeId} {n : Nat} {v : Value} (ht : P.underlying t = some (.array n u)) (h : Value.okWide P w r base t v) : ∃ cs, v = .agg cs := by
  simp only [Value.okWide, ht] at h
  obtain ⟨cs, h1, _⟩ := h
  exact ⟨cs, h1⟩
/-- Two numbers. -/
theorem two_ints {w : World} {k : IntKind} {cs : Array Value} (h : Lies w (arrSh 2 (.int k)) cs.toList) : ∃ x y : Int, cs = #[.int k x, .int k y] ∧ (Lit.int k x).wf = true ∧ (Lit.int k y).wf = true := by
  obtain ⟨a, r, h1, _, _, ⟨x, rfl, hx⟩, b, r2, rfl, _, _, ⟨y, rfl, hy⟩, rfl⟩ := h
  exact ⟨x, y, by rw [← Array.toList_inj, h1]; rfl, hx, hy⟩
end Go.Proofs.Ytjaeldollekhiaa
