/- Layer 5: calls that came in. -/
import Derived.Test.YtbfaefnlhcdnhaaNsS
namespace Go.Proofs.Ytbfaefnlhcdnhaa
open Go.RowKit

abbrev op5Sh : Sh := .cons (.int .i64) (.cons .str (.cons .str (.cons (.int .i64) .nil)))
theorem op5_lies {w : World} {x : List Value} (h : Lies w op5Sh x) : ∃ f : LOp, x = f.cells ∧ (Lit.int .i64 f.n).wf = true := by
  obtain ⟨a, r1, rfl, _, _, ⟨kind, rfl, _⟩, h1⟩ := h
  obtain ⟨b, r2, rfl, _, _, ⟨s1, rfl, _⟩, h2⟩ := h1
  obtain ⟨c, r3, rfl, _, _, ⟨s2, rfl, _⟩, h3⟩ := h2
  obtain ⟨d, r4, rfl, _, _, ⟨n, rfl, hn⟩, h4⟩ := h3
  have h4' : r4 = [] := h4
  subst h4'
  exact ⟨⟨kind, s1, s2, n⟩, rfl, hn⟩
theorem ops5_in {w : World} {a : Option Addr} {len cap : Nat} (h : Lies w (.slice op5Sh) [.slice a len cap]) : ∃ xs : List LOp, xs.length = len ∧ Cells w w.heap.size a (opCells xs) ∧ ∀ x ∈ xs, (Lit.int .i64 x.n).wf = true := by
  obtain ⟨rs, h1, _, h3, _, h4⟩ := rows_as LOp.cells (fun f => (Lit.int .i64 f.n).wf = true) h (fun x _ hx => op5_lies hx)
  exact ⟨rs, h1, h4, h3⟩
end Go.Proofs.Ytbfaefnlhcdnhaa
