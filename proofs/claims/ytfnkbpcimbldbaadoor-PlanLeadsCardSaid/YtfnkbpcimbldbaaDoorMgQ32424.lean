/- Layer 25: model.with over any row, model.without; model.With, model.Without. -/
import Derived.Test.YtfnkbpcimbldbaaDoorMgQ32423
import Derived.Laws.IdiomStrings
namespace Go.Proofs.YtfnkbpcimbldbaaDoor
open Go.RowKit

/-- A row's form: nil, or in a block. -/
def Shp (A : Option Addr) (n c : Nat) : Prop := (A = none ∧ n = 0 ∧ c = 0) ∨ ∃ b o, A = some ⟨b, o, none⟩ ∧ n ≤ c
theorem Shp.of_own {w : World} {base k n c : Nat} {e : TypeId} {A : Option Addr} {xs : List Value} (h : w.ownsRow base e k (.slice A n c) n xs) : Shp A n c := by
  rcases h.2 with ⟨h1, h2⟩ | ⟨g, cap, cur, hv, _, _, hn, _⟩
  · simp only [Value.slice.injEq] at h1
    exact .inl h1
  · simp only [Value.slice.injEq] at hv
    exact .inr ⟨g, 0, hv.1, by omega⟩
end Go.Proofs.YtfnkbpcimbldbaaDoor
/- Layer 25: bytes of a text; the reference's With. -/
namespace Go.Proofs.YtfnkbpcimbldbaaDoor
open Go.RowKit

end Go.Proofs.YtfnkbpcimbldbaaDoor
