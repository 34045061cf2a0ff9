/- Rows of elements of any size: copied within themselves, appended within themselves, cleared, grown by zeros. -/
import Derived.Test.YtfnkbpcimbldbaaDoorMgQ32408
import Derived.Lib.Overlaps
import Derived.Laws.ResultCell
namespace Go.Proofs.YtfnkbpcimbldbaaDoor
open Go.RowKit

section
variable {P : Program}
variable (w : World)
end

section
variable {P : Program}
end
theorem box_free {w : World} {g : Nat} {cs : Array Value} {t : TypeId} (h : w.heap[g]? = some (.cells cs t (0, 0))) (j : Nat) : w.frozen? ⟨g, j, none⟩ = false := by simp [World.frozen?, h]
theorem ownK_form {w : World} {base : Nat} {e : TypeId} {size n : Nat} {v : Value} {xs : List Value} (h : w.ownsRow base e size v n xs) : (v = .slice none 0 0 ∧ n = 0) ∨ ∃ g c, v = .slice (some ⟨g, 0, none⟩) n c := by
  rcases h.2 with h2 | ⟨g, cap, cur, hv, _⟩
  · exact .inl h2
  · exact .inr ⟨g, cap, hv⟩
end Go.Proofs.YtfnkbpcimbldbaaDoor
