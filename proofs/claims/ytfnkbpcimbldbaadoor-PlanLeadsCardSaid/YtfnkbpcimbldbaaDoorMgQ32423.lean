/- Layer 25: with and without a name: shared data. -/
import Derived.Test.YtfnkbpcimbldbaaDoorMgQ32422
import Derived.RegionTactic
namespace Go.Proofs.YtfnkbpcimbldbaaDoor
open Go.RowKit

theorem Files.of_own {w : World} {base : Nat} {A : Option Addr} {n c : Nat} {fs : List Fi} (h : w.ownsRow base 32 2 (.slice A n c) n (fiCells fs)) (he : ∀ f ∈ fs, Bytes w w.heap.size f.ad f.data ∧ f.data.length ≤ f.cp) : Files w w.heap.size A fs := ⟨cells_of_ownF h, he⟩
theorem cells_dropF {w : World} {B b o : Nat} {fs : List Fi} (h : Cells w B (some ⟨b, o, none⟩) (fiCells fs)) (p : Nat) : Cells w B (some ⟨b, o + p * 2, none⟩) (fiCells (fs.drop p)) := fun hp => by
  rw [fi_len, List.length_drop] at hp
  obtain ⟨b', o', e, hlt, hc⟩ := h (by rw [fi_len]; omega)
  injection e with e
  injection e with e1 e2
  subst e1 e2
  refine ⟨b, o + p * 2, rfl, hlt, fun j u hj => ?_⟩
  rw [show o + p * 2 + j = o + (p * 2 + j) by omega]
  refine hc _ u ?_
  have e1 : fiCells fs = fiCells (fs.take p) ++ fiCells (fs.drop p) := by rw [← fiCells_app, List.take_append_drop]
  have e2 : (fiCells (fs.take p)).length = p * 2 := by rw [fi_len, List.length_take]; omega
  rw [e1, List.getElem?_append_right (by omega), e2, show p * 2 + j - p * 2 = j by omega]
  exact hj
end Go.Proofs.YtfnkbpcimbldbaaDoor
/- Layer 25: model.with, model.without, model.With, model.Without. -/
namespace Go.Proofs.YtfnkbpcimbldbaaDoor
open Go.RowKit

end Go.Proofs.YtfnkbpcimbldbaaDoor
