/- Layer 19: the example that goes there and back. -/
import Derived.Test.YtjoifgeljjgflaaDoorEnPl
namespace Go.Proofs.YtjoifgeljjgflaaDoor
open Go.RowKit CrcP FieldP

def memA : LM := ⟨⟨#[97]⟩, 1024, 1047, 0, 0, 0, 0⟩
theorem memA_B : memA.B = true := by decide
theorem memA_ok : ∀ m ∈ [memA], m.Ok := fun m hm => by
  obtain rfl : m = memA := by simpa using hm
  exact ⟨by decide, by decide, by decide, by decide, by decide⟩
theorem memA_all : allB [memA] = true := allB_of (by decide) (fun j hj => by
  obtain rfl : j = 0 := by simpa using hj
  exact ⟨memA, rfl, memA_B, fun p h => absurd h (by decide)⟩)

theorem Cells.of_blockE {w : World} {b B : Nat} {cs : Array Value} {t : TypeId} (h : w.heap[b]? = some (.cells cs t (0, 0))) (hB : b < B) : Cells w B (some ⟨b, 0, none⟩) cs.toList := fun _ => by
  refine ⟨b, 0, rfl, hB, fun j u hj => ?_⟩
  rw [Nat.zero_add, cell_of_row w b j _ _ _ h, ← Array.getElem?_toList]
  exact hj
end Go.Proofs.YtjoifgeljjgflaaDoor
