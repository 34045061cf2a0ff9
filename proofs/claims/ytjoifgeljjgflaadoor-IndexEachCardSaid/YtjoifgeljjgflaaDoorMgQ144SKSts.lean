/- The states of a reader, plainly. -/
import Derived.Test.YtjoifgeljjgflaaDoorMgQ14414
namespace Go.Proofs.YtjoifgeljjgflaaDoor
open Go.RowKit CrcP FieldP

theorem Box.set {w : World} {g i : Nat} {cs : Array Value} {t : TypeId} (h : Box w g cs t) (v : Value) : Box (w.setCell ⟨g, i, none⟩ v) g (cs.setIfInBounds i v) t := heap_setCell_same w g i _ _ _ h
theorem Box.only {w w' : World} {g k : Nat} {cs : Array Value} {t : TypeId} (h : Box w k cs t) (ho : Only g w w') (hne : k ≠ g) : Box w' k cs t := (ho.block k h.lt (fun e => by injection e with e; exact hne (by first | exact e | exact e.symm))).trans h
end Go.Proofs.YtjoifgeljjgflaaDoor
