/- The reference's bytes and their sum. -/
import Derived.Test.YtaknladkodibaaaGreatDoorMgQ19317
import Derived.Test.YtaknladkodibaaaGreatDoorMgQ19318
import Derived.Lib.SmallJoins
namespace Go.Proofs.YtaknladkodibaaaGreatDoor
open Go.RowKit CrcP FieldP
end Go.Proofs.YtaknladkodibaaaGreatDoor
namespace Go.Proofs.YtaknladkodibaaaGreatDoor
open Go.RowKit CrcP FieldP
attribute [local go_sem ↓] Go.wp_at_zero Go.wp_at_succ
theorem bytes_partD {w : World} {B b o : Nat} {bs : List UInt8} (hbB : b < B) (h : ∀ j u,(byteCells bs)[j]? = some u → w.cell? ⟨b,o + j,none⟩ = some u) (p n : Nat) : Bytes w B (some ⟨b,o + p,none⟩) ((bs.drop p).take n) := fun _ => ⟨b,o + p,rfl,hbB,fun j u hu => by
 have h2 : (byteCells bs)[p + j]? = some u := by
  unfold byteCells at hu ⊢
  rw [List.getElem?_map,List.getElem?_take] at hu
  split at hu
  ·rw [List.getElem?_drop] at hu
   rw [List.getElem?_map,hu]
  ·simp at hu
 have := h (p + j) u h2
 rw [← Nat.add_assoc] at this
 exact this⟩
end Go.Proofs.YtaknladkodibaaaGreatDoor
