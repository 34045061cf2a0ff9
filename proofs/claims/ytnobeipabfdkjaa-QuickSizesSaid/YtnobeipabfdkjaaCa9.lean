/- Layer 8: CanonValues, the law. -/
import Derived.Test.YtnobeipabfdkjaaCa8
namespace Go.Proofs.Ytnobeipabfdkjaa
open Go.RowKit

def wantK (zs : List Int) (s : Int) (k : Nat) : Int := if 0 ≤ s ∧ s < (k : Int) then zs.getD s.toNat 0 else 0
theorem wantK_all {zs : List Int} (s : Int) : wantK zs s zs.length = lenAt zs s := by
  unfold wantK lenAt
  by_cases h0 : 0 ≤ s
  · rw [if_pos h0]
    by_cases h1 : s < (zs.length : Int)
    · rw [if_pos ⟨h0, h1⟩]
    · rw [if_neg (by omega), List.getD, List.getElem?_eq_none (by omega)]; rfl
  · rw [if_neg h0, if_neg (by omega)]
end Go.Proofs.Ytnobeipabfdkjaa
