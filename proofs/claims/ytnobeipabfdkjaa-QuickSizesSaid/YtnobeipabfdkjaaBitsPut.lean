/- The contract of layer 3's Put. -/
import Derived.Test.YtnobeipabfdkjaaBitsLeaf
import Derived.Test.YtnobeipabfdkjaaFoot
import Derived.Deep.RegionHeld3
import Derived.Deep.DrawnRows
import Derived.Deep.LoopGhost
import Derived.StillTailTactics
import Derived.Deep.RegionLaw
namespace Go.Proofs.Ytnobeipabfdkjaa
open Go.RowKit BitsP
attribute [local go_sem ↓] Go.wp_at_zero Go.wp_at_succ

theorem byteElem3 : Elem Try.prog 41 5 (.int .u8 0) 1 1 := Elem.of Try.underlying41 (by kernel_rfl) rfl (by omega)

theorem put_shl {x more : Nat} (hx : x < 4294967296) (hm : more < 8) : IntKind.u64.wrap ((x : Int) * 2 ^ more) = ((p2 more * x : Nat) : Int) := by
  have h1 := p2_le (show more ≤ 7 by omega)
  have h2 : p2 7 = 128 := rfl
  have h3 : p2 more * x ≤ 128 * 4294967295 := Nat.mul_le_mul (by omega) (by omega)
  have e : (x : Int) * 2 ^ more = ((p2 more * x : Nat) : Int) := by rw [pow_int, Nat.mul_comm]; simp
  rw [e]
  exact IntWalk.u64_in _ (by omega)
theorem put_or {r x more : Nat} (hr : r < p2 more) (hx : x < 4294967296) (hm : more < 8) : bits .or .u64 (r : Int) ((p2 more * x : Nat) : Int) = ((r + p2 more * x : Nat) : Int) := by
  have h1 := p2_le (show more ≤ 7 by omega)
  have h2 : p2 7 = 128 := rfl
  have h3 : p2 more * x ≤ 128 * 4294967295 := Nat.mul_le_mul (by omega) (by omega)
  rw [u64_or_nat _ _ (by omega) (by omega), Nat.or_comm]
  rw [p2_pow] at hr h3 ⊢
  rw [← Nat.two_pow_add_eq_or_of_lt hr, Nat.add_comm]

theorem own_sets {w : World} {g base : Nat} {A : Option Addr} {l c n : Nat} {xs : List UInt8} (h : OwnB w base 5 (.slice A l c) n xs) (hg : ¬ ownS (.slice A l c) g) (u v x : Value) :
    OwnB (((w.setCell ⟨g, 0, none⟩ u).setCell ⟨g, 1, none⟩ v).setCell ⟨g, 2, none⟩ x) base 5 (.slice A l c) n xs :=
  own_keep h (S := oneB g) ((((Mod.refl (oneB g) w).set ⟨g, 0, none⟩ u (.inl rfl)).set ⟨g, 1, none⟩ v (.inl rfl)).set ⟨g, 2, none⟩ x (.inl rfl)) (fun j hj (he : j = g) => hg (he ▸ hj))

end Go.Proofs.Ytnobeipabfdkjaa
