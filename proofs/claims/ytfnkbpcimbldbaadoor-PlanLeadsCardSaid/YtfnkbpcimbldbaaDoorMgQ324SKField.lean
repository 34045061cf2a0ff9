/- Numbers as bytes: how many bytes, what stands somewhere, and the reader. -/
import Derived.Test.YtfnkbpcimbldbaaDoorMgQ324SKCrc
import Derived.Test.YtfnkbpcimbldbaaDoorFieldPlain
import Derived.Test.YtfnkbpcimbldbaaDoorMgQ324STail
import Derived.Deep.QuietTactic
import Derived.BigQuiet
import Derived.Deep.RegionWith
import Derived.Deep.DrawnRows
namespace Go.Proofs.YtfnkbpcimbldbaaDoor
open Go.RowKit FieldP

attribute [local go_sem ↓] Go.wp_at_zero Go.wp_at_succ
/-- Only block g was written, and blocks were made. -/
def Only (g : Nat) (w w' : World) : Prop := w.grownBy w' (some g)
theorem only_below {g B : Nat} {W w w' : World} (h : Only g w w') (hb : Below B W w) (hB : B ≤ w.heap.size) (hg : B ≤ g) : Below B W w' := hb.grown h hB (fun k hk => by injection hk; omega)
theorem Cells.only {g B : Nat} {w w' : World} {A : Option Addr} {xs : List Value} (h : Cells w B A xs) (ho : Only g w w') (hB : B ≤ w.heap.size) (hg : B ≤ g) : Cells w' B A xs :=
  h.below (only_below ho (Below.refl B w) hB hg) (Nat.le_refl _)
theorem Cells.drewN {w : World} {B : Nat} {A : Option Addr} {xs : List Value} (h : Cells w B A xs) (n : Nat) : Cells (w.drewN n) B A xs := h
end Go.Proofs.YtfnkbpcimbldbaaDoor
