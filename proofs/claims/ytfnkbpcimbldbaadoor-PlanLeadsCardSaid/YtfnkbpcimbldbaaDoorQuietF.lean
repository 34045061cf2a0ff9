/- Regions that draw their order, whose callees may make memory of their own: one walk, in every world that is, as far as it goes, the one ahead. -/
import Derived.Test.YtfnkbpcimbldbaaDoorRows
import Derived.WalkKit
import Derived.Below
import Derived.BigQuiet
import Derived.Lib.Hide
namespace Go.Proofs.YtfnkbpcimbldbaaDoor
open Go.RowKit

/-- All worlds that are, below a world's end, as that one. -/
theorem below_class (w : World) : ∃ (ι : Type) (f : ι → World) (n0 : ι), f n0 = w.drew ∧ (∀ n, Below w.heap.size w (f n)) ∧ (∀ n W, Below (f n).heap.size (f n) W → ∃ m, W = f m) :=
  ⟨{W // Below w.heap.size w W}, Subtype.val, ⟨w.drew, (Below.refl _ w).drew⟩, rfl, fun n => n.2, fun n W h => ⟨⟨W, n.2.trans (h.mono n.2.size)⟩, rfl⟩⟩
theorem region_quiet_f {P : Program} {ι : Type} (f : ι → World) (n0 : ι) {id : Nat} {Q : Exit → Act → World → Prop} {a : Act} {w : World} {l : List Oper} (h0 : f n0 = w.drew) (hm : P.follows .mixedOrders = true) (hB : Region.lexB .any l.toArray = true)
    (h : wpQuiet P l.toArray (fun w' => ∃ n, w' = f n) (fun a' => ∀ w', (∃ n, w' = f n) → Q .normal a' w') l a) : (Code.region id l.toArray true).wp P Q a w :=
  wp_region_quiet (C := fun w' => ∃ n, w' = f n) hm hB ⟨n0, h0.symm⟩ (by simpa using h)
theorem quiet_f {P : Program} {ι : Type} {f : ι → World} {F : FuncId} {args : Array Value} {n : ι} {v : Value} (hup : ∀ n W, Below (f n).heap.size (f n) W → ∃ m, W = f m)
    (h : Calls P F args (f n) fun e w' => e = .returned v ∧ Below (f n).heap.size (f n) w') : Calls P F args (f n) fun e w'' => e = .returned v ∧ ∃ m, w'' = f m :=
  h.mono fun _ _ ⟨he, hb⟩ => ⟨he, hup _ _ hb⟩
theorem quiet_same {P : Program} {ι : Type} {f : ι → World} {F : FuncId} {args : Array Value} {n : ι} {v : Value}
    (h : Calls P F args (f n) fun e w' => e = .returned v ∧ f n = w') : Calls P F args (f n) fun e w'' => e = .returned v ∧ ∃ m, w'' = f m :=
  h.mono fun _ _ ⟨he, hb⟩ => ⟨he, n, hb.symm⟩
end Go.Proofs.YtfnkbpcimbldbaaDoor
