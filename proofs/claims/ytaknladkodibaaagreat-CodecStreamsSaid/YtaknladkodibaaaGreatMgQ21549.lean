/- Layer 13: the reference's Right and Weights. -/
import Derived.Test.YtaknladkodibaaaGreatMgQ21548
import Derived.Test.YtaknladkodibaaaGreatMgQ21509
import Derived.Test.YtaknladkodibaaaGreatMgQ21546
import Derived.Test.YtaknladkodibaaaGreatMgQ21527
import Derived.Test.YtaknladkodibaaaGreatMgQ21529
import Derived.WalkMore
namespace Go.Proofs.YtaknladkodibaaaGreat
open Go.RowKit BitsP SymP
attribute [local go_sem ↓] Go.wp_at_zero Go.wp_at_succ

end Go.Proofs.YtaknladkodibaaaGreat
/- Layer 13: tokens that come in: those that may be, up to the first one that may not. -/
namespace Go.Proofs.YtaknladkodibaaaGreat
open Go.RowKit BitsP SymP

/-- The tokens ahead of the first one that may not be. -/
def ToksOf (w : World) (A : Option Addr) (l : Nat) (ts : List Tk) : Prop :=
  (∀ t ∈ ts, okT t) ∧ (∀ k t, ts[k]? = some t → TkAt w A k (t.1.toNat : Int) (t.2.1 : Int) (t.2.2 : Int)) ∧ (ts.length = l ∨ (ts.length < l ∧ ∃ y ln d, TkAt w A ts.length y ln d ∧ rightT y ln d = false))
theorem ToksOf.below {w W : World} {A : Option Addr} {l : Nat} {ts : List Tk} (h : ToksOf w A l ts) (hb : Below w.heap.size w W) : ToksOf W A l ts :=
  ⟨h.1, fun k t ht => (h.2.1 k t ht).below hb, h.2.2.imp id fun ⟨h1, y, ln, d, h2, h3⟩ => ⟨h1, y, ln, d, h2.below hb, h3⟩⟩
section
variable {A : Option Addr} {l c : Nat} {ts : List Tk} {w : World}
end
end Go.Proofs.YtaknladkodibaaaGreat
/- Layer 13: a class is taken. -/
namespace Go.Proofs.YtaknladkodibaaaGreat
open Go.RowKit BitsP SymP

end Go.Proofs.YtaknladkodibaaaGreat
/- Layer 13: both tables are taken. -/
namespace Go.Proofs.YtaknladkodibaaaGreat
open Go.RowKit BitsP SymP

end Go.Proofs.YtaknladkodibaaaGreat
/- Layer 13: tokens are taken. -/
namespace Go.Proofs.YtaknladkodibaaaGreat
open Go.RowKit BitsP SymP

section
variable {w W W' : World} {r base p p' ga gb : Nat} {S : Nat → Prop} {bs : List UInt8} {v v' : Value} {ts ts' : List Tk}
end
/-- A row in memory. -/
def RowB (W : World) (R : Nat) (c1 c2 : Nat × Nat × Nat) (m : Bool) : Prop := W.heap[R]? = some (.cells #[.int .i64 (c1.1 : Int), .int .i64 (c1.2.1 : Int), .int .u32 (c1.2.2 : Int), .int .i64 (c2.1 : Int), .int .i64 (c2.2.1 : Int), .int .u32 (c2.2.2 : Int), .bool m] 66 (0, 0))
theorem RowB.first {W : World} {R : Nat} {c1 c2 : Nat × Nat × Nat} {m : Bool} (h : RowB W R c1 c2 m) (c : Nat × Nat × Nat) : RowB (((W.setCell ⟨R, 0, none⟩ (.int .i64 (c.1 : Int))).setCell ⟨R, 1, none⟩ (.int .i64 (c.2.1 : Int))).setCell ⟨R, 2, none⟩ (.int .u32 (c.2.2 : Int))) R c c2 m :=
  heap_setCell_same _ R 2 _ _ _ (heap_setCell_same _ R 1 _ _ _ (heap_setCell_same W R 0 _ _ _ h))
theorem RowB.second {W : World} {R : Nat} {c1 c2 : Nat × Nat × Nat} {m : Bool} (h : RowB W R c1 c2 m) (c : Nat × Nat × Nat) : RowB (((W.setCell ⟨R, 3, none⟩ (.int .i64 (c.1 : Int))).setCell ⟨R, 4, none⟩ (.int .i64 (c.2.1 : Int))).setCell ⟨R, 5, none⟩ (.int .u32 (c.2.2 : Int))) R c1 c m :=
  heap_setCell_same _ R 5 _ _ _ (heap_setCell_same _ R 4 _ _ _ (heap_setCell_same W R 3 _ _ _ h))
end Go.Proofs.YtaknladkodibaaaGreat
