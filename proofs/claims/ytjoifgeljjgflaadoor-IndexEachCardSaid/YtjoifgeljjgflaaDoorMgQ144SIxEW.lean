/- Layer 24: members and a look that came in: IndexEach. -/
import Derived.Test.YtjoifgeljjgflaaDoorMgQ14437
namespace Go.Proofs.YtjoifgeljjgflaaDoor
open Go.RowKit

abbrev lookSh : Sh := .cons .str (.cons (.int .i64) (.cons opSh .nil))
theorem indexeach_in (A0 : Option Addr) (l c0 : Nat) (cs : Array Value) (w : World) (h : Lies w (.slice ixMemSh) [.slice A0 l c0]) (h2 : Lies w lookSh cs.toList) :
    Calls Tryd.prog 4 #[.slice A0 l c0, .agg cs] w fun e w' => e = .returned (.bool true) ∧ Below w.heap.size w w' := by
  obtain ⟨A, len, cap, ms, e1, _, _, h1, h3, h4⟩ := ixMems_in h
  obtain ⟨a, r1, hcs, _, _, ⟨fo, rfl, _⟩, g1⟩ := h2
  obtain ⟨b, r2, rfl, _, _, ⟨till, rfl, _⟩, g2⟩ := g1
  obtain ⟨c, r3, rfl, _, _, g3, g4⟩ := g2
  obtain ⟨o, rfl, hm⟩ := lop_lies g3
  have h3' : r3 = [] := g4
  subst h3'
  injection e1 with e1
  have e3 : cs = (Value.string fo :: .int .i64 till :: o.cells).toArray := by
    apply Array.toList_inj.1
    rw [hcs]
    simp
  rw [e1, e3]
  exact indexeach_any A len cap ms fo till o w h1 h3 hm h4
end Go.Proofs.YtjoifgeljjgflaaDoor
