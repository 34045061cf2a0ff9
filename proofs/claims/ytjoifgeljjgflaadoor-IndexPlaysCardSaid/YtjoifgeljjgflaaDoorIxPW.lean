/- Layer 24: calls that came in. -/
import Derived.Test.YtjoifgeljjgflaaDoorIxP
import Derived.Test.YtjoifgeljjgflaaDoorIxW
namespace Go.Proofs.YtjoifgeljjgflaaDoor
open Go.RowKit

abbrev opSh : Sh := .cons (.int .i64) (.cons ixMemSh (.cons .str .nil))
theorem lop_lies {w : World} {x : List Value} (h : Lies w opSh x) : ∃ o : LOp, x = o.cells ∧ o.m.Ok := by
  obtain ⟨a, r1, rfl, _, _, ⟨kd, rfl, _⟩, h1⟩ := h
  obtain ⟨b, r2, rfl, _, _, hb, h2⟩ := h1
  obtain ⟨m, rfl, hm⟩ := ixMem_lies hb
  obtain ⟨c, r3, rfl, _, _, ⟨s, rfl, _⟩, h3⟩ := h2
  have h3' : r3 = [] := h3
  subst h3'
  exact ⟨⟨kd, m, s⟩, rfl, hm⟩
theorem lops_in {w : World} {a : Option Addr} {len cap : Nat} (h : Lies w (.slice opSh) [.slice a len cap]) : ∃ os : List LOp, os.length = len ∧ len ≤ 9223372036854775807 ∧ (∀ o ∈ os, o.m.Ok) ∧ Cells w w.heap.size a (os.map LOp.cells).flatten := by
  obtain ⟨rs, h1, h2, h3, _, h4⟩ := rows_as LOp.cells (fun o => o.m.Ok) h (fun x _ hx => lop_lies hx)
  exact ⟨rs, h1, h2, h3, h4⟩
theorem indexplays_in (A0 : Option Addr) (l c0 : Nat) (C : Option Addr) (l2 c2 : Nat) (w : World) (h : Lies w (.slice ixMemSh) [.slice A0 l c0]) (h2 : Lies w (.slice opSh) [.slice C l2 c2]) :
    Calls Tryd.prog 3 #[.slice A0 l c0, .slice C l2 c2] w fun e w' => e = .returned (.bool true) ∧ Below w.heap.size w w' := by
  obtain ⟨A, len, cap, ms, e1, _, _, h1, h3, h4⟩ := ixMems_in h
  obtain ⟨os, g1, g2, g3, g4⟩ := lops_in h2
  injection e1 with e1
  rw [e1]
  exact indexplays_any A len cap ms C l2 c2 os w h1 g1 g2 h3 g3 h4 g4
end Go.Proofs.YtjoifgeljjgflaaDoor
