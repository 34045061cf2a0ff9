/- Layer 21: a slot, what the one behind it has, and strange bytes, that came in. -/
import Derived.Test.YtpokicngpapkcaaSlW
import Derived.Test.YtpokicngpapkcaaLists
namespace Go.Proofs.Ytpokicngpapkcaa
open Go.RowKit

theorem pair_lies {w : World} {cs : Array Value} (h : Lies w (.cons (.cons (.int .i64) (.cons (.int .i64) (.cons (.int .i64) (.cons .bool .nil)))) (.cons (.int .i64) (.cons (.int .i64) (.cons (.slice (.int .u8)) .nil)))) cs.toList) :
    ∃ (q e d : Int) (c : Bool) (E D : Int) (X : Option Addr) (lx cx : Nat) (st : List UInt8), cs = #[.int .i64 q, .int .i64 e, .int .i64 d, .bool c, .int .i64 E, .int .i64 D, .slice X lx cx] ∧ st.length = lx ∧ lx ≤ cx ∧ Bytes w w.heap.size X st := by
  obtain ⟨a, r1, e1, _, _, ha, h1⟩ := h
  obtain ⟨q, e, d, c, hq⟩ := slot_lies (cs := a.toArray) (by rw [List.toList_toArray]; exact ha)
  obtain ⟨b, r2, rfl, _, _, ⟨E, rfl, _⟩, h2⟩ := h1
  obtain ⟨f, r3, rfl, _, _, ⟨D, rfl, _⟩, h3⟩ := h2
  obtain ⟨g, r4, rfl, _, _, hg, h4⟩ := h3
  have h4' : r4 = [] := h4
  subst h4'
  have hg' := hg
  obtain ⟨X, lx, cx, Y, rfl, _, hlc, _⟩ := hg
  obtain ⟨st, g1, _, g2⟩ := bytes_of_lies hg'
  refine ⟨q, e, d, c, E, D, X, lx, cx, st, ?_, g1, hlc, g2⟩
  apply Array.toList_inj.1
  have := congrArg Array.toList hq
  rw [List.toList_toArray] at this
  rw [e1, this]
  rfl
end Go.Proofs.Ytpokicngpapkcaa
